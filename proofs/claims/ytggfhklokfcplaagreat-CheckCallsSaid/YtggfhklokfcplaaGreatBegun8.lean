/- begun of law 8, told by the evaluator. -/
import Derived.Test.YtggfhklokfcplaaGreatTake
namespace Go.Proofs.YtggfhklokfcplaaGreat
open Go.RowKit Ev
theorem mixed : Tryz.prog.follows .mixedOrders = true := by kernel_rfl
theorem takeOk : PrimOk Tryz.prog takePrim := takePrim_ok mixed
theorem begun8_ev : isT (bodyA Tryz.prog (evD Tryz.prog takePrim 4000) 9 [] m0) = true := by kernel_rfl
theorem begun8 (w : World) : Calls Tryz.prog 9 #[] w fun e w' => e = .returned (.bool true) ∧ Below w.heap.size w w' := closed_call mixed takeOk begun8_ev w
end Go.Proofs.YtggfhklokfcplaaGreat
