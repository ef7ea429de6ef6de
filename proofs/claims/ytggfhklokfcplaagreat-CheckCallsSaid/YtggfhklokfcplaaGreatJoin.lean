/- What a row's frame asks of the whole program: each closed fact by itself, or the kernel's memory does not do. -/
import Derived.Test.YtggfhklokfcplaaGreatRows
import Derived.WalkKit
import Derived.ProofKit
import Derived.JoinedOf
namespace Go.Proofs.YtggfhklokfcplaaGreat

theorem jn_laid : laidOutB Tryz.prog = true := by kernel_rfl
theorem jn_maps : mapsRowed Tryz.prog = true := by kernel_rfl
theorem jn_heard : Tryz.prog.stopsHeard = true := by kernel_rfl
theorem jn_enter : Tryz.prog.mayEnter = true := by kernel_rfl
theorem jn_lifts : Tryz.prog.liftsFinal = false := by kernel_rfl
theorem jn_make : Tryz.prog.make = some .cut := by kernel_rfl
theorem jn_plain : Tryz.prog.plainKeys = true := by kernel_rfl
end Go.Proofs.YtggfhklokfcplaaGreat
