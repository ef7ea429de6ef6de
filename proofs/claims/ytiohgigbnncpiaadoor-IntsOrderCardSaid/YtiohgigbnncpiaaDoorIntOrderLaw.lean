/- Of any two just one of below, like, above, signed and not; the contraries. -/
import Derived.Test.YtiohgigbnncpiaaDoorIntOrd1
import Derived.Test.YtiohgigbnncpiaaDoorIntOrd2
namespace Go.Proofs.YtiohgigbnncpiaaDoor
open Go.RowKit

theorem intsOrder_walk (a b : Int) (t : Bool) (ha : In64 a) (hb : In64 b) (w : World) (hL : Laid w) :
    Calls Tryd.prog 7 #[.int .i64 a, .int .i64 b, .bool t] w fun e w' => e = .returned (.bool true) ∧ Below w.heap.size w w' := by
  cases t
  · exact intsOrder_walk1 a b ha hb w hL
  · exact intsOrder_walk2 a b ha hb w hL
end Go.Proofs.YtiohgigbnncpiaaDoor
