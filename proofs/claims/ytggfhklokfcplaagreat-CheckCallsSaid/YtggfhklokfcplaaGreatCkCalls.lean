/- CheckCalls: its walk; the rest of its code evaluated. -/
import Derived.Test.YtggfhklokfcplaaGreatCkSelect
namespace Go.Proofs.YtggfhklokfcplaaGreat
open Go.RowKit Ev
set_option maxRecDepth 100000 in
set_option maxHeartbeats 4000000 in
theorem checkCalls_walk (a0 a1 a2 : Int) (b3 : Bool) (w : World) :
    Calls Tryz.prog 5 #[.int .i64 a0, .int .i64 a1, .int .i64 a2, .bool b3] w fun e w' => e = .returned (.bool true) ∧ Below w.heap.size w w' := by
  go_enter Tryz.func5, Tryz.ntmps5
  go_wp2_with fail
  refine (begun8 w).mono ?_
  rintro e wb ⟨rfl, hb⟩
  rename_i Q1 K1 h1 K2 h2
  replace h1 := hid h1
  go_wp2_with fail
  refine h1.out _ _ ?_
  refine wp_seq_k fun K3 h3 => ?_
  replace h3 := hid h3
  go_wp2_with fail
  refine h3.out _ _ ?_
  clear h3 h1
  refine wp_seq_k fun K4 h4 => ?_
  replace h4 := hid h4
  go_wp2_with fail
  refine h4.out _ _ ?_
  clear h4
  rcases one_or_two a0 with h0 | h0 <;> rcases one_or_two a1 with h1 | h1 <;> rcases one_or_two a2 with h2 | h2 <;> cases b3 <;> rw [h0, h1, h2] <;> clear h0 h1 h2
  all_goals
    refine tail_end (n := 4000) 8 rfl [0, 1, 2, 3, 8] mixed takeOk ?_ rfl hb
    kernel_rfl
end Go.Proofs.YtggfhklokfcplaaGreat
