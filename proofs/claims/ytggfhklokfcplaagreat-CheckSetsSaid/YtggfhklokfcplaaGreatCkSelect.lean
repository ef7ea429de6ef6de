/- CheckSelect. -/
import Derived.Test.YtggfhklokfcplaaGreatBegun8
import Derived.Test.YtggfhklokfcplaaGreatEvV
import Derived.Test.YtggfhklokfcplaaGreatBase
import Derived.TacticsIn
namespace Go.Proofs.YtggfhklokfcplaaGreat
open Go.RowKit Ev
theorem and_one (n : Int) : bits BinOp.and IntKind.i64 n 1 = 0 ∨ bits BinOp.and IntKind.i64 n 1 = 1 := by
  rw [show (1 : Int) = 2 ^ 1 - 1 from by decide, bits_and_mask .i64 1 (by decide) (fun n h0 h1 => IntWalk.i64_in n (by rw [show (2 : Int) ^ 1 = 2 from by decide] at h1; omega))]
  rw [show (2 : Int) ^ 1 = 2 from by decide]
  omega
theorem one_or_two (x : Int) : wrap64 (1 + bits BinOp.and IntKind.i64 x 1) = 1 ∨ wrap64 (1 + bits BinOp.and IntKind.i64 x 1) = 2 := by
  rcases and_one x with h | h
  · rw [h]; exact .inl (by kernel_rfl)
  · rw [h]; exact .inr (by kernel_rfl)
set_option maxRecDepth 100000 in
set_option maxHeartbeats 2000000 in
theorem checkSelect_walk (a0 a1 a2 a3 : Int) (w : World) :
    Calls Tryz.prog 3 #[.int .i64 a0, .int .i64 a1, .int .i64 a2, .int .i64 a3] w fun e w' => e = .returned (.bool true) ∧ Below w.heap.size w w' := by
  go_enter Tryz.func3, Tryz.ntmps3
  go_wp2_with fail
  refine (begun8 w).mono ?_
  rintro e wb ⟨rfl, hb⟩
  rename_i Q1 K1 h1 K2 h2
  replace h1 := hid h1
  go_wp2_with fail
  refine h1.out _ _ ?_
  refine wp_seq_k fun K3 h3 => ?_
  replace h3 := hid h3
  go_wp2_with fail
  refine h3.out _ _ ?_
  clear h3 h1
  refine wp_seq_k fun K4 h4 => ?_
  replace h4 := hid h4
  go_wp2_with fail
  refine h4.out _ _ ?_
  clear h4
  rcases one_or_two a0 with h0 | h0 <;> rcases one_or_two a1 with h1 | h1 <;> rcases one_or_two a2 with h2 | h2 <;> rcases one_or_two a3 with h3 | h3 <;> rw [h0, h1, h2, h3] <;> clear h0 h1 h2 h3
  all_goals
    refine tail_end (n := 4000) 8 rfl [0, 1, 2, 3, 8] mixed takeOk ?_ rfl hb
    kernel_rfl
end Go.Proofs.YtggfhklokfcplaaGreat
