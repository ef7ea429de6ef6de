/- CheckSets: its walk; the rest of its code evaluated. -/
import Derived.Test.YtggfhklokfcplaaGreatCkSelect
import Derived.Test.YtggfhklokfcplaaGreatEvW
namespace Go.Proofs.YtggfhklokfcplaaGreat
open Go.RowKit Ev
theorem and_three (n : Int) : bits BinOp.and IntKind.i64 n 3 = 0 ∨ bits BinOp.and IntKind.i64 n 3 = 1 ∨ bits BinOp.and IntKind.i64 n 3 = 2 ∨ bits BinOp.and IntKind.i64 n 3 = 3 := by
  rw [show (3 : Int) = 2 ^ 2 - 1 from by decide, bits_and_mask .i64 2 (by decide) (fun n h0 h1 => IntWalk.i64_in n (by rw [show (2 : Int) ^ 2 = 4 from by decide] at h1; omega))]
  rw [show (2 : Int) ^ 2 = 4 from by decide]
  omega
set_option maxRecDepth 100000 in
set_option maxHeartbeats 4000000 in
theorem checkSets_walk (a0 a1 : Int) (w : World) :
    Calls Tryz.prog 7 #[.int .i64 a0, .int .i64 a1] w fun e w' => e = .returned (.bool true) ∧ Below w.heap.size w w' := by
  go_enter Tryz.func7, Tryz.ntmps7
  go_wp2_with fail
  refine (begun8 w).mono ?_
  rintro e wb ⟨rfl, hb⟩
  rename_i Q1 K1 h1 K2 h2
  replace h1 := hid h1
  go_wp2_with fail
  refine h1.out _ _ ?_
  refine wp_seq_k fun K3 h3 => ?_
  replace h3 := hid h3
  go_wp2_with fail
  refine h3.out _ _ ?_
  clear h3 h1
  refine wp_seq_k fun K4 h4 => ?_
  replace h4 := hid h4
  go_wp2_with fail
  refine h4.out _ _ ?_
  clear h4
  rcases one_or_two a0 with h0 | h0 <;> rw [h0] <;> clear h0
  all_goals
    refine wp_seq (at_step (evS_good mixed takeOk 4000) (at_start [0, 1, 4] rfl hb) (by kernel_rfl) fun a1' w1 hA1 => ?_)
    refine wp_seq (wp_seq (at_step (evS_good mixed takeOk 4000) hA1 (by kernel_rfl) fun a2' w2 hA2 => ?_))
    rcases and_three a1 with h | h | h | h
    · exact at_ret (evD_good mixed takeOk 4000) 4 rfl (at_swap hA2 17 _ _ rfl (congrArg (Value.int .i64) h)) (by kernel_rfl)
    · exact at_ret (evD_good mixed takeOk 4000) 4 rfl (at_swap hA2 17 _ _ rfl (congrArg (Value.int .i64) h)) (by kernel_rfl)
    · exact at_ret (evD_good mixed takeOk 4000) 4 rfl (at_swap hA2 17 _ _ rfl (congrArg (Value.int .i64) h)) (by kernel_rfl)
    · refine at_step (evD_good mixed takeOk 4000) (at_swap hA2 17 _ _ rfl (congrArg (Value.int .i64) h)) (by kernel_rfl) fun a3' w3 hA3 => ?_
      exact at_end (evD_good mixed takeOk 4000) 4 rfl hA3 (by kernel_rfl)
end Go.Proofs.YtggfhklokfcplaaGreat
