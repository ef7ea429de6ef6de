/- CheckAlign: its walk; the rest of its code evaluated. -/
import Derived.Test.YtggfhklokfcplaaGreatCkIf
import Derived.Test.YtggfhklokfcplaaGreatEvW
namespace Go.Proofs.YtggfhklokfcplaaGreat
open Go.RowKit Ev
theorem remr7 (x : Int) : (IntKind.i64.wrap (x.tmod 7 + 7)).tmod 7 = 0 ∨ (IntKind.i64.wrap (x.tmod 7 + 7)).tmod 7 = 1 ∨ (IntKind.i64.wrap (x.tmod 7 + 7)).tmod 7 = 2 ∨ (IntKind.i64.wrap (x.tmod 7 + 7)).tmod 7 = 3 ∨ (IntKind.i64.wrap (x.tmod 7 + 7)).tmod 7 = 4 ∨ (IntKind.i64.wrap (x.tmod 7 + 7)).tmod 7 = 5 ∨ (IntKind.i64.wrap (x.tmod 7 + 7)).tmod 7 = 6 := by
  have h1 := Int.tmod_lt_of_pos x (show (0 : Int) < 7 by decide)
  have h2 : -7 < x.tmod 7 := by
    have h := Int.tmod_lt_of_pos (-x) (show (0 : Int) < 7 by decide)
    rw [Int.neg_tmod] at h
    omega
  rw [IntWalk.i64_in _ (by omega), Int.tmod_eq_emod_of_nonneg (by omega)]
  omega
set_option maxRecDepth 100000 in
set_option maxHeartbeats 4000000 in
theorem checkAlign_low (a0 a1 : Int) (b2 : Bool) (h : a1 < 0) (w : World) :
    Calls Tryz.prog 6 #[.int .i64 a0, .int .i64 a1, .bool b2] w fun e w' => e = .returned (.bool true) ∧ Below w.heap.size w w' := by
  go_enter Tryz.func6, Tryz.ntmps6
  go_wp2_with fail
  refine (begun8 w).mono ?_
  rintro e wb ⟨rfl, hb⟩
  rename_i Q1 K1 h1 K2 h2
  replace h1 := hid h1
  go_wp2_with fail
  refine h1.out _ _ ?_
  refine wp_seq_k fun K3 h3 => ?_
  replace h3 := hid h3
  go_wp2_with fail
  refine h3.out _ _ ?_
  clear h3 h1
  go_wp2_with fail
  all_goals
    go_ret
    exact ⟨rfl, hb⟩
set_option maxRecDepth 100000 in
set_option maxHeartbeats 4000000 in
theorem checkAlign_high (a0 a1 : Int) (b2 : Bool) (h : 3 < a1) (w : World) :
    Calls Tryz.prog 6 #[.int .i64 a0, .int .i64 a1, .bool b2] w fun e w' => e = .returned (.bool true) ∧ Below w.heap.size w w' := by
  go_enter Tryz.func6, Tryz.ntmps6
  go_wp2_with fail
  refine (begun8 w).mono ?_
  rintro e wb ⟨rfl, hb⟩
  rename_i Q1 K1 h1 K2 h2
  replace h1 := hid h1
  go_wp2_with fail
  refine h1.out _ _ ?_
  refine wp_seq_k fun K3 h3 => ?_
  replace h3 := hid h3
  go_wp2_with fail
  refine h3.out _ _ ?_
  clear h3 h1
  go_wp2_with fail
  all_goals
    go_ret
    exact ⟨rfl, hb⟩
set_option maxRecDepth 100000 in
set_option maxHeartbeats 4000000 in
theorem checkAlign_0true (a0 : Int) (w : World) :
    Calls Tryz.prog 6 #[.int .i64 a0, .int .i64 0, .bool true] w fun e w' => e = .returned (.bool true) ∧ Below w.heap.size w w' := by
  go_enter Tryz.func6, Tryz.ntmps6
  go_wp2_with fail
  refine (begun8 w).mono ?_
  rintro e wb ⟨rfl, hb⟩
  rename_i Q1 K1 h1 K2 h2
  replace h1 := hid h1
  go_wp2_with fail
  refine h1.out _ _ ?_
  refine wp_seq_k fun K3 h3 => ?_
  replace h3 := hid h3
  go_wp2_with fail
  refine h3.out _ _ ?_
  clear h3 h1
  refine wp_seq (at_step (evS_good mixed takeOk 4000) (at_start [0, 1, 2, 6] rfl hb) (by kernel_rfl) fun a1' w1 hA1 => ?_)
  refine wp_seq (at_step (evS_good mixed takeOk 4000) hA1 (by kernel_rfl) fun a2' w2 hA2 => ?_)
  refine wp_seq (at_step (evS_good mixed takeOk 4000) hA2 (by kernel_rfl) fun a3' w3 hA3 => ?_)
  refine wp_seq (at_step (evS_good mixed takeOk 4000) hA3 (by kernel_rfl) fun a4' w4 hA4 => ?_)
  refine wp_seq (at_step (evS_good mixed takeOk 4000) hA4 (by kernel_rfl) fun a5' w5 hA5 => ?_)
  rcases remr7 a0 with h | h | h | h | h | h | h
  all_goals exact at_end (evD_good mixed takeOk 4000) 6 rfl (at_swap hA5 11 (.int .i64 ((IntKind.i64.wrap (a0.tmod 7 + 7)).tmod 7)) _ (by kernel_rfl) (congrArg (Value.int .i64) h)) (by kernel_rfl)
set_option maxRecDepth 100000 in
set_option maxHeartbeats 4000000 in
theorem checkAlign_0false (a0 : Int) (w : World) :
    Calls Tryz.prog 6 #[.int .i64 a0, .int .i64 0, .bool false] w fun e w' => e = .returned (.bool true) ∧ Below w.heap.size w w' := by
  go_enter Tryz.func6, Tryz.ntmps6
  go_wp2_with fail
  refine (begun8 w).mono ?_
  rintro e wb ⟨rfl, hb⟩
  rename_i Q1 K1 h1 K2 h2
  replace h1 := hid h1
  go_wp2_with fail
  refine h1.out _ _ ?_
  refine wp_seq_k fun K3 h3 => ?_
  replace h3 := hid h3
  go_wp2_with fail
  refine h3.out _ _ ?_
  clear h3 h1
  refine wp_seq (at_step (evS_good mixed takeOk 4000) (at_start [0, 1, 2, 6] rfl hb) (by kernel_rfl) fun a1' w1 hA1 => ?_)
  refine wp_seq (at_step (evS_good mixed takeOk 4000) hA1 (by kernel_rfl) fun a2' w2 hA2 => ?_)
  refine wp_seq (at_step (evS_good mixed takeOk 4000) hA2 (by kernel_rfl) fun a3' w3 hA3 => ?_)
  refine wp_seq (at_step (evS_good mixed takeOk 4000) hA3 (by kernel_rfl) fun a4' w4 hA4 => ?_)
  refine wp_seq (at_step (evS_good mixed takeOk 4000) hA4 (by kernel_rfl) fun a5' w5 hA5 => ?_)
  rcases remr7 a0 with h | h | h | h | h | h | h
  all_goals exact at_end (evD_good mixed takeOk 4000) 6 rfl (at_swap hA5 11 (.int .i64 ((IntKind.i64.wrap (a0.tmod 7 + 7)).tmod 7)) _ (by kernel_rfl) (congrArg (Value.int .i64) h)) (by kernel_rfl)
set_option maxRecDepth 100000 in
set_option maxHeartbeats 4000000 in
theorem checkAlign_1true (a0 : Int) (w : World) :
    Calls Tryz.prog 6 #[.int .i64 a0, .int .i64 1, .bool true] w fun e w' => e = .returned (.bool true) ∧ Below w.heap.size w w' := by
  go_enter Tryz.func6, Tryz.ntmps6
  go_wp2_with fail
  refine (begun8 w).mono ?_
  rintro e wb ⟨rfl, hb⟩
  rename_i Q1 K1 h1 K2 h2
  replace h1 := hid h1
  go_wp2_with fail
  refine h1.out _ _ ?_
  refine wp_seq_k fun K3 h3 => ?_
  replace h3 := hid h3
  go_wp2_with fail
  refine h3.out _ _ ?_
  clear h3 h1
  refine wp_seq (at_step (evS_good mixed takeOk 4000) (at_start [0, 1, 2, 6] rfl hb) (by kernel_rfl) fun a1' w1 hA1 => ?_)
  refine wp_seq (at_step (evS_good mixed takeOk 4000) hA1 (by kernel_rfl) fun a2' w2 hA2 => ?_)
  refine wp_seq (at_step (evS_good mixed takeOk 4000) hA2 (by kernel_rfl) fun a3' w3 hA3 => ?_)
  refine wp_seq (at_step (evS_good mixed takeOk 4000) hA3 (by kernel_rfl) fun a4' w4 hA4 => ?_)
  refine wp_seq (at_step (evS_good mixed takeOk 4000) hA4 (by kernel_rfl) fun a5' w5 hA5 => ?_)
  rcases remr7 a0 with h | h | h | h | h | h | h
  all_goals exact at_end (evD_good mixed takeOk 4000) 6 rfl (at_swap hA5 11 (.int .i64 ((IntKind.i64.wrap (a0.tmod 7 + 7)).tmod 7)) _ (by kernel_rfl) (congrArg (Value.int .i64) h)) (by kernel_rfl)
set_option maxRecDepth 100000 in
set_option maxHeartbeats 4000000 in
theorem checkAlign_1false (a0 : Int) (w : World) :
    Calls Tryz.prog 6 #[.int .i64 a0, .int .i64 1, .bool false] w fun e w' => e = .returned (.bool true) ∧ Below w.heap.size w w' := by
  go_enter Tryz.func6, Tryz.ntmps6
  go_wp2_with fail
  refine (begun8 w).mono ?_
  rintro e wb ⟨rfl, hb⟩
  rename_i Q1 K1 h1 K2 h2
  replace h1 := hid h1
  go_wp2_with fail
  refine h1.out _ _ ?_
  refine wp_seq_k fun K3 h3 => ?_
  replace h3 := hid h3
  go_wp2_with fail
  refine h3.out _ _ ?_
  clear h3 h1
  refine wp_seq (at_step (evS_good mixed takeOk 4000) (at_start [0, 1, 2, 6] rfl hb) (by kernel_rfl) fun a1' w1 hA1 => ?_)
  refine wp_seq (at_step (evS_good mixed takeOk 4000) hA1 (by kernel_rfl) fun a2' w2 hA2 => ?_)
  refine wp_seq (at_step (evS_good mixed takeOk 4000) hA2 (by kernel_rfl) fun a3' w3 hA3 => ?_)
  refine wp_seq (at_step (evS_good mixed takeOk 4000) hA3 (by kernel_rfl) fun a4' w4 hA4 => ?_)
  refine wp_seq (at_step (evS_good mixed takeOk 4000) hA4 (by kernel_rfl) fun a5' w5 hA5 => ?_)
  rcases remr7 a0 with h | h | h | h | h | h | h
  all_goals exact at_end (evD_good mixed takeOk 4000) 6 rfl (at_swap hA5 11 (.int .i64 ((IntKind.i64.wrap (a0.tmod 7 + 7)).tmod 7)) _ (by kernel_rfl) (congrArg (Value.int .i64) h)) (by kernel_rfl)
set_option maxRecDepth 100000 in
set_option maxHeartbeats 4000000 in
theorem checkAlign_2true (a0 : Int) (w : World) :
    Calls Tryz.prog 6 #[.int .i64 a0, .int .i64 2, .bool true] w fun e w' => e = .returned (.bool true) ∧ Below w.heap.size w w' := by
  go_enter Tryz.func6, Tryz.ntmps6
  go_wp2_with fail
  refine (begun8 w).mono ?_
  rintro e wb ⟨rfl, hb⟩
  rename_i Q1 K1 h1 K2 h2
  replace h1 := hid h1
  go_wp2_with fail
  refine h1.out _ _ ?_
  refine wp_seq_k fun K3 h3 => ?_
  replace h3 := hid h3
  go_wp2_with fail
  refine h3.out _ _ ?_
  clear h3 h1
  refine wp_seq (at_step (evS_good mixed takeOk 4000) (at_start [0, 1, 2, 6] rfl hb) (by kernel_rfl) fun a1' w1 hA1 => ?_)
  refine wp_seq (at_step (evS_good mixed takeOk 4000) hA1 (by kernel_rfl) fun a2' w2 hA2 => ?_)
  refine wp_seq (at_step (evS_good mixed takeOk 4000) hA2 (by kernel_rfl) fun a3' w3 hA3 => ?_)
  refine wp_seq (at_step (evS_good mixed takeOk 4000) hA3 (by kernel_rfl) fun a4' w4 hA4 => ?_)
  refine wp_seq (at_step (evS_good mixed takeOk 4000) hA4 (by kernel_rfl) fun a5' w5 hA5 => ?_)
  rcases remr7 a0 with h | h | h | h | h | h | h
  all_goals exact at_end (evD_good mixed takeOk 4000) 6 rfl (at_swap hA5 11 (.int .i64 ((IntKind.i64.wrap (a0.tmod 7 + 7)).tmod 7)) _ (by kernel_rfl) (congrArg (Value.int .i64) h)) (by kernel_rfl)
set_option maxRecDepth 100000 in
set_option maxHeartbeats 4000000 in
theorem checkAlign_2false (a0 : Int) (w : World) :
    Calls Tryz.prog 6 #[.int .i64 a0, .int .i64 2, .bool false] w fun e w' => e = .returned (.bool true) ∧ Below w.heap.size w w' := by
  go_enter Tryz.func6, Tryz.ntmps6
  go_wp2_with fail
  refine (begun8 w).mono ?_
  rintro e wb ⟨rfl, hb⟩
  rename_i Q1 K1 h1 K2 h2
  replace h1 := hid h1
  go_wp2_with fail
  refine h1.out _ _ ?_
  refine wp_seq_k fun K3 h3 => ?_
  replace h3 := hid h3
  go_wp2_with fail
  refine h3.out _ _ ?_
  clear h3 h1
  refine wp_seq (at_step (evS_good mixed takeOk 4000) (at_start [0, 1, 2, 6] rfl hb) (by kernel_rfl) fun a1' w1 hA1 => ?_)
  refine wp_seq (at_step (evS_good mixed takeOk 4000) hA1 (by kernel_rfl) fun a2' w2 hA2 => ?_)
  refine wp_seq (at_step (evS_good mixed takeOk 4000) hA2 (by kernel_rfl) fun a3' w3 hA3 => ?_)
  refine wp_seq (at_step (evS_good mixed takeOk 4000) hA3 (by kernel_rfl) fun a4' w4 hA4 => ?_)
  refine wp_seq (at_step (evS_good mixed takeOk 4000) hA4 (by kernel_rfl) fun a5' w5 hA5 => ?_)
  rcases remr7 a0 with h | h | h | h | h | h | h
  all_goals exact at_end (evD_good mixed takeOk 4000) 6 rfl (at_swap hA5 11 (.int .i64 ((IntKind.i64.wrap (a0.tmod 7 + 7)).tmod 7)) _ (by kernel_rfl) (congrArg (Value.int .i64) h)) (by kernel_rfl)
set_option maxRecDepth 100000 in
set_option maxHeartbeats 4000000 in
theorem checkAlign_3true (a0 : Int) (w : World) :
    Calls Tryz.prog 6 #[.int .i64 a0, .int .i64 3, .bool true] w fun e w' => e = .returned (.bool true) ∧ Below w.heap.size w w' := by
  go_enter Tryz.func6, Tryz.ntmps6
  go_wp2_with fail
  refine (begun8 w).mono ?_
  rintro e wb ⟨rfl, hb⟩
  rename_i Q1 K1 h1 K2 h2
  replace h1 := hid h1
  go_wp2_with fail
  refine h1.out _ _ ?_
  refine wp_seq_k fun K3 h3 => ?_
  replace h3 := hid h3
  go_wp2_with fail
  refine h3.out _ _ ?_
  clear h3 h1
  refine wp_seq (at_step (evS_good mixed takeOk 4000) (at_start [0, 1, 2, 6] rfl hb) (by kernel_rfl) fun a1' w1 hA1 => ?_)
  refine wp_seq (at_step (evS_good mixed takeOk 4000) hA1 (by kernel_rfl) fun a2' w2 hA2 => ?_)
  refine wp_seq (at_step (evS_good mixed takeOk 4000) hA2 (by kernel_rfl) fun a3' w3 hA3 => ?_)
  refine wp_seq (at_step (evS_good mixed takeOk 4000) hA3 (by kernel_rfl) fun a4' w4 hA4 => ?_)
  refine wp_seq (at_step (evS_good mixed takeOk 4000) hA4 (by kernel_rfl) fun a5' w5 hA5 => ?_)
  rcases remr7 a0 with h | h | h | h | h | h | h
  all_goals exact at_end (evD_good mixed takeOk 4000) 6 rfl (at_swap hA5 11 (.int .i64 ((IntKind.i64.wrap (a0.tmod 7 + 7)).tmod 7)) _ (by kernel_rfl) (congrArg (Value.int .i64) h)) (by kernel_rfl)
set_option maxRecDepth 100000 in
set_option maxHeartbeats 4000000 in
theorem checkAlign_3false (a0 : Int) (w : World) :
    Calls Tryz.prog 6 #[.int .i64 a0, .int .i64 3, .bool false] w fun e w' => e = .returned (.bool true) ∧ Below w.heap.size w w' := by
  go_enter Tryz.func6, Tryz.ntmps6
  go_wp2_with fail
  refine (begun8 w).mono ?_
  rintro e wb ⟨rfl, hb⟩
  rename_i Q1 K1 h1 K2 h2
  replace h1 := hid h1
  go_wp2_with fail
  refine h1.out _ _ ?_
  refine wp_seq_k fun K3 h3 => ?_
  replace h3 := hid h3
  go_wp2_with fail
  refine h3.out _ _ ?_
  clear h3 h1
  refine wp_seq (at_step (evS_good mixed takeOk 4000) (at_start [0, 1, 2, 6] rfl hb) (by kernel_rfl) fun a1' w1 hA1 => ?_)
  refine wp_seq (at_step (evS_good mixed takeOk 4000) hA1 (by kernel_rfl) fun a2' w2 hA2 => ?_)
  refine wp_seq (at_step (evS_good mixed takeOk 4000) hA2 (by kernel_rfl) fun a3' w3 hA3 => ?_)
  refine wp_seq (at_step (evS_good mixed takeOk 4000) hA3 (by kernel_rfl) fun a4' w4 hA4 => ?_)
  refine wp_seq (at_step (evS_good mixed takeOk 4000) hA4 (by kernel_rfl) fun a5' w5 hA5 => ?_)
  rcases remr7 a0 with h | h | h | h | h | h | h
  all_goals exact at_end (evD_good mixed takeOk 4000) 6 rfl (at_swap hA5 11 (.int .i64 ((IntKind.i64.wrap (a0.tmod 7 + 7)).tmod 7)) _ (by kernel_rfl) (congrArg (Value.int .i64) h)) (by kernel_rfl)
set_option maxRecDepth 100000 in
set_option maxHeartbeats 4000000 in
theorem checkAlign_walk (a0 a1 : Int) (b2 : Bool) (w : World) :
    Calls Tryz.prog 6 #[.int .i64 a0, .int .i64 a1, .bool b2] w fun e w' => e = .returned (.bool true) ∧ Below w.heap.size w w' := by
  by_cases h : a1 < 0
  · exact checkAlign_low a0 a1 b2 h w
  by_cases h' : 3 < a1
  · exact checkAlign_high a0 a1 b2 h' w
  obtain rfl | rfl | rfl | rfl : a1 = 0 ∨ a1 = 1 ∨ a1 = 2 ∨ a1 = 3 := by omega
  · cases b2
    · exact checkAlign_0false a0 w
    · exact checkAlign_0true a0 w
  · cases b2
    · exact checkAlign_1false a0 w
    · exact checkAlign_1true a0 w
  · cases b2
    · exact checkAlign_2false a0 w
    · exact checkAlign_2true a0 w
  · cases b2
    · exact checkAlign_3false a0 w
    · exact checkAlign_3true a0 w
end Go.Proofs.YtggfhklokfcplaaGreat
