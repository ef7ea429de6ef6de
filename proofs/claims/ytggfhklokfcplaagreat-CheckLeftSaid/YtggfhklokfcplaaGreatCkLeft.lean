/- CheckLeft: its walk; the rest of its code evaluated. -/
import Derived.Test.YtggfhklokfcplaaGreatCkIf
import Derived.Test.YtggfhklokfcplaaGreatEvW
namespace Go.Proofs.YtggfhklokfcplaaGreat
open Go.RowKit Ev
theorem remr3 (x : Int) : (IntKind.i64.wrap (x.tmod 3 + 3)).tmod 3 = 0 ∨ (IntKind.i64.wrap (x.tmod 3 + 3)).tmod 3 = 1 ∨ (IntKind.i64.wrap (x.tmod 3 + 3)).tmod 3 = 2 := by
  have h1 := Int.tmod_lt_of_pos x (show (0 : Int) < 3 by decide)
  have h2 : -3 < x.tmod 3 := by
    have h := Int.tmod_lt_of_pos (-x) (show (0 : Int) < 3 by decide)
    rw [Int.neg_tmod] at h
    omega
  rw [IntWalk.i64_in _ (by omega), Int.tmod_eq_emod_of_nonneg (by omega)]
  omega
set_option maxRecDepth 100000 in
set_option maxHeartbeats 4000000 in
theorem checkLeft_low (a0 a1 : Int) (b2 : Bool) (h : a0 < 0) (w : World) :
    Calls Tryz.prog 8 #[.int .i64 a0, .int .i64 a1, .bool b2] w fun e w' => e = .returned (.bool true) ∧ Below w.heap.size w w' := by
  go_enter Tryz.func8, Tryz.ntmps8
  go_wp2_with fail
  refine (begun8 w).mono ?_
  rintro e wb ⟨rfl, hb⟩
  rename_i Q1 K1 h1 K2 h2
  replace h1 := hid h1
  go_wp2_with fail
  refine h1.out _ _ ?_
  refine wp_seq_k fun K3 h3 => ?_
  replace h3 := hid h3
  go_wp2_with fail
  refine h3.out _ _ ?_
  clear h3 h1
  go_wp2_with fail
  all_goals
    go_ret
    exact ⟨rfl, hb⟩
set_option maxRecDepth 100000 in
set_option maxHeartbeats 4000000 in
theorem checkLeft_high (a0 a1 : Int) (b2 : Bool) (h : 5 < a0) (w : World) :
    Calls Tryz.prog 8 #[.int .i64 a0, .int .i64 a1, .bool b2] w fun e w' => e = .returned (.bool true) ∧ Below w.heap.size w w' := by
  go_enter Tryz.func8, Tryz.ntmps8
  go_wp2_with fail
  refine (begun8 w).mono ?_
  rintro e wb ⟨rfl, hb⟩
  rename_i Q1 K1 h1 K2 h2
  replace h1 := hid h1
  go_wp2_with fail
  refine h1.out _ _ ?_
  refine wp_seq_k fun K3 h3 => ?_
  replace h3 := hid h3
  go_wp2_with fail
  refine h3.out _ _ ?_
  clear h3 h1
  go_wp2_with fail
  all_goals
    go_ret
    exact ⟨rfl, hb⟩
set_option maxRecDepth 100000 in
set_option maxHeartbeats 4000000 in
theorem checkLeft_0 (a1 : Int) (b2 : Bool) (w : World) :
    Calls Tryz.prog 8 #[.int .i64 0, .int .i64 a1, .bool b2] w fun e w' => e = .returned (.bool true) ∧ Below w.heap.size w w' := by
  go_enter Tryz.func8, Tryz.ntmps8
  go_wp2_with fail
  refine (begun8 w).mono ?_
  rintro e wb ⟨rfl, hb⟩
  rename_i Q1 K1 h1 K2 h2
  replace h1 := hid h1
  go_wp2_with fail
  refine h1.out _ _ ?_
  refine wp_seq_k fun K3 h3 => ?_
  replace h3 := hid h3
  go_wp2_with fail
  refine h3.out _ _ ?_
  clear h3 h1
  cases b2
  all_goals
    refine wp_seq (at_step (evS_good mixed takeOk 4000) (at_start [0, 1, 2, 6] rfl hb) (by kernel_rfl) fun a1' w1 hA1 => ?_)
    refine wp_seq (at_step (evS_good mixed takeOk 4000) hA1 (by kernel_rfl) fun a2' w2 hA2 => ?_)
    rcases remr3 a1 with h | h | h
    all_goals exact at_end (evD_good mixed takeOk 4000) 6 rfl (at_swap hA2 1 (.int .i64 ((IntKind.i64.wrap (a1.tmod 3 + 3)).tmod 3)) _ (by kernel_rfl) (congrArg (Value.int .i64) h)) (by kernel_rfl)
set_option maxRecDepth 100000 in
set_option maxHeartbeats 4000000 in
theorem checkLeft_1 (a1 : Int) (b2 : Bool) (w : World) :
    Calls Tryz.prog 8 #[.int .i64 1, .int .i64 a1, .bool b2] w fun e w' => e = .returned (.bool true) ∧ Below w.heap.size w w' := by
  go_enter Tryz.func8, Tryz.ntmps8
  go_wp2_with fail
  refine (begun8 w).mono ?_
  rintro e wb ⟨rfl, hb⟩
  rename_i Q1 K1 h1 K2 h2
  replace h1 := hid h1
  go_wp2_with fail
  refine h1.out _ _ ?_
  refine wp_seq_k fun K3 h3 => ?_
  replace h3 := hid h3
  go_wp2_with fail
  refine h3.out _ _ ?_
  clear h3 h1
  cases b2
  all_goals
    refine wp_seq (at_step (evS_good mixed takeOk 4000) (at_start [0, 1, 2, 6] rfl hb) (by kernel_rfl) fun a1' w1 hA1 => ?_)
    refine wp_seq (at_step (evS_good mixed takeOk 4000) hA1 (by kernel_rfl) fun a2' w2 hA2 => ?_)
    rcases remr3 a1 with h | h | h
    all_goals exact at_end (evD_good mixed takeOk 4000) 6 rfl (at_swap hA2 1 (.int .i64 ((IntKind.i64.wrap (a1.tmod 3 + 3)).tmod 3)) _ (by kernel_rfl) (congrArg (Value.int .i64) h)) (by kernel_rfl)
set_option maxRecDepth 100000 in
set_option maxHeartbeats 4000000 in
theorem checkLeft_2 (a1 : Int) (b2 : Bool) (w : World) :
    Calls Tryz.prog 8 #[.int .i64 2, .int .i64 a1, .bool b2] w fun e w' => e = .returned (.bool true) ∧ Below w.heap.size w w' := by
  go_enter Tryz.func8, Tryz.ntmps8
  go_wp2_with fail
  refine (begun8 w).mono ?_
  rintro e wb ⟨rfl, hb⟩
  rename_i Q1 K1 h1 K2 h2
  replace h1 := hid h1
  go_wp2_with fail
  refine h1.out _ _ ?_
  refine wp_seq_k fun K3 h3 => ?_
  replace h3 := hid h3
  go_wp2_with fail
  refine h3.out _ _ ?_
  clear h3 h1
  cases b2
  all_goals
    refine wp_seq (at_step (evS_good mixed takeOk 4000) (at_start [0, 1, 2, 6] rfl hb) (by kernel_rfl) fun a1' w1 hA1 => ?_)
    refine wp_seq (at_step (evS_good mixed takeOk 4000) hA1 (by kernel_rfl) fun a2' w2 hA2 => ?_)
    rcases remr3 a1 with h | h | h
    all_goals exact at_end (evD_good mixed takeOk 4000) 6 rfl (at_swap hA2 1 (.int .i64 ((IntKind.i64.wrap (a1.tmod 3 + 3)).tmod 3)) _ (by kernel_rfl) (congrArg (Value.int .i64) h)) (by kernel_rfl)
set_option maxRecDepth 100000 in
set_option maxHeartbeats 4000000 in
theorem checkLeft_3 (a1 : Int) (b2 : Bool) (w : World) :
    Calls Tryz.prog 8 #[.int .i64 3, .int .i64 a1, .bool b2] w fun e w' => e = .returned (.bool true) ∧ Below w.heap.size w w' := by
  go_enter Tryz.func8, Tryz.ntmps8
  go_wp2_with fail
  refine (begun8 w).mono ?_
  rintro e wb ⟨rfl, hb⟩
  rename_i Q1 K1 h1 K2 h2
  replace h1 := hid h1
  go_wp2_with fail
  refine h1.out _ _ ?_
  refine wp_seq_k fun K3 h3 => ?_
  replace h3 := hid h3
  go_wp2_with fail
  refine h3.out _ _ ?_
  clear h3 h1
  cases b2
  all_goals
    refine wp_seq (at_step (evS_good mixed takeOk 4000) (at_start [0, 1, 2, 6] rfl hb) (by kernel_rfl) fun a1' w1 hA1 => ?_)
    refine wp_seq (at_step (evS_good mixed takeOk 4000) hA1 (by kernel_rfl) fun a2' w2 hA2 => ?_)
    rcases remr3 a1 with h | h | h
    all_goals exact at_end (evD_good mixed takeOk 4000) 6 rfl (at_swap hA2 1 (.int .i64 ((IntKind.i64.wrap (a1.tmod 3 + 3)).tmod 3)) _ (by kernel_rfl) (congrArg (Value.int .i64) h)) (by kernel_rfl)
set_option maxRecDepth 100000 in
set_option maxHeartbeats 4000000 in
theorem checkLeft_4 (a1 : Int) (b2 : Bool) (w : World) :
    Calls Tryz.prog 8 #[.int .i64 4, .int .i64 a1, .bool b2] w fun e w' => e = .returned (.bool true) ∧ Below w.heap.size w w' := by
  go_enter Tryz.func8, Tryz.ntmps8
  go_wp2_with fail
  refine (begun8 w).mono ?_
  rintro e wb ⟨rfl, hb⟩
  rename_i Q1 K1 h1 K2 h2
  replace h1 := hid h1
  go_wp2_with fail
  refine h1.out _ _ ?_
  refine wp_seq_k fun K3 h3 => ?_
  replace h3 := hid h3
  go_wp2_with fail
  refine h3.out _ _ ?_
  clear h3 h1
  cases b2
  all_goals
    refine wp_seq (at_step (evS_good mixed takeOk 4000) (at_start [0, 1, 2, 6] rfl hb) (by kernel_rfl) fun a1' w1 hA1 => ?_)
    refine wp_seq (at_step (evS_good mixed takeOk 4000) hA1 (by kernel_rfl) fun a2' w2 hA2 => ?_)
    rcases remr3 a1 with h | h | h
    all_goals exact at_end (evD_good mixed takeOk 4000) 6 rfl (at_swap hA2 1 (.int .i64 ((IntKind.i64.wrap (a1.tmod 3 + 3)).tmod 3)) _ (by kernel_rfl) (congrArg (Value.int .i64) h)) (by kernel_rfl)
set_option maxRecDepth 100000 in
set_option maxHeartbeats 4000000 in
theorem checkLeft_5 (a1 : Int) (b2 : Bool) (w : World) :
    Calls Tryz.prog 8 #[.int .i64 5, .int .i64 a1, .bool b2] w fun e w' => e = .returned (.bool true) ∧ Below w.heap.size w w' := by
  go_enter Tryz.func8, Tryz.ntmps8
  go_wp2_with fail
  refine (begun8 w).mono ?_
  rintro e wb ⟨rfl, hb⟩
  rename_i Q1 K1 h1 K2 h2
  replace h1 := hid h1
  go_wp2_with fail
  refine h1.out _ _ ?_
  refine wp_seq_k fun K3 h3 => ?_
  replace h3 := hid h3
  go_wp2_with fail
  refine h3.out _ _ ?_
  clear h3 h1
  cases b2
  all_goals
    refine wp_seq (at_step (evS_good mixed takeOk 4000) (at_start [0, 1, 2, 6] rfl hb) (by kernel_rfl) fun a1' w1 hA1 => ?_)
    refine wp_seq (at_step (evS_good mixed takeOk 4000) hA1 (by kernel_rfl) fun a2' w2 hA2 => ?_)
    rcases remr3 a1 with h | h | h
    all_goals exact at_end (evD_good mixed takeOk 4000) 6 rfl (at_swap hA2 1 (.int .i64 ((IntKind.i64.wrap (a1.tmod 3 + 3)).tmod 3)) _ (by kernel_rfl) (congrArg (Value.int .i64) h)) (by kernel_rfl)
set_option maxRecDepth 100000 in
set_option maxHeartbeats 4000000 in
theorem checkLeft_walk (a0 a1 : Int) (b2 : Bool) (w : World) :
    Calls Tryz.prog 8 #[.int .i64 a0, .int .i64 a1, .bool b2] w fun e w' => e = .returned (.bool true) ∧ Below w.heap.size w w' := by
  by_cases h : a0 < 0
  · exact checkLeft_low a0 a1 b2 h w
  by_cases h' : 5 < a0
  · exact checkLeft_high a0 a1 b2 h' w
  obtain rfl | rfl | rfl | rfl | rfl | rfl : a0 = 0 ∨ a0 = 1 ∨ a0 = 2 ∨ a0 = 3 ∨ a0 = 4 ∨ a0 = 5 := by omega
  · exact checkLeft_0 a1 b2 w
  · exact checkLeft_1 a1 b2 w
  · exact checkLeft_2 a1 b2 w
  · exact checkLeft_3 a1 b2 w
  · exact checkLeft_4 a1 b2 w
  · exact checkLeft_5 a1 b2 w
end Go.Proofs.YtggfhklokfcplaaGreat
