/- CheckIf: its walk; the rest of its code evaluated. -/
import Derived.Test.YtggfhklokfcplaaGreatCkSelect
namespace Go.Proofs.YtggfhklokfcplaaGreat
open Go.RowKit Ev
theorem rem3 (x : Int) : (wrap64 (x.tmod 3 + 3)).tmod 3 = 0 ∨ (wrap64 (x.tmod 3 + 3)).tmod 3 = 1 ∨ (wrap64 (x.tmod 3 + 3)).tmod 3 = 2 := by
  have h1 := Int.tmod_lt_of_pos x (show (0 : Int) < 3 by decide)
  have h2 : -3 < x.tmod 3 := by
    have h := Int.tmod_lt_of_pos (-x) (show (0 : Int) < 3 by decide)
    rw [Int.neg_tmod] at h
    omega
  rw [IntWalk.wrap64_in _ (by omega), Int.tmod_eq_emod_of_nonneg (by omega)]
  omega
set_option maxRecDepth 100000 in
set_option maxHeartbeats 4000000 in
theorem checkIf_0true (a0 a1 a2 : Int) (h0 : (wrap64 (a0.tmod 3 + 3)).tmod 3 = 0) (w : World) :
    Calls Tryz.prog 4 #[.int .i64 a0, .int .i64 a1, .int .i64 a2, .bool true] w fun e w' => e = .returned (.bool true) ∧ Below w.heap.size w w' := by
  go_enter Tryz.func4, Tryz.ntmps4
  go_wp2_with fail
  refine (begun8 w).mono ?_
  rintro e wb ⟨rfl, hb⟩
  rename_i Q1 K1 h1 K2 h2
  replace h1 := hid h1
  go_wp2_with fail
  refine h1.out _ _ ?_
  refine wp_seq_k fun K3 h3 => ?_
  replace h3 := hid h3
  go_wp2_with fail
  refine h3.out _ _ ?_
  clear h3 h1
  refine wp_seq_k fun K4 h4 => ?_
  replace h4 := hid h4
  go_wp2_with fail
  refine h4.out _ _ ?_
  clear h4
  rcases rem3 a1 with h1 | h1 | h1 <;> rcases rem3 a2 with h2 | h2 | h2 <;> (try rw [h0]) <;> rw [h1, h2] <;> clear h0 h1 h2
  all_goals
    refine tail_end (n := 4000) 8 rfl [0, 1, 2, 3, 8] mixed takeOk ?_ rfl hb
    kernel_rfl
set_option maxRecDepth 100000 in
set_option maxHeartbeats 4000000 in
theorem checkIf_0false (a0 a1 a2 : Int) (h0 : (wrap64 (a0.tmod 3 + 3)).tmod 3 = 0) (w : World) :
    Calls Tryz.prog 4 #[.int .i64 a0, .int .i64 a1, .int .i64 a2, .bool false] w fun e w' => e = .returned (.bool true) ∧ Below w.heap.size w w' := by
  go_enter Tryz.func4, Tryz.ntmps4
  go_wp2_with fail
  refine (begun8 w).mono ?_
  rintro e wb ⟨rfl, hb⟩
  rename_i Q1 K1 h1 K2 h2
  replace h1 := hid h1
  go_wp2_with fail
  refine h1.out _ _ ?_
  refine wp_seq_k fun K3 h3 => ?_
  replace h3 := hid h3
  go_wp2_with fail
  refine h3.out _ _ ?_
  clear h3 h1
  refine wp_seq_k fun K4 h4 => ?_
  replace h4 := hid h4
  go_wp2_with fail
  refine h4.out _ _ ?_
  clear h4
  rcases rem3 a1 with h1 | h1 | h1 <;> rcases rem3 a2 with h2 | h2 | h2 <;> (try rw [h0]) <;> rw [h1, h2] <;> clear h0 h1 h2
  all_goals
    refine tail_end (n := 4000) 8 rfl [0, 1, 2, 3, 8] mixed takeOk ?_ rfl hb
    kernel_rfl
set_option maxRecDepth 100000 in
set_option maxHeartbeats 4000000 in
theorem checkIf_1true (a0 a1 a2 : Int) (h0 : (wrap64 (a0.tmod 3 + 3)).tmod 3 = 1) (w : World) :
    Calls Tryz.prog 4 #[.int .i64 a0, .int .i64 a1, .int .i64 a2, .bool true] w fun e w' => e = .returned (.bool true) ∧ Below w.heap.size w w' := by
  go_enter Tryz.func4, Tryz.ntmps4
  go_wp2_with fail
  refine (begun8 w).mono ?_
  rintro e wb ⟨rfl, hb⟩
  rename_i Q1 K1 h1 K2 h2
  replace h1 := hid h1
  go_wp2_with fail
  refine h1.out _ _ ?_
  refine wp_seq_k fun K3 h3 => ?_
  replace h3 := hid h3
  go_wp2_with fail
  refine h3.out _ _ ?_
  clear h3 h1
  refine wp_seq_k fun K4 h4 => ?_
  replace h4 := hid h4
  go_wp2_with fail
  refine h4.out _ _ ?_
  clear h4
  rcases rem3 a1 with h1 | h1 | h1 <;> rcases rem3 a2 with h2 | h2 | h2 <;> (try rw [h0]) <;> rw [h1, h2] <;> clear h0 h1 h2
  all_goals
    refine tail_end (n := 4000) 8 rfl [0, 1, 2, 3, 8] mixed takeOk ?_ rfl hb
    kernel_rfl
set_option maxRecDepth 100000 in
set_option maxHeartbeats 4000000 in
theorem checkIf_1false (a0 a1 a2 : Int) (h0 : (wrap64 (a0.tmod 3 + 3)).tmod 3 = 1) (w : World) :
    Calls Tryz.prog 4 #[.int .i64 a0, .int .i64 a1, .int .i64 a2, .bool false] w fun e w' => e = .returned (.bool true) ∧ Below w.heap.size w w' := by
  go_enter Tryz.func4, Tryz.ntmps4
  go_wp2_with fail
  refine (begun8 w).mono ?_
  rintro e wb ⟨rfl, hb⟩
  rename_i Q1 K1 h1 K2 h2
  replace h1 := hid h1
  go_wp2_with fail
  refine h1.out _ _ ?_
  refine wp_seq_k fun K3 h3 => ?_
  replace h3 := hid h3
  go_wp2_with fail
  refine h3.out _ _ ?_
  clear h3 h1
  refine wp_seq_k fun K4 h4 => ?_
  replace h4 := hid h4
  go_wp2_with fail
  refine h4.out _ _ ?_
  clear h4
  rcases rem3 a1 with h1 | h1 | h1 <;> rcases rem3 a2 with h2 | h2 | h2 <;> (try rw [h0]) <;> rw [h1, h2] <;> clear h0 h1 h2
  all_goals
    refine tail_end (n := 4000) 8 rfl [0, 1, 2, 3, 8] mixed takeOk ?_ rfl hb
    kernel_rfl
set_option maxRecDepth 100000 in
set_option maxHeartbeats 4000000 in
theorem checkIf_2true (a0 a1 a2 : Int) (h0 : (wrap64 (a0.tmod 3 + 3)).tmod 3 = 2) (w : World) :
    Calls Tryz.prog 4 #[.int .i64 a0, .int .i64 a1, .int .i64 a2, .bool true] w fun e w' => e = .returned (.bool true) ∧ Below w.heap.size w w' := by
  go_enter Tryz.func4, Tryz.ntmps4
  go_wp2_with fail
  refine (begun8 w).mono ?_
  rintro e wb ⟨rfl, hb⟩
  rename_i Q1 K1 h1 K2 h2
  replace h1 := hid h1
  go_wp2_with fail
  refine h1.out _ _ ?_
  refine wp_seq_k fun K3 h3 => ?_
  replace h3 := hid h3
  go_wp2_with fail
  refine h3.out _ _ ?_
  clear h3 h1
  refine wp_seq_k fun K4 h4 => ?_
  replace h4 := hid h4
  go_wp2_with fail
  refine h4.out _ _ ?_
  clear h4
  rcases rem3 a1 with h1 | h1 | h1 <;> rcases rem3 a2 with h2 | h2 | h2 <;> (try rw [h0]) <;> rw [h1, h2] <;> clear h0 h1 h2
  all_goals
    refine tail_end (n := 4000) 8 rfl [0, 1, 2, 3, 8] mixed takeOk ?_ rfl hb
    kernel_rfl
set_option maxRecDepth 100000 in
set_option maxHeartbeats 4000000 in
theorem checkIf_2false (a0 a1 a2 : Int) (h0 : (wrap64 (a0.tmod 3 + 3)).tmod 3 = 2) (w : World) :
    Calls Tryz.prog 4 #[.int .i64 a0, .int .i64 a1, .int .i64 a2, .bool false] w fun e w' => e = .returned (.bool true) ∧ Below w.heap.size w w' := by
  go_enter Tryz.func4, Tryz.ntmps4
  go_wp2_with fail
  refine (begun8 w).mono ?_
  rintro e wb ⟨rfl, hb⟩
  rename_i Q1 K1 h1 K2 h2
  replace h1 := hid h1
  go_wp2_with fail
  refine h1.out _ _ ?_
  refine wp_seq_k fun K3 h3 => ?_
  replace h3 := hid h3
  go_wp2_with fail
  refine h3.out _ _ ?_
  clear h3 h1
  refine wp_seq_k fun K4 h4 => ?_
  replace h4 := hid h4
  go_wp2_with fail
  refine h4.out _ _ ?_
  clear h4
  rcases rem3 a1 with h1 | h1 | h1 <;> rcases rem3 a2 with h2 | h2 | h2 <;> (try rw [h0]) <;> rw [h1, h2] <;> clear h0 h1 h2
  all_goals
    refine tail_end (n := 4000) 8 rfl [0, 1, 2, 3, 8] mixed takeOk ?_ rfl hb
    kernel_rfl
set_option maxHeartbeats 4000000 in
theorem checkIf_walk (a0 a1 a2 : Int) (b3 : Bool) (w : World) :
    Calls Tryz.prog 4 #[.int .i64 a0, .int .i64 a1, .int .i64 a2, .bool b3] w fun e w' => e = .returned (.bool true) ∧ Below w.heap.size w w' := by
  rcases rem3 a0 with h0 | h0 | h0 <;> cases b3
  · exact checkIf_0false a0 a1 a2 h0 w
  · exact checkIf_0true a0 a1 a2 h0 w
  · exact checkIf_1false a0 a1 a2 h0 w
  · exact checkIf_1true a0 a1 a2 h0 w
  · exact checkIf_2false a0 a1 a2 h0 w
  · exact checkIf_2true a0 a1 a2 h0 w
end Go.Proofs.YtggfhklokfcplaaGreat
