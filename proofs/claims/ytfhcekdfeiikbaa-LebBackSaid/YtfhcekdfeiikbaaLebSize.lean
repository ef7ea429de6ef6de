import Derived.Test.YtfhcekdfeiikbaaLebAny
namespace Go.Proofs.Ytfhcekdfeiikbaa
open Go.RowKit

theorem encU_mono (f : Nat) (u v : Int) (h : u ≤ v) : (encU f u).length ≤ (encU f v).length := by
  induction f generalizing u v with
  | zero => simp [encU]
  | succ f ih =>
    unfold encU
    by_cases hu : 128 ≤ u
    · rw [if_pos hu, if_pos (by omega)]
      simpa using ih (u / 128) (v / 128) (by omega)
    · rw [if_neg hu]
      split <;> simp
theorem putU_len (u : Int) (n : Nat) (hn : (encU 9 u).length = n) (w : World) (h1 : 0 ≤ u) (h2 : u ≤ 18446744073709551615) :
    Calls Try.prog 11 #[.slice none 0 0, .int .u64 u] w fun e w' => ∃ ao cap, e = .returned (.slice ao n cap) ∧ Below w.heap.size w w' := by
  refine (putU_any none 0 0 [] u w (Rd.empty w .u8) (by omega) h1 h2).mono ?_
  rintro e w1 ⟨v1, rfl, o1, b1⟩
  rw [List.nil_append] at o1
  obtain ⟨a1, c1, rfl, r1⟩ := o1.rd
  exact ⟨a1, c1, by rw [hn], b1⟩
theorem putS_len (u : Int) (n : Nat) (hn : (encS 9 u).length = n) (w : World) (h1 : -9223372036854775808 ≤ u) (h2 : u ≤ 9223372036854775807) :
    Calls Try.prog 12 #[.slice none 0 0, .int .i64 u] w fun e w' => ∃ ao cap, e = .returned (.slice ao n cap) ∧ Below w.heap.size w w' := by
  refine (putS_any none 0 0 [] u w (Rd.empty w .u8) (by omega) h1 h2).mono ?_
  rintro e w1 ⟨v1, rfl, o1, b1⟩
  rw [List.nil_append] at o1
  obtain ⟨a1, c1, rfl, r1⟩ := o1.rd
  exact ⟨a1, c1, by rw [hn], b1⟩

set_option maxRecDepth 100000 in
set_option maxHeartbeats 3200000 in
theorem lebSize_le (u v k : Int) (w : World) (hu0 : 0 ≤ u) (hu1 : u ≤ 18446744073709551615) (hv0 : 0 ≤ v) (hv1 : v ≤ 18446744073709551615) (huv : u ≤ v) :
    Calls Try.prog 7 #[.int .u64 u, .int .u64 v, .int .i64 k] w fun e w' => e = .returned (.bool true) ∧ Below w.heap.size w w' := by
  obtain ⟨nu, hnu⟩ : ∃ n, (encU 9 u).length = n := ⟨_, rfl⟩
  obtain ⟨nv, hnv⟩ : ∃ n, (encU 9 v).length = n := ⟨_, rfl⟩
  have hle : nu ≤ nv := by rw [← hnu, ← hnv]; exact encU_mono 9 u v huv
  have hnv2 : nv ≤ 10 := by rw [← hnv]; exact encU_len 9 v
  have Hnu := hid hnu
  have Hnv := hid hnv
  clear hnu hnv
  go_enter Try.func7, Try.ntmps7
  go_wp2_with fail
  refine (begun_any w).mono ?_
  rintro e w1 ⟨rfl, b1⟩
  go_wp2_with fail
  refine (putU_len u nu Hnu.out _ hu0 hu1).mono ?_
  rintro e w2 ⟨a2, c2, rfl, b2⟩
  go_wp2_with fail
  refine (putU_len v nv Hnv.out _ hv0 hv1).mono ?_
  rintro e w3 ⟨a3, c3, rfl, b3⟩
  have B3 := step_below (step_below b1 b2) b3
  clear b1 b2 b3
  rcases (show (k < 1 ∨ (1 ≤ k ∧ 9 < k)) ∨ k = 1 ∨ k = 2 ∨ k = 3 ∨ k = 4 ∨ k = 5 ∨ k = 6 ∨ k = 7 ∨ k = 8 ∨ k = 9 from by omega) with (hk | ⟨hk, hk'⟩) | rfl | rfl | rfl | rfl | rfl | rfl | rfl | rfl | rfl
  · go_wp2_with fail
    refine (putU_len _ 10 (by decide) _ (by omega) (by omega)).mono ?_
    rintro e w4 ⟨a4, c4, rfl, b4⟩
    go_wp2_with fail
    go_ret
    exact ⟨rfl, step_below B3 b4⟩
  · go_wp2_with fail
    refine (putU_len _ 10 (by decide) _ (by omega) (by omega)).mono ?_
    rintro e w4 ⟨a4, c4, rfl, b4⟩
    go_wp2_with fail
    go_ret
    exact ⟨rfl, step_below B3 b4⟩
  · go_wp2_with fail
    refine (putU_len _ 1 (by decide) _ (by omega) (by omega)).mono ?_
    rintro e w4 ⟨a4, c4, rfl, b4⟩
    go_wp2_with fail
    refine (putU_len _ 2 (by decide) _ (by omega) (by omega)).mono ?_
    rintro e w5 ⟨a5, c5, rfl, b5⟩
    go_wp2_with fail
    refine (putS_len _ 1 (by decide) _ (by omega) (by omega)).mono ?_
    rintro e w6 ⟨a6, c6, rfl, b6⟩
    go_wp2_with fail
    refine (putS_len _ 1 (by decide) _ (by omega) (by omega)).mono ?_
    rintro e w7 ⟨a7, c7, rfl, b7⟩
    go_wp2_with fail
    refine (putS_len _ 2 (by decide) _ (by omega) (by omega)).mono ?_
    rintro e w8 ⟨a8, c8, rfl, b8⟩
    go_wp2_with fail
    go_ret
    exact ⟨rfl, step_below (step_below (step_below (step_below (step_below B3 b4) b5) b6) b7) b8⟩
  · go_wp2_with fail
    refine (putU_len _ 2 (by decide) _ (by omega) (by omega)).mono ?_
    rintro e w4 ⟨a4, c4, rfl, b4⟩
    go_wp2_with fail
    refine (putU_len _ 3 (by decide) _ (by omega) (by omega)).mono ?_
    rintro e w5 ⟨a5, c5, rfl, b5⟩
    go_wp2_with fail
    refine (putS_len _ 2 (by decide) _ (by omega) (by omega)).mono ?_
    rintro e w6 ⟨a6, c6, rfl, b6⟩
    go_wp2_with fail
    refine (putS_len _ 2 (by decide) _ (by omega) (by omega)).mono ?_
    rintro e w7 ⟨a7, c7, rfl, b7⟩
    go_wp2_with fail
    refine (putS_len _ 3 (by decide) _ (by omega) (by omega)).mono ?_
    rintro e w8 ⟨a8, c8, rfl, b8⟩
    go_wp2_with fail
    go_ret
    exact ⟨rfl, step_below (step_below (step_below (step_below (step_below B3 b4) b5) b6) b7) b8⟩
  · go_wp2_with fail
    refine (putU_len _ 3 (by decide) _ (by omega) (by omega)).mono ?_
    rintro e w4 ⟨a4, c4, rfl, b4⟩
    go_wp2_with fail
    refine (putU_len _ 4 (by decide) _ (by omega) (by omega)).mono ?_
    rintro e w5 ⟨a5, c5, rfl, b5⟩
    go_wp2_with fail
    refine (putS_len _ 3 (by decide) _ (by omega) (by omega)).mono ?_
    rintro e w6 ⟨a6, c6, rfl, b6⟩
    go_wp2_with fail
    refine (putS_len _ 3 (by decide) _ (by omega) (by omega)).mono ?_
    rintro e w7 ⟨a7, c7, rfl, b7⟩
    go_wp2_with fail
    refine (putS_len _ 4 (by decide) _ (by omega) (by omega)).mono ?_
    rintro e w8 ⟨a8, c8, rfl, b8⟩
    go_wp2_with fail
    go_ret
    exact ⟨rfl, step_below (step_below (step_below (step_below (step_below B3 b4) b5) b6) b7) b8⟩
  · go_wp2_with fail
    refine (putU_len _ 4 (by decide) _ (by omega) (by omega)).mono ?_
    rintro e w4 ⟨a4, c4, rfl, b4⟩
    go_wp2_with fail
    refine (putU_len _ 5 (by decide) _ (by omega) (by omega)).mono ?_
    rintro e w5 ⟨a5, c5, rfl, b5⟩
    go_wp2_with fail
    refine (putS_len _ 4 (by decide) _ (by omega) (by omega)).mono ?_
    rintro e w6 ⟨a6, c6, rfl, b6⟩
    go_wp2_with fail
    refine (putS_len _ 4 (by decide) _ (by omega) (by omega)).mono ?_
    rintro e w7 ⟨a7, c7, rfl, b7⟩
    go_wp2_with fail
    refine (putS_len _ 5 (by decide) _ (by omega) (by omega)).mono ?_
    rintro e w8 ⟨a8, c8, rfl, b8⟩
    go_wp2_with fail
    go_ret
    exact ⟨rfl, step_below (step_below (step_below (step_below (step_below B3 b4) b5) b6) b7) b8⟩
  · go_wp2_with fail
    refine (putU_len _ 5 (by decide) _ (by omega) (by omega)).mono ?_
    rintro e w4 ⟨a4, c4, rfl, b4⟩
    go_wp2_with fail
    refine (putU_len _ 6 (by decide) _ (by omega) (by omega)).mono ?_
    rintro e w5 ⟨a5, c5, rfl, b5⟩
    go_wp2_with fail
    refine (putS_len _ 5 (by decide) _ (by omega) (by omega)).mono ?_
    rintro e w6 ⟨a6, c6, rfl, b6⟩
    go_wp2_with fail
    refine (putS_len _ 5 (by decide) _ (by omega) (by omega)).mono ?_
    rintro e w7 ⟨a7, c7, rfl, b7⟩
    go_wp2_with fail
    refine (putS_len _ 6 (by decide) _ (by omega) (by omega)).mono ?_
    rintro e w8 ⟨a8, c8, rfl, b8⟩
    go_wp2_with fail
    go_ret
    exact ⟨rfl, step_below (step_below (step_below (step_below (step_below B3 b4) b5) b6) b7) b8⟩
  · go_wp2_with fail
    refine (putU_len _ 6 (by decide) _ (by omega) (by omega)).mono ?_
    rintro e w4 ⟨a4, c4, rfl, b4⟩
    go_wp2_with fail
    refine (putU_len _ 7 (by decide) _ (by omega) (by omega)).mono ?_
    rintro e w5 ⟨a5, c5, rfl, b5⟩
    go_wp2_with fail
    refine (putS_len _ 6 (by decide) _ (by omega) (by omega)).mono ?_
    rintro e w6 ⟨a6, c6, rfl, b6⟩
    go_wp2_with fail
    refine (putS_len _ 6 (by decide) _ (by omega) (by omega)).mono ?_
    rintro e w7 ⟨a7, c7, rfl, b7⟩
    go_wp2_with fail
    refine (putS_len _ 7 (by decide) _ (by omega) (by omega)).mono ?_
    rintro e w8 ⟨a8, c8, rfl, b8⟩
    go_wp2_with fail
    go_ret
    exact ⟨rfl, step_below (step_below (step_below (step_below (step_below B3 b4) b5) b6) b7) b8⟩
  · go_wp2_with fail
    refine (putU_len _ 7 (by decide) _ (by omega) (by omega)).mono ?_
    rintro e w4 ⟨a4, c4, rfl, b4⟩
    go_wp2_with fail
    refine (putU_len _ 8 (by decide) _ (by omega) (by omega)).mono ?_
    rintro e w5 ⟨a5, c5, rfl, b5⟩
    go_wp2_with fail
    refine (putS_len _ 7 (by decide) _ (by omega) (by omega)).mono ?_
    rintro e w6 ⟨a6, c6, rfl, b6⟩
    go_wp2_with fail
    refine (putS_len _ 7 (by decide) _ (by omega) (by omega)).mono ?_
    rintro e w7 ⟨a7, c7, rfl, b7⟩
    go_wp2_with fail
    refine (putS_len _ 8 (by decide) _ (by omega) (by omega)).mono ?_
    rintro e w8 ⟨a8, c8, rfl, b8⟩
    go_wp2_with fail
    go_ret
    exact ⟨rfl, step_below (step_below (step_below (step_below (step_below B3 b4) b5) b6) b7) b8⟩
  · go_wp2_with fail
    refine (putU_len _ 8 (by decide) _ (by omega) (by omega)).mono ?_
    rintro e w4 ⟨a4, c4, rfl, b4⟩
    go_wp2_with fail
    refine (putU_len _ 9 (by decide) _ (by omega) (by omega)).mono ?_
    rintro e w5 ⟨a5, c5, rfl, b5⟩
    go_wp2_with fail
    refine (putS_len _ 8 (by decide) _ (by omega) (by omega)).mono ?_
    rintro e w6 ⟨a6, c6, rfl, b6⟩
    go_wp2_with fail
    refine (putS_len _ 8 (by decide) _ (by omega) (by omega)).mono ?_
    rintro e w7 ⟨a7, c7, rfl, b7⟩
    go_wp2_with fail
    refine (putS_len _ 9 (by decide) _ (by omega) (by omega)).mono ?_
    rintro e w8 ⟨a8, c8, rfl, b8⟩
    go_wp2_with fail
    go_ret
    exact ⟨rfl, step_below (step_below (step_below (step_below (step_below B3 b4) b5) b6) b7) b8⟩
  · go_wp2_with fail
    refine (putU_len _ 9 (by decide) _ (by omega) (by omega)).mono ?_
    rintro e w4 ⟨a4, c4, rfl, b4⟩
    go_wp2_with fail
    refine (putU_len _ 10 (by decide) _ (by omega) (by omega)).mono ?_
    rintro e w5 ⟨a5, c5, rfl, b5⟩
    go_wp2_with fail
    refine (putS_len _ 9 (by decide) _ (by omega) (by omega)).mono ?_
    rintro e w6 ⟨a6, c6, rfl, b6⟩
    go_wp2_with fail
    refine (putS_len _ 9 (by decide) _ (by omega) (by omega)).mono ?_
    rintro e w7 ⟨a7, c7, rfl, b7⟩
    go_wp2_with fail
    refine (putS_len _ 10 (by decide) _ (by omega) (by omega)).mono ?_
    rintro e w8 ⟨a8, c8, rfl, b8⟩
    go_wp2_with fail
    go_ret
    exact ⟨rfl, step_below (step_below (step_below (step_below (step_below B3 b4) b5) b6) b7) b8⟩

set_option maxRecDepth 100000 in
set_option maxHeartbeats 3200000 in
theorem lebSize_gt (u v k : Int) (w : World) (hu0 : 0 ≤ u) (hu1 : u ≤ 18446744073709551615) (hv0 : 0 ≤ v) (hv1 : v ≤ 18446744073709551615) (huv : v < u) :
    Calls Try.prog 7 #[.int .u64 u, .int .u64 v, .int .i64 k] w fun e w' => e = .returned (.bool true) ∧ Below w.heap.size w w' := by
  obtain ⟨nu, hnu⟩ : ∃ n, (encU 9 u).length = n := ⟨_, rfl⟩
  obtain ⟨nv, hnv⟩ : ∃ n, (encU 9 v).length = n := ⟨_, rfl⟩
  have hle : nv ≤ nu := by rw [← hnu, ← hnv]; exact encU_mono 9 v u (by omega)
  have hnv2 : nu ≤ 10 := by rw [← hnu]; exact encU_len 9 u
  have Hnu := hid hnu
  have Hnv := hid hnv
  clear hnu hnv
  go_enter Try.func7, Try.ntmps7
  go_wp2_with fail
  refine (begun_any w).mono ?_
  rintro e w1 ⟨rfl, b1⟩
  go_wp2_with fail
  refine (putU_len v nv Hnv.out _ hv0 hv1).mono ?_
  rintro e w2 ⟨a2, c2, rfl, b2⟩
  go_wp2_with fail
  refine (putU_len u nu Hnu.out _ hu0 hu1).mono ?_
  rintro e w3 ⟨a3, c3, rfl, b3⟩
  have B3 := step_below (step_below b1 b2) b3
  clear b1 b2 b3
  rcases (show (k < 1 ∨ (1 ≤ k ∧ 9 < k)) ∨ k = 1 ∨ k = 2 ∨ k = 3 ∨ k = 4 ∨ k = 5 ∨ k = 6 ∨ k = 7 ∨ k = 8 ∨ k = 9 from by omega) with (hk | ⟨hk, hk'⟩) | rfl | rfl | rfl | rfl | rfl | rfl | rfl | rfl | rfl
  · go_wp2_with fail
    refine (putU_len _ 10 (by decide) _ (by omega) (by omega)).mono ?_
    rintro e w4 ⟨a4, c4, rfl, b4⟩
    go_wp2_with fail
    go_ret
    exact ⟨rfl, step_below B3 b4⟩
  · go_wp2_with fail
    refine (putU_len _ 10 (by decide) _ (by omega) (by omega)).mono ?_
    rintro e w4 ⟨a4, c4, rfl, b4⟩
    go_wp2_with fail
    go_ret
    exact ⟨rfl, step_below B3 b4⟩
  · go_wp2_with fail
    refine (putU_len _ 1 (by decide) _ (by omega) (by omega)).mono ?_
    rintro e w4 ⟨a4, c4, rfl, b4⟩
    go_wp2_with fail
    refine (putU_len _ 2 (by decide) _ (by omega) (by omega)).mono ?_
    rintro e w5 ⟨a5, c5, rfl, b5⟩
    go_wp2_with fail
    refine (putS_len _ 1 (by decide) _ (by omega) (by omega)).mono ?_
    rintro e w6 ⟨a6, c6, rfl, b6⟩
    go_wp2_with fail
    refine (putS_len _ 1 (by decide) _ (by omega) (by omega)).mono ?_
    rintro e w7 ⟨a7, c7, rfl, b7⟩
    go_wp2_with fail
    refine (putS_len _ 2 (by decide) _ (by omega) (by omega)).mono ?_
    rintro e w8 ⟨a8, c8, rfl, b8⟩
    go_wp2_with fail
    go_ret
    exact ⟨rfl, step_below (step_below (step_below (step_below (step_below B3 b4) b5) b6) b7) b8⟩
  · go_wp2_with fail
    refine (putU_len _ 2 (by decide) _ (by omega) (by omega)).mono ?_
    rintro e w4 ⟨a4, c4, rfl, b4⟩
    go_wp2_with fail
    refine (putU_len _ 3 (by decide) _ (by omega) (by omega)).mono ?_
    rintro e w5 ⟨a5, c5, rfl, b5⟩
    go_wp2_with fail
    refine (putS_len _ 2 (by decide) _ (by omega) (by omega)).mono ?_
    rintro e w6 ⟨a6, c6, rfl, b6⟩
    go_wp2_with fail
    refine (putS_len _ 2 (by decide) _ (by omega) (by omega)).mono ?_
    rintro e w7 ⟨a7, c7, rfl, b7⟩
    go_wp2_with fail
    refine (putS_len _ 3 (by decide) _ (by omega) (by omega)).mono ?_
    rintro e w8 ⟨a8, c8, rfl, b8⟩
    go_wp2_with fail
    go_ret
    exact ⟨rfl, step_below (step_below (step_below (step_below (step_below B3 b4) b5) b6) b7) b8⟩
  · go_wp2_with fail
    refine (putU_len _ 3 (by decide) _ (by omega) (by omega)).mono ?_
    rintro e w4 ⟨a4, c4, rfl, b4⟩
    go_wp2_with fail
    refine (putU_len _ 4 (by decide) _ (by omega) (by omega)).mono ?_
    rintro e w5 ⟨a5, c5, rfl, b5⟩
    go_wp2_with fail
    refine (putS_len _ 3 (by decide) _ (by omega) (by omega)).mono ?_
    rintro e w6 ⟨a6, c6, rfl, b6⟩
    go_wp2_with fail
    refine (putS_len _ 3 (by decide) _ (by omega) (by omega)).mono ?_
    rintro e w7 ⟨a7, c7, rfl, b7⟩
    go_wp2_with fail
    refine (putS_len _ 4 (by decide) _ (by omega) (by omega)).mono ?_
    rintro e w8 ⟨a8, c8, rfl, b8⟩
    go_wp2_with fail
    go_ret
    exact ⟨rfl, step_below (step_below (step_below (step_below (step_below B3 b4) b5) b6) b7) b8⟩
  · go_wp2_with fail
    refine (putU_len _ 4 (by decide) _ (by omega) (by omega)).mono ?_
    rintro e w4 ⟨a4, c4, rfl, b4⟩
    go_wp2_with fail
    refine (putU_len _ 5 (by decide) _ (by omega) (by omega)).mono ?_
    rintro e w5 ⟨a5, c5, rfl, b5⟩
    go_wp2_with fail
    refine (putS_len _ 4 (by decide) _ (by omega) (by omega)).mono ?_
    rintro e w6 ⟨a6, c6, rfl, b6⟩
    go_wp2_with fail
    refine (putS_len _ 4 (by decide) _ (by omega) (by omega)).mono ?_
    rintro e w7 ⟨a7, c7, rfl, b7⟩
    go_wp2_with fail
    refine (putS_len _ 5 (by decide) _ (by omega) (by omega)).mono ?_
    rintro e w8 ⟨a8, c8, rfl, b8⟩
    go_wp2_with fail
    go_ret
    exact ⟨rfl, step_below (step_below (step_below (step_below (step_below B3 b4) b5) b6) b7) b8⟩
  · go_wp2_with fail
    refine (putU_len _ 5 (by decide) _ (by omega) (by omega)).mono ?_
    rintro e w4 ⟨a4, c4, rfl, b4⟩
    go_wp2_with fail
    refine (putU_len _ 6 (by decide) _ (by omega) (by omega)).mono ?_
    rintro e w5 ⟨a5, c5, rfl, b5⟩
    go_wp2_with fail
    refine (putS_len _ 5 (by decide) _ (by omega) (by omega)).mono ?_
    rintro e w6 ⟨a6, c6, rfl, b6⟩
    go_wp2_with fail
    refine (putS_len _ 5 (by decide) _ (by omega) (by omega)).mono ?_
    rintro e w7 ⟨a7, c7, rfl, b7⟩
    go_wp2_with fail
    refine (putS_len _ 6 (by decide) _ (by omega) (by omega)).mono ?_
    rintro e w8 ⟨a8, c8, rfl, b8⟩
    go_wp2_with fail
    go_ret
    exact ⟨rfl, step_below (step_below (step_below (step_below (step_below B3 b4) b5) b6) b7) b8⟩
  · go_wp2_with fail
    refine (putU_len _ 6 (by decide) _ (by omega) (by omega)).mono ?_
    rintro e w4 ⟨a4, c4, rfl, b4⟩
    go_wp2_with fail
    refine (putU_len _ 7 (by decide) _ (by omega) (by omega)).mono ?_
    rintro e w5 ⟨a5, c5, rfl, b5⟩
    go_wp2_with fail
    refine (putS_len _ 6 (by decide) _ (by omega) (by omega)).mono ?_
    rintro e w6 ⟨a6, c6, rfl, b6⟩
    go_wp2_with fail
    refine (putS_len _ 6 (by decide) _ (by omega) (by omega)).mono ?_
    rintro e w7 ⟨a7, c7, rfl, b7⟩
    go_wp2_with fail
    refine (putS_len _ 7 (by decide) _ (by omega) (by omega)).mono ?_
    rintro e w8 ⟨a8, c8, rfl, b8⟩
    go_wp2_with fail
    go_ret
    exact ⟨rfl, step_below (step_below (step_below (step_below (step_below B3 b4) b5) b6) b7) b8⟩
  · go_wp2_with fail
    refine (putU_len _ 7 (by decide) _ (by omega) (by omega)).mono ?_
    rintro e w4 ⟨a4, c4, rfl, b4⟩
    go_wp2_with fail
    refine (putU_len _ 8 (by decide) _ (by omega) (by omega)).mono ?_
    rintro e w5 ⟨a5, c5, rfl, b5⟩
    go_wp2_with fail
    refine (putS_len _ 7 (by decide) _ (by omega) (by omega)).mono ?_
    rintro e w6 ⟨a6, c6, rfl, b6⟩
    go_wp2_with fail
    refine (putS_len _ 7 (by decide) _ (by omega) (by omega)).mono ?_
    rintro e w7 ⟨a7, c7, rfl, b7⟩
    go_wp2_with fail
    refine (putS_len _ 8 (by decide) _ (by omega) (by omega)).mono ?_
    rintro e w8 ⟨a8, c8, rfl, b8⟩
    go_wp2_with fail
    go_ret
    exact ⟨rfl, step_below (step_below (step_below (step_below (step_below B3 b4) b5) b6) b7) b8⟩
  · go_wp2_with fail
    refine (putU_len _ 8 (by decide) _ (by omega) (by omega)).mono ?_
    rintro e w4 ⟨a4, c4, rfl, b4⟩
    go_wp2_with fail
    refine (putU_len _ 9 (by decide) _ (by omega) (by omega)).mono ?_
    rintro e w5 ⟨a5, c5, rfl, b5⟩
    go_wp2_with fail
    refine (putS_len _ 8 (by decide) _ (by omega) (by omega)).mono ?_
    rintro e w6 ⟨a6, c6, rfl, b6⟩
    go_wp2_with fail
    refine (putS_len _ 8 (by decide) _ (by omega) (by omega)).mono ?_
    rintro e w7 ⟨a7, c7, rfl, b7⟩
    go_wp2_with fail
    refine (putS_len _ 9 (by decide) _ (by omega) (by omega)).mono ?_
    rintro e w8 ⟨a8, c8, rfl, b8⟩
    go_wp2_with fail
    go_ret
    exact ⟨rfl, step_below (step_below (step_below (step_below (step_below B3 b4) b5) b6) b7) b8⟩
  · go_wp2_with fail
    refine (putU_len _ 9 (by decide) _ (by omega) (by omega)).mono ?_
    rintro e w4 ⟨a4, c4, rfl, b4⟩
    go_wp2_with fail
    refine (putU_len _ 10 (by decide) _ (by omega) (by omega)).mono ?_
    rintro e w5 ⟨a5, c5, rfl, b5⟩
    go_wp2_with fail
    refine (putS_len _ 9 (by decide) _ (by omega) (by omega)).mono ?_
    rintro e w6 ⟨a6, c6, rfl, b6⟩
    go_wp2_with fail
    refine (putS_len _ 9 (by decide) _ (by omega) (by omega)).mono ?_
    rintro e w7 ⟨a7, c7, rfl, b7⟩
    go_wp2_with fail
    refine (putS_len _ 10 (by decide) _ (by omega) (by omega)).mono ?_
    rintro e w8 ⟨a8, c8, rfl, b8⟩
    go_wp2_with fail
    go_ret
    exact ⟨rfl, step_below (step_below (step_below (step_below (step_below B3 b4) b5) b6) b7) b8⟩

theorem lebSize_walk (u v k : Int) (w : World) (hu0 : 0 ≤ u) (hu1 : u ≤ 18446744073709551615) (hv0 : 0 ≤ v) (hv1 : v ≤ 18446744073709551615) :
    Calls Try.prog 7 #[.int .u64 u, .int .u64 v, .int .i64 k] w fun e w' => e = .returned (.bool true) ∧ Below w.heap.size w w' := by
  by_cases h : u ≤ v
  · exact lebSize_le u v k w hu0 hu1 hv0 hv1 h
  · exact lebSize_gt u v k w hu0 hu1 hv0 hv1 (by omega)
end Go.Proofs.Ytfhcekdfeiikbaa
