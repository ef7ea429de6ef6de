import Derived.Test.YthnlepdpfoefnaaLebAny
namespace Go.Proofs.Ythnlepdpfoefnaa
open Go.RowKit

theorem Same.later {P : Program} {ao : Option Addr} {n cap : Nat} {bits : Int} {w w' : World} (h : Same P ao n cap bits w) (hb : Below w.heap.size w w') : Same P ao n cap bits w' := by
  obtain ⟨x, k, e, y, j, g, u1, u2, s1, s2⟩ := h
  have t : ∀ w'', Below w'.heap.size w' w'' → Below w.heap.size w w'' := fun w'' h => hb.trans (h.mono hb.size)
  exact ⟨x, k, e, y, j, g, fun w'' h => u1 w'' (t w'' h), fun w'' h => u2 w'' (t w'' h), fun w'' h => s1 w'' (t w'' h), fun w'' h => s2 w'' (t w'' h)⟩

set_option maxRecDepth 100000 in
set_option maxHeartbeats 1600000 in
theorem lebLong_in (n last bits : Int) (w : World) (hl0 : 0 ≤ last) (hl1 : last ≤ 255) (hn0 : 0 ≤ n) (hn1 : n ≤ 15) :
    Calls Try.prog 5 #[.int .i64 n, .int .u8 last, .int .i64 bits] w fun e w' => e = .returned (.bool true) ∧ Below w.heap.size w w' := by
  obtain ⟨m, rfl⟩ := Int.eq_ofNat_of_zero_le hn0
  have hm : m ≤ 15 := by omega
  clear hn1
  go_enter Try.func5, Try.ntmps5
  go_wp2_with fail
  refine (begun_any w).mono ?_
  rintro e w0 ⟨rfl, b0⟩
  go_wp2_with fail
  go_loopw [8, 9] (fun v i wr => ∃ (k : Nat) (xs : List Int), i = .int .i64 k ∧ k ≤ m ∧ Own 5 .u8 w0.heap.size wr v xs ∧ Hid (xs.length = k) ∧ Below w0.heap.size w0 wr) (fun _ i _ => m - (intOf i).toNat)
  case atStart => exact ⟨0, [], rfl, Nat.zero_le _, Own.nil _ _ _ _, rfl, Below.refl _ _⟩
  case round =>
    obtain ⟨k, xs, rfl, hk, hv, Hl, hb⟩ := hrel
    have hxl : xs.length ≤ 15 := by rw [Hl.out]; omega
    have hsz := hb.size
    by_cases hlt : k < m
    · go_wp2_with (at_builtin; refine wpList_append_rd rfl _ _ 22 rfl 5 .u8 w0.heap.size 1 Try.underlying22 infoU8 _ _ rfl (hv.alloc _) _ 1 1 _ rfl (Rd.built _ _ _ _ (wf_bits _ _ _ _)) (by simp; omega) (by simp; omega) (by simp; omega) ?_; intro v' w1 h3 h4 _)
      go_roundw
      case rel => exact ⟨k + 1, _, by go_num, by omega, h3, by show _ = _; simp [Hl.out], (hb.alloc hsz _).trans h4⟩
      case measure => simp [intOf]; omega
    · obtain ⟨ao, cap, rfl, hr⟩ := hv.rd
      have hS := hid (same_any ao xs.length cap xs bits wr hr)
      go_wp2_with (first
        | (at_builtin; refine wpList_append_rd rfl (.const (.slice none 0 0)) (.tmp 44) 22 rfl 5 .u8 wr.heap.size 1 Try.underlying22 infoU8 _ [] rfl (Own.nil _ _ _ _) ao xs.length cap xs rfl hr (by simp; omega) (by simp; omega) (Nat.le_refl _) ?_; intro v1 w1 h3 h4 h7; clear h7; have hsz1 := h4.size)
        | (at_builtin; refine wpList_append_rd rfl (.tmp 45) (.tmp 47) 22 rfl 5 .u8 wr.heap.size 1 Try.underlying22 infoU8 _ _ rfl (h3.alloc _) _ 1 1 _ rfl (Rd.built _ _ _ _ (WalkArith.wf_u8 (by omega))) (by simp; omega) (by simp; omega) (by simp; omega) ?_; intro v2 w2 h5 h6 h8; clear h8))
      have B2 : Below wr.heap.size wr w2 := (h4.alloc hsz1 _).trans h6
      obtain ⟨a2, c2, hv2, r2⟩ := h5.rd
      generalize ([] ++ xs ++ [last]).length = n2 at hv2 r2
      subst hv2
      clear h3 h5 hv hr
      have hS2 := same_any a2 _ c2 _ bits w2 r2
      obtain ⟨x1, k1, e1, y1, j1, g1, u1, u2, _, _⟩ := hS.out.later B2
      obtain ⟨x2, k2, e2, y2, j2, g2, _, _, s1, s2⟩ := hS2
      have U1 := hid u1
      have U2 := hid u2
      have S1 := hid s1
      have S2 := hid s2
      clear u1 u2 s1 s2 hS
      refine (U1.out w2 (Below.refl _ _)).mono ?_
      rintro e w' ⟨rfl, rfl⟩
      go_wp2_with fail
      refine (U2.out w2 (Below.refl _ _)).mono ?_
      rintro e w3 ⟨rfl, b3⟩
      go_wp2_with fail
      refine (S1.out w3 b3).mono ?_
      rintro e w' ⟨rfl, rfl⟩
      go_wp2_with fail
      refine (S2.out w3 b3).mono ?_
      rintro e w4 ⟨rfl, b4⟩
      go_wp2_with fail
      go_ret
      refine ⟨by simp, b0.trans ((hb.mono b0.size).trans ?_)⟩
      have b23 := b3.trans (b4.mono b3.size)
      exact (B2.mono (Nat.le_trans b0.size hsz)).trans (b23.mono (Nat.le_trans (Nat.le_trans b0.size hsz) B2.size))

theorem lebLong_walk (n last bits : Int) (w : World) (hl0 : 0 ≤ last) (hl1 : last ≤ 255) :
    Calls Try.prog 5 #[.int .i64 n, .int .u8 last, .int .i64 bits] w fun e w' => e = .returned (.bool true) ∧ Below w.heap.size w w' := by
  rcases (show n < 0 ∨ 15 < n ∨ (0 ≤ n ∧ n ≤ 15) from by omega) with h | h | ⟨h, h'⟩
  · go_enter Try.func5, Try.ntmps5
    go_wp2_with (go_at_call 9; refine (begun_any w).mono ?_; rintro e w0 ⟨rfl, b0⟩)
    go_ret
    exact ⟨rfl, b0⟩
  · go_enter Try.func5, Try.ntmps5
    go_wp2_with (go_at_call 9; refine (begun_any w).mono ?_; rintro e w0 ⟨rfl, b0⟩)
    go_ret
    exact ⟨rfl, b0⟩
  · exact lebLong_in n last bits w hl0 hl1 h h'
end Go.Proofs.Ythnlepdpfoefnaa
