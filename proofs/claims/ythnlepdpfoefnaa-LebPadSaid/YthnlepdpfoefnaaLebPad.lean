import Derived.Test.YthnlepdpfoefnaaLebSize
namespace Go.Proofs.Ythnlepdpfoefnaa
open Go.RowKit

/-- A store into a slice of the call's own. -/
theorem Own.stored {E : TypeId} {k : IntKind} {base : Nat} {w : World} {g cap : Nat} {xs : List Int} (h : Own E k base w (.slice (some ⟨g, 0, none⟩) xs.length cap) xs) (j : Nat) (x : Int) (hx : (Lit.int k x).wf = true) :
    Own E k base (w.setCell ⟨g, j, none⟩ (.int k x)) (.slice (some ⟨g, 0, none⟩) (xs.set j x).length cap) (xs.set j x) := by
  have := (h.row.stored j (.int k x)).1
  refine ⟨?_, ?_⟩
  · rw [List.map_set]
    simpa using this
  · intro y hy
    rcases List.mem_or_eq_of_mem_set hy with hy | rfl
    · exact h.wf y hy
    · exact hx
theorem encU_all : ∀ (f : Nat) (u : Int), 0 ≤ u → ∀ i, i + 1 < (encU f u).length → 128 ≤ (encU f u).getD i 0
  | 0, u, h, i, hi => by simp [encU] at hi
  | f + 1, u, h, i, hi => by
    by_cases hc : 128 ≤ u
    · rw [encU_big hc] at hi ⊢
      cases i with
      | zero => simp; omega
      | succ i =>
        simp only [List.length_cons] at hi
        have := encU_all f (u / 128) (by omega) i (by omega)
        simpa [List.getD] using this
    · rw [encU_small hc] at hi; simp at hi
/-- What stands there behind the padding, ahead of the nought. -/
def Marked (xs : List Int) : Prop := ∀ i, i < xs.length → 128 ≤ xs.getD i 0
theorem Marked.push {xs : List Int} (h : Marked xs) {x : Int} (hx : 128 ≤ x) : Marked (xs ++ [x]) := by
  intro i hi
  by_cases e : i < xs.length
  · have := h i e
    simpa [List.getD, List.getElem?_append_left e] using this
  · have e' : i = xs.length := by simp at hi; omega
    subst e'
    simpa [List.getD] using hx
theorem Marked.of_enc (u : Int) (h0 : 0 ≤ u) (x : Int) (hx : 128 ≤ x) : Marked ((encU 9 u).set ((encU 9 u).length - 1) x) := by
  intro i hi
  simp only [List.length_set] at hi
  by_cases e : i = (encU 9 u).length - 1
  · subst e
    simpa [List.getD, List.getElem?_set, hi] using hx
  · have := encU_all 9 u h0 i (by omega)
    simpa [List.getD, List.getElem?_set, Ne.symm e] using this
/-- Marked bytes and a nought behind them are no number. -/
theorem U_pad (ao : Option Addr) (n cap : Nat) (xs : List Int) (w : World) (hx : Marked xs) (hne : 1 ≤ xs.length) (hr : Rd .u8 w ao n cap (xs ++ [0])) :
    Calls Try.prog 15 #[.slice ao n cap, .int .i64 64] w fun e w' => e = .returned (.tuple #[.int .u64 0, .int .i64 0, .int .i64 1]) ∧ w = w' := by
  have hget : ∀ i, i < xs.length → (xs ++ [0]).getD i 0 = xs.getD i 0 := fun i hi => by simp [List.getD, List.getElem?_append_left hi]
  by_cases h10 : 10 ≤ xs.length
  · exact U_form ao n cap _ 64 w hr (by omega) (by omega) 10 (by decide) ⟨by simp; omega, fun i hi => by rw [hget i (by omega)]; exact hx i (by omega)⟩
  · refine U_bad ao n cap _ 64 w hr (by omega) (by omega) 10 xs.length (by decide) ⟨by simp, by omega, fun i hi => by rw [hget i hi]; exact hx i hi, by simp [List.getD]⟩ ?_
    rintro ⟨hc, _⟩
    rw [take_low _ _ (by simp), low_canU] at hc
    rcases hc with hc | hc
    · rw [low_length _ _ (by simp)] at hc; omega
    · simp [List.getD] at hc

set_option maxRecDepth 100000 in
set_option maxHeartbeats 1600000 in
theorem lebPad_in (u n : Int) (w : World) (hu0 : 0 ≤ u) (hu1 : u ≤ 18446744073709551615) (hn0 : 1 ≤ n) (hn1 : n ≤ 5) :
    Calls Try.prog 8 #[.int .u64 u, .int .i64 n] w fun e w' => e = .returned (.bool true) ∧ Below w.heap.size w w' := by
  obtain ⟨m, rfl⟩ := Int.eq_ofNat_of_zero_le (show 0 ≤ n by omega)
  obtain ⟨v, hv⟩ : ∃ v : Int, v = u / 1048576 := ⟨_, rfl⟩
  have hv0 : 0 ≤ v := by omega
  have hv1 : v ≤ 18446744073709551615 := by omega
  have hm1 : m ≤ 5 := by omega
  have Hv := hid hv
  go_enter Try.func8, Try.ntmps8
  go_wp2_with fail
  refine (begun_any w).mono ?_
  rintro e w0 ⟨rfl, b0⟩
  go_wp2_with fail
  rw [← hv]
  clear hv
  refine (putU_any none 0 0 [] v w0 (Rd.empty w0 .u8) (by omega) hv0 hv1).mono ?_
  rintro e w1 ⟨v1, rfl, o1, b1⟩
  rw [List.nil_append] at o1
  have hl1 := encU_len 9 v
  have hl0 : 1 ≤ (encU 9 v).length := by have := encU_ne 9 v; cases h : encU 9 v <;> simp_all
  have hbs := encU_bs 9 v hv0 (fits9 v hv0 hv1)
  have hmark := hid (Marked.of_enc v hv0)
  obtain ⟨ys, hys⟩ : ∃ ys, ys = encU 9 v := ⟨_, rfl⟩
  rw [← hys] at o1 hl1 hl0 hbs hmark
  clear hys
  rcases o1.row.2 with ⟨_, hn⟩ | ⟨g, cap, cur, rfl, hgb, hg, hle, hmax, hsz, htake⟩
  · omega
  obtain ⟨L, hq⟩ : ∃ L, ys.length = L := ⟨_, rfl⟩
  rw [hq] at hl0 hl1
  obtain ⟨x, hx⟩ : ∃ x, x = ys.getD (L - 1) 0 := ⟨_, rfl⟩
  have hxb := Bs.getD (xs := ys) hbs (L - 1)
  rw [← hx] at hxb
  have hcell : w1.cell? ⟨g, L - 1, none⟩ = some (.int .u8 x) := by
    rw [o1.row.cellAt (L - 1) (by omega), hx]
    simp [List.getD, show L - 1 < ys.length by omega]
  have hfro := o1.row.frozenAt (L - 1)
  have hlt : g < w1.heap.size := World.block_lt_of_cell? w1 _ hcell
  have hbits := wf_bits BinOp.or .u8 x 128
  have ho := or128 x hxb.1 hxb.2
  obtain ⟨y, hy⟩ : ∃ y, y = bits BinOp.or IntKind.u8 x 128 := ⟨_, rfl⟩
  rw [← hy] at hbits ho
  have hy128 : 128 ≤ y := by omega
  have hL0 : ((L : Int) == 0) = false := by simp; omega
  have hy' := hy.symm
  clear hy ho
  have o2 := o1.stored (L - 1) y hbits
  have hm2 := hmark.out y hy128
  rw [hq] at hm2
  have hlz : (ys.set (L - 1) y).length = L := by simp [hq]
  rw [hlz] at o2
  obtain ⟨zs, hzs⟩ : ∃ zs, zs = ys.set (L - 1) y := ⟨_, rfl⟩
  rw [← hzs] at o2 hm2 hlz
  have Hm2 := hid hm2
  have Hlz := hid hlz
  have B1 : Below w0.heap.size w0 (w1.setCell ⟨g, L - 1, none⟩ (.int .u8 y)) := b1.setCell hgb _
  rw [hq]
  clear hm2 hlz hzs hq hx hsz htake hmark hbs o1 hg hle hmax b1
  go_wp2_with fail
  go_loopw [6, 7] (fun v i wr => ∃ (k : Nat) (zs : List Int), i = .int .i64 k ∧ 1 ≤ k ∧ k ≤ m ∧ Own 5 .u8 w0.heap.size wr v zs ∧ Hid (Marked zs) ∧ Hid (zs.length + 1 = L + k) ∧ Below w0.heap.size w0 wr) (fun _ i _ => m - (intOf i).toNat)
  case atStart => exact ⟨1, zs, rfl, Nat.le_refl _, by omega, o2, Hm2, by show _ = _; rw [Hlz.out], B1⟩
  case round =>
    obtain ⟨k, zs, rfl, hk0, hk, hv, Hm, Hl, hb⟩ := hrel
    have hxl : zs.length ≤ 14 := by have := Hl.out; omega
    have hsz := hb.size
    by_cases hlt' : k < m
    · go_wp2_with (at_builtin; refine wpList_append_rd rfl _ _ 22 rfl 5 .u8 w0.heap.size 1 Try.underlying22 infoU8 _ _ rfl (hv.alloc _) _ 1 1 _ rfl (Rd.built _ _ _ _ (by decide)) (by simp; omega) (by simp; omega) (by simp; omega) ?_; intro v' w1 h3 h4 _)
      go_roundw
      case rel => exact ⟨k + 1, _, by go_num, by omega, by omega, h3, Hm.out.push (by omega), by have := Hl.out; show _ = _; simp; omega, (hb.alloc hsz _).trans h4⟩
      case measure => simp [intOf]; omega
    · go_wp2_with (at_builtin; refine wpList_append_rd rfl _ _ 22 rfl 5 .u8 w0.heap.size 1 Try.underlying22 infoU8 _ _ rfl (hv.alloc _) _ 1 1 _ rfl (Rd.built _ _ _ _ (by decide)) (by simp; omega) (by simp; omega) (by simp; omega) ?_; intro v' w1 h3 h4 h5; clear h5)
      obtain ⟨a2, c2, hv2, r2⟩ := h3.rd
      generalize (zs ++ [0]).length = n2 at hv2 r2
      subst hv2
      refine (U_pad a2 n2 c2 zs w1 Hm.out (by have := Hl.out; omega) r2).mono ?_
      rintro e w' ⟨rfl, rfl⟩
      go_wp2_with fail
      go_ret
      exact ⟨by simp, b0.trans (((hb.alloc hsz _).trans h4).mono b0.size)⟩

theorem lebPad_walk (u n : Int) (w : World) (hu0 : 0 ≤ u) (hu1 : u ≤ 18446744073709551615) :
    Calls Try.prog 8 #[.int .u64 u, .int .i64 n] w fun e w' => e = .returned (.bool true) ∧ Below w.heap.size w w' := by
  rcases (show n < 1 ∨ (1 ≤ n ∧ 5 < n) ∨ (1 ≤ n ∧ n ≤ 5) from by omega) with h | ⟨h', h⟩ | ⟨h, h'⟩
  · go_enter Try.func8, Try.ntmps8
    go_wp2_with (go_at_call 9; refine (begun_any w).mono ?_; rintro e w0 ⟨rfl, b0⟩)
    go_ret
    exact ⟨rfl, b0⟩
  · go_enter Try.func8, Try.ntmps8
    go_wp2_with (go_at_call 9; refine (begun_any w).mono ?_; rintro e w0 ⟨rfl, b0⟩)
    go_ret
    exact ⟨rfl, b0⟩
  · exact lebPad_in u n w hu0 hu1 h h'
end Go.Proofs.Ythnlepdpfoefnaa
