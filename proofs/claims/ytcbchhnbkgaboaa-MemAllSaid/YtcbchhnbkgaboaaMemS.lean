/- mem: Store. -/
import Derived.Test.YtcbchhnbkgaboaaMemL
namespace Go.Proofs.Ytcbchhnbkgaboaa
open Go.RowKit

theorem bytM_ok {M : MM} (h : M.ok) (a x k : Nat) (ha : a + k ≤ 256 * M.p) : ({ M with c := bytM M.c a x k } : MM).ok := by
  have hp := h.pl
  refine ⟨by simp [bytM_len, h.cl], h.dl, bytM_wf _ _ _ _ h.wf, h.pl, h.ql, fun i hi => ?_⟩
  simp only at hi ⊢
  rw [bytM_get _ _ _ _ _ (by rw [h.cl]; omega), if_neg (by omega)]
  exact h.zero i hi
theorem MemAt.setd {w : World} {g : Nat} {M : MM} (h : MemAt w g M) (i : Nat) (b : Bool) : MemAt (w.setCell ⟨g, 4098 + i, none⟩ (.bool b)) g { M with d := M.d.set i b } := by
  refine ⟨⟨h.ok.cl, by simp [h.ok.dl], h.ok.wf, h.ok.pl, h.ok.ql, h.ok.zero⟩, ?_⟩
  have := h.blk.set (4098 + i) (.bool b)
  rwa [memL_setd h.ok] at this
theorem MemAt.setc {w : World} {g : Nat} {M : MM} (h : MemAt w g M) (i : Nat) (hi : i < 256 * M.p) (b : Int) (hb : 0 ≤ b ∧ b < 256) : MemAt (w.setCell ⟨g, 2 + i, none⟩ (.int .u8 b)) g { M with c := M.c.set i b } := by
  have hp := h.ok.pl
  refine ⟨⟨by simp [h.ok.cl], h.ok.dl, ?_, h.ok.pl, h.ok.ql, fun j hj => ?_⟩, ?_⟩
  · intro y hy
    rcases List.mem_or_eq_of_mem_set hy with hy | rfl
    · exact h.ok.wf y hy
    · exact hb
  · have := h.ok.zero j hj
    simp only at hj
    simpa [List.getD, show ¬ i = j by omega] using this
  · have := h.blk.set (2 + i) (.int .u8 b)
    rwa [memL_setc h.ok i (by omega)] at this
theorem store_no (g : Nat) (M : MM) (a n x : Int) (w : World) (hM : MemAt w g M) (hh : hasM M a n = false) :
    Calls Try.prog 14 #[.pointer (some ⟨g, 0, none⟩), .int .i64 a, .int .i64 n, .int .u64 x] w fun e w' => e = .returned (.bool false) ∧ w = w' := by
  have hs := has_to g M a n w hM
  rw [hh] at hs
  clear hM hh
  go_enter Try.func14, Try.ntmps14
  go_wp2_with fail
  refine hs.mono ?_
  rintro e w' ⟨rfl, rfl⟩
  go_wp2_with fail
  go_ret
  exact ⟨rfl, rfl⟩
theorem store_to (g : Nat) (M : MM) (a n x : Nat) (w : World) (hM : MemAt w g M) (hn : n = 1 ∨ n = 4 ∨ n = 8) (ha : a + n ≤ 256 * M.p) (hx : x < 2 ^ 64) :
    Calls Try.prog 14 #[.pointer (some ⟨g, 0, none⟩), .int .i64 (a : Int), .int .i64 (n : Int), .int .u64 (x : Int)] w fun e w' => e = .returned (.bool true) ∧ MemAt w' g (storeM M a n x) ∧ Wr g w w' := by
  have hp := hM.ok.pl
  have hs := has_to g M a n w hM
  rw [show hasM M a n = true by unfold hasM; simp; omega] at hs
  have h1 := cut53 g (a : Int) a rfl (by omega)
  have h2 := fun w => run_cutS (P := Try.prog) 28 Try.underlying28 (s := 1) (fun _ => rfl) g (2 + a) (4096 - a) (4096 - a) .i64 (n : Int) n rfl (by omega) (by omega) w
  have HM := hid hM
  have HX := hid hx
  clear hM hx
  go_enter Try.func14, Try.ntmps14
  go_wp2_with fail
  refine hs.mono ?_
  rintro e w' ⟨rfl, rfl⟩
  clear hs
  go_wp2_with fail
  go_loopw [25] (fun i wr => ∃ k : Nat, k ≤ n ∧ i = .int .i64 k ∧ MemAt wr g { M with c := bytM M.c a x k } ∧ Wr g w wr) (fun i _ => n - (intOf i).toNat)
  case atStart => exact ⟨0, Nat.zero_le _, rfl, HM.out, Wr.refl _ _⟩
  case round =>
    obtain ⟨k, hk, rfl, hA, hW⟩ := hrel
    by_cases hlt : k < n
    · have hc := hA.cc (a + k) (by omega)
      have hf := hA.fr (2 + a + k)
      rw [show 2 + (a + k) = 2 + a + k by omega] at hc
      obtain ⟨b, hbe⟩ : ∃ b : Int, ({ M with c := bytM M.c a x k } : MM).c.getD (a + k) 0 = b := ⟨_, rfl⟩
      rw [hbe] at hc
      have HA := hid hA
      have HW := hid hW
      clear hbe hA hW
      go_wp2_with fail
      go_roundw
      case rel =>
        refine ⟨k + 1, by omega, by go_num, ?_, HW.out.set _ _⟩
        have h := HA.out.setc (a + k) (by simp only; omega) ((x : Int) / 2 ^ (8 * k) % 256) (by omega)
        rw [show 2 + (a + k) = 2 + a + k by omega] at h
        simp only [bytM]
        rw [pow256]
        simpa using h
      case measure => simp [intOf]; omega
    · obtain rfl : k = n := by omega
      have hc := hA.cd (a / 256) (by omega)
      have hf := hA.fr (4098 + a / 256)
      have hA2 := hA.setd (a / 256) true
      have hc2 := hA2.cd ((a + k - 1) / 256) (by omega)
      have hf2 := hA2.fr (4098 + (a + k - 1) / 256)
      have hA3 := hA2.setd ((a + k - 1) / 256) true
      have hW3 := (hW.set (4098 + a / 256) (.bool true)).set (4098 + (a + k - 1) / 256) (.bool true)
      obtain ⟨q, hq⟩ : ∃ q : Nat, a / 256 = q := ⟨_, rfl⟩
      obtain ⟨r, hr⟩ : ∃ q : Nat, (a + k - 1) / 256 = q := ⟨_, rfl⟩
      have HA3 := hid (And.intro hA3 hW3)
      have hS : storeM M a k x = { M with c := bytM M.c a x k, d := (M.d.set (a / 256) true).set ((a + k - 1) / 256) true } := rfl
      rw [hq, hr] at HA3 hS
      rw [hq] at hc hf hc2 hf2
      rw [hr] at hc2 hf2
      have eq : (a : Int) / 256 = q := by omega
      have er : ((a : Int) + k - 1) / 256 = r := by omega
      have HS := hid hS
      clear hq hr hA hW hA2 hA3 hW3 hS
      go_wp2_with fail
      go_ret
      rw [HS.out]
      exact ⟨rfl, HA3.out.1, HA3.out.2⟩
end Go.Proofs.Ytcbchhnbkgaboaa
