/- How many bits, how many ones: of one number together. -/
import Derived.Test.YtiohgigbnncpiaaDoorIntMath
import Derived.Test.YtiohgigbnncpiaaDoorBase
import Derived.Lib.ItoaNum
namespace Go.Proofs.YtiohgigbnncpiaaDoor
open Go Go.RowKit

theorem pc_len (n v : Nat) (h : v < 18446744073709551616) : pc n v ≤ Lib.bitLen v := by
  by_cases h0 : v = 0
  · subst h0; rw [pc_zero]; exact Nat.zero_le _
  · have b := Lib.bitLenAux_bounds 64 v (by rw [show (2 : Nat) ^ 64 = 18446744073709551616 from by decide]; exact h) h0
    have b3 : v < 2 ^ Lib.bitLen v := b.2.2
    by_cases hn : n ≤ Lib.bitLen v
    · exact Nat.le_trans (pc_le _ _) hn
    · have e := pc_wide (Lib.bitLen v) (n - Lib.bitLen v) v b3
      rw [show Lib.bitLen v + (n - Lib.bitLen v) = n by omega] at e
      rw [e]
      exact pc_le _ _
theorem pc_low (k m : Nat) : pc k (2 ^ k * m) = 0 := by
  rw [← pc_mod, Nat.mul_mod_right, pc_zero]
/-- Of a number that is not nought: its ones stand between its last one and its first one. -/
theorem ctz_pc_len (u : Nat) (h0 : u ≠ 0) (h : u < 18446744073709551616) : Lib.ctz 64 u + pc 64 u ≤ Lib.bitLen u ∧ Lib.ctz 64 u < Lib.bitLen u := by
  have h64 : u < 2 ^ 64 := by rw [show (2 : Nat) ^ 64 = 18446744073709551616 from by decide]; exact h
  obtain ⟨m, hm, hk⟩ := Lib.ctzFrom_spec 64 u (by omega) h64
  have e : Lib.ctz 64 u = Lib.ctzFrom 64 u := by unfold Lib.ctz; rw [if_neg h0]
  rw [e]
  obtain ⟨k, hkk⟩ : ∃ k, k = Lib.ctzFrom 64 u := ⟨_, rfl⟩
  rw [← hkk] at hm hk ⊢
  have hp : 1 ≤ 2 ^ k := Nat.one_le_two_pow
  have hle : 2 ^ k ≤ u := by rw [hm]; exact Nat.le_mul_of_pos_right _ (by omega)
  have hdiv : u / 2 ^ k = 2 * m + 1 := by rw [hm]; exact Nat.mul_div_cancel_left _ (by omega)
  have hl := Lib.bitLen_shift k u hle h64
  rw [hdiv] at hl
  have hv : 2 * m + 1 < 18446744073709551616 := by
    have : u / 2 ^ k ≤ u := Nat.div_le_self _ _
    omega
  have hpc : pc 64 u = pc (64 - k) (2 * m + 1) := by
    rw [show 64 = k + (64 - k) by omega, pc_add, hdiv]
    rw [hm, pc_low]
    have : k + (64 - k) - k = 64 - k := by omega
    rw [this]
    omega
  have hq := pc_len (64 - k) (2 * m + 1) hv
  have hb := Lib.bitLenAux_bounds 64 (2 * m + 1) (by rw [show (2 : Nat) ^ 64 = 18446744073709551616 from by decide]; exact hv) (by omega)
  have hb1 : 1 ≤ Lib.bitLen (2 * m + 1) := hb.1
  omega
end Go.Proofs.YtiohgigbnncpiaaDoor
