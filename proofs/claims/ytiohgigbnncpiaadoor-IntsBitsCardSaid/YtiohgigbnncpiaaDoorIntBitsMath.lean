/- Numbers of one bit, of two. -/
import Derived.Test.YtiohgigbnncpiaaDoorIntMasksLaw
import Derived.Test.YtiohgigbnncpiaaDoorIntPc
namespace Go.Proofs.YtiohgigbnncpiaaDoor
open Go.RowKit

theorem two_bits : ∀ p q : Fin 64, Lib.bitLen (2 ^ p.val ||| 2 ^ q.val) = max p.val q.val + 1 ∧ Lib.ctz 64 (2 ^ p.val ||| 2 ^ q.val) = min p.val q.val ∧ pc 64 (2 ^ p.val ||| 2 ^ q.val) = (if p.val = q.val then 1 else 2) := by decide +kernel
theorem nn_pow (p : Nat) (hp : p < 64) : nn (wrap64 (2 ^ p)) = 2 ^ p := by
  have h : 2 ^ p < 2 ^ 64 := Nat.pow_lt_pow_right (by decide) hp
  have e : (2 : Int) ^ p = ((2 ^ p : Nat) : Int) := by simp
  rw [show (2 : Nat) ^ 64 = 18446744073709551616 from by decide] at h
  rw [e]
  obtain ⟨z, hz⟩ : ∃ z, z = 2 ^ p := ⟨_, rfl⟩
  rw [← hz] at h ⊢
  unfold nn wrap64
  omega
theorem two_un (c : Int) (p q w : Nat) (hw : (c = 1 ∧ w = 32) ∨ (c = 2 ∧ w = 64)) (hp : p < w) (hq : q < w) : (un c (sg c (bits BinOp.or IntKind.i64 (wrap64 (2 ^ p)) (wrap64 (2 ^ q))))).toNat = 2 ^ p ||| 2 ^ q := by
  have l := bits_low (op := .or) (by simp) (wrap64 (2 ^ p)) (wrap64 (2 ^ q))
  rw [nn_pow p (by omega), nn_pow q (by omega)] at l
  simp only [bitsN] at l
  have lt : 2 ^ p ||| 2 ^ q < 2 ^ w := Nat.or_lt_two_pow (Nat.pow_lt_pow_right (by decide) hp) (Nat.pow_lt_pow_right (by decide) hq)
  obtain ⟨z, hz⟩ : ∃ z, z = 2 ^ p ||| 2 ^ q := ⟨_, rfl⟩
  rw [← hz] at l lt ⊢
  unfold nn at l
  unfold un sg
  rcases hw with ⟨rfl, rfl⟩ | ⟨rfl, rfl⟩
  · rw [show (2 : Nat) ^ 32 = 4294967296 from by decide] at lt
    simp only [if_true]
    omega
  · rw [show (2 : Nat) ^ 64 = 18446744073709551616 from by decide] at lt
    rw [if_neg (by decide), if_neg (by decide)]
    omega
end Go.Proofs.YtiohgigbnncpiaaDoor
