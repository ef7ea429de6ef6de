/- Sums and quotients, there and back. -/
import Derived.Test.YtiohgigbnncpiaaDoorIntLaw
namespace Go.Proofs.YtiohgigbnncpiaaDoor
open Go.RowKit

theorem sg_cong (c a : Int) : (c = 1 → sg c a % 4294967296 = a % 4294967296) ∧ (c ≠ 1 → sg c a % 18446744073709551616 = a % 18446744073709551616) := by
  unfold sg
  constructor
  · intro h; rw [if_pos h]; omega
  · intro h; rw [if_neg h]; omega
theorem sub_back (c x y S : Int) (ix : sg c x = x) (hS : sg c (wrap64 (x + y)) = S) : sg c (wrap64 (S - y)) = x := by
  rw [sg_wrap64, ← hS, sg_wrap64]
  have h := sg_cong c (x + y)
  have e := sg_mod c (sg c (x + y) - y) x ⟨fun hc => by have := h.1 hc; omega, fun hc => by have := h.2 hc; omega⟩
  rw [e]
  exact ix
theorem quot_back (c x y Q0 R0 Q M P : Int) (h : sg c (Q0 * y + R0) = x) (hQ : sg c Q0 = Q) (hM : sg c R0 = M) (hP : sg c (wrap64 (Q * y)) = P) : sg c (wrap64 (P + M)) = x := by
  rw [sg_wrap64, ← hP, sg_wrap64, ← hM, ← hQ, ← h]
  have e1 : sg c (sg c Q0 * y) = sg c (Q0 * y) := sg_mul c _ _ _ _ (sg_cong c Q0) ⟨fun _ => rfl, fun _ => rfl⟩
  rw [e1]
  have k1 := sg_cong c (Q0 * y)
  have k2 := sg_cong c R0
  exact sg_mod c _ _ ⟨fun hc => by have := k1.1 hc; have := k2.1 hc; omega, fun hc => by have := k1.2 hc; have := k2.2 hc; omega⟩
theorem uquot (c x y : Int) : sg c (un c x / un c y * y + un c x % un c y) = sg c x := by
  have e1 : sg c (un c x / un c y * y) = sg c (un c x / un c y * un c y) := sg_mul c _ _ _ _ ⟨fun _ => rfl, fun _ => rfl⟩ ⟨fun hc => ((un_mod c y).1 hc).symm, fun hc => ((un_mod c y).2 hc).symm⟩
  have k1 := sg_cong c (un c x / un c y * y)
  have k2 := sg_cong c (un c x / un c y * un c y)
  have k3 := Int.mul_ediv_add_emod (un c x) (un c y)
  rw [Int.mul_comm] at k3
  have k4 := un_mod c x
  obtain ⟨p, hp⟩ : ∃ p, p = un c x / un c y * y := ⟨_, rfl⟩
  obtain ⟨q, hq⟩ : ∃ p, p = un c x / un c y * un c y := ⟨_, rfl⟩
  rw [← hp] at e1 k1 ⊢
  rw [← hq] at e1 k2 k3
  rw [e1] at k1
  exact sg_mod c _ _ ⟨fun hc => by have := k1.1 hc; have := k2.1 hc; have := k4.1 hc; omega, fun hc => by have := k1.2 hc; have := k2.2 hc; have := k4.2 hc; omega⟩

/-- Turned there and back. -/
theorem rot_nat (f s X X2 : Nat) (hs : s < f) (hX : X < 2 ^ f) (h2 : X2 = (X * 2 ^ s) % 2 ^ f ||| X / 2 ^ (f - s)) : (X2 / 2 ^ s ||| (X2 * 2 ^ (f - s)) % 2 ^ f) = X ∧ X2 < 2 ^ f := by
  have hf : 2 ^ (f - s) * 2 ^ s = 2 ^ f := by rw [← Nat.pow_add]; congr 1; omega
  have p1 : 0 < 2 ^ s := Nat.two_pow_pos s
  have p2 : 0 < 2 ^ (f - s) := Nat.two_pow_pos _
  obtain ⟨q, hq⟩ : ∃ q, q = X / 2 ^ (f - s) := ⟨_, rfl⟩
  obtain ⟨r, hr⟩ : ∃ r, r = X % 2 ^ (f - s) := ⟨_, rfl⟩
  have hXe : X = 2 ^ (f - s) * q + r := by rw [hq, hr]; exact (Nat.div_add_mod X _).symm
  have hr1 : r < 2 ^ (f - s) := by rw [hr]; exact Nat.mod_lt _ p2
  have hq1 : q < 2 ^ s := by
    rw [hq]
    exact Nat.div_lt_of_lt_mul (by rw [hf]; exact hX)
  have m1 : (X * 2 ^ s) % 2 ^ f = 2 ^ s * r := by
    have e : X * 2 ^ s = 2 ^ s * r + 2 ^ f * q := by
      conv => lhs; rw [hXe, Nat.add_mul, Nat.mul_right_comm, hf]
      rw [Nat.mul_comm r, Nat.add_comm]
    rw [e, Nat.add_mul_mod_self_left]
    exact Nat.mod_eq_of_lt (by rw [← hf, Nat.mul_comm (2 ^ (f - s))]; exact Nat.mul_lt_mul_of_pos_left hr1 p1)
  have x2 : X2 = 2 ^ s * r + q := by
    rw [h2, m1, ← hq]
    exact (Nat.two_pow_add_eq_or_of_lt hq1 r).symm
  have lt2 : X2 < 2 ^ f := by
    rw [x2]
    have : 2 ^ s * r + 2 ^ s ≤ 2 ^ f := by
      rw [← hf, Nat.mul_comm (2 ^ (f - s)), ← Nat.mul_succ]
      exact Nat.mul_le_mul_left _ hr1
    omega
  refine ⟨?_, lt2⟩
  have d : X2 / 2 ^ s = r := by
    rw [x2, Nat.mul_add_div p1, Nat.div_eq_of_lt hq1, Nat.add_zero]
  have m2 : (X2 * 2 ^ (f - s)) % 2 ^ f = 2 ^ (f - s) * q := by
    have e : X2 * 2 ^ (f - s) = 2 ^ (f - s) * q + 2 ^ f * r := by
      rw [x2, Nat.add_mul, Nat.mul_right_comm, Nat.mul_comm (2 ^ s), hf, Nat.mul_comm q, Nat.add_comm]
    rw [e, Nat.add_mul_mod_self_left]
    exact Nat.mod_eq_of_lt (by omega)
  rw [d, m2, Nat.or_comm, ← Nat.two_pow_add_eq_or_of_lt hr1, ← hXe]

theorem or_u64 (A B : Nat) : bits BinOp.or IntKind.u64 (A : Int) (B : Int) = (((A % 18446744073709551616) ||| (B % 18446744073709551616) : Nat) : Int) % 18446744073709551616 := by
  rw [bits_nat (by simp) .u64 rfl, IntKind.wrap_u64]
  congr 3
theorem calc_rotl (n m x f s : Int) : calcS 119 n m x f s = wrap64 (bits BinOp.or IntKind.u64 (IntKind.u64.wrap (x * 2 ^ s.toNat)) (x / 2 ^ (f - s).toNat)) := by
  unfold calcS
  iterate 9 rw [if_neg (by decide)]
  rw [if_pos rfl]
theorem calc_rotr (n m x f s : Int) : calcS 120 n m x f s = wrap64 (bits BinOp.or IntKind.u64 (x / 2 ^ s.toNat) (IntKind.u64.wrap (x * 2 ^ (f - s).toNat))) := by
  unfold calcS
  iterate 10 rw [if_neg (by decide)]
theorem mul_nat (X s : Nat) : IntKind.u64.wrap ((X : Int) * 2 ^ s) = ((X * 2 ^ s % 18446744073709551616 : Nat) : Int) := by
  rw [IntKind.wrap_u64, show (2 : Int) ^ s = ((2 ^ s : Nat) : Int) by simp, ← Int.natCast_mul]
  rfl
theorem div_nat (X s : Nat) : (X : Int) / 2 ^ s = ((X / 2 ^ s : Nat) : Int) := by
  rw [show (2 : Int) ^ s = ((2 ^ s : Nat) : Int) by simp]
  rfl
theorem rotl_nat (n m X : Int) (x f s : Nat) (hX : X = x) (hs : s ≤ f) : calcS 119 n m X f s = wrap64 ((((x * 2 ^ s % 18446744073709551616 % 18446744073709551616) ||| (x / 2 ^ (f - s) % 18446744073709551616) : Nat) : Int) % 18446744073709551616) := by
  rw [calc_rotl, hX, Int.toNat_natCast, show ((f : Int) - (s : Int)).toNat = f - s by omega, mul_nat, div_nat, or_u64]
theorem rotr_nat (n m X : Int) (x f s : Nat) (hX : X = x) (hs : s ≤ f) : calcS 120 n m X f s = wrap64 ((((x / 2 ^ s % 18446744073709551616) ||| (x * 2 ^ (f - s) % 18446744073709551616 % 18446744073709551616) : Nat) : Int) % 18446744073709551616) := by
  rw [calc_rotr, hX, Int.toNat_natCast, show ((f : Int) - (s : Int)).toNat = f - s by omega, mul_nat, div_nat, or_u64]
theorem un_low (c : Int) (F : Nat) (hf : (c = 1 ∧ F = 32) ∨ (c = 2 ∧ F = 64)) (Z : Nat) : (un c (sg c ((Z : Int) % 18446744073709551616))).toNat = Z % 2 ^ F := by
  unfold un sg
  rcases hf with ⟨rfl, rfl⟩ | ⟨rfl, rfl⟩
  · simp only [if_true]
    rw [show (2 : Nat) ^ 32 = 4294967296 from by decide]
    omega
  · rw [if_neg (by decide), if_neg (by decide)]
    rw [show (2 : Nat) ^ 64 = 18446744073709551616 from by decide]
    omega
theorem un_lt (c n : Int) (F : Nat) (hf : (c = 1 ∧ F = 32) ∨ (c = 2 ∧ F = 64)) : (un c n).toNat < 2 ^ F := by
  unfold un
  rcases hf with ⟨rfl, rfl⟩ | ⟨rfl, rfl⟩
  · simp only [if_true]
    rw [show (2 : Nat) ^ 32 = 4294967296 from by decide]
    omega
  · rw [if_neg (by decide)]
    rw [show (2 : Nat) ^ 64 = 18446744073709551616 from by decide]
    omega
theorem mod_mod_pow (F : Nat) (h : F ≤ 64) (z : Nat) : z % 18446744073709551616 % 2 ^ F = z % 2 ^ F := by
  rw [show (18446744073709551616 : Nat) = 2 ^ 64 from by decide]
  exact Nat.mod_mod_of_dvd z (Nat.pow_dvd_pow 2 h)
theorem rot_back_nat (c x y L : Int) (F s : Nat) (hf : (c = 1 ∧ F = 32) ∨ (c = 2 ∧ F = 64)) (hsF : s < F) (ix : sg c x = x) (hL : sg c (calcS 119 x y (un c x) F s) = L) : sg c (calcS 120 L y (un c L) F s) = x := by
  have hF64 : F ≤ 64 := by omega
  have mm := mod_mod_pow F hF64
  obtain ⟨X, hX⟩ : ∃ X : Nat, X = (un c x).toNat := ⟨_, rfl⟩
  obtain ⟨X2, hX2⟩ : ∃ X : Nat, X = (un c L).toNat := ⟨_, rfl⟩
  have hXF : X < 2 ^ F := by rw [hX]; exact un_lt c x F hf
  have eX : un c x = (X : Int) := by have := un_in c x; omega
  have eX2 : un c L = (X2 : Int) := by have := un_in c L; omega
  rw [rotl_nat x y _ X F s eX (Nat.le_of_lt hsF), sg_wrap64] at hL
  rw [rotr_nat L y _ X2 F s eX2 (Nat.le_of_lt hsF), sg_wrap64]
  have hx2 : X2 = (X * 2 ^ s) % 2 ^ F ||| X / 2 ^ (F - s) := by
    rw [hX2, ← hL, un_low c F hf, Nat.or_mod_two_pow, mm, mm, mm, Nat.mod_eq_of_lt (a := X / 2 ^ (F - s)) (Nat.lt_of_le_of_lt (Nat.div_le_self _ _) hXF)]
  obtain ⟨r1, r2⟩ := rot_nat F s X X2 hsF hXF hx2
  obtain ⟨Z, hZ⟩ : ∃ Z : Nat, Z = (X2 / 2 ^ s % 18446744073709551616 ||| X2 * 2 ^ (F - s) % 18446744073709551616 % 18446744073709551616) := ⟨_, rfl⟩
  rw [← hZ]
  have h3 : Z % 2 ^ F = X := by
    rw [hZ, Nat.or_mod_two_pow, mm, mm, mm, Nat.mod_eq_of_lt (a := X2 / 2 ^ s) (Nat.lt_of_le_of_lt (Nat.div_le_self _ _) r2)]
    exact r1
  have h2 := un_low c F hf Z
  rw [h3] at h2
  clear hZ h3 hx2 r1 r2 hL eX2 hX2 mm
  have u1 := un_in c (sg c ((Z : Int) % 18446744073709551616))
  obtain ⟨z, hz⟩ : ∃ z, z = (Z : Int) % 18446744073709551616 := ⟨_, rfl⟩
  rw [← hz] at h2 u1 ⊢
  have e : un c (sg c z) = un c x := by rw [eX]; omega
  have q1 : sg c z = sg c (sg c z) := sg_mod c _ _ ⟨fun hc => ((sg_cong c z).1 hc).symm, fun hc => ((sg_cong c z).2 hc).symm⟩
  rw [q1, ← sg_un c (sg c z), e, sg_un]
  exact ix
theorem rot_back (c x y L : Int) (f : Int) (hf : (c = 1 ∧ f = 32) ∨ (c = 2 ∧ f = 64)) (ix : sg c x = x) (hL : sg c (calcS 119 x y (un c x) f (un c y % f)) = L) : sg c (calcS 120 L y (un c L) f (un c y % f)) = x := by
  have f0 : 0 < f := by omega
  have s0 := Int.emod_nonneg (un c y) (show f ≠ 0 by omega)
  have s1 := Int.emod_lt_of_pos (un c y) f0
  obtain ⟨s, hs⟩ : ∃ s : Nat, un c y % f = (s : Int) := ⟨(un c y % f).toNat, by omega⟩
  obtain ⟨F, hF⟩ : ∃ F : Nat, f = (F : Int) := ⟨f.toNat, by omega⟩
  rw [hs] at hL s0 s1 ⊢
  rw [hF] at hL ⊢
  exact rot_back_nat c x y L F s (by omega) (by omega) ix hL
end Go.Proofs.YtiohgigbnncpiaaDoor
