/- Plain mathematics of bits: how many of a number's bits are one, where the first and the last one stand. No program is named here. -/
import Derived.Lib.BitFns
import Derived.Lib.TrailingZeros
namespace Go.Proofs.YtiohgigbnncpiaaDoor
open Go

/-- How many of the lowest n bits are one. -/
abbrev pc (n x : Nat) : Nat := Lib.popAux n x

theorem pc_succ (n x : Nat) : pc (n + 1) x = x % 2 + pc n (x / 2) := rfl
theorem pc_add : ∀ (k m x : Nat), pc (k + m) x = pc k x + pc m (x / 2 ^ k) := by
  intro k
  induction k with
  | zero => intro m x; simp [pc, Lib.popAux]
  | succ k ih =>
    intro m x
    rw [show k + 1 + m = (k + m) + 1 by omega, pc_succ, pc_succ, ih, Nat.div_div_eq_div_mul, Nat.pow_succ, Nat.mul_comm 2]
    omega
theorem pc_mod : ∀ (k x : Nat), pc k (x % 2 ^ k) = pc k x := by
  intro k
  induction k with
  | zero => intro x; rfl
  | succ k ih =>
    intro x
    rw [pc_succ, pc_succ]
    have e1 : x % 2 ^ (k + 1) % 2 = x % 2 := by rw [Nat.pow_succ, Nat.mul_comm]; exact Nat.mod_mul_right_mod _ _ _
    have e2 : x % 2 ^ (k + 1) / 2 = (x / 2) % 2 ^ k := by rw [Nat.pow_succ, Nat.mul_comm]; exact Nat.mod_mul_right_div_self _ _ _
    rw [e1, e2, ih]
/-- One bit more. -/
theorem pc_snoc (i x : Nat) : pc (i + 1) x = pc i x + x / 2 ^ i % 2 := by
  rw [pc_add]
  simp [pc, Lib.popAux]
theorem pc_le : ∀ (n x : Nat), pc n x ≤ n := by
  intro n
  induction n with
  | zero => intro x; simp [pc, Lib.popAux]
  | succ n ih => intro x; have := ih (x / 2); rw [pc_succ]; omega
theorem pc_zero : ∀ (n : Nat), pc n 0 = 0 := by
  intro n
  induction n with
  | zero => rfl
  | succ n ih => rw [pc_succ]; simp [ih]
theorem pc_wide (k m x : Nat) (h : x < 2 ^ k) : pc (k + m) x = pc k x := by
  rw [pc_add, Nat.div_eq_of_lt h, pc_zero]; omega
/-- The contrary. -/
theorem pc_not : ∀ (n x : Nat), x < 2 ^ n → pc n x + pc n (2 ^ n - 1 - x) = n := by
  intro n
  induction n with
  | zero => intro x h; simp [pc, Lib.popAux]
  | succ n ih =>
    intro x h
    have hp : 2 ^ (n + 1) = 2 * 2 ^ n := by rw [Nat.pow_succ]; omega
    have h1 := ih (x / 2) (by omega)
    rw [pc_succ, pc_succ, show (2 ^ (n + 1) - 1 - x) / 2 = 2 ^ n - 1 - x / 2 by omega]
    omega

/-! ### The sum side by side -/
def rep (c : Nat) : Nat → Nat
  | 0 => 0
  | n + 1 => 256 * rep c n + c
def spread (f : Nat → Nat) : Nat → Nat → Nat
  | 0, _ => 0
  | n + 1, x => 256 * spread f n (x / 256) + f (x % 256)

theorem and_split (a b c d : Nat) (hc : c < 256) (hd : d < 256) : (256 * a + c) &&& (256 * b + d) = 256 * (a &&& b) + (c &&& d) := by
  have h1 : ((256 * a + c) &&& (256 * b + d)) / 256 = a &&& b := by
    have := @Nat.and_div_two_pow (256 * a + c) (256 * b + d) 8
    rw [show (2 : Nat) ^ 8 = 256 from by decide, show (256 * a + c) / 256 = a by omega, show (256 * b + d) / 256 = b by omega] at this
    exact this
  have h2 : ((256 * a + c) &&& (256 * b + d)) % 256 = c &&& d := by
    have := @Nat.and_mod_two_pow (256 * a + c) (256 * b + d) 8
    rw [show (2 : Nat) ^ 8 = 256 from by decide, show (256 * a + c) % 256 = c by omega, show (256 * b + d) % 256 = d by omega] at this
    exact this
  omega

def g1 (b : Nat) : Nat := (b / 2 &&& 85) + (b &&& 85)
def g2 (b : Nat) : Nat := (b / 4 &&& 51) + (b &&& 51)
def g3 (b : Nat) : Nat := (b / 16 + b) &&& 15

theorem low1 : ∀ (r : Fin 2) (b : Fin 256), (128 * r.val + b.val / 2) &&& 85 = b.val / 2 &&& 85 ∧ 128 * r.val + b.val / 2 < 256 := by decide +kernel
theorem low2 : ∀ (r : Fin 4) (b : Fin 256), (64 * r.val + b.val / 4) &&& 51 = b.val / 4 &&& 51 ∧ 64 * r.val + b.val / 4 < 256 := by decide +kernel
theorem g1_lt : ∀ b : Fin 256, g1 b.val < 256 := by decide +kernel
theorem g2_lt : ∀ b : Fin 256, g2 (g1 b.val) < 256 ∧ g2 (g1 b.val) % 16 ≤ 4 ∧ g2 (g1 b.val) / 16 ≤ 4 := by decide +kernel
theorem g3_eq : ∀ b : Fin 256, g3 (g2 (g1 b.val)) = pc 8 b.val := by decide +kernel
theorem low3 : ∀ (r : Fin 5) (b : Fin 256), g2 (g1 b.val) % 16 ≤ 4 → (16 * r.val + g2 (g1 b.val) / 16 + g2 (g1 b.val)) &&& 15 = g3 (g2 (g1 b.val)) ∧ 16 * r.val + g2 (g1 b.val) / 16 + g2 (g1 b.val) < 256 := by decide +kernel

theorem spread_step1 : ∀ (n x : Nat), x < 256 ^ n → (x / 2 &&& rep 85 n) + (x &&& rep 85 n) = spread g1 n x := by
  intro n
  induction n with
  | zero => intro x h; simp at h; subst h; simp [rep, spread]
  | succ n ih =>
    intro x h
    obtain ⟨q, hq⟩ : ∃ q, q = x / 256 := ⟨_, rfl⟩
    obtain ⟨b, hb⟩ : ∃ b, b = x % 256 := ⟨_, rfl⟩
    have hb' : b < 256 := by omega
    have hlt : q < 256 ^ n := by rw [Nat.pow_succ] at h; omega
    have l := low1 ⟨q % 2, by omega⟩ ⟨b, hb'⟩
    simp only at l
    have e1 : x / 2 = 256 * (q / 2) + (128 * (q % 2) + b / 2) := by omega
    have e2 : x = 256 * q + b := by omega
    have h1 : x / 2 &&& rep 85 (n + 1) = 256 * (q / 2 &&& rep 85 n) + (b / 2 &&& 85) := by
      rw [e1, rep, and_split _ _ _ _ l.2 (by decide), l.1]
    have h2 : x &&& rep 85 (n + 1) = 256 * (q &&& rep 85 n) + (b &&& 85) := by
      conv => lhs; rw [e2]
      rw [rep, and_split _ _ _ _ hb' (by decide)]
    rw [h1, h2, spread, ← hq, ← hb, ← ih q hlt, g1]
    omega

theorem spread_step2 : ∀ (n : Nat) (f : Nat → Nat) (x : Nat), (∀ b, b < 256 → f b < 256) → (spread f n x / 4 &&& rep 51 n) + (spread f n x &&& rep 51 n) = spread (fun b => g2 (f b)) n x := by
  intro n
  induction n with
  | zero => intro f x h; simp [rep, spread]
  | succ n ih =>
    intro f x h
    obtain ⟨q, hq⟩ : ∃ q, q = spread f n (x / 256) := ⟨_, rfl⟩
    obtain ⟨b, hb⟩ : ∃ b, b = f (x % 256) := ⟨_, rfl⟩
    have hb' : b < 256 := by rw [hb]; exact h _ (by omega)
    have l := low2 ⟨q % 4, by omega⟩ ⟨b, hb'⟩
    simp only at l
    have e2 : spread f (n + 1) x = 256 * q + b := by rw [spread, hq, hb]
    have e1 : spread f (n + 1) x / 4 = 256 * (q / 4) + (64 * (q % 4) + b / 4) := by omega
    have h1 : spread f (n + 1) x / 4 &&& rep 51 (n + 1) = 256 * (q / 4 &&& rep 51 n) + (b / 4 &&& 51) := by
      rw [e1, rep, and_split _ _ _ _ l.2 (by decide), l.1]
    have h2 : spread f (n + 1) x &&& rep 51 (n + 1) = 256 * (q &&& rep 51 n) + (b &&& 51) := by
      rw [e2, rep, and_split _ _ _ _ hb' (by decide)]
    have i := ih f (x / 256) h
    rw [← hq] at i
    rw [h1, h2, spread, ← i, ← hb, g2]
    omega

theorem spread_step3 : ∀ (n : Nat) (x : Nat), ((spread (fun b => g2 (g1 b)) n x / 16 + spread (fun b => g2 (g1 b)) n x) &&& rep 15 n) = spread (pc 8) n x ∧ spread (fun b => g2 (g1 b)) n x % 16 ≤ 4 := by
  intro n
  induction n with
  | zero => intro x; simp [rep, spread]
  | succ n ih =>
    intro x
    obtain ⟨q, hq⟩ : ∃ q, q = spread (fun b => g2 (g1 b)) n (x / 256) := ⟨_, rfl⟩
    obtain ⟨i1, i2⟩ := ih (x / 256)
    rw [← hq] at i1 i2
    have hx : x % 256 < 256 := by omega
    obtain ⟨d1, d2, d3⟩ := g2_lt ⟨x % 256, hx⟩
    have l := low3 ⟨q % 16, by omega⟩ ⟨x % 256, hx⟩ d2
    have g := g3_eq ⟨x % 256, hx⟩
    simp only at l g d1 d2 d3
    obtain ⟨d, hd⟩ : ∃ d, d = g2 (g1 (x % 256)) := ⟨_, rfl⟩
    rw [← hd] at l g d1 d2 d3
    have e2 : spread (fun b => g2 (g1 b)) (n + 1) x = 256 * q + d := by rw [spread, hq, hd]
    refine ⟨?_, by omega⟩
    rw [e2, show (256 * q + d) / 16 + (256 * q + d) = 256 * (q / 16 + q) + (16 * (q % 16) + d / 16 + d) by omega, rep, and_split _ _ _ _ l.2 (by decide), l.1, i1, g, spread]

theorem pc_bytes (x : Nat) : pc 64 x = pc 8 (x % 256) + pc 8 (x / 256 % 256) + pc 8 (x / 256 / 256 % 256) + pc 8 (x / 256 / 256 / 256 % 256) + pc 8 (x / 256 / 256 / 256 / 256 % 256) + pc 8 (x / 256 / 256 / 256 / 256 / 256 % 256) + pc 8 (x / 256 / 256 / 256 / 256 / 256 / 256 % 256) + pc 8 (x / 256 / 256 / 256 / 256 / 256 / 256 / 256 % 256) := by
  have m : ∀ y, pc 8 (y % 256) = pc 8 y := fun y => pc_mod 8 y
  have s : ∀ k y, pc (8 + k) y = pc 8 y + pc k (y / 256) := fun k y => pc_add 8 k y
  have t1 := s 56 x
  have t2 := s 48 (x / 256)
  have t3 := s 40 (x / 256 / 256)
  have t4 := s 32 (x / 256 / 256 / 256)
  have t5 := s 24 (x / 256 / 256 / 256 / 256)
  have t6 := s 16 (x / 256 / 256 / 256 / 256 / 256)
  have t7 := s 8 (x / 256 / 256 / 256 / 256 / 256 / 256)
  rw [m, m, m, m, m, m, m, m]
  simp only [Nat.reduceAdd] at t1 t2 t3 t4 t5 t6 t7
  rw [t1, t2, t3, t4, t5, t6, t7]
  omega

theorem sum_a (A c : Nat) (hc : c < 256) : (256 * A + c) / 256 = A := by omega
theorem sum_b (A c d : Nat) (h : 256 * c + d < 65536) : (256 * (256 * A + c) + d) / 65536 = A := by omega
theorem sum_c (A a b c d : Nat) (h : 256 * (256 * (256 * a + b) + c) + d < 4294967296) : (256 * (256 * (256 * (256 * A + a) + b) + c) + d) / 4294967296 = A := by omega
/-- The last three sums, and the lowest seven bits. -/
theorem last_sums (c0 c1 c2 c3 c4 c5 c6 c7 y y1 y2 y3 : Nat) (h0 : c0 ≤ 8) (h1 : c1 ≤ 8) (h2 : c2 ≤ 8) (h3 : c3 ≤ 8) (h4 : c4 ≤ 8) (h5 : c5 ≤ 8) (h6 : c6 ≤ 8) (h7 : c7 ≤ 8)
    (hy : y = 256 * (256 * (256 * (256 * (256 * (256 * (256 * c7 + c6) + c5) + c4) + c3) + c2) + c1) + c0)
    (e1 : y1 = y + y / 256) (e2 : y2 = y1 + y1 / 65536) (e3 : y3 = y2 + y2 / 4294967296) :
    y1 < 9223372036854775808 ∧ y2 < 9223372036854775808 ∧ y3 < 9223372036854775808 ∧ y3 % 128 = c0 + c1 + c2 + c3 + c4 + c5 + c6 + c7 := by
  have b : y1 = 256 * (256 * (256 * (256 * (256 * (256 * (256 * c7 + (c6 + c7)) + (c5 + c6)) + (c4 + c5)) + (c3 + c4)) + (c2 + c3)) + (c1 + c2)) + (c0 + c1) := by
    rw [e1, hy, sum_a _ _ (by omega)]; clear e1 e2 e3 hy; omega
  have d : y2 = 256 * (256 * (256 * (256 * (256 * (256 * (256 * c7 + (c6 + c7)) + (c5 + c6 + c7)) + (c4 + c5 + (c6 + c7))) + (c3 + c4 + (c5 + c6))) + (c2 + c3 + (c4 + c5))) + (c1 + c2 + (c3 + c4))) + (c0 + c1 + (c2 + c3)) := by
    rw [e2, b, sum_b _ _ _ (by omega)]; clear e1 e2 e3 hy b; omega
  have e : y3 = 256 * (256 * (256 * (256 * (256 * (256 * (256 * c7 + (c6 + c7)) + (c5 + c6 + c7)) + (c4 + c5 + (c6 + c7))) + (c3 + c4 + (c5 + c6) + c7)) + (c2 + c3 + (c4 + c5) + (c6 + c7))) + (c1 + c2 + (c3 + c4) + (c5 + c6 + c7))) + (c0 + c1 + (c2 + c3) + (c4 + c5 + (c6 + c7))) := by
    rw [e3, d, sum_c _ _ _ _ _ (by omega)]; clear e1 e2 e3 hy b d; omega
  refine ⟨by rw [b]; clear e1 e2 e3 hy b d e; omega, by rw [d]; clear e1 e2 e3 hy b d e; omega, by rw [e]; clear e1 e2 e3 hy b d e; omega, ?_⟩
  obtain ⟨A, hA⟩ : ∃ A, A = 256 * (256 * (256 * (256 * (256 * (256 * c7 + (c6 + c7)) + (c5 + c6 + c7)) + (c4 + c5 + (c6 + c7))) + (c3 + c4 + (c5 + c6) + c7)) + (c2 + c3 + (c4 + c5) + (c6 + c7))) + (c1 + c2 + (c3 + c4) + (c5 + c6 + c7)) := ⟨_, rfl⟩
  rw [e, ← hA]
  clear e1 e2 e3 hy b d e hA
  omega
end Go.Proofs.YtiohgigbnncpiaaDoor
