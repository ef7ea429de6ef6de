/- Whole numbers as float64: the words of whole numbers below 2^53, and that sum, difference, product, order and the way back are exact on them. No program is named here. -/
import Derived.WalkLawsBesides
import Derived.WalkKit
namespace Go.Proofs.Ytepdamfnmlfloaa
open Ieee

/-- The words of the whole number x; z is the sign of nought. -/
def fw (z : Bool) (x : Int) : Nat := Ieee.double.nearest (if x = 0 then z else decide (x < 0)) x.natAbs 0

theorem double_leastPlace : Ieee.double.leastPlace = -1074 := by decide
theorem double_binade : Ieee.double.binade = 2 ^ 52 := by decide
theorem double_infRung : Ieee.double.infRung = 2047 * 2 ^ 52 := by decide
theorem double_signWeight : Ieee.double.signWeight = 2 ^ 63 := by decide

theorem cut_exact (way : Toward) (neg : Bool) (n d : Nat) (h : d ≤ n.log2 + 2) (hd : 2 ^ d ∣ n) : way.cut neg n d = n / 2 ^ d := by
  obtain ⟨q, rfl⟩ := hd
  unfold Toward.cut
  have h0 : 0 < 2 ^ d := Nat.two_pow_pos d
  simp only [Nat.min_eq_left h, Nat.one_shiftLeft, Nat.mul_mod_right, Nat.mul_div_cancel_left _ h0, Nat.mul_zero]
  have h1 : ¬ 2 ^ d < 0 := by omega
  have h2 : (2 ^ d == 0) = false := by simp
  cases way <;> simp

theorem log2_shift (n k : Nat) (h : n ≠ 0) : (n * 2 ^ k).log2 = n.log2 + k := by
  rw [Nat.log2_eq_iff (by have := Nat.two_pow_pos k; exact Nat.mul_ne_zero h (by omega))]
  have h1 := Nat.log2_self_le h
  have h2 := @Nat.lt_log2_self n
  constructor
  · rw [Nat.pow_add]; exact Nat.mul_le_mul_right _ h1
  · rw [show n.log2 + k + 1 = (n.log2 + 1) + k by omega, Nat.pow_add]; exact (Nat.mul_lt_mul_right (Nat.two_pow_pos k)).2 h2

/-- A whole number N, written 'mag * 2 ^ place' in any way: its word. -/
theorem nearest_of (neg : Bool) (mag : Nat) (place : Int) (N : Nat) (hN : N ≠ 0) (hlt : N < 2 ^ 53) (hrep : (0 ≤ place ∧ N = mag * 2 ^ place.toNat) ∨ (place < 0 ∧ mag = N * 2 ^ (-place).toNat)) :
    Ieee.double.nearest neg mag place = Ieee.double.word neg ((N.log2 + 1022) * 2 ^ 52 + N * 2 ^ (52 - N.log2)) ∧ 2 ^ 52 ≤ N * 2 ^ (52 - N.log2) ∧ N * 2 ^ (52 - N.log2) < 2 ^ 53 ∧ N.log2 ≤ 52 := by
  have hl : N.log2 ≤ 52 := by have := (Nat.log2_lt hN).2 hlt; omega
  have hb1 : 2 ^ 52 ≤ N * 2 ^ (52 - N.log2) := by
    have h1 := Nat.log2_self_le hN
    calc 2 ^ 52 = 2 ^ N.log2 * 2 ^ (52 - N.log2) := by rw [← Nat.pow_add]; congr 1; omega
      _ ≤ _ := Nat.mul_le_mul_right _ h1
  have hb2 : N * 2 ^ (52 - N.log2) < 2 ^ 53 := by
    have h2 := @Nat.lt_log2_self N
    calc N * 2 ^ (52 - N.log2) < 2 ^ (N.log2 + 1) * 2 ^ (52 - N.log2) := (Nat.mul_lt_mul_right (Nat.two_pow_pos _)).2 h2
      _ = 2 ^ 53 := by rw [← Nat.pow_add]; congr 1; omega
  refine ⟨?_, hb1, hb2, hl⟩
  have hm0 : mag ≠ 0 := by
    rcases hrep with ⟨_, h⟩ | ⟨_, h⟩
    · intro e; subst e; simp at h; exact hN h
    · rw [h]; exact Nat.mul_ne_zero hN (by have := Nat.two_pow_pos (-place).toNat; omega)
  have hlog : place + mag.log2 = N.log2 := by
    rcases hrep with ⟨hp, h⟩ | ⟨hp, h⟩
    · rw [h, log2_shift _ _ hm0]; omega
    · rw [h, log2_shift _ _ hN]; omega
  have hkept : Toward.even.cut neg (mag <<< (place - ((N.log2 : Int) - 52)).toNat) (((N.log2 : Int) - 52) - place).toNat = N * 2 ^ (52 - N.log2) := by
    rw [Nat.shiftLeft_eq]
    generalize N.log2 = L at hl hlog ⊢
    by_cases hpl : (L : Int) - 52 ≤ place
    · have e0 : (((L : Int) - 52) - place).toNat = 0 := by omega
      rw [e0, cut_exact _ _ _ 0 (by omega) (by simp)]
      simp only [Nat.pow_zero, Nat.div_one]
      rcases hrep with ⟨hp, h⟩ | ⟨hp, h⟩
      · rw [h, Nat.mul_assoc, ← Nat.pow_add]
        rw [show place.toNat + (52 - L) = (place - ((L : Int) - 52)).toNat by omega]
      · rw [h, Nat.mul_assoc, ← Nat.pow_add]
        rw [show (-place).toNat + (place - ((L : Int) - 52)).toNat = 52 - L by omega]
    · have e0 : (place - ((L : Int) - 52)).toNat = 0 := by omega
      rcases hrep with ⟨hp, h⟩ | ⟨hp, h⟩
      · omega
      · have e1 : mag = N * 2 ^ (52 - L) * 2 ^ (((L : Int) - 52) - place).toNat := by
          rw [h, Nat.mul_assoc, ← Nat.pow_add]; congr 2; omega
        rw [e0, Nat.pow_zero, Nat.mul_one, cut_exact _ _ _ _ (by omega) ⟨N * 2 ^ (52 - L), by rw [Nat.mul_comm]; exact e1⟩]
        rw [e1, Nat.mul_div_cancel _ (Nat.two_pow_pos _)]
  unfold Format.nearest
  rw [if_neg hm0]
  have hlast : max (place + mag.log2 - (Ieee.double.fractionBits : Int)) Ieee.double.leastPlace = (N.log2 : Int) - 52 := by
    rw [hlog, double_leastPlace]
    show max ((N.log2 : Int) - 52) (-1074) = _
    omega
  dsimp only
  rw [hlast, hkept, double_leastPlace, double_binade, double_infRung]
  congr 1
  have e3 : ((N.log2 : Int) - 52 - -1074).toNat = N.log2 + 1022 := by omega
  rw [e3]
  have hle : (N.log2 + 1022) * 2 ^ 52 + N * 2 ^ (52 - N.log2) ≤ 2047 * 2 ^ 52 := by
    generalize N * 2 ^ (52 - N.log2) = K at hb2 ⊢
    omega
  rw [Nat.min_eq_left hle]

theorem nearest_zero (neg : Bool) (place : Int) : Ieee.double.nearest neg 0 place = Ieee.double.word neg 0 := by simp [Format.nearest]

theorem read_word (neg : Bool) (rung : Nat) (h : rung < 2 ^ 63) : Ieee.double.read (Ieee.double.word neg rung) =
    if rung < 2 ^ 52 then .number neg rung (-1074)
    else if rung < 2047 * 2 ^ 52 then .number neg (2 ^ 52 + rung % 2 ^ 52) (-1074 + (rung / 2 ^ 52 - 1 : Nat))
    else if rung = 2047 * 2 ^ 52 then .infinity neg else .nan neg (rung - 2047 * 2 ^ 52) := by
  unfold Format.read
  have hn : (Ieee.double.word neg rung / Ieee.double.signWeight % 2 == 1) = neg := by
    rw [double_signWeight]
    unfold Format.word
    rw [double_signWeight]
    cases neg
    · simp [Nat.div_eq_of_lt h]
    · simp
      omega
  have hr : Ieee.double.word neg rung % Ieee.double.signWeight = rung := by
    rw [double_signWeight]
    unfold Format.word
    rw [double_signWeight]
    cases neg
    · simp [Nat.mod_eq_of_lt h]
    · simp [Nat.mod_eq_of_lt h]
  simp only [hn, hr, double_leastPlace, double_binade, double_infRung]

/-- What the word of a whole number is read as. -/
def fdat (z : Bool) (x : Int) : Datum := if x = 0 then .number z 0 (-1074) else .number (decide (x < 0)) (x.natAbs * 2 ^ (52 - x.natAbs.log2)) ((x.natAbs.log2 : Int) - 52)

theorem read_fw (z : Bool) (x : Int) (h : x.natAbs < 2 ^ 53) : Ieee.double.read (fw z x) = fdat z x := by
  unfold fw fdat
  by_cases h0 : x = 0
  · subst h0
    rw [if_pos rfl, if_pos rfl]
    rw [show Int.natAbs 0 = 0 from rfl, nearest_zero, read_word _ _ (by decide)]
    rfl
  · rw [if_neg h0, if_neg h0]
    have hn0 : x.natAbs ≠ 0 := by omega
    obtain ⟨e, hb1, hb2, hl⟩ := nearest_of (decide (x < 0)) x.natAbs 0 x.natAbs hn0 h (.inl ⟨by omega, by simp⟩)
    rw [e]
    generalize x.natAbs.log2 = L at *
    generalize x.natAbs * 2 ^ (52 - L) = K at *
    rw [read_word _ _ (by omega), if_neg (by omega), if_pos (by omega)]
    congr 1
    · omega
    · omega

theorem fw_write (neg z : Bool) (mag : Nat) (place : Int) (x : Int) (h : x.natAbs < 2 ^ 53) (hrep : (0 ≤ place ∧ x.natAbs = mag * 2 ^ place.toNat) ∨ (place < 0 ∧ mag = x.natAbs * 2 ^ (-place).toNat)) (hs : neg = if x = 0 then z else decide (x < 0)) :
    Ieee.double.write (.number neg mag place) = fw z x := by
  unfold Format.write fw
  subst hs
  dsimp only
  by_cases h0 : x = 0
  · subst h0
    have hm : mag = 0 := by
      rcases hrep with ⟨_, hh⟩ | ⟨_, hh⟩
      · have := Nat.two_pow_pos place.toNat
        have h1 := hh.symm
        simp only [Int.natAbs_zero] at h1
        rcases Nat.mul_eq_zero.1 h1 with h2 | h2
        · exact h2
        · omega
      · simpa using hh
    subst hm
    rw [show Int.natAbs 0 = 0 from rfl, nearest_zero, nearest_zero]
  · have hn0 : x.natAbs ≠ 0 := by omega
    rw [(nearest_of _ mag place x.natAbs hn0 h hrep).1, (nearest_of _ x.natAbs 0 x.natAbs hn0 h (.inl ⟨by omega, by simp⟩)).1]

theorem fdat_parts (z : Bool) (x : Int) (h : x.natAbs < 2 ^ 53) : ∃ s p, fdat z x = .number s (x.natAbs * 2 ^ (-p).toNat) p ∧ p ≤ 0 ∧ s = (if x = 0 then z else decide (x < 0)) := by
  unfold fdat
  by_cases h0 : x = 0
  · subst h0
    exact ⟨z, -1074, by rw [if_pos rfl, Int.natAbs_zero, Nat.zero_mul], by omega, by rw [if_pos rfl]⟩
  · have hl : x.natAbs.log2 ≤ 52 := by have := (Nat.log2_lt (show x.natAbs ≠ 0 by omega)).2 h; omega
    refine ⟨decide (x < 0), (x.natAbs.log2 : Int) - 52, ?_, by omega, by rw [if_neg h0]⟩
    rw [if_neg h0]
    congr 3
    omega

theorem signed_parts (z s : Bool) (x p base : Int) (hs : s = (if x = 0 then z else decide (x < 0))) (hp : p ≤ 0) (hb : base ≤ p) :
    signed s (x.natAbs * 2 ^ (-p).toNat) (p - base).toNat = x * 2 ^ (-base).toNat := by
  unfold signed
  rw [Nat.shiftLeft_eq, Nat.mul_assoc, ← Nat.pow_add, show (-p).toNat + (p - base).toNat = (-base).toNat by omega]
  rw [show ((x.natAbs * 2 ^ (-base).toNat : Nat) : Int) = (x.natAbs : Int) * 2 ^ (-base).toNat by simp]
  by_cases h0 : x = 0
  · subst h0
    simp
  · rw [if_neg h0] at hs
    subst hs
    by_cases hx : x < 0
    · simp only [hx, decide_true, if_true]
      rw [← Int.neg_mul, show -(x.natAbs : Int) = x by omega]
    · simp only [hx, decide_false]
      rw [show (x.natAbs : Int) = x by omega]
      rfl

theorem pow_pos_int (k : Nat) : (0 : Int) < 2 ^ k := Int.pow_pos (by decide)

theorem natAbs_pow (x : Int) (k : Nat) : (x * 2 ^ k).natAbs = x.natAbs * 2 ^ k := by
  rw [Int.natAbs_mul, Int.natAbs_pow]; rfl

theorem opposite_fdat (z : Bool) (x : Int) : (fdat z x).opposite = fdat (!z) (-x) := by
  unfold fdat
  by_cases h0 : x = 0
  · subst h0
    rfl
  · rw [if_neg h0, if_neg (by omega), Int.natAbs_neg]
    unfold Datum.opposite
    congr 1
    by_cases hx : x < 0 <;> simp [hx] <;> omega

theorem sum_fdat (z z' : Bool) (x y : Int) (hx : x.natAbs < 2 ^ 53) (hy : y.natAbs < 2 ^ 53) (hxy : (x + y).natAbs < 2 ^ 53) :
    ∃ z'', ((fdat z x).sum (fdat z' y)).map Ieee.double.write = some (fw z'' (x + y)) := by
  obtain ⟨s, i, e1, hi, hs⟩ := fdat_parts z x hx
  obtain ⟨t, j, e2, hj, ht⟩ := fdat_parts z' y hy
  rw [e1, e2]
  refine ⟨s && t, ?_⟩
  show some (Ieee.double.write _) = _
  congr 1
  have hb : min i j ≤ 0 := by omega
  have h1 := signed_parts z s x i (min i j) hs hi (by omega)
  have h2 := signed_parts z' t y j (min i j) ht hj (by omega)
  rw [h1, h2, ← Int.add_mul]
  have hpos := pow_pos_int (-min i j).toNat
  refine fw_write _ (s && t) _ _ (x + y) hxy ?_ ?_
  · rw [natAbs_pow]
    rcases (show min i j = 0 ∨ min i j < 0 by omega) with h | h
    · exact .inl ⟨by omega, by rw [h]; simp⟩
    · exact .inr ⟨h, rfl⟩
  · by_cases h0 : x + y = 0
    · rw [h0]; simp
    · rw [if_neg h0, if_neg (Int.mul_ne_zero h0 (by omega))]
      by_cases hn : x + y < 0
      · simp [hn, Int.mul_neg_of_neg_of_pos hn hpos]
      · have : 0 ≤ (x + y) * 2 ^ (-min i j).toNat := Int.mul_nonneg (by omega) (by omega)
        simp [hn]; omega

theorem add_fw (z z' : Bool) (x y : Int) (hx : x.natAbs < 2 ^ 53) (hy : y.natAbs < 2 ^ 53) (hxy : (x + y).natAbs < 2 ^ 53) :
    ∃ z'', floatBits .add .f64 (fw z x) (fw z' y) = some (fw z'' (x + y)) := by
  show ∃ z'', Ieee.double.add (fw z x) (fw z' y) = some (fw z'' (x + y))
  unfold Format.add
  rw [read_fw z x hx, read_fw z' y hy]
  exact sum_fdat z z' x y hx hy hxy

theorem sub_fw (z z' : Bool) (x y : Int) (hx : x.natAbs < 2 ^ 53) (hy : y.natAbs < 2 ^ 53) (hxy : (x - y).natAbs < 2 ^ 53) :
    ∃ z'', floatBits .sub .f64 (fw z x) (fw z' y) = some (fw z'' (x - y)) := by
  show ∃ z'', Ieee.double.sub (fw z x) (fw z' y) = some (fw z'' (x - y))
  unfold Format.sub
  rw [read_fw z x hx, read_fw z' y hy, opposite_fdat, Int.sub_eq_add_neg]
  exact sum_fdat z (!z') x (-y) hx (by omega) (by omega)

theorem mul_fw (z z' : Bool) (x y : Int) (hx : x.natAbs < 2 ^ 53) (hy : y.natAbs < 2 ^ 53) (hxy : (x * y).natAbs < 2 ^ 53) :
    ∃ z'', floatBits .mul .f64 (fw z x) (fw z' y) = some (fw z'' (x * y)) := by
  show ∃ z'', Ieee.double.mul (fw z x) (fw z' y) = some (fw z'' (x * y))
  unfold Format.mul
  rw [read_fw z x hx, read_fw z' y hy]
  obtain ⟨s, i, e1, hi, hs⟩ := fdat_parts z x hx
  obtain ⟨t, j, e2, hj, ht⟩ := fdat_parts z' y hy
  rw [e1, e2]
  refine ⟨s ^^ t, ?_⟩
  show some (Ieee.double.write _) = _
  congr 1
  refine fw_write _ (s ^^ t) _ _ (x * y) hxy ?_ ?_
  · rw [Int.natAbs_mul]
    have e : x.natAbs * 2 ^ (-i).toNat * (y.natAbs * 2 ^ (-j).toNat) = x.natAbs * y.natAbs * 2 ^ (-(i + j)).toNat := by
      rw [show (-(i + j)).toNat = (-i).toNat + (-j).toNat by omega, Nat.pow_add]
      generalize 2 ^ (-i).toNat = a
      generalize 2 ^ (-j).toNat = b
      simp only [Nat.mul_assoc, Nat.mul_left_comm, Nat.mul_comm]
    rw [e]
    rcases (show i + j = 0 ∨ i + j < 0 by omega) with h | h
    · exact .inl ⟨by omega, by rw [h]; simp⟩
    · exact .inr ⟨h, rfl⟩
  · by_cases h0 : x * y = 0
    · rw [if_pos h0]
    · rw [if_neg h0]
      have hx0 : x ≠ 0 := fun e => h0 (by rw [e, Int.zero_mul])
      have hy0 : y ≠ 0 := fun e => h0 (by rw [e, Int.mul_zero])
      rw [if_neg hx0] at hs
      rw [if_neg hy0] at ht
      subst hs ht
      rcases (show x < 0 ∨ 0 < x by omega) with h1 | h1 <;> rcases (show y < 0 ∨ 0 < y by omega) with h2 | h2
      · have := Int.mul_pos_of_neg_of_neg h1 h2
        simp [h1, h2]; omega
      · have := Int.mul_neg_of_neg_of_pos h1 h2
        simp [h1, this]; omega
      · have := Int.mul_neg_of_pos_of_neg h1 h2
        simp [h2, this]; omega
      · have := Int.mul_pos h1 h2
        have a : ¬ x < 0 := by omega
        have b : ¬ y < 0 := by omega
        have c : ¬ x * y < 0 := by omega
        simp [a, b, c]

theorem order_fw (z z' : Bool) (x y : Int) (hx : x.natAbs < 2 ^ 53) (hy : y.natAbs < 2 ^ 53) :
    (FloatKind.f64.format.order (fw z x) (fw z' y) == some Ordering.eq) = decide (x = y) := by
  show (Ieee.double.order (fw z x) (fw z' y) == some Ordering.eq) = decide (x = y)
  unfold Format.order
  rw [read_fw z x hx, read_fw z' y hy]
  obtain ⟨s, i, e1, hi, hs⟩ := fdat_parts z x hx
  obtain ⟨t, j, e2, hj, ht⟩ := fdat_parts z' y hy
  rw [e1, e2]
  show (some (compare (signed s _ (i - min i j).toNat) (signed t _ (j - min i j).toNat)) == some Ordering.eq) = _
  rw [signed_parts z s x i (min i j) hs hi (by omega), signed_parts z' t y j (min i j) ht hj (by omega)]
  have hpos := pow_pos_int (-min i j).toNat
  by_cases e : x = y
  · subst e
    simp
  · have hne : x * 2 ^ (-min i j).toNat ≠ y * 2 ^ (-min i j).toNat := fun h => e (Int.eq_of_mul_eq_mul_right (by omega) h)
    simp [e, hne]

theorem toInt_fw (z : Bool) (x : Int) (hx : x.natAbs < 2 ^ 53) : floatToIntVal .f64 (fw z x) .i64 = some x := by
  unfold floatToIntVal
  have h : (FloatKind.f64.decode (fw z x)).toInt .zero = some x := by
    show (Ieee.double.read (fw z x)).toInt .zero = some x
    rw [read_fw z x hx]
    unfold fdat
    by_cases h0 : x = 0
    · subst h0
      cases z <;> decide +kernel
    · rw [if_neg h0]
      have hn0 : x.natAbs ≠ 0 := by omega
      have hl : x.natAbs.log2 ≤ 52 := by have := (Nat.log2_lt hn0).2 hx; omega
      unfold Datum.toInt Datum.integral
      dsimp only
      have e0 : ((x.natAbs.log2 : Int) - 52).toNat = 0 := by omega
      have e1 : (-((x.natAbs.log2 : Int) - 52)).toNat = 52 - x.natAbs.log2 := by omega
      rw [e0, e1, Nat.shiftLeft_zero, cut_exact _ _ _ _ (by rw [log2_shift _ _ hn0]; omega) ⟨x.natAbs, Nat.mul_comm _ _⟩, Nat.mul_div_cancel _ (Nat.two_pow_pos _)]
      unfold signed
      rw [Nat.shiftLeft_zero]
      by_cases hn : x < 0
      · simp [hn]; omega
      · simp [hn]; omega
  rw [h]
  have h1 : IntKind.i64.min = -9223372036854775808 := by decide
  have h2 : IntKind.i64.max = 9223372036854775807 := by decide
  dsimp only
  rw [h1, h2, if_pos (by omega)]

theorem ofInt_fw (n : Int) : floatOfInt .f64 n = fw false n := by
  unfold floatOfInt fw
  show Ieee.double.nearest (decide (n < 0)) n.natAbs 0 = _
  by_cases h : n = 0
  · subst h; rfl
  · rw [if_neg h]

theorem fw_wf (z : Bool) (x : Int) : (Lit.float .f64 (fw z x)).wf = true := wf_of_lt .f64 _ (Format.nearest_lt _ _ _ _)

open Go.RowKit in
section
variable {P : Program}
/-- Sum, difference, product of complex numbers of whole parts. -/
theorem cx_add (z1 z2 z3 z4 : Bool) (x y u v p q : Int) (hx : x.natAbs < 2 ^ 53) (hy : y.natAbs < 2 ^ 53) (hu : u.natAbs < 2 ^ 53) (hv : v.natAbs < 2 ^ 53) (hp : x + u = p) (hq : y + v = q) (h1 : p.natAbs < 2 ^ 53) (h2 : q.natAbs < 2 ^ 53) :
    ∃ z z', ∀ (t : TypeId) (w : World), (binOp .add t (.complex .f64 (fw z1 x) (fw z2 y)) (.complex .f64 (fw z3 u) (fw z4 v))).run P w = .ok (.complex .f64 (fw z p) (fw z' q)) w := by
  subst hp hq
  obtain ⟨z, e1⟩ := add_fw z1 z3 x u hx hu h1
  obtain ⟨z', e2⟩ := add_fw z2 z4 y v hy hv h2
  exact ⟨z, z', fun t w => run_complex_sum w .add (.inl rfl) t .f64 _ _ _ _ _ _ (by simp [cSumBits, e1, e2])⟩

theorem cx_sub (z1 z2 z3 z4 : Bool) (x y u v p q : Int) (hx : x.natAbs < 2 ^ 53) (hy : y.natAbs < 2 ^ 53) (hu : u.natAbs < 2 ^ 53) (hv : v.natAbs < 2 ^ 53) (hp : x - u = p) (hq : y - v = q) (h1 : p.natAbs < 2 ^ 53) (h2 : q.natAbs < 2 ^ 53) :
    ∃ z z', ∀ (t : TypeId) (w : World), (binOp .sub t (.complex .f64 (fw z1 x) (fw z2 y)) (.complex .f64 (fw z3 u) (fw z4 v))).run P w = .ok (.complex .f64 (fw z p) (fw z' q)) w := by
  subst hp hq
  obtain ⟨z, e1⟩ := sub_fw z1 z3 x u hx hu h1
  obtain ⟨z', e2⟩ := sub_fw z2 z4 y v hy hv h2
  exact ⟨z, z', fun t w => run_complex_sum w .sub (.inr rfl) t .f64 _ _ _ _ _ _ (by simp [cSumBits, e1, e2])⟩

theorem cx_mul (z1 z2 z3 z4 : Bool) (x y u v p q : Int) (hx : x.natAbs < 2 ^ 53) (hy : y.natAbs < 2 ^ 53) (hu : u.natAbs < 2 ^ 53) (hv : v.natAbs < 2 ^ 53)
    (h1 : (x * u).natAbs < 2 ^ 53) (h2 : (y * v).natAbs < 2 ^ 53) (h4 : (x * v).natAbs < 2 ^ 53) (h5 : (y * u).natAbs < 2 ^ 53) (hp : x * u - y * v = p) (hq : x * v + y * u = q) (h3 : p.natAbs < 2 ^ 53) (h6 : q.natAbs < 2 ^ 53) :
    ∃ z z', ∀ (t : TypeId) (w : World), (binOp .mul t (.complex .f64 (fw z1 x) (fw z2 y)) (.complex .f64 (fw z3 u) (fw z4 v))).run P w = .ok (.complex .f64 (fw z p) (fw z' q)) w := by
  subst hp hq
  obtain ⟨a1, e1⟩ := mul_fw z1 z3 x u hx hu h1
  obtain ⟨a2, e2⟩ := mul_fw z2 z4 y v hy hv h2
  obtain ⟨z, e3⟩ := sub_fw a1 a2 _ _ h1 h2 h3
  obtain ⟨a4, e4⟩ := mul_fw z1 z4 x v hx hv h4
  obtain ⟨a5, e5⟩ := mul_fw z2 z3 y u hy hu h5
  obtain ⟨z', e6⟩ := add_fw a4 a5 _ _ h4 h5 h6
  exact ⟨z, z', fun t w => run_complex_mul w t _ _ _ _ _ _ (by simp [cMulBits, e1, e2, e3, e4, e5, e6])⟩

theorem cx_eql (z1 z2 z3 z4 : Bool) (x y u v : Int) (hx : x.natAbs < 2 ^ 53) (hy : y.natAbs < 2 ^ 53) (hu : u.natAbs < 2 ^ 53) (hv : v.natAbs < 2 ^ 53) (t : TypeId) (w : World) :
    (binOp .eql t (.complex .f64 (fw z1 x) (fw z2 y)) (.complex .f64 (fw z3 u) (fw z4 v))).run P w = .ok (.bool (decide (x = u) && decide (y = v))) w := by
  rw [run_eql_complex, order_fw _ _ _ _ hx hu, order_fw _ _ _ _ hy hv]
end
theorem fw_0 : fw false 0 = 0 := by decide +kernel
theorem fw_1 : fw false 1 = 4607182418800017408 := by decide +kernel
theorem fw_2 : fw false 2 = 4611686018427387904 := by decide +kernel
theorem fw_m1 : fw false (-1) = 13830554455654793216 := by decide +kernel
end Go.Proofs.Ytepdamfnmlfloaa
