/- LebMath, Leb, LebDec, LebDecTwo, LebU, LebS, LebPlain, LebTot: one text. -/
import Derived.Test.YtpfcopdckjedfaaDoorBase
import Derived.Test.YtpfcopdckjedfaaDoorProg
/- Numbers as groups of seven bits: plain arithmetic over lists of whole numbers. No program is named here. -/
namespace Go.Proofs.YtpfcopdckjedfaaDoor
open Go.RowKit

/-- The groups of a number from nought, the last one without the mark. -/
def encU : Nat → Int → List Int
  | 0, u => [u]
  | f + 1, u => if 128 ≤ u then (u % 128 + 128) :: encU f (u / 128) else [u]
def fitsU : Nat → Int → Prop
  | 0, u => u < 128
  | f + 1, u => u < 128 ∨ fitsU f (u / 128)
theorem encU_big {f : Nat} {u : Int} (h : 128 ≤ u) : encU (f + 1) u = (u % 128 + 128) :: encU f (u / 128) := by simp [encU, h]
theorem encU_small {f : Nat} {u : Int} (h : ¬ 128 ≤ u) : encU f u = [u] := by cases f <;> simp [encU, h]
theorem encU_len (f : Nat) (u : Int) : (encU f u).length ≤ f + 1 := by
  induction f generalizing u with
  | zero => simp [encU]
  | succ f ih => unfold encU; split <;> simp [ih]
theorem fits9 (u : Int) (h0 : 0 ≤ u) (h : u ≤ 18446744073709551615) : fitsU 9 u := by
  simp only [fitsU]; omega

/-- The groups of a number with a sign. -/
def encS : Nat → Int → List Int
  | 0, u => [u % 128]
  | f + 1, u => if u < -64 ∨ 64 ≤ u then (u % 128 + 128) :: encS f (u / 128) else [u % 128]
def fitsS : Nat → Int → Prop
  | 0, u => -64 ≤ u ∧ u < 64
  | f + 1, u => (-64 ≤ u ∧ u < 64) ∨ fitsS f (u / 128)
theorem encS_big {f : Nat} {u : Int} (h : u < -64 ∨ 64 ≤ u) : encS (f + 1) u = (u % 128 + 128) :: encS f (u / 128) := by simp [encS, h]
theorem encS_small {f : Nat} {u : Int} (h : ¬ (u < -64 ∨ 64 ≤ u)) : encS f u = [u % 128] := by cases f <;> simp [encS, h]
theorem encS_len (f : Nat) (u : Int) : (encS f u).length ≤ f + 1 := by
  induction f generalizing u with
  | zero => simp [encS]
  | succ f ih => unfold encS; split <;> simp [ih]
theorem fitsS9 (u : Int) (h0 : -9223372036854775808 ≤ u) (h : u ≤ 9223372036854775807) : fitsS 9 u := by
  simp only [fitsS]; omega

/-- The value of groups. -/
def val : List Int → Int
  | [] => 0
  | x :: r => x % 128 + 128 * val r
/-- A group with a sign. -/
def ext (x : Int) : Int := if x % 128 < 64 then x % 128 else x % 128 - 128
def sval : List Int → Int
  | [] => 0
  | [x] => ext x
  | x :: y :: r => x % 128 + 128 * sval (y :: r)
/-- All but the last bear the mark. -/
def Shape : List Int → Prop
  | [] => False
  | [x] => 0 ≤ x ∧ x < 128
  | x :: y :: r => 128 ≤ x ∧ x ≤ 255 ∧ Shape (y :: r)
def canU : List Int → Prop
  | [] => False
  | [_] => True
  | [_, y] => y ≠ 0
  | _ :: y :: z :: r => canU (y :: z :: r)
def canS : List Int → Prop
  | [] => False
  | [_] => True
  | [x, y] => ¬ (y = 0 ∧ x % 128 < 64) ∧ ¬ (y = 127 ∧ 64 ≤ x % 128)
  | _ :: y :: z :: r => canS (y :: z :: r)

theorem val_nonneg : ∀ ys : List Int, 0 ≤ val ys
  | [] => Int.le_refl _
  | x :: r => by have := val_nonneg r; simp only [val]; omega
theorem canU_pos : ∀ (x y : Int) (r : List Int), Shape (x :: y :: r) → canU (x :: y :: r) → 1 ≤ val (y :: r)
  | x, y, [], h, c => by simp only [Shape, canU, val] at *; omega
  | x, y, z :: r, h, c => by
    have := canU_pos y z r h.2.2 c
    simp only [val] at this ⊢
    omega
theorem encU_of : ∀ (ys : List Int) (f : Nat), Shape ys → canU ys → ys.length ≤ f + 1 → encU f (val ys) = ys
  | [x], f, h, _, _ => by
    simp only [Shape, val] at *
    rw [show x % 128 + 128 * 0 = x from by omega, encU_small (by omega)]
  | x :: y :: r, f, h, c, hl => by
    have h1 := canU_pos x y r h c
    have hc : canU (y :: r) := by cases r <;> simp_all [canU]
    obtain ⟨f', rfl⟩ : ∃ f', f = f' + 1 := ⟨f - 1, by simp at hl; omega⟩
    have ih := encU_of (y :: r) f' h.2.2 hc (by simpa using hl)
    have hx := h.1
    have hx' := h.2.1
    rw [show val (x :: y :: r) = x % 128 + 128 * val (y :: r) from rfl, encU_big (by omega)]
    rw [show (x % 128 + 128 * val (y :: r)) / 128 = val (y :: r) from by omega, ih]
    congr 1
    omega
theorem encU_ne (f : Nat) (u : Int) : encU f u ≠ [] := by cases f <;> unfold encU <;> (try split) <;> simp
theorem Shape.cons {x : Int} {ys : List Int} (h0 : 128 ≤ x) (h1 : x ≤ 255) (h : Shape ys) : Shape (x :: ys) := by
  cases ys with
  | nil => exact h.elim
  | cons y r => exact ⟨h0, h1, h⟩
theorem encU_shape : ∀ (f : Nat) (u : Int), 0 ≤ u → fitsU f u → Shape (encU f u)
  | 0, u, h, hf => ⟨h, hf⟩
  | f + 1, u, h, hf => by
    by_cases hc : 128 ≤ u
    · rw [encU_big hc]
      exact Shape.cons (by omega) (by omega) (encU_shape f (u / 128) (by omega) (by simp only [fitsU] at hf; exact hf.resolve_left (by omega)))
    · rw [encU_small hc]; exact ⟨h, by omega⟩
theorem encU_val : ∀ (f : Nat) (u : Int), 0 ≤ u → fitsU f u → val (encU f u) = u
  | 0, u, h, hf => by simp only [fitsU] at hf; simp only [encU, val]; omega
  | f + 1, u, h, hf => by
    by_cases hc : 128 ≤ u
    · rw [encU_big hc, val, encU_val f (u / 128) (by omega) (by simp only [fitsU] at hf; exact hf.resolve_left (by omega))]; omega
    · rw [encU_small hc]; simp only [val]; omega
theorem encU_can : ∀ (f : Nat) (u : Int), 0 ≤ u → fitsU f u → canU (encU f u)
  | 0, u, h, hf => trivial
  | f + 1, u, h, hf => by
    by_cases hc : 128 ≤ u
    · have hf' : fitsU f (u / 128) := by simp only [fitsU] at hf; exact hf.resolve_left (by omega)
      have ih := encU_can f (u / 128) (by omega) hf'
      have hv := encU_val f (u / 128) (by omega) hf'
      rw [encU_big hc]
      match hy : encU f (u / 128) with
      | [] => exact absurd hy (encU_ne _ _)
      | [y] =>
        rw [hy] at hv
        simp only [val] at hv
        show y ≠ 0
        omega
      | y :: z :: r => rw [hy] at ih; exact ih
    · rw [encU_small hc]; trivial

theorem canS_far : ∀ (x y : Int) (r : List Int), Shape (x :: y :: r) → canS (x :: y :: r) → sval (x :: y :: r) < -64 ∨ 64 ≤ sval (x :: y :: r)
  | x, y, [], h, c => by
    simp only [Shape, canS, sval, ext] at *
    split <;> omega
  | x, y, z :: r, h, c => by
    have := canS_far y z r h.2.2 c
    rw [show sval (x :: y :: z :: r) = x % 128 + 128 * sval (y :: z :: r) from rfl]
    omega
theorem encS_of : ∀ (ys : List Int) (f : Nat), Shape ys → canS ys → ys.length ≤ f + 1 → encS f (sval ys) = ys
  | [x], f, h, _, _ => by
    simp only [Shape, sval] at *
    have he : -64 ≤ ext x ∧ ext x < 64 ∧ ext x % 128 = x := by unfold ext; split <;> omega
    rw [encS_small (by omega), he.2.2]
  | x :: y :: r, f, h, c, hl => by
    have h1 := canS_far x y r h c
    have hc : canS (y :: r) := by cases r <;> simp_all [canS]
    obtain ⟨f', rfl⟩ : ∃ f', f = f' + 1 := ⟨f - 1, by simp at hl; omega⟩
    have ih := encS_of (y :: r) f' h.2.2 hc (by simpa using hl)
    have hx := h.1
    have hx' := h.2.1
    rw [show sval (x :: y :: r) = x % 128 + 128 * sval (y :: r) from rfl] at h1 ⊢
    rw [encS_big h1]
    rw [show (x % 128 + 128 * sval (y :: r)) / 128 = sval (y :: r) from by omega, ih]
    congr 1
    omega
theorem encS_ne (f : Nat) (u : Int) : encS f u ≠ [] := by cases f <;> unfold encS <;> (try split) <;> simp
theorem encS_shape : ∀ (f : Nat) (u : Int), fitsS f u → Shape (encS f u)
  | 0, u, hf => by simp only [encS, Shape]; omega
  | f + 1, u, hf => by
    by_cases hc : u < -64 ∨ 64 ≤ u
    · rw [encS_big hc]
      exact Shape.cons (by omega) (by omega) (encS_shape f (u / 128) (by simp only [fitsS] at hf; exact hf.resolve_left (by omega)))
    · rw [encS_small hc]; simp only [Shape]; omega
theorem encS_val : ∀ (f : Nat) (u : Int), fitsS f u → sval (encS f u) = u
  | 0, u, hf => by simp only [fitsS] at hf; simp only [encS, sval, ext]; split <;> omega
  | f + 1, u, hf => by
    by_cases hc : u < -64 ∨ 64 ≤ u
    · have ih := encS_val f (u / 128) (by simp only [fitsS] at hf; exact hf.resolve_left (by omega))
      rw [encS_big hc]
      match hy : encS f (u / 128) with
      | [] => exact absurd hy (encS_ne _ _)
      | y :: r => rw [hy] at ih; rw [show sval ((u % 128 + 128) :: y :: r) = (u % 128 + 128) % 128 + 128 * sval (y :: r) from rfl, ih]; omega
    · rw [encS_small hc]; simp only [sval, ext]; split <;> omega
theorem encS_can : ∀ (f : Nat) (u : Int), fitsS f u → canS (encS f u)
  | 0, u, hf => trivial
  | f + 1, u, hf => by
    by_cases hc : u < -64 ∨ 64 ≤ u
    · have hf' : fitsS f (u / 128) := by simp only [fitsS] at hf; exact hf.resolve_left (by omega)
      have ih := encS_can f (u / 128) hf'
      have hv := encS_val f (u / 128) hf'
      have hs := encS_shape f (u / 128) hf'
      rw [encS_big hc]
      match hy : encS f (u / 128) with
      | [] => exact absurd hy (encS_ne _ _)
      | [y] =>
        rw [hy] at hv hs
        simp only [sval, ext] at hv
        simp only [Shape] at hs
        show ¬ (y = 0 ∧ (u % 128 + 128) % 128 < 64) ∧ ¬ (y = 127 ∧ 64 ≤ (u % 128 + 128) % 128)
        split at hv <;> omega
      | y :: z :: r => rw [hy] at ih; exact ih
    · rw [encS_small hc]; trivial

theorem low_shape : ∀ (low : List Int) (t : Int), (∀ x ∈ low, 128 ≤ x ∧ x ≤ 255) → 0 ≤ t → t < 128 → Shape (low ++ [t])
  | [], t, _, h0, h1 => ⟨h0, h1⟩
  | x :: r, t, h, h0, h1 => Shape.cons (h x (by simp)).1 (h x (by simp)).2 (low_shape r t (fun y hy => h y (by simp [hy])) h0 h1)
theorem low_val : ∀ (low : List Int) (t : Int), val (low ++ [t]) = val low + 128 ^ low.length * (t % 128)
  | [], t => by simp [val]
  | x :: r, t => by
    rw [List.cons_append, val, low_val r t, val, List.length_cons, Int.pow_succ]
    generalize (128 : Int) ^ r.length = q
    rw [Int.mul_add, Int.mul_comm q 128, Int.mul_assoc]
    omega
theorem low_sval : ∀ (low : List Int) (t : Int), sval (low ++ [t]) = val low + 128 ^ low.length * ext t
  | [], t => by simp [val, sval]
  | x :: r, t => by
    have : sval (x :: (r ++ [t])) = x % 128 + 128 * sval (r ++ [t]) := by cases r <;> rfl
    rw [List.cons_append, this, low_sval r t, val, List.length_cons, Int.pow_succ]
    generalize (128 : Int) ^ r.length = q
    rw [Int.mul_add, Int.mul_comm q 128, Int.mul_assoc]
    omega
theorem low_canU : ∀ (low : List Int) (t : Int), canU (low ++ [t]) ↔ (low.length = 0 ∨ t ≠ 0)
  | [], t => by simp [canU]
  | [x], t => by simp [canU]
  | x :: y :: r, t => by
    have := low_canU (y :: r) t
    simp at this
    have e : canU (x :: y :: r ++ [t]) = canU (y :: (r ++ [t])) := by cases r <;> rfl
    rw [e, this]
    simp
theorem low_canS : ∀ (low : List Int) (t : Int), canS (low ++ [t]) ↔ (low.length = 0 ∨ (¬ (t = 0 ∧ low.getD (low.length - 1) 0 % 128 < 64) ∧ ¬ (t = 127 ∧ 64 ≤ low.getD (low.length - 1) 0 % 128)))
  | [], t => by simp [canS]
  | [x], t => by simp [canS]
  | x :: y :: r, t => by
    have := low_canS (y :: r) t
    have e : canS (x :: y :: r ++ [t]) = canS (y :: r ++ [t]) := by cases r <;> rfl
    rw [e, this]
    simp
theorem low_lt : ∀ low : List Int, val low < 128 ^ low.length
  | [] => by simp [val]
  | x :: r => by
    have := low_lt r
    rw [val, List.length_cons, Int.pow_succ]
    generalize (128 : Int) ^ r.length = q at *
    omega

/-- The number's last byte stands at k. -/
structure Stop (xs : List Int) (most k : Nat) : Prop where
  lt : k < xs.length
  most : k < most
  more : ∀ i, i < k → 128 ≤ xs.getD i 0
  last : xs.getD k 0 < 128
theorem three (xs : List Int) : ∀ most : Nat, (∃ k, Stop xs most k) ∨ (most ≤ xs.length ∧ ∀ i, i < most → 128 ≤ xs.getD i 0) ∨ (xs.length < most ∧ ∀ i, i < xs.length → 128 ≤ xs.getD i 0)
  | 0 => .inr (.inl ⟨Nat.zero_le _, fun i h => by omega⟩)
  | m + 1 => by
    rcases three xs m with ⟨k, h⟩ | ⟨h, g⟩ | ⟨h, g⟩
    · exact .inl ⟨k, h.lt, by have := h.most; omega, h.more, h.last⟩
    · by_cases hl : m < xs.length
      · by_cases hx : 128 ≤ xs.getD m 0
        · refine .inr (.inl ⟨hl, fun i hi => ?_⟩)
          by_cases e : i = m
          · subst e; exact hx
          · exact g i (by omega)
        · exact .inl ⟨m, hl, by omega, g, by omega⟩
      · have e : m = xs.length := by omega
        subst e
        exact .inr (.inr ⟨by omega, g⟩)
    · exact .inr (.inr ⟨by omega, g⟩)
def low (xs : List Int) (k : Nat) : List Int := xs.take k
theorem take_low (xs : List Int) (k : Nat) (h : k < xs.length) : xs.take (k + 1) = low xs k ++ [xs.getD k 0] := by
  unfold low
  rw [List.take_succ_eq_append_getElem h]
  simp [List.getD, h]
theorem low_length (xs : List Int) (k : Nat) (h : k < xs.length) : (low xs k).length = k := by unfold low; simp; omega
def Bs (xs : List Int) : Prop := ∀ x ∈ xs, 0 ≤ x ∧ x ≤ 255
theorem Bs.getD {xs : List Int} (h : Bs xs) (i : Nat) : 0 ≤ xs.getD i 0 ∧ xs.getD i 0 ≤ 255 := by
  by_cases hi : i < xs.length
  · have := h xs[i] (List.getElem_mem hi)
    simpa [List.getD, hi] using this
  · simp [List.getD, hi]
theorem Stop.lows {xs : List Int} {most k : Nat} (h : Stop xs most k) (hb : Bs xs) : ∀ x ∈ low xs k, 128 ≤ x ∧ x ≤ 255 := by
  intro x hx
  obtain ⟨i, hi, rfl⟩ := List.mem_iff_getElem.1 hx
  have hk : i < k := by rw [low_length xs k h.lt] at hi; exact hi
  have e : (low xs k)[i] = xs.getD i 0 := by
    have := h.lt
    simp [low, List.getD, show i < xs.length by omega]
  rw [e]
  exact ⟨h.more i hk, (hb.getD i).2⟩
theorem Stop.shape {xs : List Int} {most k : Nat} (h : Stop xs most k) (hb : Bs xs) : Shape (xs.take (k + 1)) := by
  rw [take_low xs k h.lt]
  exact low_shape _ _ (h.lows hb) (hb.getD k).1 h.last
/-- Is the number that ends at k in its shortest form, and below 2^bits? -/
def goodU (xs : List Int) (bits : Int) (k : Nat) : Prop := canU (xs.take (k + 1)) ∧ val (xs.take (k + 1)) < 2 ^ bits.toNat
theorem goodU_iff {xs : List Int} {k most : Nat} (h : Stop xs most k) (hb : Bs xs) (bits : Int) (hr : 7 * (k : Int) < bits) :
    goodU xs bits k ↔ (k = 0 ∨ xs.getD k 0 ≠ 0) ∧ xs.getD k 0 < 2 ^ (bits - 7 * k).toNat := by
  unfold goodU
  rw [take_low xs k h.lt, low_canU, low_val, low_length xs k h.lt]
  have hl := low_lt (low xs k)
  have hn := val_nonneg (low xs k)
  rw [low_length xs k h.lt] at hl
  have ht := hb.getD k
  have ht2 := h.last
  have e : (2 : Int) ^ bits.toNat = 128 ^ k * 2 ^ (bits - 7 * k).toNat := by
    rw [show (128 : Int) = 2 ^ 7 from by decide, ← Int.pow_mul, ← Int.pow_add]
    congr 1
    omega
  rw [e]
  generalize (2 : Int) ^ (bits - 7 * k).toNat = r at *
  have hq : (0 : Int) < 128 ^ k := Int.pow_pos (by decide)
  generalize (128 : Int) ^ k = q at *
  generalize xs.getD k 0 = t at *
  generalize val (low xs k) = v at *
  rw [show t % 128 = t from by omega]
  refine and_congr Iff.rfl ⟨fun hh => ?_, fun hh => ?_⟩
  · have : q * t < q * r := by omega
    exact Int.lt_of_mul_lt_mul_left this (by omega)
  · have h1 : q * (t + 1) ≤ q * r := Int.mul_le_mul_of_nonneg_left (by omega) (by omega)
    rw [Int.mul_add] at h1
    omega
def goodS (xs : List Int) (bits : Int) (k : Nat) : Prop := canS (xs.take (k + 1)) ∧ -2 ^ (bits - 1).toNat ≤ sval (xs.take (k + 1)) ∧ sval (xs.take (k + 1)) < 2 ^ (bits - 1).toNat
theorem goodS_iff {xs : List Int} {k most : Nat} (h : Stop xs most k) (bits : Int) (hr : 7 * (k : Int) < bits) :
    goodS xs bits k ↔ (k = 0 ∨ (¬ (xs.getD k 0 = 0 ∧ xs.getD (k - 1) 0 % 128 < 64) ∧ ¬ (xs.getD k 0 = 127 ∧ 64 ≤ xs.getD (k - 1) 0 % 128))) ∧ -2 ^ (bits - 7 * k - 1).toNat ≤ ext (xs.getD k 0) ∧ ext (xs.getD k 0) < 2 ^ (bits - 7 * k - 1).toNat := by
  unfold goodS
  rw [take_low xs k h.lt, low_canS, low_sval, low_length xs k h.lt]
  have hlt := h.lt
  have e0 : k ≠ 0 → (low xs k).getD (k - 1) 0 = xs.getD (k - 1) 0 := fun hk => by
    simp [low, List.getD, show k - 1 < k by omega, show k - 1 < xs.length by omega]
  have hl := low_lt (low xs k)
  have hn := val_nonneg (low xs k)
  rw [low_length xs k h.lt] at hl
  have e : (2 : Int) ^ (bits - 1).toNat = 128 ^ k * 2 ^ (bits - 7 * k - 1).toNat := by
    rw [show (128 : Int) = 2 ^ 7 from by decide, ← Int.pow_mul, ← Int.pow_add]
    congr 1
    omega
  rw [e]
  refine and_congr ?_ ?_
  · by_cases hk : k = 0
    · simp [hk]
    · rw [e0 hk]
  generalize (2 : Int) ^ (bits - 7 * k - 1).toNat = r at *
  have hq : (0 : Int) < 128 ^ k := Int.pow_pos (by decide)
  generalize (128 : Int) ^ k = q at *
  generalize ext (xs.getD k 0) = t at *
  generalize val (low xs k) = v at *
  refine ⟨fun ⟨g1, g2⟩ => ⟨?_, ?_⟩, fun ⟨g1, g2⟩ => ⟨?_, ?_⟩⟩
  · have : q * (-r) < q * (t + 1) := by rw [Int.mul_add, Int.mul_neg]; omega
    have := Int.lt_of_mul_lt_mul_left this (by omega)
    omega
  · have : q * t < q * r := by omega
    exact Int.lt_of_mul_lt_mul_left this (by omega)
  · have h1 : q * (-r) ≤ q * t := Int.mul_le_mul_of_nonneg_left (by omega) (by omega)
    rw [Int.mul_neg] at h1
    omega
  · have h1 : q * (t + 1) ≤ q * r := Int.mul_le_mul_of_nonneg_left (by omega) (by omega)
    rw [Int.mul_add] at h1
    omega
end Go.Proofs.YtpfcopdckjedfaaDoor

namespace Go.Proofs.YtpfcopdckjedfaaDoor
open Go.RowKit

theorem infoU8 : (Tryd.prog.info? 5).map (fun i => (i.zero, i.size, i.bytes)) = some (some (.int .u8 0), 1, 1) := by kernel_rfl

set_option maxHeartbeats 400000 in
theorem fresh_any (ao : Option Addr) (n cap : Nat) (xs : List Int) (w : World) (hr : Rd .u8 w ao n cap xs) (hn : n ≤ 1099511627776) :
    Calls Tryd.prog 71 #[.slice ao n cap] w fun e w' => ∃ v, e = .returned v ∧ Own 5 .u8 w.heap.size w' v xs ∧ Below w.heap.size w w' := by
  obtain ⟨i, hi, hz0, hz1, hz2⟩ := info_parts infoU8
  have hb : i.bytes * (n + 10) ≤ 281474976710656 := by rw [hz2]; omega
  clear hz2
  go_enter Tryd.func71, Tryd.ntmps71
  go_wp2_with (first
    | (at_make; refine wpList_make_own _ rfl _ _ 30 rfl w.heap.size 5 i (.int .u8 0) 1 Tryd.underlying30 hi hz0 hz1 _ _ _ (n + 10) rfl rfl (by omega) hb (by unfold maxLen; omega) (Nat.le_refl _) ?_; intro w1 hown hgrow)
    | (at_builtin; refine wpList_append_rd rfl _ _ 30 rfl 5 .u8 w.heap.size 1 Tryd.underlying30 infoU8 _ [] rfl ⟨hown, fun _ h => by cases h⟩ ao n cap xs rfl (hr.below ((Below.refl _ _).grown hgrow (Nat.le_refl _) (fun _ h => by cases h))) (by simp; omega) (by simp; omega) hgrow.size ?_; intro v' w' h1 h2 _))
  go_ret
  exact ⟨_, rfl, by simpa using h1, ((Below.refl _ _).grown hgrow (Nat.le_refl _) (fun _ h => by cases h)).trans h2⟩

set_option maxHeartbeats 400000 in
theorem putU_any (ao : Option Addr) (n cap : Nat) (xs : List Int) (u : Int) (w : World) (hr : Rd .u8 w ao n cap xs) (hn : n ≤ 1099511627776) (h1 : 0 ≤ u) (h2 : u ≤ 18446744073709551615) :
    Calls Tryd.prog 72 #[.slice ao n cap, .int .u64 u] w fun e w' => ∃ v, e = .returned v ∧ Own 5 .u8 w.heap.size w' v (xs ++ encU 9 u) ∧ Below w.heap.size w w' := by
  go_enter Tryd.func72, Tryd.ntmps72
  go_wp2_with fail
  refine wp_scope_loop 0 (fun a' w' => ∃ (f : Nat) (u' : Int) (pre : List Int) (v u2 u3 u6 u7 u8 u9 u10 u11 u12 u13 u14 u15 u16 u17 u18 u19 u20 u21 u22 : Value),
      a' = { tmps := #[.slice ao n cap, .int .u64 u', u2, u3, .slice none 0 0, v, u6, u7, u8, u9, u10, u11, u12, u13, u14, u15, u16, u17, u18, u19, u20, u21, u22], defers := [] } ∧
      Own 5 .u8 w.heap.size w' v (xs ++ pre) ∧ Below w.heap.size w w' ∧ pre ++ encU f u' = encU 9 u ∧ fitsU f u' ∧ 0 ≤ u' ∧ u' ≤ 18446744073709551615 ∧ pre.length + f = 9)
    (fun a' _ => (intOf (a'.tmps.getD 1 undef)).toNat) rfl ?_ ?_
  · intro Q' hQ'
    go_wp2_with (go_at_call 71; refine (fresh_any ao n cap xs _ hr hn).mono ?_; rintro e w' ⟨v, rfl, hv, hb⟩)
    go_step3
    rename_i K hK
    refine hK _ _ (hQ' _ _ ⟨9, u, [], v, _, _, _, _, _, _, _, _, _, _, _, _, _, _, _, _, _, _, _, rfl, by simpa using hv, hb, rfl, fits9 u h1 h2, h1, h2, rfl⟩)
  · rintro a' w' ⟨f, u', pre, v, u2, u3, u6, u7, u8, u9, u10, u11, u12, u13, u14, u15, u16, u17, u18, u19, u20, u21, u22, rfl, hv, hb, hp, hf, g1, g2, hl⟩
    have Hp := hid hp
    have Hl := hid hl
    clear hp hl
    have hlen : pre.length ≤ 9 := by have := Hl.out; omega
    have hx := hr.len
    have Hx := hid hx
    have hxl : xs.length ≤ 1099511627776 := by omega
    clear hx
    have hsz := hb.size
    by_cases hc : 128 ≤ u'
    · go_wp2_with (at_builtin; refine wpList_append_rd rfl _ _ 30 rfl 5 .u8 w.heap.size 1 Tryd.underlying30 infoU8 _ _ rfl (hv.alloc _) _ 1 1 _ rfl (Rd.built _ _ _ _ (wf_bits _ _ _ _)) (by simp; omega) (by simp; omega) (by simp; omega) ?_; intro v' w1 h3 h4 _)
      go_step3
      obtain ⟨f', rfl⟩ : ∃ f', f = f' + 1 := by
        cases f with
        | zero => simp only [fitsU] at hf; omega
        | succ f' => exact ⟨f', rfl⟩
      refine ⟨rfl, ⟨f', u' / 128, pre ++ [u' % 128 + 128], v', _, _, _, _, _, _, _, _, _, _, _, _, _, _, _, _, _, _, _, rfl, ?_, (hb.alloc hsz _).trans h4, ?_, ?_, by omega, by omega, ?_⟩, ?_⟩
      · rw [← List.append_assoc]
        rw [or128 _ (by omega) (by omega)] at h3
        rw [show u' % 256 % 128 = u' % 128 from by omega] at h3
        exact h3
      · rw [← Hp.out, encU_big hc]; simp
      · simp only [fitsU] at hf; exact hf.resolve_left (by omega)
      · have := Hl.out; simp; omega
      · simp [intOf]; omega
    · go_wp2_with (at_builtin; refine wpList_append_rd rfl _ _ 30 rfl 5 .u8 w.heap.size 1 Tryd.underlying30 infoU8 _ _ rfl (hv.alloc _) _ 1 1 _ rfl (Rd.built _ _ _ _ (WalkArith.wf_u8 (by omega))) (by simp; omega) (by simp; omega) (by simp; omega) ?_; intro v' w1 h3 h4 _)
      simp only [Exit.jump]
      go_ret
      refine ⟨_, rfl, ?_, (hb.alloc hsz _).trans h4⟩
      rw [← Hp.out, encU_small (by omega), ← List.append_assoc]
      exact h3

set_option maxHeartbeats 400000 in
theorem putS_any (ao : Option Addr) (n cap : Nat) (xs : List Int) (u : Int) (w : World) (hr : Rd .u8 w ao n cap xs) (hn : n ≤ 1099511627776) (h1 : -9223372036854775808 ≤ u) (h2 : u ≤ 9223372036854775807) :
    Calls Tryd.prog 52 #[.slice ao n cap, .int .i64 u] w fun e w' => ∃ v, e = .returned v ∧ Own 5 .u8 w.heap.size w' v (xs ++ encS 9 u) ∧ Below w.heap.size w w' := by
  go_enter Tryd.func52, Tryd.ntmps52
  go_wp2_with fail
  refine wp_scope_loop 0 (fun a' w' => ∃ (f : Nat) (u' : Int) (pre : List Int) (v u2 u3 u6 u7 u8 u9 u10 u11 u12 u13 u14 u15 u16 u17 u18 u19 u20 u21 u22 u23 u24 u25 u26 u27: Value),
      a' = { tmps := #[.slice ao n cap, .int .i64 u', u2, u3, .slice none 0 0, v, u6, u7, u8, u9, u10, u11, u12, u13, u14, u15, u16, u17, u18, u19, u20, u21, u22, u23, u24, u25, u26, u27], defers := [] } ∧
      Own 5 .u8 w.heap.size w' v (xs ++ pre) ∧ Below w.heap.size w w' ∧ pre ++ encS f u' = encS 9 u ∧ fitsS f u' ∧ -9223372036854775808 ≤ u' ∧ u' ≤ 9223372036854775807 ∧ pre.length + f = 9)
    (fun a' _ => (max (intOf (a'.tmps.getD 1 undef)) (-intOf (a'.tmps.getD 1 undef))).toNat) rfl ?_ ?_
  · intro Q' hQ'
    go_wp2_with (go_at_call 71; refine (fresh_any ao n cap xs _ hr hn).mono ?_; rintro e w' ⟨v, rfl, hv, hb⟩)
    go_step3
    rename_i K hK
    refine hK _ _ (hQ' _ _ ⟨9, u, [], v, _, _, _, _, _, _, _, _, _, _, _, _, _, _, _, _, _, _, _, _, _, _, _, _, rfl, by simpa using hv, hb, rfl, fitsS9 u h1 h2, h1, h2, rfl⟩)
  · rintro a' w' ⟨f, u', pre, v, u2, u3, u6, u7, u8, u9, u10, u11, u12, u13, u14, u15, u16, u17, u18, u19, u20, u21, u22, u23, u24, u25, u26, u27, rfl, hv, hb, hp, hf, g1, g2, hl⟩
    have Hp := hid hp
    have Hl := hid hl
    clear hp hl
    have hlen : pre.length ≤ 9 := by have := Hl.out; omega
    have hx := hr.len
    have Hx := hid hx
    have hxl : xs.length ≤ 1099511627776 := by omega
    clear hx
    have hsz := hb.size
    rcases (show (u' < -64 ∨ 64 ≤ u') ∨ (-64 ≤ u' ∧ u' < 64) from by omega) with hc | ⟨hc, hc'⟩
    · obtain ⟨f', rfl⟩ : ∃ f', f = f' + 1 := by
        cases f with
        | zero => simp only [fitsS] at hf; omega
        | succ f' => exact ⟨f', rfl⟩
      have hfs : fitsS f' (u' / 128) := by simp only [fitsS] at hf; exact hf.resolve_left (by omega)
      have Hc := hid hc
      rcases hc with hc | hc
      all_goals
        go_wp2_with (at_builtin; refine wpList_append_rd rfl _ _ 30 rfl 5 .u8 w.heap.size 1 Tryd.underlying30 infoU8 _ _ rfl (hv.alloc _) _ 1 1 _ rfl (Rd.built _ _ _ _ (wf_bits _ _ _ _)) (by simp; omega) (by simp; omega) (by simp; omega) ?_; intro v' w1 h3 h4 _)
        go_step3
        refine ⟨rfl, ⟨f', u' / 128, pre ++ [u' % 128 + 128], v', _, _, _, _, _, _, _, _, _, _, _, _, _, _, _, _, _, _, _, _, _, _, _, _, rfl, ?_, (hb.alloc hsz _).trans h4, ?_, hfs, by omega, by omega, ?_⟩, ?_⟩
        · rw [← List.append_assoc]
          rw [or128 _ (by omega) (by omega)] at h3
          rw [show u' % 256 % 128 = u' % 128 from by omega] at h3
          exact h3
        · rw [← Hp.out, encS_big Hc.out]; simp
        · have := Hl.out; simp; omega
        · simp [intOf]; omega
    · go_wp2_with (at_builtin; refine wpList_append_rd rfl _ _ 30 rfl 5 .u8 w.heap.size 1 Tryd.underlying30 infoU8 _ _ rfl (hv.alloc _) _ 1 1 _ rfl (Rd.built _ _ _ _ (wf_bits _ _ _ _)) (by simp; omega) (by simp; omega) (by simp; omega) ?_; intro v' w1 h3 h4 _)
      simp only [Exit.jump]
      go_ret
      refine ⟨_, rfl, ?_, (hb.alloc hsz _).trans h4⟩
      rw [← Hp.out, encS_small (by omega), ← List.append_assoc]
      rw [and127 _ (by omega) (by omega)] at h3
      rw [show u' % 256 % 128 = u' % 128 from by omega] at h3
      exact h3
end Go.Proofs.YtpfcopdckjedfaaDoor

namespace Go.Proofs.YtpfcopdckjedfaaDoor
open Go.RowKit

theorem and127_u8 (x : Int) : bits BinOp.and IntKind.u8 x 127 = x % 128 :=
  bits_and_mask .u8 7 (by decide) (fun n h0 h1 => by
    have : (2:Int)^7 = 128 := by decide
    exact IntWalk.u8_in n (by omega)) x

theorem last_range (ao : Option Addr) (n cap : Nat) (bits : Int) (w : World) (h : bits < 1 ∨ 64 < bits) :
    Calls Tryd.prog 55 #[.slice ao n cap, .int .i64 bits] w fun e w' => e = .returned (.tuple #[.int .i64 0, .int .i64 3]) ∧ w = w' := by
  by_cases h1 : bits < 1
  · go_enter Tryd.func55, Tryd.ntmps55
    go_wp2_with fail
    go_step3
    go_wp2_with fail
    rw [Exit.noGoto_ret]
    go_ret2
    exact ⟨rfl, rfl⟩
  · have h2 : 64 < bits := by omega
    go_enter Tryd.func55, Tryd.ntmps55
    go_wp2_with fail
    go_step3
    go_wp2_with fail
    rw [Exit.noGoto_ret]
    go_ret2
    exact ⟨rfl, rfl⟩

/-- The byte k bears the mark. -/
theorem mark_of {x : Int} (h0 : 0 ≤ x) (h1 : x ≤ 255) : (bits BinOp.and IntKind.u8 x 128 != 0) = decide (128 ≤ x) := by
  rw [and128 x h0 h1]
  by_cases h : 128 ≤ x
  · simp [h]; omega
  · simp [h]; omega

set_option maxHeartbeats 400000 in
theorem last_go (ao : Option Addr) (n cap : Nat) (xs : List Int) (bits : Int) (w : World) (hr : Rd .u8 w ao n cap xs) (h1 : 1 ≤ bits) (h2 : bits ≤ 64) (m : Nat) (hm : (m : Int) = (bits + 6) / 7) :
    Calls Tryd.prog 55 #[.slice ao n cap, .int .i64 bits] w fun e w' => w = w' ∧
      ((∃ k, Stop xs m k ∧ e = .returned (.tuple #[.int .i64 k, .int .i64 0])) ∨ ((m ≤ xs.length ∧ ∀ i, i < m → 128 ≤ xs.getD i 0) ∧ e = .returned (.tuple #[.int .i64 0, .int .i64 1])) ∨
       ((xs.length < m ∧ ∀ i, i < xs.length → 128 ≤ xs.getD i 0) ∧ e = .returned (.tuple #[.int .i64 0, .int .i64 2]))) := by
  have Hm := hid hm
  have hm1 : 1 ≤ m := by omega
  have hm2 : m ≤ 10 := by omega
  clear hm
  go_enter Tryd.func55, Tryd.ntmps55
  go_wp2_with fail
  refine wp_scope_loop 0 (fun a' w' => w' = w ∧ ∃ (k : Nat) (q r u2 u3 u8 u9 u10 u11 u12 u13 u14 u15 u16 u17 u18 u19 u20 u21 u22 u23 u24 u25 u26 u27 u28 u29 u30 u31 u32 u33 : Value),
      a' = { tmps := #[.slice ao n cap, .int .i64 bits, u2, u3, .int .i64 0, .int .i64 0, q, r, u8, u9, u10, u11, u12, u13, u14, u15, u16, u17, u18, u19, u20, u21, u22, u23, u24, u25, u26, u27, u28, u29, u30, u31, u32, u33], defers := [] } ∧
      q = .int .i64 m ∧ r = .int .i64 k ∧ k ≤ m ∧ k ≤ n ∧ ∀ i, i < k → 128 ≤ xs.getD i 0)
    (fun a' _ => m - (intOf (a'.tmps.getD 7 undef)).toNat) rfl ?_ ?_
  · intro Q' hQ'
    go_wp2_with fail
    go_step3
    rename_i K hK
    refine hK _ _ (hQ' _ _ ⟨rfl, 0, _, _, _, _, _, _, _, _, _, _, _, _, _, _, _, _, _, _, _, _, _, _, _, _, _, _, _, _, _, _, rfl, ?_, rfl, Nat.zero_le _, Nat.zero_le _, fun i hi => by omega⟩)
    have := Hm.out
    go_num
  · rintro a' w' ⟨rfl, k, q, r, u2, u3, u8, u9, u10, u11, u12, u13, u14, u15, u16, u17, u18, u19, u20, u21, u22, u23, u24, u25, u26, u27, u28, u29, u30, u31, u32, u33, rfl, rfl, rfl, hkm, hkn, hall⟩
    have hx := hr.len
    have Hx := hid hx
    have hb : Bs xs := fun x hx => bounds_u8 (hr.wf x hx)
    clear hx
    have Hall := hid hall
    clear hall
    by_cases e1 : k = m
    · subst e1
      go_wp2_with fail
      simp only [Exit.jump]
      go_ret2
      exact ⟨rfl, .inr (.inl ⟨⟨by rw [Hx.out]; exact hkn, Hall.out⟩, rfl⟩)⟩
    have d1 : ((k : Int) == (m : Int)) = false := by simp; omega
    by_cases e2 : k = n
    · subst e2
      go_wp2_with fail
      simp only [Exit.jump]
      go_ret2
      exact ⟨rfl, .inr (.inr ⟨⟨by rw [Hx.out]; omega, fun i hi => Hall.out i (by rw [Hx.out] at hi; exact hi)⟩, rfl⟩)⟩
    have d2 : ((k : Int) == (n : Int)) = false := by simp; omega
    obtain ⟨b, off, rfl, hc⟩ := hr.at (by omega)
    have hck := hc k (by omega)
    have hbk := hb.getD k
    obtain ⟨x, hxk⟩ : ∃ x, x = xs.getD k 0 := ⟨_, rfl⟩
    rw [← hxk] at hck hbk
    have Hxk := hid hxk
    have hmk := mark_of hbk.1 hbk.2
    clear hc hxk hr
    by_cases e3 : 128 ≤ x
    · rw [decide_eq_true (by omega)] at hmk
      go_wp2_with fail
      go_step3
      refine ⟨rfl, ⟨rfl, k + 1, _, _, _, _, _, _, _, _, _, _, _, _, _, _, _, _, _, _, _, _, _, _, _, _, _, _, _, _, _, _, rfl, rfl, by go_num, by omega, by omega, ?_⟩, ?_⟩
      · intro i hi
        by_cases e : i = k
        · rw [e, ← Hxk.out]; exact e3
        · exact Hall.out i (by omega)
      · simp [intOf]; omega
    · rw [decide_eq_false (by omega)] at hmk
      go_wp2_with fail
      simp only [Exit.jump]
      go_ret2
      exact ⟨rfl, .inl ⟨k, ⟨by rw [Hx.out]; omega, by omega, Hall.out, by rw [← Hxk.out]; omega⟩, rfl⟩⟩
end Go.Proofs.YtpfcopdckjedfaaDoor

namespace Go.Proofs.YtpfcopdckjedfaaDoor
open Go.RowKit

theorem Stop.one {xs : List Int} {m k k' : Nat} (h : Stop xs m k) (h' : Stop xs m k') : k = k' := by
  rcases Nat.lt_trichotomy k k' with g | g | g
  · have := h'.more k g; have := h.last; omega
  · exact g
  · have := h.more k' g; have := h'.last; omega
theorem last_stop (ao : Option Addr) (n cap : Nat) (xs : List Int) (bits : Int) (w : World) (hr : Rd .u8 w ao n cap xs) (h1 : 1 ≤ bits) (h2 : bits ≤ 64) (m k : Nat) (hm : (m : Int) = (bits + 6) / 7) (hs : Stop xs m k) :
    Calls Tryd.prog 55 #[.slice ao n cap, .int .i64 bits] w fun e w' => e = .returned (.tuple #[.int .i64 k, .int .i64 0]) ∧ w = w' := by
  refine (last_go ao n cap xs bits w hr h1 h2 m hm).mono ?_
  rintro e w' ⟨rfl, ⟨k', hk, rfl⟩ | ⟨⟨h, h'⟩, rfl⟩ | ⟨⟨h, h'⟩, rfl⟩⟩
  · rw [hs.one hk]; exact ⟨rfl, rfl⟩
  · have := h' k hs.most; have := hs.last; omega
  · have := h' k hs.lt; have := hs.last; omega
theorem last_form (ao : Option Addr) (n cap : Nat) (xs : List Int) (bits : Int) (w : World) (hr : Rd .u8 w ao n cap xs) (h1 : 1 ≤ bits) (h2 : bits ≤ 64) (m : Nat) (hm : (m : Int) = (bits + 6) / 7) (hs : m ≤ xs.length ∧ ∀ i, i < m → 128 ≤ xs.getD i 0) :
    Calls Tryd.prog 55 #[.slice ao n cap, .int .i64 bits] w fun e w' => e = .returned (.tuple #[.int .i64 0, .int .i64 1]) ∧ w = w' := by
  refine (last_go ao n cap xs bits w hr h1 h2 m hm).mono ?_
  rintro e w' ⟨rfl, ⟨k, hk, rfl⟩ | ⟨⟨h, h'⟩, rfl⟩ | ⟨⟨h, h'⟩, rfl⟩⟩
  · have := hs.2 k hk.most; have := hk.last; omega
  · exact ⟨rfl, rfl⟩
  · omega
theorem last_more (ao : Option Addr) (n cap : Nat) (xs : List Int) (bits : Int) (w : World) (hr : Rd .u8 w ao n cap xs) (h1 : 1 ≤ bits) (h2 : bits ≤ 64) (m : Nat) (hm : (m : Int) = (bits + 6) / 7) (hs : xs.length < m ∧ ∀ i, i < xs.length → 128 ≤ xs.getD i 0) :
    Calls Tryd.prog 55 #[.slice ao n cap, .int .i64 bits] w fun e w' => e = .returned (.tuple #[.int .i64 0, .int .i64 2]) ∧ w = w' := by
  refine (last_go ao n cap xs bits w hr h1 h2 m hm).mono ?_
  rintro e w' ⟨rfl, ⟨k, hk, rfl⟩ | ⟨⟨h, h'⟩, rfl⟩ | ⟨⟨h, h'⟩, rfl⟩⟩
  · have := hs.2 k hk.lt; have := hk.last; omega
  · omega
  · exact ⟨rfl, rfl⟩

theorem room_any (i bits : Int) (w : World) (h1 : 0 ≤ i) (h2 : i ≤ 9) (h3 : 0 ≤ bits) (h4 : bits ≤ 64) :
    Calls Tryd.prog 57 #[.int .i64 i, .int .i64 bits] w fun e w' => e = .returned (.int .i64 (bits - 7 * i)) ∧ w = w' := by
  go_enter Tryd.func57, Tryd.ntmps57
  go_wp2
  go_ret
  exact ⟨rfl, rfl⟩
theorem ext_wrap (x : Int) (h1 : 0 ≤ x) (h2 : x ≤ 255) : IntKind.i8.wrap (x * 2 % 256) / 2 = ext x :=
  byte_cases (p := fun x => IntKind.i8.wrap (x * 2 % 256) / 2 = ext x) (by decide +kernel) x h1 h2
theorem extend_any (x : Int) (w : World) (h1 : 0 ≤ x) (h2 : x ≤ 255) :
    Calls Tryd.prog 56 #[.int .u8 x] w fun e w' => e = .returned (.int .i8 (ext x)) ∧ w = w' := by
  have h := hid (ext_wrap x h1 h2)
  go_enter Tryd.func56, Tryd.ntmps56
  go_wp2
  go_ret
  exact ⟨by rw [← h.out]; rfl, rfl⟩

/-- What join does. -/
def joinI (n : Int) : List Int → Int
  | [] => n
  | x :: r => x % 128 + 128 * joinI n r
theorem joinI_val : ∀ (low : List Int) (t : Int), joinI t low = val low + 128 ^ low.length * t
  | [], t => by simp [joinI, val]
  | x :: r, t => by
    rw [joinI, joinI_val r t, val, List.length_cons, Int.pow_succ]
    generalize (128 : Int) ^ r.length = q
    rw [Int.mul_add, Int.mul_comm q 128, Int.mul_assoc]
    omega
theorem join_step (n x : Int) : bits BinOp.or IntKind.u64 (IntKind.u64.wrap (n * 128)) (IntKind.u64.wrap (bits BinOp.and IntKind.u8 x 127)) = (x % 128 + 128 * n) % 18446744073709551616 := by
  have e : (2 : Int) ^ 7 = 128 := by decide
  rw [and127_u8, IntWalk.u64_in (x % 128) (by omega), IntKind.wrap_u64]
  have h3 : (n * 128 % 18446744073709551616) % 2 ^ 7 = 0 := by rw [e]; omega
  have h4 : x % 128 < 2 ^ 7 := by rw [e]; omega
  have h5 : n * 128 % 18446744073709551616 < 2 ^ IntKind.u64.bits := by
    have : (2 : Int) ^ IntKind.u64.bits = 18446744073709551616 := by decide
    rw [this]; omega
  rw [bits_or_shift .u64 7 _ _ (by omega) (by omega) h4 h3 h5 (by decide) (IntWalk.u64_in _ (by omega))]
  omega

set_option maxHeartbeats 400000 in
theorem join_any (ao : Option Addr) (n cap : Nat) (xs : List Int) (t : Int) (w : World) (hr : Rd .u8 w ao n cap xs) (h0 : 0 ≤ t) (h1 : t ≤ 18446744073709551615) (hn : n ≤ 64) :
    Calls Tryd.prog 58 #[.int .u64 t, .slice ao n cap] w fun e w' => e = .returned (.int .u64 (joinI t xs % 18446744073709551616)) ∧ w = w' := by
  go_enter Tryd.func58, Tryd.ntmps58
  go_wp2_with fail
  refine wp_scope_loop 0 (fun a' w' => w' = w ∧ ∃ (k : Nat) (q r u2 u3 u6 u7 u8 u9 u10 u11 u12 u13 u14 u15 u16 u17 u18 u19 u20 u21 : Value),
      a' = { tmps := #[q, .slice ao n cap, u2, u3, .int .u64 0, r, u6, u7, u8, u9, u10, u11, u12, u13, u14, u15, u16, u17, u18, u19, u20, u21], defers := [] } ∧
      r = .int .i64 k ∧ q = .int .u64 (joinI t (xs.drop k) % 18446744073709551616) ∧ k ≤ n)
    (fun a' _ => (intOf (a'.tmps.getD 5 undef)).toNat) rfl ?_ ?_
  · intro Q' hQ'
    go_wp2_with fail
    go_step3
    rename_i K hK
    refine hK _ _ (hQ' _ _ ⟨rfl, n, _, _, _, _, _, _, _, _, _, _, _, _, _, _, _, _, _, _, _, _, rfl, rfl, ?_, Nat.le_refl _⟩)
    rw [← hr.len, List.drop_length, joinI]
    go_num
  · rintro a' w' ⟨rfl, k, q, r, u2, u3, u6, u7, u8, u9, u10, u11, u12, u13, u14, u15, u16, u17, u18, u19, u20, u21, rfl, rfl, rfl, hkn⟩
    obtain ⟨j, hj⟩ : ∃ j, j = joinI t (xs.drop k) % 18446744073709551616 := ⟨_, rfl⟩
    have hj0 : 0 ≤ j := by omega
    have hj1 : j ≤ 18446744073709551615 := by omega
    rw [← hj]
    have Hj := hid hj
    have hl := hr.len
    have Hl := hid hl
    have hw : ∀ x ∈ xs, 0 ≤ x ∧ x ≤ 255 := fun x hx => bounds_u8 (hr.wf x hx)
    clear hj hl
    cases k with
    | zero =>
      go_wp2_with fail
      simp only [Exit.jump]
      go_ret
      refine ⟨?_, rfl⟩
      rw [Hj.out]; rfl
    | succ k =>
      obtain ⟨b, off, rfl, hc⟩ := hr.at (by omega)
      have hck := hc k (by omega)
      obtain ⟨x, hxk⟩ : ∃ x, x = xs.getD k 0 := ⟨_, rfl⟩
      have hbk := Bs.getD (xs := xs) hw k
      rw [← hxk] at hck hbk
      have Hxk := hid hxk
      have Hw := hid hw
      clear hc hxk hr hw
      go_wp2_with fail
      go_step3
      refine ⟨rfl, ⟨rfl, k, _, _, _, _, _, _, _, _, _, _, _, _, _, _, _, _, _, _, _, _, rfl, rfl, ?_, by omega⟩, ?_⟩
      · rw [join_step j x, Hj.out]
        have hk : k < xs.length := by rw [Hl.out]; omega
        have e : xs.drop k = x :: xs.drop (k + 1) := by
          rw [List.drop_eq_getElem_cons hk]
          congr 1
          rw [Hxk.out]
          simp [List.getD, hk]
        rw [e, joinI]
        go_num
      · simp [intOf]
end Go.Proofs.YtpfcopdckjedfaaDoor

namespace Go.Proofs.YtpfcopdckjedfaaDoor
open Go.RowKit

theorem U_range (ao : Option Addr) (n cap : Nat) (bits : Int) (w : World) (h : bits < 1 ∨ 64 < bits) :
    Calls Tryd.prog 59 #[.slice ao n cap, .int .i64 bits] w fun e w' => e = .returned (.tuple #[.int .u64 0, .int .i64 0, .int .i64 3]) ∧ w = w' := by
  have H := hid h
  clear h
  go_enter Tryd.func59, Tryd.ntmps59
  go_wp2_with (go_at_call 55; refine (last_range _ _ _ _ _ H.out).mono ?_; rintro e w' ⟨rfl, rfl⟩)
  go_ret3
  exact ⟨rfl, rfl⟩

theorem shr_fin : ∀ (t : Fin 256) (j : Fin 9), ((t.val : Int) / 2 ^ min j.val 8 = 0) ↔ ¬ (2 ^ j.val ≤ (t.val : Int)) := by decide +kernel
theorem shr_zero {t r : Int} (h0 : 0 ≤ t) (h1 : t ≤ 255) : (t / 2 ^ min r.toNat 8 != 0) = decide (2 ^ r.toNat ≤ t) := by
  generalize r.toNat = j
  have e : (t / 2 ^ min j 8 = 0) ↔ ¬ (2 ^ j ≤ t) := by
    by_cases hj : j ≤ 8
    · have := shr_fin ⟨t.toNat, by omega⟩ ⟨j, by omega⟩
      dsimp only at this
      rw [Int.toNat_of_nonneg h0] at this
      exact this
    · have h8 : (256 : Int) ≤ 2 ^ j := by
        have := two_pow_le (show 8 ≤ j by omega)
        rw [show (2 : Int) ^ 8 = 256 from by decide] at this
        exact this
      rw [Nat.min_eq_right (by omega), show (2 : Int) ^ 8 = 256 from by decide]
      generalize (2 : Int) ^ j = q at *
      omega
  by_cases h : (2 : Int) ^ j ≤ t
  · rw [decide_eq_true h, bne_iff_ne]
    exact fun hh => e.1 hh h
  · rw [decide_eq_false h, e.2 h]; rfl

section
variable (ao : Option Addr) (n cap : Nat) (xs : List Int) (bits : Int) (w : World) (hr : Rd .u8 w ao n cap xs) (h1 : 1 ≤ bits) (h2 : bits ≤ 64) (m k : Nat) (hm : (m : Int) = (bits + 6) / 7)
include hr h1 h2 hm

theorem U_form (hs : m ≤ xs.length ∧ ∀ i, i < m → 128 ≤ xs.getD i 0) :
    Calls Tryd.prog 59 #[.slice ao n cap, .int .i64 bits] w fun e w' => e = .returned (.tuple #[.int .u64 0, .int .i64 0, .int .i64 1]) ∧ w = w' := by
  have H := hid (last_form ao n cap xs bits w hr h1 h2 m hm hs)
  clear hs hm
  go_enter Tryd.func59, Tryd.ntmps59
  go_wp2_with (go_at_call 55; refine H.out.mono ?_; rintro e w' ⟨rfl, rfl⟩)
  go_ret3
  exact ⟨rfl, rfl⟩
theorem U_more (hs : xs.length < m ∧ ∀ i, i < xs.length → 128 ≤ xs.getD i 0) :
    Calls Tryd.prog 59 #[.slice ao n cap, .int .i64 bits] w fun e w' => e = .returned (.tuple #[.int .u64 0, .int .i64 0, .int .i64 2]) ∧ w = w' := by
  have H := hid (last_more ao n cap xs bits w hr h1 h2 m hm hs)
  clear hs hm
  go_enter Tryd.func59, Tryd.ntmps59
  go_wp2_with (go_at_call 55; refine H.out.mono ?_; rintro e w' ⟨rfl, rfl⟩)
  go_ret3
  exact ⟨rfl, rfl⟩

set_option maxHeartbeats 400000 in
theorem U_ok (hs : Stop xs m k) (hg : goodU xs bits k) :
    Calls Tryd.prog 59 #[.slice ao n cap, .int .i64 bits] w fun e w' => e = .returned (.tuple #[.int .u64 (val (xs.take (k + 1))), .int .i64 (k + 1), .int .i64 0]) ∧ w = w' := by
  have hb : Bs xs := fun x hx => bounds_u8 (hr.wf x hx)
  have hkm := hs.most
  have hkn := hs.lt
  have hlen := hr.len
  have H := hid (last_stop ao n cap xs bits w hr h1 h2 m k hm hs)
  have hkb : 7 * (k : Int) < bits := by omega
  obtain ⟨hg1, hg2⟩ := (goodU_iff hs hb bits hkb).1 hg
  have hbk := hb.getD k
  obtain ⟨x, hxk⟩ : ∃ x, x = xs.getD k 0 := ⟨_, rfl⟩
  rw [← hxk] at hg1 hg2 hbk
  obtain ⟨r, hr1⟩ : ∃ r, r = bits - 7 * (k : Int) := ⟨_, rfl⟩
  rw [← hr1] at hg2
  have hz := shr_zero (r := r) hbk.1 hbk.2
  rw [decide_eq_false (by omega)] at hz
  obtain ⟨b, off, rfl, hc⟩ := hr.at (by omega)
  have hck := hc k (by omega)
  rw [← hxk] at hck
  have hrr : 1 ≤ r := by omega
  have hr0 : 0 ≤ r := by omega
  have hk9 : k ≤ 9 := by omega
  have hkn' : k < n := by omega
  have hcap : k ≤ cap := by have := hr.le; omega
  have Hroom := hid (show ∀ w, Calls Tryd.prog 57 #[.int .i64 k, .int .i64 bits] w fun e w' => e = .returned (.int .i64 r) ∧ w = w' from fun w => by rw [hr1]; exact room_any k bits w (by omega) (by omega) (by omega) (by omega))
  have Hjoin := hid (join_any (some ⟨b, off, none⟩) k cap (xs.take k) x w (hr.upto (by omega)) (by omega) (by omega) (by omega))
  have hx128 : x < 128 := by rw [hxk]; exact hs.last
  clear hc hlen hm hr1 hs hb
  have Hxk := hid hxk
  clear hxk
  have hval : val (xs.take (k + 1)) = joinI x (xs.take k) % 18446744073709551616 := by
    have e2 := take_low xs k hkn
    rw [← Hxk.out] at e2
    rw [show xs.take k = low xs k from rfl, joinI_val, e2, low_val]
    have hx2 := hx128
    rw [show x % 128 = x from by omega]
    have hv := val_nonneg (xs.take (k + 1))
    rw [e2, low_val, show x % 128 = x from by omega] at hv
    have hlt : val (xs.take (k + 1)) < 18446744073709551616 := by
      have h64 : (2 : Int) ^ bits.toNat ≤ 2 ^ 64 := two_pow_le (by omega)
      rw [show (2 : Int) ^ 64 = 18446744073709551616 from by decide] at h64
      have := hg.2
      omega
    rw [e2, low_val, show x % 128 = x from by omega] at hlt
    exact (Int.emod_eq_of_lt hv hlt).symm
  have Hval := hid hval
  clear hval hg
  rcases (show k ≤ 0 ∨ (0 < k ∧ x ≠ 0) from by rcases hg1 with h | h <;> omega) with hk0 | ⟨hk0, hx0⟩
  · clear hg1
    have Hjoin0 := hid (join_any (some ⟨b, off, none⟩) 0 cap (xs.take 0) x w (hr.upto (by omega)) (by omega) (by omega) (by omega))
    go_enter Tryd.func59, Tryd.ntmps59
    go_wp2_with (first | (go_at_call 55; refine H.out.mono ?_; rintro e w' ⟨rfl, rfl⟩) | (go_at_call 57; refine (Hroom.out _).mono ?_; rintro e w' ⟨rfl, rfl⟩) | (go_at_call 58; refine Hjoin0.out.mono ?_; rintro e w' ⟨rfl, rfl⟩))
    go_ret3
    exact ⟨by rw [Hval.out, show k = 0 from by omega]; rfl, rfl⟩
  · have hx1 : (x == 0) = false := by simpa using hx0
    clear hg1 hx0
    go_enter Tryd.func59, Tryd.ntmps59
    go_wp2_with (first | (go_at_call 55; refine H.out.mono ?_; rintro e w' ⟨rfl, rfl⟩) | (go_at_call 57; refine (Hroom.out _).mono ?_; rintro e w' ⟨rfl, rfl⟩) | (go_at_call 58; refine Hjoin.out.mono ?_; rintro e w' ⟨rfl, rfl⟩))
    go_ret3
    exact ⟨by rw [Hval.out]; rfl, rfl⟩

set_option maxHeartbeats 400000 in
theorem U_bad (hs : Stop xs m k) (hg : ¬ goodU xs bits k) :
    Calls Tryd.prog 59 #[.slice ao n cap, .int .i64 bits] w fun e w' => e = .returned (.tuple #[.int .u64 0, .int .i64 0, .int .i64 1]) ∧ w = w' := by
  have hb : Bs xs := fun x hx => bounds_u8 (hr.wf x hx)
  have hkm := hs.most
  have hkn := hs.lt
  have hlen := hr.len
  have H := hid (last_stop ao n cap xs bits w hr h1 h2 m k hm hs)
  have hkb : 7 * (k : Int) < bits := by omega
  rw [goodU_iff hs hb bits hkb] at hg
  have hbk := hb.getD k
  obtain ⟨x, hxk⟩ : ∃ x, x = xs.getD k 0 := ⟨_, rfl⟩
  rw [← hxk] at hg hbk
  obtain ⟨r, hr1⟩ : ∃ r, r = bits - 7 * (k : Int) := ⟨_, rfl⟩
  rw [← hr1] at hg
  have hz := shr_zero (r := r) hbk.1 hbk.2
  obtain ⟨b, off, rfl, hc⟩ := hr.at (by omega)
  have hck := hc k (by omega)
  rw [← hxk] at hck
  have hrr : 1 ≤ r := by omega
  have hr0 : 0 ≤ r := by omega
  have hk9 : k ≤ 9 := by omega
  have hkn' : k < n := by omega
  have Hroom := hid (show ∀ w, Calls Tryd.prog 57 #[.int .i64 k, .int .i64 bits] w fun e w' => e = .returned (.int .i64 r) ∧ w = w' from fun w => by rw [hr1]; exact room_any k bits w (by omega) (by omega) (by omega) (by omega))
  clear hc hlen hm hr1 hs hb hxk
  by_cases hq : x < 2 ^ r.toNat
  · have h0 : 0 < k ∧ x = 0 := by
      by_cases hk : k = 0
      · exact absurd ⟨.inl hk, hq⟩ hg
      · by_cases hx : x = 0
        · exact ⟨by omega, hx⟩
        · exact absurd ⟨.inr hx, hq⟩ hg
    obtain ⟨hk0, rfl⟩ := h0
    clear hg hq hz
    go_enter Tryd.func59, Tryd.ntmps59
    go_wp2_with (first | (go_at_call 55; refine H.out.mono ?_; rintro e w' ⟨rfl, rfl⟩) | (go_at_call 57; refine (Hroom.out _).mono ?_; rintro e w' ⟨rfl, rfl⟩))
    go_ret3
    exact ⟨rfl, rfl⟩
  · rw [decide_eq_true (by omega)] at hz
    have hx0 : x ≠ 0 := by
      rintro rfl
      simp at hz
    clear hg hq
    by_cases hk0 : k ≤ 0
    · clear hx0
      go_enter Tryd.func59, Tryd.ntmps59
      go_wp2_with (first | (go_at_call 55; refine H.out.mono ?_; rintro e w' ⟨rfl, rfl⟩) | (go_at_call 57; refine (Hroom.out _).mono ?_; rintro e w' ⟨rfl, rfl⟩))
      go_ret3
      exact ⟨rfl, rfl⟩
    · have hx1 : (x == 0) = false := by simpa using hx0
      clear hx0
      go_enter Tryd.func59, Tryd.ntmps59
      go_wp2_with (first | (go_at_call 55; refine H.out.mono ?_; rintro e w' ⟨rfl, rfl⟩) | (go_at_call 57; refine (Hroom.out _).mono ?_; rintro e w' ⟨rfl, rfl⟩))
      go_ret3
      exact ⟨rfl, rfl⟩
end
end Go.Proofs.YtpfcopdckjedfaaDoor

namespace Go.Proofs.YtpfcopdckjedfaaDoor
open Go.RowKit

theorem ext_bounds (x : Int) : -64 ≤ ext x ∧ ext x ≤ 63 := by unfold ext; split <;> omega
theorem sshr_fin : ∀ (t : Fin 256) (j : Fin 9), (ext (t.val : Int) / 2 ^ min j.val 8 = ext (t.val : Int) / 128) ↔ (-2 ^ j.val ≤ ext (t.val : Int) ∧ ext (t.val : Int) < 2 ^ j.val) := by decide +kernel
theorem sshr_zero {t r : Int} (h0 : 0 ≤ t) (h1 : t ≤ 255) : (ext t / 2 ^ min r.toNat 8 != ext t / 128) = !decide (-2 ^ r.toNat ≤ ext t ∧ ext t < 2 ^ r.toNat) := by
  generalize r.toNat = j
  have e : (ext t / 2 ^ min j 8 = ext t / 128) ↔ (-2 ^ j ≤ ext t ∧ ext t < 2 ^ j) := by
    by_cases hj : j ≤ 8
    · have := sshr_fin ⟨t.toNat, by omega⟩ ⟨j, by omega⟩
      dsimp only at this
      rw [Int.toNat_of_nonneg h0] at this
      exact this
    · have h8 : (256 : Int) ≤ 2 ^ j := by
        have := two_pow_le (show 8 ≤ j by omega)
        rw [show (2 : Int) ^ 8 = 256 from by decide] at this
        exact this
      have hb := ext_bounds t
      rw [Nat.min_eq_right (by omega), show (2 : Int) ^ 8 = 256 from by decide]
      generalize (2 : Int) ^ j = q at *
      omega
  by_cases h : (-2 ^ j ≤ ext t ∧ ext t < 2 ^ j)
  · rw [decide_eq_true h, e.2 h]; simp
  · rw [decide_eq_false h, Bool.not_false, bne_iff_ne]
    exact fun hh => h (e.1 hh)
theorem red_fin : ∀ (x : Fin 128) (y : Fin 256), (ext (x.val : Int) = ext (y.val : Int) / 128) ↔ (((x.val : Int) = 0 ∧ (y.val : Int) % 128 < 64) ∨ ((x.val : Int) = 127 ∧ 64 ≤ (y.val : Int) % 128)) := by decide +kernel
theorem red_iff {x y : Int} (h0 : 0 ≤ x) (h1 : x < 128) (g0 : 0 ≤ y) (g1 : y ≤ 255) : (ext x = ext y / 128) ↔ ((x = 0 ∧ y % 128 < 64) ∨ (x = 127 ∧ 64 ≤ y % 128)) := by
  have := red_fin ⟨x.toNat, by omega⟩ ⟨y.toNat, by omega⟩
  dsimp only at this
  rw [Int.toNat_of_nonneg h0, Int.toNat_of_nonneg g0] at this
  exact this

theorem S_range (ao : Option Addr) (n cap : Nat) (bits : Int) (w : World) (h : bits < 1 ∨ 64 < bits) :
    Calls Tryd.prog 45 #[.slice ao n cap, .int .i64 bits] w fun e w' => e = .returned (.tuple #[.int .i64 0, .int .i64 0, .int .i64 3]) ∧ w = w' := by
  have H := hid h
  clear h
  go_enter Tryd.func45, Tryd.ntmps45
  go_wp2_with (go_at_call 55; refine (last_range _ _ _ _ _ H.out).mono ?_; rintro e w' ⟨rfl, rfl⟩)
  go_ret3
  exact ⟨rfl, rfl⟩

section
variable (ao : Option Addr) (n cap : Nat) (xs : List Int) (bits : Int) (w : World) (hr : Rd .u8 w ao n cap xs) (h1 : 1 ≤ bits) (h2 : bits ≤ 64) (m k : Nat) (hm : (m : Int) = (bits + 6) / 7)
include hr h1 h2 hm

theorem S_form (hs : m ≤ xs.length ∧ ∀ i, i < m → 128 ≤ xs.getD i 0) :
    Calls Tryd.prog 45 #[.slice ao n cap, .int .i64 bits] w fun e w' => e = .returned (.tuple #[.int .i64 0, .int .i64 0, .int .i64 1]) ∧ w = w' := by
  have H := hid (last_form ao n cap xs bits w hr h1 h2 m hm hs)
  clear hs hm
  go_enter Tryd.func45, Tryd.ntmps45
  go_wp2_with (go_at_call 55; refine H.out.mono ?_; rintro e w' ⟨rfl, rfl⟩)
  go_ret3
  exact ⟨rfl, rfl⟩
theorem S_more (hs : xs.length < m ∧ ∀ i, i < xs.length → 128 ≤ xs.getD i 0) :
    Calls Tryd.prog 45 #[.slice ao n cap, .int .i64 bits] w fun e w' => e = .returned (.tuple #[.int .i64 0, .int .i64 0, .int .i64 2]) ∧ w = w' := by
  have H := hid (last_more ao n cap xs bits w hr h1 h2 m hm hs)
  clear hs hm
  go_enter Tryd.func45, Tryd.ntmps45
  go_wp2_with (go_at_call 55; refine H.out.mono ?_; rintro e w' ⟨rfl, rfl⟩)
  go_ret3
  exact ⟨rfl, rfl⟩

set_option maxHeartbeats 800000 in
theorem S_ok (hs : Stop xs m k) (hg : goodS xs bits k) :
    Calls Tryd.prog 45 #[.slice ao n cap, .int .i64 bits] w fun e w' => e = .returned (.tuple #[.int .i64 (sval (xs.take (k + 1))), .int .i64 (k + 1), .int .i64 0]) ∧ w = w' := by
  have hb : Bs xs := fun x hx => bounds_u8 (hr.wf x hx)
  have hkm := hs.most
  have hkn := hs.lt
  have hlen := hr.len
  have H := hid (last_stop ao n cap xs bits w hr h1 h2 m k hm hs)
  have hkb : 7 * (k : Int) < bits := by omega
  have hg' := goodS_iff hs bits hkb
  have hbk := hb.getD k
  have hby := hb.getD (k - 1)
  obtain ⟨x, hxk⟩ : ∃ x, x = xs.getD k 0 := ⟨_, rfl⟩
  obtain ⟨y, hyk⟩ : ∃ y, y = xs.getD (k - 1) 0 := ⟨_, rfl⟩
  rw [← hxk, ← hyk] at hg'
  rw [← hxk] at hbk
  rw [← hyk] at hby
  obtain ⟨r, hr1⟩ : ∃ r, r = bits - 7 * (k : Int) - 1 := ⟨_, rfl⟩
  rw [← hr1] at hg'
  have hz := sshr_zero (r := r) hbk.1 hbk.2
  obtain ⟨b, off, rfl, hc⟩ := hr.at (by omega)
  have hck := hc k (by omega)
  have hcy : 0 < k → w.cell? ⟨b, off + (k - 1), none⟩ = some (.int .u8 y) := fun hk => by rw [hyk]; exact hc (k - 1) (by omega)
  rw [← hxk] at hck
  have hr0 : 0 ≤ r := by omega
  have hr64 : r ≤ 64 := by omega
  have hk9 : k ≤ 9 := by omega
  have hkn' : k < n := by omega
  have hcap : k ≤ cap := by have := hr.le; omega
  have hx128 : x < 128 := by rw [hxk]; exact hs.last
  have hred := red_iff hbk.1 hx128 hby.1 hby.2
  have hex := ext_bounds x
  have hey := ext_bounds y
  have Hroom := hid (show ∀ w, Calls Tryd.prog 57 #[.int .i64 k, .int .i64 bits] w fun e w' => e = .returned (.int .i64 (r + 1)) ∧ w = w' from fun w => by rw [hr1, show bits - 7 * (k : Int) - 1 + 1 = bits - 7 * k from by omega]; exact room_any k bits w (by omega) (by omega) (by omega) (by omega))
  have hval : wrap64 (joinI (IntKind.u64.wrap (ext x)) (xs.take k) % 18446744073709551616) = sval (xs.take (k + 1)) := by
    rw [IntKind.wrap_u64]
    have e2 := take_low xs k hkn
    rw [← hxk] at e2
    obtain ⟨g2, g3⟩ := hg.2
    rw [e2, low_sval] at g2 g3 ⊢
    have h64 : (2 : Int) ^ (bits - 1).toNat ≤ 2 ^ 63 := two_pow_le (by omega)
    rw [show (2 : Int) ^ 63 = 9223372036854775808 from by decide] at h64
    rw [show xs.take k = low xs k from rfl, joinI_val]
    rw [Int.add_emod, Int.mul_emod, Int.emod_emod, ← Int.mul_emod, ← Int.add_emod]
    unfold wrap64
    omega
  have Hval := hid hval
  have hgood := hg'.1 hg
  obtain ⟨gr, gz⟩ := hgood
  rw [decide_eq_true gz] at hz
  clear hc hlen hm hr1 hs hb hxk hyk hval hg' hg gz
  by_cases hk0 : k ≤ 0
  · clear gr hred hcy
    go_enter Tryd.func45, Tryd.ntmps45
    go_wp2_with (first | (go_at_call 55; refine H.out.mono ?_; rintro e w' ⟨rfl, rfl⟩) | (go_at_call 56; refine (extend_any _ _ (by omega) (by omega)).mono ?_; rintro e w' ⟨rfl, rfl⟩) | (go_at_call 57; refine (Hroom.out _).mono ?_; rintro e w' ⟨rfl, rfl⟩) | (go_at_call 58; refine (join_any _ 0 cap (xs.take 0) _ w (hr.upto (by omega)) (wrap_u64_nonneg _) (by rw [IntKind.wrap_u64]; omega) (by omega)).mono ?_; rintro e w' ⟨rfl, rfl⟩))
    go_ret3
    exact ⟨by rw [← Hval.out, show k = 0 from by omega]; rfl, rfl⟩
  · have hne : (ext x == ext y / 128) = false := by
      rw [beq_eq_false_iff_ne]
      intro hh
      rcases gr with g | ⟨g1, g2⟩
      · omega
      · rcases hred.1 hh with h | h
        · exact g1 h
        · exact g2 h
    have hcy' := hcy (by omega)
    clear gr hred hcy
    go_enter Tryd.func45, Tryd.ntmps45
    go_wp2_with (first | (go_at_call 55; refine H.out.mono ?_; rintro e w' ⟨rfl, rfl⟩) | (go_at_call 56; refine (extend_any _ _ (by omega) (by omega)).mono ?_; rintro e w' ⟨rfl, rfl⟩) | (go_at_call 57; refine (Hroom.out _).mono ?_; rintro e w' ⟨rfl, rfl⟩) | (go_at_call 58; refine (join_any _ k cap (xs.take k) _ w (hr.upto (by omega)) (wrap_u64_nonneg _) (by rw [IntKind.wrap_u64]; omega) (by omega)).mono ?_; rintro e w' ⟨rfl, rfl⟩))
    go_ret3
    exact ⟨by rw [← Hval.out]; rfl, rfl⟩

set_option maxHeartbeats 800000 in
theorem S_bad (hs : Stop xs m k) (hg : ¬ goodS xs bits k) :
    Calls Tryd.prog 45 #[.slice ao n cap, .int .i64 bits] w fun e w' => e = .returned (.tuple #[.int .i64 0, .int .i64 0, .int .i64 1]) ∧ w = w' := by
  have hb : Bs xs := fun x hx => bounds_u8 (hr.wf x hx)
  have hkm := hs.most
  have hkn := hs.lt
  have hlen := hr.len
  have H := hid (last_stop ao n cap xs bits w hr h1 h2 m k hm hs)
  have hkb : 7 * (k : Int) < bits := by omega
  have hg' := goodS_iff hs bits hkb
  have hbk := hb.getD k
  have hby := hb.getD (k - 1)
  obtain ⟨x, hxk⟩ : ∃ x, x = xs.getD k 0 := ⟨_, rfl⟩
  obtain ⟨y, hyk⟩ : ∃ y, y = xs.getD (k - 1) 0 := ⟨_, rfl⟩
  rw [← hxk, ← hyk] at hg'
  rw [← hxk] at hbk
  rw [← hyk] at hby
  obtain ⟨r, hr1⟩ : ∃ r, r = bits - 7 * (k : Int) - 1 := ⟨_, rfl⟩
  rw [← hr1] at hg'
  have hz := sshr_zero (r := r) hbk.1 hbk.2
  obtain ⟨b, off, rfl, hc⟩ := hr.at (by omega)
  have hck := hc k (by omega)
  have hcy : 0 < k → w.cell? ⟨b, off + (k - 1), none⟩ = some (.int .u8 y) := fun hk => by rw [hyk]; exact hc (k - 1) (by omega)
  rw [← hxk] at hck
  have hr0 : 0 ≤ r := by omega
  have hr64 : r ≤ 64 := by omega
  have hk9 : k ≤ 9 := by omega
  have hkn' : k < n := by omega
  have hcap : k ≤ cap := by have := hr.le; omega
  have hx128 : x < 128 := by rw [hxk]; exact hs.last
  have hred := red_iff hbk.1 hx128 hby.1 hby.2
  have hex := ext_bounds x
  have hey := ext_bounds y
  have Hroom := hid (show ∀ w, Calls Tryd.prog 57 #[.int .i64 k, .int .i64 bits] w fun e w' => e = .returned (.int .i64 (r + 1)) ∧ w = w' from fun w => by rw [hr1, show bits - 7 * (k : Int) - 1 + 1 = bits - 7 * k from by omega]; exact room_any k bits w (by omega) (by omega) (by omega) (by omega))
  rw [hg'] at hg
  clear hc hlen hm hr1 hs hb hxk hyk hg'
  by_cases hk0 : k ≤ 0
  · have gz : ¬ (-2 ^ r.toNat ≤ ext x ∧ ext x < 2 ^ r.toNat) := fun gz => hg ⟨.inl (by omega), gz⟩
    rw [decide_eq_false gz] at hz
    clear hg hred hcy gz
    go_enter Tryd.func45, Tryd.ntmps45
    go_wp2_with (first | (go_at_call 55; refine H.out.mono ?_; rintro e w' ⟨rfl, rfl⟩) | (go_at_call 56; refine (extend_any _ _ (by omega) (by omega)).mono ?_; rintro e w' ⟨rfl, rfl⟩) | (go_at_call 57; refine (Hroom.out _).mono ?_; rintro e w' ⟨rfl, rfl⟩) )
    go_ret3
    exact ⟨rfl, rfl⟩
  · have hcy' := hcy (by omega)
    clear hcy
    by_cases hq : ext x = ext y / 128
    · have hne : (ext x == ext y / 128) = true := by rw [beq_iff_eq]; exact hq
      clear hq hg hred hz
      go_enter Tryd.func45, Tryd.ntmps45
      go_wp2_with (first | (go_at_call 55; refine H.out.mono ?_; rintro e w' ⟨rfl, rfl⟩) | (go_at_call 56; refine (extend_any _ _ (by omega) (by omega)).mono ?_; rintro e w' ⟨rfl, rfl⟩) | (go_at_call 57; refine (Hroom.out _).mono ?_; rintro e w' ⟨rfl, rfl⟩) )
      go_ret3
      exact ⟨rfl, rfl⟩
    · have hne : (ext x == ext y / 128) = false := by rw [beq_eq_false_iff_ne]; exact hq
      have gz : ¬ (-2 ^ r.toNat ≤ ext x ∧ ext x < 2 ^ r.toNat) := fun gz => hg ⟨.inr ⟨fun h => hq (hred.2 (.inl h)), fun h => hq (hred.2 (.inr h))⟩, gz⟩
      rw [decide_eq_false gz] at hz
      clear hq hg hred gz
      go_enter Tryd.func45, Tryd.ntmps45
      go_wp2_with (first | (go_at_call 55; refine H.out.mono ?_; rintro e w' ⟨rfl, rfl⟩) | (go_at_call 56; refine (extend_any _ _ (by omega) (by omega)).mono ?_; rintro e w' ⟨rfl, rfl⟩) | (go_at_call 57; refine (Hroom.out _).mono ?_; rintro e w' ⟨rfl, rfl⟩) )
      go_ret3
      exact ⟨rfl, rfl⟩
end
end Go.Proofs.YtpfcopdckjedfaaDoor

/- Groups of seven bits and text: plain arithmetic out of LebGetU and LebGetS. No program is named here. -/
namespace Go.Proofs.YtpfcopdckjedfaaDoor
open Go.RowKit

theorem wrap_u64_le (n : Int) : IntKind.u64.wrap n ≤ 18446744073709551615 := by rw [IntKind.wrap_u64]; omega
theorem str_eq {a b : ByteArray} (h : a.toList = b.toList) : a = b := by
  rw [ByteArray.toList_eq, ByteArray.toList_eq] at h
  exact ByteArray.ext (Array.toList_inj.1 h)
theorem encU_bs (f : Nat) (u : Int) (h0 : 0 ≤ u) (hf : fitsU f u) : ∀ x ∈ encU f u, 0 ≤ x ∧ x ≤ 255 := by
  induction f generalizing u with
  | zero => intro x hx; simp [encU] at hx; simp only [fitsU] at hf; omega
  | succ f ih =>
    intro x hx
    by_cases hc : 128 ≤ u
    · rw [encU_big hc] at hx
      rcases List.mem_cons.1 hx with rfl | hx
      · omega
      · exact ih (u / 128) (by omega) (by simp only [fitsU] at hf; exact hf.resolve_left (by omega)) x hx
    · rw [encU_small hc] at hx
      simp at hx
      omega
theorem str_iffU {xs : List Int} {m k : Nat} (hs : Stop xs m k) (hb : Bs xs) (hk : k ≤ 9) (hv : val (xs.take (k + 1)) ≤ 18446744073709551615) : strOfNums (encU 9 (val (xs.take (k + 1)))) = strOfNums (xs.take (k + 1)) ↔ canU (xs.take (k + 1)) := by
  have hn := val_nonneg (xs.take (k + 1))
  refine ⟨fun h => ?_, fun h => ?_⟩
  · have := strOfNums_inj (encU_bs 9 _ hn (fits9 _ hn hv)) (fun y hy => hb y (List.mem_of_mem_take hy)) h
    rw [← this]
    exact encU_can 9 _ hn (fits9 _ hn hv)
  · rw [encU_of _ 9 (hs.shape hb) h (by simp; omega)]

theorem encS_bs (f : Nat) (u : Int) (hf : fitsS f u) : ∀ x ∈ encS f u, 0 ≤ x ∧ x ≤ 255 := by
  induction f generalizing u with
  | zero => intro x hx; simp [encS] at hx; omega
  | succ f ih =>
    intro x hx
    by_cases hc : u < -64 ∨ 64 ≤ u
    · rw [encS_big hc] at hx
      rcases List.mem_cons.1 hx with rfl | hx
      · omega
      · exact ih (u / 128) (by simp only [fitsS] at hf; exact hf.resolve_left (by omega)) x hx
    · rw [encS_small hc] at hx
      simp at hx
      omega
/-- The text of the number that is told is the text that was read just if that one is in its shortest form and the number is in range. -/
theorem str_iffS {xs : List Int} {m k : Nat} (hs : Stop xs m k) (hb : Bs xs) (hk : k ≤ 9) {v : Int} (h0 : -9223372036854775808 ≤ v) (h1 : v ≤ 9223372036854775807) : strOfNums (encS 9 v) = strOfNums (xs.take (k + 1)) ↔ canS (xs.take (k + 1)) ∧ v = sval (xs.take (k + 1)) := by
  have hf := fitsS9 v h0 h1
  refine ⟨fun h => ?_, fun ⟨h, e⟩ => ?_⟩
  · have := strOfNums_inj (encS_bs 9 _ hf) (fun y hy => hb y (List.mem_of_mem_take hy)) h
    rw [← this]
    exact ⟨encS_can 9 _ hf, (encS_val 9 _ hf).symm⟩
  · rw [e, encS_of _ 9 (hs.shape hb) h (by simp; omega)]
theorem wrap64_bd (n : Int) : -9223372036854775808 ≤ wrap64 n ∧ wrap64 n ≤ 9223372036854775807 := by unfold wrap64; omega
theorem wrap64_id (n : Int) (h0 : -9223372036854775808 ≤ n) (h1 : n ≤ 9223372036854775807) : wrap64 n = n := by unfold wrap64; omega
theorem neg_in (p : Int) (h0 : 0 < p) (h1 : p ≤ 4611686018427387904) : IntKind.i64.wrap (-p) = -p ∧ wrap64 (-p) = -p := ⟨IntWalk.i64_in _ (by omega), wrap64_id _ (by omega) (by omega)⟩
theorem three_way (v p : Int) : v < -p ∨ (-p ≤ v ∧ p ≤ v) ∨ (-p ≤ v ∧ v < p) := by omega
theorem toNat_pred (b : Int) : b.toNat - 1 = (b - 1).toNat := by omega
theorem wrap64_step (s x : Int) : wrap64 (wrap64 (wrap64 s * 128) + x) = wrap64 (x + 128 * s) := by unfold wrap64; omega
theorem sval_step (x : Int) (r : List Int) (h : r ≠ []) : sval (x :: r) = x % 128 + 128 * sval r := by
  cases r with
  | nil => exact absurd rfl h
  | cons y r => rfl

end Go.Proofs.YtpfcopdckjedfaaDoor

/- leb: a number that bytes begin with, as a function of them (decU, decS); what U and S answer of any bytes; what was put is read again. The same words as Ins, InsRd, InsBack: never beside them. -/
namespace Go.Proofs.YtpfcopdckjedfaaDoor
open Go.RowKit

/-- How a number of so many bits begins bytes: the number, how many bytes, the error. -/
noncomputable def decU (bits : Int) (xs : List Int) : Int × Nat × Int := by
  classical exact if h : ∃ k, Stop xs ((bits + 6) / 7).toNat k then (if goodU xs bits h.choose then (val (xs.take (h.choose + 1)), h.choose + 1, 0) else (0, 0, 1))
    else if ((bits + 6) / 7).toNat ≤ xs.length then (0, 0, 1) else (0, 0, 2)
noncomputable def decS (bits : Int) (xs : List Int) : Int × Nat × Int := by
  classical exact if h : ∃ k, Stop xs ((bits + 6) / 7).toNat k then (if goodS xs bits h.choose then (sval (xs.take (h.choose + 1)), h.choose + 1, 0) else (0, 0, 1))
    else if ((bits + 6) / 7).toNat ≤ xs.length then (0, 0, 1) else (0, 0, 2)

theorem stop_one {xs : List Int} {m k k' : Nat} (h : Stop xs m k) (h' : Stop xs m k') : k = k' := Stop.one h h'

theorem decU_ok {bits : Int} {xs : List Int} {k : Nat} (h : Stop xs ((bits + 6) / 7).toNat k) (g : goodU xs bits k) : decU bits xs = (val (xs.take (k + 1)), k + 1, 0) := by
  have he : ∃ k, Stop xs ((bits + 6) / 7).toNat k := ⟨k, h⟩
  have hk : he.choose = k := stop_one he.choose_spec h
  unfold decU
  rw [dif_pos he, hk, if_pos g]
theorem decU_bad {bits : Int} {xs : List Int} {k : Nat} (h : Stop xs ((bits + 6) / 7).toNat k) (g : ¬ goodU xs bits k) : decU bits xs = (0, 0, 1) := by
  have he : ∃ k, Stop xs ((bits + 6) / 7).toNat k := ⟨k, h⟩
  have hk : he.choose = k := stop_one he.choose_spec h
  unfold decU
  rw [dif_pos he, hk, if_neg g]
theorem no_stop {xs : List Int} {m : Nat} (h : ∀ i, i < m → i < xs.length → 128 ≤ xs.getD i 0) : ¬ ∃ k, Stop xs m k := by
  rintro ⟨k, hk⟩
  have := h k hk.most hk.lt
  have := hk.last
  omega
theorem decU_form {bits : Int} {xs : List Int} (h : ((bits + 6) / 7).toNat ≤ xs.length ∧ ∀ i, i < ((bits + 6) / 7).toNat → 128 ≤ xs.getD i 0) : decU bits xs = (0, 0, 1) := by
  unfold decU
  rw [dif_neg (no_stop fun i hi _ => h.2 i hi), if_pos h.1]
theorem decU_more {bits : Int} {xs : List Int} (h : xs.length < ((bits + 6) / 7).toNat ∧ ∀ i, i < xs.length → 128 ≤ xs.getD i 0) : decU bits xs = (0, 0, 2) := by
  unfold decU
  rw [dif_neg (no_stop fun i _ hi => h.2 i hi), if_neg (by omega)]
theorem decS_ok {bits : Int} {xs : List Int} {k : Nat} (h : Stop xs ((bits + 6) / 7).toNat k) (g : goodS xs bits k) : decS bits xs = (sval (xs.take (k + 1)), k + 1, 0) := by
  have he : ∃ k, Stop xs ((bits + 6) / 7).toNat k := ⟨k, h⟩
  have hk : he.choose = k := stop_one he.choose_spec h
  unfold decS
  rw [dif_pos he, hk, if_pos g]
theorem decS_bad {bits : Int} {xs : List Int} {k : Nat} (h : Stop xs ((bits + 6) / 7).toNat k) (g : ¬ goodS xs bits k) : decS bits xs = (0, 0, 1) := by
  have he : ∃ k, Stop xs ((bits + 6) / 7).toNat k := ⟨k, h⟩
  have hk : he.choose = k := stop_one he.choose_spec h
  unfold decS
  rw [dif_pos he, hk, if_neg g]
theorem decS_form {bits : Int} {xs : List Int} (h : ((bits + 6) / 7).toNat ≤ xs.length ∧ ∀ i, i < ((bits + 6) / 7).toNat → 128 ≤ xs.getD i 0) : decS bits xs = (0, 0, 1) := by
  unfold decS
  rw [dif_neg (no_stop fun i hi _ => h.2 i hi), if_pos h.1]
theorem decS_more {bits : Int} {xs : List Int} (h : xs.length < ((bits + 6) / 7).toNat ∧ ∀ i, i < xs.length → 128 ≤ xs.getD i 0) : decS bits xs = (0, 0, 2) := by
  unfold decS
  rw [dif_neg (no_stop fun i _ hi => h.2 i hi), if_neg (by omega)]

theorem goodS_bounds {xs : List Int} {bits : Int} {k : Nat} (h1 : 1 ≤ bits) (h2 : bits ≤ 64) (h : goodS xs bits k) : -9223372036854775808 ≤ sval (xs.take (k + 1)) ∧ sval (xs.take (k + 1)) ≤ 9223372036854775807 := by
  have h3 := h.2
  have : (2 : Int) ^ (bits - 1).toNat ≤ 2 ^ 63 := two_pow_le (by omega)
  have e : (2 : Int) ^ 63 = 9223372036854775808 := by decide
  omega

/-- What is told of a number's beginning. -/
theorem decU_spec {bits : Int} {xs : List Int} : 0 ≤ (decU bits xs).1 ∧ (decU bits xs).1 < 2 ^ bits.toNat ∧ (decU bits xs).2.1 ≤ xs.length ∧ ((decU bits xs).2.2 = 0 ∨ ((decU bits xs).2.2 = 1 ∨ (decU bits xs).2.2 = 2) ∧ (decU bits xs).1 = 0 ∧ (decU bits xs).2.1 = 0) := by
  have hp : (0 : Int) < 2 ^ bits.toNat := Int.pow_pos (by decide)
  rcases three xs ((bits + 6) / 7).toNat with ⟨k, hs⟩ | h | h
  · by_cases g : goodU xs bits k
    · rw [decU_ok hs g]
      exact ⟨val_nonneg _, g.2, hs.lt, .inl rfl⟩
    · rw [decU_bad hs g]
      exact ⟨Int.le_refl _, hp, Nat.zero_le _, .inr ⟨.inl rfl, rfl, rfl⟩⟩
  · rw [decU_form h]
    exact ⟨Int.le_refl _, hp, Nat.zero_le _, .inr ⟨.inl rfl, rfl, rfl⟩⟩
  · rw [decU_more h]
    exact ⟨Int.le_refl _, hp, Nat.zero_le _, .inr ⟨.inr rfl, rfl, rfl⟩⟩
theorem decS_spec {bits : Int} {xs : List Int} (h1 : 1 ≤ bits) (h2 : bits ≤ 64) : -9223372036854775808 ≤ (decS bits xs).1 ∧ (decS bits xs).1 ≤ 9223372036854775807 ∧ (decS bits xs).2.1 ≤ xs.length ∧ ((decS bits xs).2.2 = 0 ∨ ((decS bits xs).2.2 = 1 ∨ (decS bits xs).2.2 = 2) ∧ (decS bits xs).1 = 0 ∧ (decS bits xs).2.1 = 0) := by
  rcases three xs ((bits + 6) / 7).toNat with ⟨k, hs⟩ | h | h
  · by_cases g : goodS xs bits k
    · rw [decS_ok hs g]
      have := goodS_bounds h1 h2 g
      exact ⟨this.1, this.2, hs.lt, .inl rfl⟩
    · rw [decS_bad hs g]
      exact ⟨by simp, by simp, Nat.zero_le _, .inr ⟨.inl rfl, rfl, rfl⟩⟩
  · rw [decS_form h]
    exact ⟨by simp, by simp, Nat.zero_le _, .inr ⟨.inl rfl, rfl, rfl⟩⟩
  · rw [decS_more h]
    exact ⟨by simp, by simp, Nat.zero_le _, .inr ⟨.inr rfl, rfl, rfl⟩⟩

section
variable (ao : Option Addr) (n cap : Nat) (xs : List Int) (bits : Int) (w : World) (hr : Rd .u8 w ao n cap xs) (h1 : 1 ≤ bits) (h2 : bits ≤ 64)
include hr h1 h2
theorem U_to (v : Int) (k : Nat) (er : Int) (h : decU bits xs = (v, k, er)) :
    Calls Tryd.prog 59 #[.slice ao n cap, .int .i64 bits] w fun e w' => e = .returned (.tuple #[.int .u64 v, .int .i64 k, .int .i64 er]) ∧ w = w' := by
  have hm : (((bits + 6) / 7).toNat : Int) = (bits + 6) / 7 := by omega
  rcases three xs ((bits + 6) / 7).toNat with ⟨j, hs⟩ | g | g
  · by_cases gd : goodU xs bits j
    · rw [decU_ok hs gd] at h; cases h
      exact U_ok ao n cap xs bits w hr h1 h2 _ j hm hs gd
    · rw [decU_bad hs gd] at h; cases h
      exact U_bad ao n cap xs bits w hr h1 h2 _ j hm hs gd
  · rw [decU_form g] at h; cases h
    exact U_form ao n cap xs bits w hr h1 h2 _ hm g
  · rw [decU_more g] at h; cases h
    exact U_more ao n cap xs bits w hr h1 h2 _ hm g
theorem S_to (v : Int) (k : Nat) (er : Int) (h : decS bits xs = (v, k, er)) :
    Calls Tryd.prog 45 #[.slice ao n cap, .int .i64 bits] w fun e w' => e = .returned (.tuple #[.int .i64 v, .int .i64 k, .int .i64 er]) ∧ w = w' := by
  have hm : (((bits + 6) / 7).toNat : Int) = (bits + 6) / 7 := by omega
  rcases three xs ((bits + 6) / 7).toNat with ⟨j, hs⟩ | g | g
  · by_cases gd : goodS xs bits j
    · rw [decS_ok hs gd] at h; cases h
      exact S_ok ao n cap xs bits w hr h1 h2 _ j hm hs gd
    · rw [decS_bad hs gd] at h; cases h
      exact S_bad ao n cap xs bits w hr h1 h2 _ j hm hs gd
  · rw [decS_form g] at h; cases h
    exact S_form ao n cap xs bits w hr h1 h2 _ hm g
  · rw [decS_more g] at h; cases h
    exact S_more ao n cap xs bits w hr h1 h2 _ hm g
end

theorem encU_few : ∀ (k f : Nat) (u : Int), u < 128 ^ (k + 1) → (encU f u).length ≤ k + 1
  | k, f, u, h => by
    by_cases hc : 128 ≤ u
    · cases f with
      | zero => simp [encU]
      | succ f =>
        cases k with
        | zero => omega
        | succ k =>
          rw [encU_big hc]
          have hk : u / 128 < 128 ^ (k + 1) := by
            rw [Int.pow_succ] at h
            omega
          have := encU_few k f (u / 128) hk
          simpa using this
    · rw [encU_small hc]; simp
theorem encS_few : ∀ (k f : Nat) (u : Int), -(64 * 128 ^ k) ≤ u → u < 64 * 128 ^ k → (encS f u).length ≤ k + 1
  | k, f, u, h, h' => by
    by_cases hc : u < -64 ∨ 64 ≤ u
    · cases f with
      | zero => simp [encS]
      | succ f =>
        cases k with
        | zero => omega
        | succ k =>
          rw [encS_big hc]
          rw [Int.pow_succ] at h h'
          have := encS_few k f (u / 128) (by omega) (by omega)
          simpa using this
    · rw [encS_small hc]; simp
theorem stop_enc : ∀ (ys rest : List Int) (m : Nat), Shape ys → ys.length ≤ m → Stop (ys ++ rest) m (ys.length - 1)
  | [x], rest, m, h, hm => ⟨by simp, by simp at hm ⊢; omega, fun i hi => by simp at hi, by simpa [List.getD] using h.2⟩
  | x :: y :: r, rest, m, h, hm => by
    have ih := stop_enc (y :: r) rest (m - 1) h.2.2 (by simp at hm ⊢; omega)
    refine ⟨by simp; omega, by simp at hm ⊢; omega, fun i hi => ?_, ?_⟩
    · cases i with
      | zero => simpa [List.getD] using h.1
      | succ i =>
        have := ih.more i (by simp at hi ⊢; omega)
        simpa [List.getD] using this
    · have := ih.last
      simpa [List.getD] using this

theorem decU_enc (u : Int) (rest : List Int) (h0 : 0 ≤ u) (h1 : u < 4294967296) : decU 32 (encU 9 u ++ rest) = (u, (encU 9 u).length, 0) := by
  have hf := fits9 u h0 (by omega)
  have hl := encU_few 4 9 u (by rw [show (128 : Int) ^ (4 + 1) = 34359738368 from by decide]; omega)
  have e5 : (((32 : Int) + 6) / 7).toNat = 5 := by decide
  have hs := stop_enc (encU 9 u) rest (((32 : Int) + 6) / 7).toNat (encU_shape 9 u h0 hf) (by rw [e5]; omega)
  have hne : (encU 9 u).length ≠ 0 := by have := encU_ne 9 u; simpa using this
  have e1 : (encU 9 u).length - 1 + 1 = (encU 9 u).length := by omega
  have e2 : (encU 9 u ++ rest).take ((encU 9 u).length - 1 + 1) = encU 9 u := by rw [e1]; simp
  rw [decU_ok hs ⟨by rw [e2]; exact encU_can 9 u h0 hf, by rw [e2, encU_val 9 u h0 hf]; rw [show (2 : Int) ^ (32 : Int).toNat = 4294967296 from by decide]; exact h1⟩]
  rw [e2, encU_val 9 u h0 hf, e1]
theorem decS_enc (bits u : Int) (rest : List Int) (hb : (bits = 32 ∧ -2147483648 ≤ u ∧ u ≤ 2147483647) ∨ (bits = 64 ∧ -9223372036854775808 ≤ u ∧ u ≤ 9223372036854775807)) : decS bits (encS 9 u ++ rest) = (u, (encS 9 u).length, 0) := by
  have hu : -9223372036854775808 ≤ u ∧ u ≤ 9223372036854775807 := by omega
  have hf := fitsS9 u hu.1 hu.2
  have hl : (encS 9 u).length ≤ ((bits + 6) / 7).toNat := by
    rcases hb with ⟨rfl, h0, h1⟩ | ⟨rfl, h0, h1⟩
    · have := encS_few 4 9 u (by rw [show (128 : Int) ^ 4 = 268435456 from by decide]; omega) (by rw [show (128 : Int) ^ 4 = 268435456 from by decide]; omega)
      have e : (((32 : Int) + 6) / 7).toNat = 5 := by decide
      omega
    · have := encS_len 9 u
      have e : (((64 : Int) + 6) / 7).toNat = 10 := by decide
      omega
  have hs := stop_enc (encS 9 u) rest ((bits + 6) / 7).toNat (encS_shape 9 u hf) hl
  have hne : (encS 9 u).length ≠ 0 := by have := encS_ne 9 u; simpa using this
  have e1 : (encS 9 u).length - 1 + 1 = (encS 9 u).length := by omega
  have e2 : (encS 9 u ++ rest).take ((encS 9 u).length - 1 + 1) = encS 9 u := by rw [e1]; simp
  have hg : goodS (encS 9 u ++ rest) bits ((encS 9 u).length - 1) := by
    unfold goodS
    rw [e2, encS_val 9 u hf]
    refine ⟨encS_can 9 u hf, ?_⟩
    rcases hb with ⟨rfl, h0, h1⟩ | ⟨rfl, h0, h1⟩
    · rw [show (2 : Int) ^ ((32 : Int) - 1).toNat = 2147483648 from by decide]; omega
    · rw [show (2 : Int) ^ ((64 : Int) - 1).toNat = 9223372036854775808 from by decide]; omega
  rw [decS_ok hs hg, e2, encS_val 9 u hf, e1]

end Go.Proofs.YtpfcopdckjedfaaDoor
