/- Numbers as groups of seven bits: plain arithmetic over lists of whole numbers. No program is named here. -/
import Derived.Test.YtnbegmlbkjjggaaBase
namespace Go.Proofs.Ytnbegmlbkjjggaa
open Go.RowKit

/-- The groups of a number from nought, the last one without the mark. -/
def encU : Nat → Int → List Int
  | 0, u => [u]
  | f + 1, u => if 128 ≤ u then (u % 128 + 128) :: encU f (u / 128) else [u]
def fitsU : Nat → Int → Prop
  | 0, u => u < 128
  | f + 1, u => u < 128 ∨ fitsU f (u / 128)
theorem encU_big {f : Nat} {u : Int} (h : 128 ≤ u) : encU (f + 1) u = (u % 128 + 128) :: encU f (u / 128) := by simp [encU, h]
theorem encU_small {f : Nat} {u : Int} (h : ¬ 128 ≤ u) : encU f u = [u] := by cases f <;> simp [encU, h]
theorem encU_len (f : Nat) (u : Int) : (encU f u).length ≤ f + 1 := by
  induction f generalizing u with
  | zero => simp [encU]
  | succ f ih => unfold encU; split <;> simp [ih]
theorem fits9 (u : Int) (h0 : 0 ≤ u) (h : u ≤ 18446744073709551615) : fitsU 9 u := by
  simp only [fitsU]; omega

/-- The groups of a number with a sign. -/
def encS : Nat → Int → List Int
  | 0, u => [u % 128]
  | f + 1, u => if u < -64 ∨ 64 ≤ u then (u % 128 + 128) :: encS f (u / 128) else [u % 128]
def fitsS : Nat → Int → Prop
  | 0, u => -64 ≤ u ∧ u < 64
  | f + 1, u => (-64 ≤ u ∧ u < 64) ∨ fitsS f (u / 128)
theorem encS_big {f : Nat} {u : Int} (h : u < -64 ∨ 64 ≤ u) : encS (f + 1) u = (u % 128 + 128) :: encS f (u / 128) := by simp [encS, h]
theorem encS_small {f : Nat} {u : Int} (h : ¬ (u < -64 ∨ 64 ≤ u)) : encS f u = [u % 128] := by cases f <;> simp [encS, h]
theorem encS_len (f : Nat) (u : Int) : (encS f u).length ≤ f + 1 := by
  induction f generalizing u with
  | zero => simp [encS]
  | succ f ih => unfold encS; split <;> simp [ih]
theorem fitsS9 (u : Int) (h0 : -9223372036854775808 ≤ u) (h : u ≤ 9223372036854775807) : fitsS 9 u := by
  simp only [fitsS]; omega

/-- The value of groups. -/
def val : List Int → Int
  | [] => 0
  | x :: r => x % 128 + 128 * val r
/-- A group with a sign. -/
def ext (x : Int) : Int := if x % 128 < 64 then x % 128 else x % 128 - 128
def sval : List Int → Int
  | [] => 0
  | [x] => ext x
  | x :: y :: r => x % 128 + 128 * sval (y :: r)
/-- All but the last bear the mark. -/
def Shape : List Int → Prop
  | [] => False
  | [x] => 0 ≤ x ∧ x < 128
  | x :: y :: r => 128 ≤ x ∧ x ≤ 255 ∧ Shape (y :: r)
def canU : List Int → Prop
  | [] => False
  | [_] => True
  | [_, y] => y ≠ 0
  | _ :: y :: z :: r => canU (y :: z :: r)
def canS : List Int → Prop
  | [] => False
  | [_] => True
  | [x, y] => ¬ (y = 0 ∧ x % 128 < 64) ∧ ¬ (y = 127 ∧ 64 ≤ x % 128)
  | _ :: y :: z :: r => canS (y :: z :: r)

theorem val_nonneg : ∀ ys : List Int, 0 ≤ val ys
  | [] => Int.le_refl _
  | x :: r => by have := val_nonneg r; simp only [val]; omega
theorem canU_pos : ∀ (x y : Int) (r : List Int), Shape (x :: y :: r) → canU (x :: y :: r) → 1 ≤ val (y :: r)
  | x, y, [], h, c => by simp only [Shape, canU, val] at *; omega
  | x, y, z :: r, h, c => by
    have := canU_pos y z r h.2.2 c
    simp only [val] at this ⊢
    omega
theorem encU_of : ∀ (ys : List Int) (f : Nat), Shape ys → canU ys → ys.length ≤ f + 1 → encU f (val ys) = ys
  | [x], f, h, _, _ => by
    simp only [Shape, val] at *
    rw [show x % 128 + 128 * 0 = x from by omega, encU_small (by omega)]
  | x :: y :: r, f, h, c, hl => by
    have h1 := canU_pos x y r h c
    have hc : canU (y :: r) := by cases r <;> simp_all [canU]
    obtain ⟨f', rfl⟩ : ∃ f', f = f' + 1 := ⟨f - 1, by simp at hl; omega⟩
    have ih := encU_of (y :: r) f' h.2.2 hc (by simpa using hl)
    have hx := h.1
    have hx' := h.2.1
    rw [show val (x :: y :: r) = x % 128 + 128 * val (y :: r) from rfl, encU_big (by omega)]
    rw [show (x % 128 + 128 * val (y :: r)) / 128 = val (y :: r) from by omega, ih]
    congr 1
    omega
theorem encU_ne (f : Nat) (u : Int) : encU f u ≠ [] := by cases f <;> unfold encU <;> (try split) <;> simp
theorem Shape.cons {x : Int} {ys : List Int} (h0 : 128 ≤ x) (h1 : x ≤ 255) (h : Shape ys) : Shape (x :: ys) := by
  cases ys with
  | nil => exact h.elim
  | cons y r => exact ⟨h0, h1, h⟩
theorem encU_shape : ∀ (f : Nat) (u : Int), 0 ≤ u → fitsU f u → Shape (encU f u)
  | 0, u, h, hf => ⟨h, hf⟩
  | f + 1, u, h, hf => by
    by_cases hc : 128 ≤ u
    · rw [encU_big hc]
      exact Shape.cons (by omega) (by omega) (encU_shape f (u / 128) (by omega) (by simp only [fitsU] at hf; exact hf.resolve_left (by omega)))
    · rw [encU_small hc]; exact ⟨h, by omega⟩
theorem encU_val : ∀ (f : Nat) (u : Int), 0 ≤ u → fitsU f u → val (encU f u) = u
  | 0, u, h, hf => by simp only [fitsU] at hf; simp only [encU, val]; omega
  | f + 1, u, h, hf => by
    by_cases hc : 128 ≤ u
    · rw [encU_big hc, val, encU_val f (u / 128) (by omega) (by simp only [fitsU] at hf; exact hf.resolve_left (by omega))]; omega
    · rw [encU_small hc]; simp only [val]; omega
theorem encU_can : ∀ (f : Nat) (u : Int), 0 ≤ u → fitsU f u → canU (encU f u)
  | 0, u, h, hf => trivial
  | f + 1, u, h, hf => by
    by_cases hc : 128 ≤ u
    · have hf' : fitsU f (u / 128) := by simp only [fitsU] at hf; exact hf.resolve_left (by omega)
      have ih := encU_can f (u / 128) (by omega) hf'
      have hv := encU_val f (u / 128) (by omega) hf'
      rw [encU_big hc]
      match hy : encU f (u / 128) with
      | [] => exact absurd hy (encU_ne _ _)
      | [y] =>
        rw [hy] at hv
        simp only [val] at hv
        show y ≠ 0
        omega
      | y :: z :: r => rw [hy] at ih; exact ih
    · rw [encU_small hc]; trivial

theorem canS_far : ∀ (x y : Int) (r : List Int), Shape (x :: y :: r) → canS (x :: y :: r) → sval (x :: y :: r) < -64 ∨ 64 ≤ sval (x :: y :: r)
  | x, y, [], h, c => by
    simp only [Shape, canS, sval, ext] at *
    split <;> omega
  | x, y, z :: r, h, c => by
    have := canS_far y z r h.2.2 c
    rw [show sval (x :: y :: z :: r) = x % 128 + 128 * sval (y :: z :: r) from rfl]
    omega
theorem encS_of : ∀ (ys : List Int) (f : Nat), Shape ys → canS ys → ys.length ≤ f + 1 → encS f (sval ys) = ys
  | [x], f, h, _, _ => by
    simp only [Shape, sval] at *
    have he : -64 ≤ ext x ∧ ext x < 64 ∧ ext x % 128 = x := by unfold ext; split <;> omega
    rw [encS_small (by omega), he.2.2]
  | x :: y :: r, f, h, c, hl => by
    have h1 := canS_far x y r h c
    have hc : canS (y :: r) := by cases r <;> simp_all [canS]
    obtain ⟨f', rfl⟩ : ∃ f', f = f' + 1 := ⟨f - 1, by simp at hl; omega⟩
    have ih := encS_of (y :: r) f' h.2.2 hc (by simpa using hl)
    have hx := h.1
    have hx' := h.2.1
    rw [show sval (x :: y :: r) = x % 128 + 128 * sval (y :: r) from rfl] at h1 ⊢
    rw [encS_big h1]
    rw [show (x % 128 + 128 * sval (y :: r)) / 128 = sval (y :: r) from by omega, ih]
    congr 1
    omega
theorem encS_ne (f : Nat) (u : Int) : encS f u ≠ [] := by cases f <;> unfold encS <;> (try split) <;> simp
theorem encS_shape : ∀ (f : Nat) (u : Int), fitsS f u → Shape (encS f u)
  | 0, u, hf => by simp only [encS, Shape]; omega
  | f + 1, u, hf => by
    by_cases hc : u < -64 ∨ 64 ≤ u
    · rw [encS_big hc]
      exact Shape.cons (by omega) (by omega) (encS_shape f (u / 128) (by simp only [fitsS] at hf; exact hf.resolve_left (by omega)))
    · rw [encS_small hc]; simp only [Shape]; omega
theorem encS_val : ∀ (f : Nat) (u : Int), fitsS f u → sval (encS f u) = u
  | 0, u, hf => by simp only [fitsS] at hf; simp only [encS, sval, ext]; split <;> omega
  | f + 1, u, hf => by
    by_cases hc : u < -64 ∨ 64 ≤ u
    · have ih := encS_val f (u / 128) (by simp only [fitsS] at hf; exact hf.resolve_left (by omega))
      rw [encS_big hc]
      match hy : encS f (u / 128) with
      | [] => exact absurd hy (encS_ne _ _)
      | y :: r => rw [hy] at ih; rw [show sval ((u % 128 + 128) :: y :: r) = (u % 128 + 128) % 128 + 128 * sval (y :: r) from rfl, ih]; omega
    · rw [encS_small hc]; simp only [sval, ext]; split <;> omega
theorem encS_can : ∀ (f : Nat) (u : Int), fitsS f u → canS (encS f u)
  | 0, u, hf => trivial
  | f + 1, u, hf => by
    by_cases hc : u < -64 ∨ 64 ≤ u
    · have hf' : fitsS f (u / 128) := by simp only [fitsS] at hf; exact hf.resolve_left (by omega)
      have ih := encS_can f (u / 128) hf'
      have hv := encS_val f (u / 128) hf'
      have hs := encS_shape f (u / 128) hf'
      rw [encS_big hc]
      match hy : encS f (u / 128) with
      | [] => exact absurd hy (encS_ne _ _)
      | [y] =>
        rw [hy] at hv hs
        simp only [sval, ext] at hv
        simp only [Shape] at hs
        show ¬ (y = 0 ∧ (u % 128 + 128) % 128 < 64) ∧ ¬ (y = 127 ∧ 64 ≤ (u % 128 + 128) % 128)
        split at hv <;> omega
      | y :: z :: r => rw [hy] at ih; exact ih
    · rw [encS_small hc]; trivial

theorem low_shape : ∀ (low : List Int) (t : Int), (∀ x ∈ low, 128 ≤ x ∧ x ≤ 255) → 0 ≤ t → t < 128 → Shape (low ++ [t])
  | [], t, _, h0, h1 => ⟨h0, h1⟩
  | x :: r, t, h, h0, h1 => Shape.cons (h x (by simp)).1 (h x (by simp)).2 (low_shape r t (fun y hy => h y (by simp [hy])) h0 h1)
theorem low_val : ∀ (low : List Int) (t : Int), val (low ++ [t]) = val low + 128 ^ low.length * (t % 128)
  | [], t => by simp [val]
  | x :: r, t => by
    rw [List.cons_append, val, low_val r t, val, List.length_cons, Int.pow_succ]
    generalize (128 : Int) ^ r.length = q
    rw [Int.mul_add, Int.mul_comm q 128, Int.mul_assoc]
    omega
theorem low_sval : ∀ (low : List Int) (t : Int), sval (low ++ [t]) = val low + 128 ^ low.length * ext t
  | [], t => by simp [val, sval]
  | x :: r, t => by
    have : sval (x :: (r ++ [t])) = x % 128 + 128 * sval (r ++ [t]) := by cases r <;> rfl
    rw [List.cons_append, this, low_sval r t, val, List.length_cons, Int.pow_succ]
    generalize (128 : Int) ^ r.length = q
    rw [Int.mul_add, Int.mul_comm q 128, Int.mul_assoc]
    omega
theorem low_canU : ∀ (low : List Int) (t : Int), canU (low ++ [t]) ↔ (low.length = 0 ∨ t ≠ 0)
  | [], t => by simp [canU]
  | [x], t => by simp [canU]
  | x :: y :: r, t => by
    have := low_canU (y :: r) t
    simp at this
    have e : canU (x :: y :: r ++ [t]) = canU (y :: (r ++ [t])) := by cases r <;> rfl
    rw [e, this]
    simp
theorem low_canS : ∀ (low : List Int) (t : Int), canS (low ++ [t]) ↔ (low.length = 0 ∨ (¬ (t = 0 ∧ low.getD (low.length - 1) 0 % 128 < 64) ∧ ¬ (t = 127 ∧ 64 ≤ low.getD (low.length - 1) 0 % 128)))
  | [], t => by simp [canS]
  | [x], t => by simp [canS]
  | x :: y :: r, t => by
    have := low_canS (y :: r) t
    have e : canS (x :: y :: r ++ [t]) = canS (y :: r ++ [t]) := by cases r <;> rfl
    rw [e, this]
    simp
theorem low_lt : ∀ low : List Int, val low < 128 ^ low.length
  | [] => by simp [val]
  | x :: r => by
    have := low_lt r
    rw [val, List.length_cons, Int.pow_succ]
    generalize (128 : Int) ^ r.length = q at *
    omega

/-- The number's last byte stands at k. -/
structure Stop (xs : List Int) (most k : Nat) : Prop where
  lt : k < xs.length
  most : k < most
  more : ∀ i, i < k → 128 ≤ xs.getD i 0
  last : xs.getD k 0 < 128
theorem three (xs : List Int) : ∀ most : Nat, (∃ k, Stop xs most k) ∨ (most ≤ xs.length ∧ ∀ i, i < most → 128 ≤ xs.getD i 0) ∨ (xs.length < most ∧ ∀ i, i < xs.length → 128 ≤ xs.getD i 0)
  | 0 => .inr (.inl ⟨Nat.zero_le _, fun i h => by omega⟩)
  | m + 1 => by
    rcases three xs m with ⟨k, h⟩ | ⟨h, g⟩ | ⟨h, g⟩
    · exact .inl ⟨k, h.lt, by have := h.most; omega, h.more, h.last⟩
    · by_cases hl : m < xs.length
      · by_cases hx : 128 ≤ xs.getD m 0
        · refine .inr (.inl ⟨hl, fun i hi => ?_⟩)
          by_cases e : i = m
          · subst e; exact hx
          · exact g i (by omega)
        · exact .inl ⟨m, hl, by omega, g, by omega⟩
      · have e : m = xs.length := by omega
        subst e
        exact .inr (.inr ⟨by omega, g⟩)
    · exact .inr (.inr ⟨by omega, g⟩)
def low (xs : List Int) (k : Nat) : List Int := xs.take k
theorem take_low (xs : List Int) (k : Nat) (h : k < xs.length) : xs.take (k + 1) = low xs k ++ [xs.getD k 0] := by
  unfold low
  rw [List.take_succ_eq_append_getElem h]
  simp [List.getD, h]
theorem low_length (xs : List Int) (k : Nat) (h : k < xs.length) : (low xs k).length = k := by unfold low; simp; omega
def Bs (xs : List Int) : Prop := ∀ x ∈ xs, 0 ≤ x ∧ x ≤ 255
theorem Bs.getD {xs : List Int} (h : Bs xs) (i : Nat) : 0 ≤ xs.getD i 0 ∧ xs.getD i 0 ≤ 255 := by
  by_cases hi : i < xs.length
  · have := h xs[i] (List.getElem_mem hi)
    simpa [List.getD, hi] using this
  · simp [List.getD, hi]
theorem Stop.lows {xs : List Int} {most k : Nat} (h : Stop xs most k) (hb : Bs xs) : ∀ x ∈ low xs k, 128 ≤ x ∧ x ≤ 255 := by
  intro x hx
  obtain ⟨i, hi, rfl⟩ := List.mem_iff_getElem.1 hx
  have hk : i < k := by rw [low_length xs k h.lt] at hi; exact hi
  have e : (low xs k)[i] = xs.getD i 0 := by
    have := h.lt
    simp [low, List.getD, show i < xs.length by omega]
  rw [e]
  exact ⟨h.more i hk, (hb.getD i).2⟩
theorem Stop.shape {xs : List Int} {most k : Nat} (h : Stop xs most k) (hb : Bs xs) : Shape (xs.take (k + 1)) := by
  rw [take_low xs k h.lt]
  exact low_shape _ _ (h.lows hb) (hb.getD k).1 h.last
/-- Is the number that ends at k in its shortest form, and below 2^bits? -/
def goodU (xs : List Int) (bits : Int) (k : Nat) : Prop := canU (xs.take (k + 1)) ∧ val (xs.take (k + 1)) < 2 ^ bits.toNat
theorem goodU_iff {xs : List Int} {k most : Nat} (h : Stop xs most k) (hb : Bs xs) (bits : Int) (hr : 7 * (k : Int) < bits) :
    goodU xs bits k ↔ (k = 0 ∨ xs.getD k 0 ≠ 0) ∧ xs.getD k 0 < 2 ^ (bits - 7 * k).toNat := by
  unfold goodU
  rw [take_low xs k h.lt, low_canU, low_val, low_length xs k h.lt]
  have hl := low_lt (low xs k)
  have hn := val_nonneg (low xs k)
  rw [low_length xs k h.lt] at hl
  have ht := hb.getD k
  have ht2 := h.last
  have e : (2 : Int) ^ bits.toNat = 128 ^ k * 2 ^ (bits - 7 * k).toNat := by
    rw [show (128 : Int) = 2 ^ 7 from by decide, ← Int.pow_mul, ← Int.pow_add]
    congr 1
    omega
  rw [e]
  generalize (2 : Int) ^ (bits - 7 * k).toNat = r at *
  have hq : (0 : Int) < 128 ^ k := Int.pow_pos (by decide)
  generalize (128 : Int) ^ k = q at *
  generalize xs.getD k 0 = t at *
  generalize val (low xs k) = v at *
  rw [show t % 128 = t from by omega]
  refine and_congr Iff.rfl ⟨fun hh => ?_, fun hh => ?_⟩
  · have : q * t < q * r := by omega
    exact Int.lt_of_mul_lt_mul_left this (by omega)
  · have h1 : q * (t + 1) ≤ q * r := Int.mul_le_mul_of_nonneg_left (by omega) (by omega)
    rw [Int.mul_add] at h1
    omega
def goodS (xs : List Int) (bits : Int) (k : Nat) : Prop := canS (xs.take (k + 1)) ∧ -2 ^ (bits - 1).toNat ≤ sval (xs.take (k + 1)) ∧ sval (xs.take (k + 1)) < 2 ^ (bits - 1).toNat
theorem goodS_iff {xs : List Int} {k most : Nat} (h : Stop xs most k) (bits : Int) (hr : 7 * (k : Int) < bits) :
    goodS xs bits k ↔ (k = 0 ∨ (¬ (xs.getD k 0 = 0 ∧ xs.getD (k - 1) 0 % 128 < 64) ∧ ¬ (xs.getD k 0 = 127 ∧ 64 ≤ xs.getD (k - 1) 0 % 128))) ∧ -2 ^ (bits - 7 * k - 1).toNat ≤ ext (xs.getD k 0) ∧ ext (xs.getD k 0) < 2 ^ (bits - 7 * k - 1).toNat := by
  unfold goodS
  rw [take_low xs k h.lt, low_canS, low_sval, low_length xs k h.lt]
  have hlt := h.lt
  have e0 : k ≠ 0 → (low xs k).getD (k - 1) 0 = xs.getD (k - 1) 0 := fun hk => by
    simp [low, List.getD, show k - 1 < k by omega, show k - 1 < xs.length by omega]
  have hl := low_lt (low xs k)
  have hn := val_nonneg (low xs k)
  rw [low_length xs k h.lt] at hl
  have e : (2 : Int) ^ (bits - 1).toNat = 128 ^ k * 2 ^ (bits - 7 * k - 1).toNat := by
    rw [show (128 : Int) = 2 ^ 7 from by decide, ← Int.pow_mul, ← Int.pow_add]
    congr 1
    omega
  rw [e]
  refine and_congr ?_ ?_
  · by_cases hk : k = 0
    · simp [hk]
    · rw [e0 hk]
  generalize (2 : Int) ^ (bits - 7 * k - 1).toNat = r at *
  have hq : (0 : Int) < 128 ^ k := Int.pow_pos (by decide)
  generalize (128 : Int) ^ k = q at *
  generalize ext (xs.getD k 0) = t at *
  generalize val (low xs k) = v at *
  refine ⟨fun ⟨g1, g2⟩ => ⟨?_, ?_⟩, fun ⟨g1, g2⟩ => ⟨?_, ?_⟩⟩
  · have : q * (-r) < q * (t + 1) := by rw [Int.mul_add, Int.mul_neg]; omega
    have := Int.lt_of_mul_lt_mul_left this (by omega)
    omega
  · have : q * t < q * r := by omega
    exact Int.lt_of_mul_lt_mul_left this (by omega)
  · have h1 : q * (-r) ≤ q * t := Int.mul_le_mul_of_nonneg_left (by omega) (by omega)
    rw [Int.mul_neg] at h1
    omega
  · have h1 : q * (t + 1) ≤ q * r := Int.mul_le_mul_of_nonneg_left (by omega) (by omega)
    rw [Int.mul_add] at h1
    omega
end Go.Proofs.Ytnbegmlbkjjggaa
