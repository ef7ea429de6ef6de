/- extent: the document's room, plainly. No program is named here. -/
import Derived.Test.YtjihemgidogoeaaBase
namespace Go.Proofs.Ytjihemgidogoeaa
open Go.RowKit
set_option linter.unusedVariables false

structure Rm where
  lo : Nat
  fr : List Bool
def Rm.new (at' n : Int) : Rm := if 0 ≤ at' ∧ 0 ≤ n ∧ n ≤ 2048 then ⟨at'.toNat, List.replicate n.toNat true⟩ else ⟨0, []⟩
/-- Are the n sectors from at' on all b (none is without the room; there is one)? -/
def Rm.all (M : Rm) (at' n : Int) (b : Bool) : Bool :=
  decide (1 ≤ n ∧ (M.lo : Int) ≤ at' ∧ n ≤ M.lo + M.fr.length - at') && (List.range n.toNat).all fun i => M.fr.getD ((at' - M.lo).toNat + i) false == b
def Rm.set (M : Rm) (at' n : Int) (b : Bool) : Rm := ⟨M.lo, (List.range M.fr.length).map fun i : Nat => if at' ≤ (M.lo + i : Int) ∧ (M.lo + i : Int) < at' + n then b else M.fr.getD i false⟩
def Rm.use (M : Rm) (at' n : Int) (b : Bool) : Rm := if M.all at' n b then M.set at' n (!b) else M
def Rm.takeAt (M : Rm) (n : Int) : Option Nat := (List.range M.fr.length).find? fun a => M.all (M.lo + a) n true
def Rm.free (M : Rm) : Nat := M.fr.count true
/-- The last row is one longer. -/
def bump (l : List (Int × Int)) : List (Int × Int) := l.set (l.length - 1) ((l.getD (l.length - 1) (0, 0)).1, (l.getD (l.length - 1) (0, 0)).2 + 1)
/-- The rows of what is free among those ahead of place i, and it. -/
def spanStep (F : List Bool) (lo : Nat) (acc : List (Int × Int)) (i : Nat) : List (Int × Int) :=
  if F.getD i false then if 0 < i ∧ F.getD (i - 1) false = true then bump acc else acc ++ [(((lo + i : Nat) : Int), 1)] else acc
def spansTo (F : List Bool) (lo n : Nat) : List (Int × Int) := (List.range n).foldl (spanStep F lo) []
def Rm.spans (M : Rm) : List (Int × Int) := spansTo M.fr M.lo M.fr.length
def Rm.takeV (M : Rm) (n : Int) : Int × Int × Bool := match M.takeAt n with
  | some a => (M.lo + a, n, true)
  | none => (0, 0, false)
def Rm.take (M : Rm) (n : Int) : Rm := match M.takeAt n with
  | some a => M.use (M.lo + a) n true
  | none => M
structure Rm.ok (M : Rm) : Prop where
  n : M.fr.length ≤ 2048
  lo : M.lo ≤ 1000000

theorem Rm.set_length (M : Rm) (a n : Int) (b : Bool) : (M.set a n b).fr.length = M.fr.length := by simp [Rm.set]
theorem Rm.set_getD (M : Rm) (a n : Int) (b : Bool) (i : Nat) : (M.set a n b).fr.getD i false = if i < M.fr.length ∧ a ≤ (M.lo + i : Int) ∧ (M.lo + i : Int) < a + n then b else M.fr.getD i false := by
  unfold Rm.set
  by_cases hi : i < M.fr.length
  · simp [List.getD, hi]
  · simp [List.getD, hi]
theorem Rm.all_iff (M : Rm) (a n : Int) (b : Bool) : M.all a n b = true ↔ (1 ≤ n ∧ (M.lo : Int) ≤ a ∧ n ≤ M.lo + M.fr.length - a) ∧ ∀ i : Nat, a ≤ (M.lo + i : Int) → (M.lo + i : Int) < a + n → M.fr.getD i false = b := by
  unfold Rm.all
  simp only [Bool.and_eq_true, decide_eq_true_eq, List.all_eq_true, List.mem_range, beq_iff_eq]
  constructor
  · rintro ⟨h1, h2⟩
    refine ⟨h1, fun i h3 h4 => ?_⟩
    have := h2 (i - (a - M.lo).toNat) (by omega)
    rwa [show (a - M.lo).toNat + (i - (a - M.lo).toNat) = i by omega] at this
  · rintro ⟨h1, h2⟩
    exact ⟨h1, fun i hi => h2 _ (by omega) (by omega)⟩
theorem Rm.new_ok {a n : Int} (ha : a ≤ 1000000) : (Rm.new a n).ok := by
  unfold Rm.new
  split
  · exact ⟨by simp; omega, by simp; omega⟩
  · exact ⟨by simp, by simp⟩
theorem Rm.set_ok {M : Rm} (h : M.ok) (a n : Int) (b : Bool) : (M.set a n b).ok := ⟨by rw [Rm.set_length]; exact h.n, h.lo⟩
theorem Rm.use_ok {M : Rm} (h : M.ok) (a n : Int) (b : Bool) : (M.use a n b).ok := by
  unfold Rm.use
  split
  · exact Rm.set_ok h ..
  · exact h
theorem Rm.takeAt_some {M : Rm} {n : Int} {a : Nat} (h : M.takeAt n = some a) : M.all (M.lo + a) n true = true ∧ a < M.fr.length ∧ ∀ i, i < a → M.all (M.lo + i) n true = false := by
  unfold Rm.takeAt at h
  rw [List.find?_range_eq_some] at h
  obtain ⟨h1, h2, h3⟩ := h
  exact ⟨h1, by simpa using h2, fun i hi => by simpa using h3 i hi⟩
theorem Rm.takeAt_none {M : Rm} {n : Int} (h : M.takeAt n = none) (a : Int) : M.all a n true = false := by
  unfold Rm.takeAt at h
  rw [List.find?_range_eq_none] at h
  cases hc : M.all a n true with
  | false => rfl
  | true =>
    have h1 := (M.all_iff a n true).1 hc
    have := h (a - M.lo).toNat (by omega)
    rw [show (M.lo : Int) + ((a - M.lo).toNat : Nat) = a by omega, hc] at this
    simp at this
theorem spansTo_succ (F : List Bool) (lo n : Nat) : spansTo F lo (n + 1) = spanStep F lo (spansTo F lo n) n := by
  unfold spansTo
  rw [List.range_succ, List.foldl_append]
  rfl
theorem spansTo_zero (F : List Bool) (lo : Nat) : spansTo F lo 0 = [] := rfl
/-- A room within a row of bools that begins at nought. -/
def Rm.pad (M : Rm) (F : List Bool) : Prop := ∀ i, F.getD i false = (decide (M.lo ≤ i) && M.fr.getD (i - M.lo) false)
theorem spansTo_low {M : Rm} {F : List Bool} (h : M.pad F) : ∀ n, n ≤ M.lo → spansTo F 0 n = []
  | 0, _ => rfl
  | n + 1, hn => by
    rw [spansTo_succ, spansTo_low h n (by omega)]
    unfold spanStep
    have e := h n
    rw [show decide (M.lo ≤ n) = false by simp; omega, Bool.false_and] at e
    rw [if_neg (by rw [e]; decide)]
theorem spansTo_mid {M : Rm} {F : List Bool} (h : M.pad F) : ∀ n, spansTo F 0 (M.lo + n) = spansTo M.fr M.lo n
  | 0 => by rw [spansTo_zero]; exact spansTo_low h _ (Nat.le_refl _)
  | n + 1 => by
    rw [← Nat.add_assoc, spansTo_succ, spansTo_succ, spansTo_mid h n]
    unfold spanStep
    have e1 : F.getD (M.lo + n) false = M.fr.getD n false := by
      rw [h (M.lo + n)]
      simp [show M.lo + n - M.lo = n by omega]
    have e2 : (0 < M.lo + n ∧ F.getD (M.lo + n - 1) false = true) ↔ (0 < n ∧ M.fr.getD (n - 1) false = true) := by
      rw [h (M.lo + n - 1)]
      by_cases hn : 0 < n
      · simp only [show decide (M.lo ≤ M.lo + n - 1) = true by simp; omega, show M.lo + n - 1 - M.lo = n - 1 by omega, Bool.true_and]
        constructor
        · exact fun h => ⟨hn, h.2⟩
        · exact fun h => ⟨by omega, h.2⟩
      · have hn0 : n = 0 := by omega
        subst hn0
        constructor
        · rintro ⟨h1, h2⟩
          simp only [Bool.and_eq_true, decide_eq_true_eq] at h2
          omega
        · rintro ⟨h1, _⟩
          omega
    rw [e1]
    simp only [e2, Nat.zero_add]
theorem spansTo_high {M : Rm} {F : List Bool} (h : M.pad F) : ∀ n, spansTo F 0 (M.lo + M.fr.length + n) = M.spans
  | 0 => spansTo_mid h _
  | n + 1 => by
    rw [← Nat.add_assoc, spansTo_succ, spansTo_high h n]
    unfold spanStep
    have e : F.getD (M.lo + M.fr.length + n) false = false := by
      rw [h]
      rw [show M.lo + M.fr.length + n - M.lo = M.fr.length + n by omega]
      simp [List.getD, show ¬ M.fr.length + n < M.fr.length by omega]
    rw [if_neg (by rw [e]; decide)]
theorem Rm.spans_pad {M : Rm} {F : List Bool} (h : M.pad F) {n : Nat} (hn : M.lo + M.fr.length ≤ n) : spansTo F 0 n = M.spans := by
  obtain ⟨k, rfl⟩ : ∃ k, n = M.lo + M.fr.length + k := ⟨n - (M.lo + M.fr.length), by omega⟩
  exact spansTo_high h k
end Go.Proofs.Ytjihemgidogoeaa
