/- extent: plainly, what the rows of a room have to do with the first place where so many are free. No program is named here. -/
import Derived.Test.YtjihemgidogoeaaExN
namespace Go.Proofs.Ytjihemgidogoeaa
open Go.RowKit
set_option linter.unusedVariables false

structure SpI (F : List Bool) (lo k : Nat) (S : List (Int × Int)) : Prop where
  fit : ∀ s ∈ S, (lo : Int) ≤ s.1 ∧ 1 ≤ s.2 ∧ s.1 + s.2 ≤ (lo : Int) + k
  on : ∀ s ∈ S, ∀ i : Nat, s.1 ≤ (lo : Int) + i → (lo : Int) + i < s.1 + s.2 → F.getD i false = true
  ord : S.Pairwise fun s t => s.1 + s.2 ≤ t.1
  cov : ∀ a m : Nat, 1 ≤ m → a + m ≤ k → (∀ i, a ≤ i → i < a + m → F.getD i false = true) → ∃ s ∈ S, s.1 ≤ (lo : Int) + a ∧ (lo : Int) + a + m ≤ s.1 + s.2
  last : ∀ j, k = j + 1 → F.getD j false = true → ∃ S0 x y, S = S0 ++ [(x, y)] ∧ x + y = (lo : Int) + k
theorem bump_snoc (S : List (Int × Int)) (x y : Int) : bump (S ++ [(x, y)]) = S ++ [(x, y + 1)] := by
  unfold bump
  have e1 : (S ++ [(x, y)]).length - 1 = S.length := by simp
  rw [e1]
  have e2 : (S ++ [(x, y)]).getD S.length (0, 0) = (x, y) := by
    rw [List.getD_eq_getElem?_getD, List.getElem?_append_right (Nat.le_refl _)]
    simp
  rw [e2, List.set_append_right _ _ (Nat.le_refl _)]
  simp
theorem SpI.of (F : List Bool) (lo : Nat) : ∀ k, SpI F lo k (spansTo F lo k)
  | 0 => ⟨(fun s h => by cases h), (fun s h => by cases h), List.Pairwise.nil, (fun a m h1 h2 => by omega), (fun j h => by omega)⟩
  | k + 1 => by
    have ih := SpI.of F lo k
    rw [spansTo_succ]
    generalize spansTo F lo k = S at ih
    unfold spanStep
    cases hb : F.getD k false with
    | false =>
      rw [if_neg (by decide)]
      refine ⟨fun s hs => ?_, ih.on, ih.ord, fun a m h1 h2 h3 => ?_, fun j hj hf => ?_⟩
      · have := ih.fit s hs
        omega
      · by_cases h : a + m ≤ k
        · exact ih.cov a m h1 h h3
        · have := h3 k (by omega) (by omega)
          rw [hb] at this
          cases this
      · obtain rfl : j = k := by omega
        rw [hb] at hf
        cases hf
    | true =>
      rw [if_pos rfl]
      by_cases hc : 0 < k ∧ F.getD (k - 1) false = true
      · rw [if_pos hc]
        obtain ⟨S0, x, y, rfl, hxy⟩ := ih.last (k - 1) (by omega) hc.2
        rw [bump_snoc]
        have hfl := ih.fit (x, y) (by simp)
        simp only at hfl
        have hord := ih.ord
        rw [List.pairwise_append] at hord
        obtain ⟨p1, -, p3⟩ := hord
        refine ⟨fun s hs => ?_, fun s hs i h1 h2 => ?_, ?_, fun a m h1 h2 h3 => ?_, fun j hj hf => ⟨S0, x, y + 1, rfl, by omega⟩⟩
        · rcases List.mem_append.1 hs with hs | hs
          · have := ih.fit s (List.mem_append.2 (.inl hs))
            omega
          · simp at hs
            subst hs
            simp only
            omega
        · rcases List.mem_append.1 hs with hs | hs
          · exact ih.on s (List.mem_append.2 (.inl hs)) i h1 h2
          · simp at hs
            subst hs
            simp only at h1 h2
            by_cases hi : i = k
            · rw [hi]; exact hb
            · exact ih.on (x, y) (by simp) i h1 (by simp only; omega)
        · rw [List.pairwise_append]
          refine ⟨p1, List.pairwise_singleton _ _, fun s hs t ht => ?_⟩
          simp at ht
          subst ht
          exact p3 s hs (x, y) (by simp)
        · by_cases h : a + m ≤ k
          · obtain ⟨s, hs, h4, h5⟩ := ih.cov a m h1 h h3
            rcases List.mem_append.1 hs with hs | hs
            · exact ⟨s, List.mem_append.2 (.inl hs), h4, h5⟩
            · simp at hs
              subst hs
              exact ⟨(x, y + 1), by simp, h4, by simp only at h5 ⊢; omega⟩
          · by_cases hm : m = 1
            · exact ⟨(x, y + 1), by simp, by simp only; omega, by simp only; omega⟩
            · obtain ⟨s, hs, h4, h5⟩ := ih.cov a (m - 1) (by omega) (by omega) fun i h6 h7 => h3 i h6 (by omega)
              rcases List.mem_append.1 hs with hs | hs
              · have h6 := p3 s hs (x, y) (by simp)
                simp only at h6
                omega
              · simp at hs
                subst hs
                exact ⟨(x, y + 1), by simp, h4, by simp only at h5 ⊢; omega⟩
      · rw [if_neg hc]
        refine ⟨fun s hs => ?_, fun s hs i h1 h2 => ?_, ?_, fun a m h1 h2 h3 => ?_, fun j hj hf => ⟨S, _, 1, rfl, by omega⟩⟩
        · rcases List.mem_append.1 hs with hs | hs
          · have := ih.fit s hs
            omega
          · simp at hs
            subst hs
            simp only
            omega
        · rcases List.mem_append.1 hs with hs | hs
          · exact ih.on s hs i h1 h2
          · simp at hs
            subst hs
            simp only at h1 h2
            obtain rfl : i = k := by omega
            exact hb
        · rw [List.pairwise_append]
          refine ⟨ih.ord, List.pairwise_singleton _ _, fun s hs t ht => ?_⟩
          simp at ht
          subst ht
          have := ih.fit s hs
          simp only
          omega
        · by_cases h : a + m ≤ k
          · obtain ⟨s, hs, h4, h5⟩ := ih.cov a m h1 h h3
            exact ⟨s, List.mem_append.2 (.inl hs), h4, h5⟩
          · by_cases hm : m = 1
            · exact ⟨_, List.mem_append.2 (.inr (List.mem_singleton.2 rfl)), by simp only; omega, by simp only; omega⟩
            · exact absurd ⟨by omega, h3 (k - 1) (by omega) (by omega)⟩ hc
/-- No row is long enough. -/
theorem spans_no {M : Rm} {n : Int} (hn : 1 ≤ n) (h : ∀ s ∈ M.spans, s.2 < n) : M.takeAt n = none := by
  have hI := SpI.of M.fr M.lo M.fr.length
  refine takeAt_no fun a => ?_
  cases hc : M.all (M.lo + a) n true with
  | false => rfl
  | true =>
    obtain ⟨h1, h2⟩ := (M.all_iff _ _ _).1 hc
    obtain ⟨s, hs, h3, h4⟩ := hI.cov a n.toNat (by omega) (by omega) fun i h3 h4 => h2 i (by omega) (by omega)
    have := h s hs
    omega
/-- The first that is long enough. -/
theorem spans_first {M : Rm} {n : Int} (hn : 1 ≤ n) {j : Nat} {x y : Int} (hj : M.spans[j]? = some (x, y)) (hy : n ≤ y) (h : ∀ i s, i < j → M.spans[i]? = some s → s.2 < n) : M.takeV n = (x, n, true) ∧ M.take n = M.use x n true ∧ M.all x n true = true := by
  have hI := SpI.of M.fr M.lo M.fr.length
  have hmem : (x, y) ∈ M.spans := List.mem_of_getElem? hj
  have hf := hI.fit _ hmem
  simp only at hf
  obtain ⟨a, ha⟩ : ∃ a : Nat, x = (M.lo : Int) + a := ⟨(x - M.lo).toNat, by omega⟩
  have hall : M.all (M.lo + a) n true = true := (M.all_iff _ _ _).2 ⟨⟨hn, by omega, by omega⟩, fun i h1 h2 => hI.on _ hmem i (by simp only; omega) (by simp only; omega)⟩
  have ht : M.takeAt n = some a := by
    refine takeAt_eq hall fun b hb => ?_
    cases hc : M.all (M.lo + b) n true with
    | false => rfl
    | true =>
      obtain ⟨h1, h2⟩ := (M.all_iff _ _ _).1 hc
      obtain ⟨s, hs, h3, h4⟩ := hI.cov b n.toNat (by omega) (by omega) fun i h3 h4 => h2 i (by omega) (by omega)
      obtain ⟨i, hi, rfl⟩ := List.getElem_of_mem hs
      have hi' : i < M.spans.length := hi
      rcases Nat.lt_trichotomy i j with hij | hij | hij
      · have := h i _ hij (List.getElem?_eq_getElem hi')
        have e : (M.spans[i]'hi').2 = ((spansTo M.fr M.lo M.fr.length)[i]'hi).2 := rfl
        omega
      · subst hij
        have e : (spansTo M.fr M.lo M.fr.length)[i]'hi = (x, y) := by
          have := List.getElem?_eq_getElem hi'
          rw [hj] at this
          exact (Option.some.inj this).symm
        rw [e] at h3
        simp only at h3
        omega
      · have hjl : j < (spansTo M.fr M.lo M.fr.length).length := by omega
        have := List.pairwise_iff_getElem.1 hI.ord j i hjl hi hij
        have e : (spansTo M.fr M.lo M.fr.length)[j]'hjl = (x, y) := by
          have := List.getElem?_eq_getElem hjl
          have hj2 : (spansTo M.fr M.lo M.fr.length)[j]? = some (x, y) := hj
          rw [hj2] at this
          exact (Option.some.inj this).symm
        rw [e] at this
        simp only at this
        omega
  unfold Rm.takeV Rm.take
  rw [ht]
  rw [ha]
  exact ⟨rfl, rfl, hall⟩
/-- What the rows are. -/
theorem spans_fit (M : Rm) : ∀ s ∈ M.spans, (M.lo : Int) ≤ s.1 ∧ 1 ≤ s.2 ∧ s.1 + s.2 ≤ (M.lo : Int) + M.fr.length := (SpI.of M.fr M.lo M.fr.length).fit
theorem spans_len (M : Rm) : M.spans.length ≤ M.fr.length := spansTo_len _
end Go.Proofs.Ytjihemgidogoeaa
