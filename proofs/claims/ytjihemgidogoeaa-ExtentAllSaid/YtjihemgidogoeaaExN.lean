/- extent: plain mathematics of its laws. No program is named here. -/
import Derived.Test.YtjihemgidogoeaaExM
namespace Go.Proofs.Ytjihemgidogoeaa
open Go.RowKit
set_option linter.unusedVariables false

theorem bl_ext {l l' : List Bool} (h : l.length = l'.length) (hg : ∀ i, l.getD i false = l'.getD i false) : l = l' := by
  apply List.ext_getElem h
  intro i h1 h2
  have := hg i
  rw [List.getD_eq_getElem?_getD, List.getD_eq_getElem?_getD, List.getElem?_eq_getElem h1, List.getElem?_eq_getElem h2] at this
  exact this
theorem takeAt_eq {M : Rm} {n : Int} {a : Nat} (h1 : M.all (M.lo + a) n true = true) (h2 : ∀ i, i < a → M.all (M.lo + i) n true = false) : M.takeAt n = some a := by
  have h3 := (M.all_iff _ _ _).1 h1
  unfold Rm.takeAt
  rw [List.find?_range_eq_some]
  exact ⟨h1, by simp; omega, fun i hi => by simpa using h2 i hi⟩
theorem takeAt_no {M : Rm} {n : Int} (h : ∀ a : Nat, M.all (M.lo + a) n true = false) : M.takeAt n = none := by
  unfold Rm.takeAt
  rw [List.find?_range_eq_none]
  intro a _
  simpa using h a
theorem all_one (M : Rm) (i : Nat) (b : Bool) (hi : i < M.fr.length) : M.all (M.lo + i) 1 b = (M.fr.getD i false == b) := by
  rw [Bool.eq_iff_iff, M.all_iff, beq_iff_eq]
  constructor
  · rintro ⟨_, h⟩
    exact h i (by omega) (by omega)
  · intro h
    refine ⟨⟨by omega, by omega, by omega⟩, fun j h1 h2 => ?_⟩
    obtain rfl : j = i := by omega
    exact h
theorem all_false {M : Rm} {a n : Int} {b : Bool} {i : Nat} (h1 : a ≤ (M.lo + i : Int)) (h2 : (M.lo + i : Int) < a + n) (h : M.fr.getD i false = !b) : M.all a n b = false := by
  cases hc : M.all a n b with
  | false => rfl
  | true =>
    have := ((M.all_iff a n b).1 hc).2 i h1 h2
    rw [h] at this
    cases b <;> simp at this
theorem use_lo (M : Rm) (a n : Int) (b : Bool) : (M.use a n b).lo = M.lo := by unfold Rm.use; split <;> rfl
theorem use_length (M : Rm) (a n : Int) (b : Bool) : (M.use a n b).fr.length = M.fr.length := by
  unfold Rm.use
  split
  · exact M.set_length a n _
  · rfl
theorem use_getD {M : Rm} {a n : Int} {b : Bool} (h : M.all a n b = true) (i : Nat) : (M.use a n b).fr.getD i false = if a ≤ (M.lo + i : Int) ∧ (M.lo + i : Int) < a + n then !b else M.fr.getD i false := by
  unfold Rm.use
  rw [if_pos h, Rm.set_getD]
  have := (M.all_iff a n b).1 h
  by_cases hc : a ≤ (M.lo + i : Int) ∧ (M.lo + i : Int) < a + n
  · rw [if_pos hc, if_pos ⟨by omega, hc⟩]
  · rw [if_neg hc, if_neg (fun h => hc h.2)]
theorem spansTo_none {F : List Bool} {lo : Nat} : ∀ n, (∀ i, i < n → F.getD i false = false) → spansTo F lo n = []
  | 0, _ => rfl
  | n + 1, h => by
    rw [spansTo_succ, spansTo_none n (fun i hi => h i (by omega))]
    unfold spanStep
    rw [if_neg (by rw [h n (by omega)]; decide)]

/-- A room of n of which the first k are taken. -/
structure FullM (M : Rm) (lo n k : Nat) : Prop where
  lo : M.lo = lo
  len : M.fr.length = n
  at' : ∀ i, M.fr.getD i false = decide (k ≤ i ∧ i < n)
theorem FullM.new (lo n : Nat) (hn : n ≤ 2048) : FullM (Rm.new lo n) lo n 0 := by
  unfold Rm.new
  rw [if_pos (by omega)]
  refine ⟨by simp, by simp, fun i => ?_⟩
  simp only [Int.toNat_natCast]
  rw [List.getD_eq_getElem?_getD, List.getElem?_replicate]
  by_cases h : i < n <;> simp [h]
theorem FullM.takeAt {M : Rm} {lo n k : Nat} (h : FullM M lo n k) (hk : k < n) : M.takeAt 1 = some k := by
  refine takeAt_eq ?_ fun i hi => ?_
  · rw [all_one M k true (by rw [h.len]; exact hk), h.at']
    simp [hk]
  · rw [all_one M i true (by rw [h.len]; omega), h.at']
    simp
    try omega
theorem FullM.step {M : Rm} {lo n k : Nat} (h : FullM M lo n k) (hk : k < n) : FullM (M.use (M.lo + k) 1 true) lo n (k + 1) := by
  have ha : M.all (M.lo + k) 1 true = true := by
    rw [all_one M k true (by rw [h.len]; exact hk), h.at']
    simp [hk]
  refine ⟨by rw [use_lo]; exact h.lo, by rw [use_length]; exact h.len, fun i => ?_⟩
  rw [use_getD ha, h.at']
  by_cases hi : i = k
  · subst hi
    rw [if_pos (by omega)]
    simp
    try omega
  · rw [if_neg (by omega)]
    congr 1
    apply propext
    omega
theorem FullM.free {M : Rm} {lo n k : Nat} (h : FullM M lo n k) (hk : k ≤ n) : M.free = n - k := by
  have e : M.fr = List.replicate k false ++ List.replicate (n - k) true := by
    apply bl_ext
    · rw [h.len]; simp; omega
    · intro i
      rw [h.at', List.getD_eq_getElem?_getD, List.getElem?_append]
      by_cases h1 : i < k
      · rw [if_pos (by simpa using h1), List.getElem?_replicate, if_pos h1]
        simp; omega
      · rw [if_neg (by simpa using h1), List.length_replicate, List.getElem?_replicate]
        by_cases h2 : i < n
        · rw [if_pos (by omega)]; simp; omega
        · rw [if_neg (by omega)]; simp; omega
  unfold Rm.free
  rw [e, List.count_append, List.count_replicate, List.count_replicate]
  simp
theorem FullM.none {M : Rm} {lo n : Nat} (h : FullM M lo n n) : M.takeAt 1 = none := by
  refine takeAt_no fun a => ?_
  by_cases ha : a < n
  · rw [all_one M a true (by rw [h.len]; exact ha), h.at']
    simp
    try omega
  · cases hc : M.all (M.lo + a) 1 true with
    | false => rfl
    | true =>
      have := ((M.all_iff _ _ _).1 hc).1
      rw [h.len] at this
      omega
theorem FullM.spans {M : Rm} {lo n : Nat} (h : FullM M lo n n) : M.spans = [] := spansTo_none _ fun i hi => by rw [h.at']; simp; try omega

/-- A room of 400 in which all from place q on is free. -/
structure FirstM (M : Rm) (q : Nat) : Prop where
  lo : M.lo = 0
  len : M.fr.length = 400
  rest : ∀ i, q ≤ i → i < 400 → M.fr.getD i false = true
/-- From no place ahead of v are n free. -/
def Gone (M : Rm) (n v : Nat) : Prop := ∀ a, a < v → ∃ s, a ≤ s ∧ s < a + n ∧ M.fr.getD s false = false
def WantM (M : Rm) (n q : Nat) (want : Int) : Prop := (want = -1 ∧ Gone M n q) ∨ ∃ v : Nat, want = v ∧ v + n ≤ q ∧ (∀ i, v ≤ i → i < v + n → M.fr.getD i false = true) ∧ Gone M n v
theorem FirstM.new : FirstM (Rm.new 0 400) 0 := by
  refine ⟨rfl, by show (List.replicate 400 true).length = 400; exact List.length_replicate, fun i _ hi => ?_⟩
  show (List.replicate 400 true).getD i false = true
  rw [List.getD_eq_getElem?_getD, List.getElem?_replicate, if_pos hi]
  rfl
theorem FirstM.all {M : Rm} {q : Nat} (h : FirstM M q) {k : Nat} (hk : q + k < 400) : M.all ((q : Int) + k) 1 true = true := by
  have := all_one M (q + k) true (by rw [h.len]; exact hk)
  rw [h.rest (q + k) (by omega) hk, h.lo] at this
  rw [show ((q : Int) + k) = ((0 : Nat) : Int) + ((q + k : Nat) : Int) by omega, this]
  rfl
theorem FirstM.get {M : Rm} {q : Nat} (h : FirstM M q) {k : Nat} (hk : q + k < 400) (i : Nat) : (M.use ((q : Int) + k) 1 true).fr.getD i false = if i = q + k then false else M.fr.getD i false := by
  rw [use_getD (h.all hk), h.lo]
  by_cases hi : i = q + k
  · rw [if_pos hi, if_pos (by omega)]; rfl
  · rw [if_neg hi, if_neg (by omega)]
theorem FirstM.step {M : Rm} {q : Nat} (h : FirstM M q) {k : Nat} (hk : q + k < 400) : FirstM (M.use ((q : Int) + k) 1 true) (q + k + 1) := by
  refine ⟨by rw [use_lo]; exact h.lo, by rw [use_length]; exact h.len, fun i h1 h2 => ?_⟩
  rw [h.get hk, if_neg (by omega)]
  exact h.rest i (by omega) h2
theorem Gone.step {M : Rm} {q n v : Nat} (h : FirstM M q) (hg : Gone M n v) {k : Nat} (hk : q + k < 400) : Gone (M.use ((q : Int) + k) 1 true) n v := fun a ha => by
  obtain ⟨s, h1, h2, h3⟩ := hg a ha
  refine ⟨s, h1, h2, ?_⟩
  rw [h.get hk]
  split
  · rfl
  · exact h3
/-- A round that finds its place. -/
theorem WantM.found {M : Rm} {q n : Nat} (h : FirstM M q) (hg : Gone M n q) {k : Nat} (hk : q + k < 400) (hn : n ≤ k) : WantM (M.use ((q : Int) + k) 1 true) n (q + k + 1) q := by
  refine .inr ⟨q, rfl, by omega, fun i h1 h2 => ?_, hg.step h hk⟩
  rw [h.get hk, if_neg (by omega)]
  exact h.rest i h1 (by omega)
/-- A round whose row is too short. -/
theorem WantM.short {M : Rm} {q n : Nat} (h : FirstM M q) (hg : Gone M n q) {k : Nat} (hk : q + k < 400) (hn : k < n) : WantM (M.use ((q : Int) + k) 1 true) n (q + k + 1) (-1) := by
  refine .inl ⟨rfl, fun a ha => ?_⟩
  by_cases haq : a < q
  · exact hg.step h hk a haq
  · exact ⟨q + k, by omega, by omega, by rw [h.get hk, if_pos rfl]⟩
/-- A round behind the one that found. -/
theorem WantM.stay {M : Rm} {q n v : Nat} (h : FirstM M q) (h1 : v + n ≤ q) (h2 : ∀ i, v ≤ i → i < v + n → M.fr.getD i false = true) (hg : Gone M n v) {k : Nat} (hk : q + k < 400) : WantM (M.use ((q : Int) + k) 1 true) n (q + k + 1) v := by
  refine .inr ⟨v, rfl, by omega, fun i h3 h4 => ?_, hg.step h hk⟩
  rw [h.get hk, if_neg (by omega)]
  exact h2 i h3 h4
theorem first_take {M : Rm} {n v : Nat} (hlo : M.lo = 0) (hlen : M.fr.length = 400) (hn : 1 ≤ n) (hv : v + n ≤ 400) (h2 : ∀ i, v ≤ i → i < v + n → M.fr.getD i false = true) (hg : Gone M n v) : M.takeV n = ((v : Int), (n : Int), true) := by
  have ht : M.takeAt n = some v := by
    refine takeAt_eq ((M.all_iff _ _ _).2 ⟨⟨by omega, by omega, by omega⟩, fun i h3 h4 => h2 i (by omega) (by omega)⟩) fun a ha => ?_
    obtain ⟨s, h3, h4, h5⟩ := hg a ha
    exact all_false (i := s) (by omega) (by omega) (by simpa using h5)
  unfold Rm.takeV
  rw [ht]
  simp [hlo]
theorem rem20 (x : Int) : ∃ i : Nat, i < 20 ∧ (x.tmod 20 + 20).tmod 20 = i := by
  have h1 := Int.lt_tmod_of_pos x (b := 20) (by decide)
  have h2 := Int.tmod_lt_of_pos x (b := 20) (by decide)
  refine ⟨((x.tmod 20 + 20) % 20).toNat, by omega, ?_⟩
  rw [Int.tmod_eq_emod_of_nonneg (by omega)]
  omega

/-- A room of 200 sectors from 5 on, of which the rows l are taken. -/
structure BackM (M : Rm) (l : List (Int × Int)) : Prop where
  lo : M.lo = 5
  len : M.fr.length = 200
  fit : ∀ s ∈ l, 1 ≤ s.2 ∧ 5 ≤ s.1 ∧ s.1 + s.2 ≤ 205
  apart : l.Pairwise fun s t => s.1 + s.2 ≤ t.1 ∨ t.1 + t.2 ≤ s.1
  on : ∀ i : Nat, i < 200 → (M.fr.getD i false = true ↔ ∀ s ∈ l, ¬ (s.1 ≤ 5 + (i : Int) ∧ 5 + (i : Int) < s.1 + s.2))
theorem BackM.new : BackM (Rm.new 5 200) [] := by
  refine ⟨rfl, by show (List.replicate 200 true).length = 200; exact List.length_replicate, fun s h => (by cases h), List.Pairwise.nil, fun i hi => ?_⟩
  have e : (Rm.new 5 200).fr.getD i false = true := by
    show (List.replicate 200 true).getD i false = true
    rw [List.getD_eq_getElem?_getD, List.getElem?_replicate, if_pos hi]
    rfl
  rw [e]
  simp
theorem BackM.take {M : Rm} {l : List (Int × Int)} (h : BackM M l) {n : Int} {a : Nat} (ht : M.takeAt n = some a) : M.takeV n = ((5 : Int) + a, n, true) ∧ BackM (M.take n) (l ++ [((5 : Int) + a, n)]) := by
  obtain ⟨hal, _, _⟩ := Rm.takeAt_some ht
  have hall := (M.all_iff _ _ _).1 hal
  have e1 : M.take n = M.use (M.lo + a) n true := by unfold Rm.take; rw [ht]
  rw [h.lo, h.len] at hall
  refine ⟨by unfold Rm.takeV; rw [ht]; simp [h.lo], ?_⟩
  rw [e1]
  refine ⟨by rw [use_lo]; exact h.lo, by rw [use_length]; exact h.len, fun s hs => ?_, ?_, fun i hi => ?_⟩
  · rcases List.mem_append.1 hs with hs | hs
    · exact h.fit s hs
    · simp at hs
      subst hs
      simp only
      omega
  · rw [List.pairwise_append]
    refine ⟨h.apart, List.pairwise_singleton _ _, fun s hs t ht' => ?_⟩
    simp at ht'
    subst ht'
    have hf := h.fit s hs
    simp only
    by_cases h1 : s.1 + s.2 ≤ 5 + (a : Int)
    · exact .inl h1
    · refine .inr ?_
      by_cases h2 : 5 + (a : Int) + n ≤ s.1
      · exact h2
      · exfalso
        have hj : ∃ j : Nat, 5 + (j : Int) = max s.1 (5 + (a : Int)) := ⟨(max s.1 (5 + (a : Int)) - 5).toNat, by omega⟩
        obtain ⟨j, hj⟩ := hj
        have h3 := hall.2 j (by omega) (by omega)
        exact ((h.on j (by omega)).1 h3) s hs ⟨by omega, by omega⟩
  · rw [use_getD hal, h.lo]
    constructor
    · intro hg s hs
      rcases List.mem_append.1 hs with hs | hs
      · split at hg
        · simp at hg
        · exact (h.on i hi).1 hg s hs
      · simp at hs
        subst hs
        simp only
        intro hc
        rw [if_pos (by omega)] at hg
        simp at hg
    · intro hg
      rw [if_neg (by have := hg _ (List.mem_append.2 (.inr (List.mem_singleton.2 rfl))); simp only at this; omega)]
      exact (h.on i hi).2 fun s hs => hg s (List.mem_append.2 (.inl hs))
theorem take_none {M : Rm} {n : Int} (h : M.takeAt n = none) : M.takeV n = (0, 0, false) ∧ M.take n = M := by
  unfold Rm.takeV Rm.take
  rw [h]
  exact ⟨rfl, rfl⟩
theorem BackM.give {M : Rm} {l : List (Int × Int)} (h : BackM M l) {k : Nat} (hk : k < l.length) {a n : Int} (hs : l[k]? = some (a, n)) :
    M.all a n false = true ∧ BackM (M.use a n false) (l.take k ++ l.drop (k + 1)) ∧ (M.use a n false).all a n false = false ∧ (M.use a n false).use a n false = M.use a n false := by
  have hmem : (a, n) ∈ l := List.mem_of_getElem? hs
  have hf := h.fit _ hmem
  simp only at hf
  have hl : l = l.take k ++ (a, n) :: l.drop (k + 1) := by
    have e := List.take_append_drop k l
    rw [List.drop_eq_getElem_cons hk] at e
    have e2 : l[k] = (a, n) := by rw [List.getElem?_eq_getElem hk] at hs; exact Option.some.inj hs
    rw [e2] at e
    exact e.symm
  have hap := h.apart
  rw [hl, List.pairwise_append] at hap
  obtain ⟨p1, p2, p3⟩ := hap
  rw [List.pairwise_cons] at p2
  obtain ⟨p2, p4⟩ := p2
  have hal : M.all a n false = true := by
    rw [M.all_iff, h.lo, h.len]
    refine ⟨by omega, fun i h1 h2 => ?_⟩
    cases hc : M.fr.getD i false with
    | false => rfl
    | true => exact absurd ⟨by simp only; omega, by simp only; omega⟩ ((h.on i (by omega)).1 hc _ hmem)
  have hg := fun i => use_getD hal i
  rw [h.lo] at hg
  refine ⟨hal, ⟨by rw [use_lo]; exact h.lo, by rw [use_length]; exact h.len, fun s hs => ?_, ?_, fun i hi => ?_⟩, ?_, ?_⟩
  · refine h.fit s ?_
    rw [hl]
    rcases List.mem_append.1 hs with hs | hs
    · exact List.mem_append.2 (.inl hs)
    · exact List.mem_append.2 (.inr (List.mem_cons_of_mem _ hs))
  · rw [List.pairwise_append]
    exact ⟨p1, p4, fun s hs t ht => p3 s hs t (List.mem_cons_of_mem _ ht)⟩
  · rw [hg]
    constructor
    · intro hx s hs
      have hso : s ∈ l := by
        rw [hl]
        rcases List.mem_append.1 hs with hs | hs
        · exact List.mem_append.2 (.inl hs)
        · exact List.mem_append.2 (.inr (List.mem_cons_of_mem _ hs))
      have hd : s.1 + s.2 ≤ a ∨ a + n ≤ s.1 := by
        rcases List.mem_append.1 hs with hs | hs
        · exact p3 s hs _ (List.mem_cons_self ..)
        · exact (p2 s hs).symm
      have hfs := h.fit s hso
      split at hx
      · omega
      · exact (h.on i hi).1 hx s hso
    · intro hx
      split
      · rfl
      · next hc =>
        refine (h.on i hi).2 fun s hs => ?_
        rw [hl] at hs
        rcases List.mem_append.1 hs with hs | hs
        · exact hx s (List.mem_append.2 (.inl hs))
        · rcases List.mem_cons.1 hs with rfl | hs
          · simp only; omega
          · exact hx s (List.mem_append.2 (.inr hs))
  · refine all_false (i := (a - 5).toNat) (by rw [use_lo, h.lo]; omega) (by rw [use_lo, h.lo]; omega) ?_
    rw [hg, if_pos (by omega)]
  · have : (M.use a n false).all a n false = false := all_false (i := (a - 5).toNat) (by rw [use_lo, h.lo]; omega) (by rw [use_lo, h.lo]; omega) (by rw [hg, if_pos (by omega)])
    generalize M.use a n false = N at this ⊢
    unfold Rm.use
    rw [if_neg (by rw [this]; decide)]
theorem BackM.done {M : Rm} (h : BackM M []) : M.free = 200 ∧ M.spans = [(5, 200)] := by
  have e : M.fr = List.replicate 200 true := by
    apply bl_ext
    · rw [h.len]; exact List.length_replicate.symm
    · intro i
      by_cases hi : i < 200
      · rw [(h.on i hi).2 (fun s hs => by cases hs), List.getD_eq_getElem?_getD, List.getElem?_replicate, if_pos hi]; rfl
      · rw [List.getD_eq_getElem?_getD, List.getElem?_eq_none (by rw [h.len]; omega), List.getD_eq_getElem?_getD, List.getElem?_replicate, if_neg hi]
  have hl := h.lo
  obtain ⟨lo, fr⟩ := M
  simp only at e hl
  subst e hl
  decide +kernel
theorem remN (x : Int) (n : Nat) (hn : 0 < n) : ∃ t : Int, x.tmod n = t ∧ -(n : Int) < t ∧ t < n ∧ ∃ k : Nat, (t + n).tmod n = k ∧ k < n := by
  have h1 := Int.lt_tmod_of_pos x (b := (n : Int)) (by omega)
  have h2 := Int.tmod_lt_of_pos x (b := (n : Int)) (by omega)
  refine ⟨_, rfl, h1, h2, ((x.tmod n + n) % n).toNat, ?_, ?_⟩
  · rw [Int.tmod_eq_emod_of_nonneg (by omega)]
    have := Int.emod_nonneg (x.tmod n + n) (b := (n : Int)) (by omega)
    omega
  · have := Int.emod_lt_of_pos (x.tmod n + n) (b := (n : Int)) (by omega)
    have := Int.emod_nonneg (x.tmod n + n) (b := (n : Int)) (by omega)
    omega

theorem bump_length (l : List (Int × Int)) : (bump l).length = l.length := by unfold bump; rw [List.length_set]
/-- Behind a free one there is a row. -/
theorem spansTo_some {F : List Bool} {lo : Nat} : ∀ k, F.getD k false = true → 0 < (spansTo F lo (k + 1)).length
  | 0, h => by
    rw [spansTo_succ]
    unfold spanStep
    rw [if_pos h, if_neg (by omega)]
    simp
  | k + 1, h => by
    rw [spansTo_succ]
    unfold spanStep
    rw [if_pos h]
    split
    · next hc =>
      rw [bump_length]
      exact spansTo_some k (by simpa using hc.2)
    · simp
theorem bump_mem {l : List (Int × Int)} {s : Int × Int} (h : s ∈ bump l) : s ∈ l ∨ ∃ t, t ∈ l ∧ s = (t.1, t.2 + 1) := by
  by_cases hl : l = []
  · subst hl
    simp [bump] at h
  · unfold bump at h
    have hp : 0 < l.length := List.length_pos_iff.2 hl
    rcases List.mem_or_eq_of_mem_set h with h | h
    · exact .inl h
    · refine .inr ⟨l.getD (l.length - 1) (0, 0), ?_, h⟩
      rw [List.getD_eq_getElem?_getD, List.getElem?_eq_getElem (by omega)]
      exact List.getElem_mem _
theorem spansTo_bound {F : List Bool} {lo : Nat} : ∀ k, ∀ s ∈ spansTo F lo k, 0 ≤ s.2 ∧ s.2 ≤ k
  | 0, s, h => by simp [spansTo] at h
  | k + 1, s, h => by
    have ih := spansTo_bound (F := F) (lo := lo) k
    rw [spansTo_succ] at h
    unfold spanStep at h
    split at h
    · split at h
      · rcases bump_mem h with h | ⟨t, ht, rfl⟩
        · have := ih s h; omega
        · have := ih t ht; simp only; omega
      · rcases List.mem_append.1 h with h | h
        · have := ih s h; omega
        · simp at h; subst h; simp only; omega
    · have := ih s h; omega
theorem pad_eq {M : Rm} {F : List Bool} (h : M.pad F) {n : Nat} (hn : F.length = n) (hM : M.lo + M.fr.length ≤ n) : F.count true = M.free := by
  have e : F = List.replicate M.lo false ++ M.fr ++ List.replicate (n - (M.lo + M.fr.length)) false := by
    apply bl_ext
    · simp; omega
    · intro i
      rw [h i, List.getD_eq_getElem?_getD, List.getD_eq_getElem?_getD, List.getElem?_append, List.getElem?_append]
      by_cases h1 : i < M.lo
      · rw [if_pos (by simp; omega), if_pos (by simpa using h1), List.getElem?_replicate, if_pos h1]
        simp; omega
      · by_cases h2 : i < M.lo + M.fr.length
        · rw [if_pos (by simp; omega), if_neg (by simpa using h1), List.length_replicate]
          simp; omega
        · rw [if_neg (by simp; omega), List.getElem?_replicate, List.getElem?_eq_none (by omega)]
          split <;> simp
  unfold Rm.free
  rw [e, List.count_append, List.count_append, List.count_replicate, List.count_replicate]
  simp
theorem count_step {F : List Bool} {k : Nat} (hk : k < F.length) : (F.take (k + 1)).count true = (F.take k).count true + (if F.getD k false then 1 else 0) := by
  rw [List.take_add_one, List.count_append, List.getElem?_eq_getElem hk, List.getD_eq_getElem?_getD, List.getElem?_eq_getElem hk]
  cases F[k] <;> simp
theorem spansTo_len {F : List Bool} {lo : Nat} : ∀ k, (spansTo F lo k).length ≤ k
  | 0 => Nat.le_refl _
  | k + 1 => by
    have ih := spansTo_len (F := F) (lo := lo) k
    rw [spansTo_succ]
    unfold spanStep
    split
    · split
      · rw [bump_length]; omega
      · rw [List.length_append]; simp; omega
    · omega
/-- Sectors that are taken, or given back, in the longer row, too. -/
theorem pad_use {M : Rm} {F F' : List Bool} {a n : Int} {b : Bool} (h : M.pad F) (hal : M.all a n b = true) (hF : ∀ i : Nat, F'.getD i false = if a ≤ (i : Int) ∧ (i : Int) < a + n then !b else F.getD i false) : (M.use a n b).pad F' := by
  intro i
  have hb := ((M.all_iff a n b).1 hal).1
  rw [hF i, use_lo, h i]
  by_cases hi : M.lo ≤ i
  · have e : ((M.lo : Int) + ((i - M.lo : Nat) : Int)) = (i : Int) := by omega
    rw [use_getD hal (i - M.lo), e]
    simp [hi]
  · rw [if_neg (by omega)]
    simp [hi]
/-- Are all of a row's n places from a on b? -/
def allP (F : List Bool) (a n : Nat) (b : Bool) : Bool := (List.range n).all fun j => F.getD (a + j) false == b
theorem allP_zero (F : List Bool) (a : Nat) (b : Bool) : allP F a 0 b = true := rfl
theorem allP_succ (F : List Bool) (a n : Nat) (b : Bool) : allP F a (n + 1) b = (allP F a n b && (F.getD (a + n) false == b)) := by
  unfold allP
  rw [List.range_succ, List.all_append]
  simp
theorem all_pad {M : Rm} {F : List Bool} (h : M.pad F) (a n : Int) (b : Bool) : M.all a n b = (decide (1 ≤ n ∧ (M.lo : Int) ≤ a ∧ n ≤ M.lo + M.fr.length - a) && allP F a.toNat n.toNat b) := by
  unfold Rm.all allP
  by_cases hc : 1 ≤ n ∧ (M.lo : Int) ≤ a ∧ n ≤ M.lo + M.fr.length - a
  · congr 1
    rw [Bool.eq_iff_iff, List.all_eq_true, List.all_eq_true]
    have key : ∀ j, j < n.toNat → M.fr.getD ((a - M.lo).toNat + j) false = F.getD (a.toNat + j) false := fun j hj => by
      rw [h (a.toNat + j), show a.toNat + j - M.lo = (a - M.lo).toNat + j by omega]
      simp; omega
    constructor
    · intro hx j hj
      rw [← key j (by simpa using hj)]
      exact hx j hj
    · intro hx j hj
      rw [key j (by simpa using hj)]
      exact hx j hj
  · simp [hc]
end Go.Proofs.Ytjihemgidogoeaa
