/- Nested blocks: which block ends where, by a stack. Plain mathematics; no program is named here. -/
namespace Go.Proofs.Ytfambbpggodlkaa

/-- A block: where it stands, its else, its end (-1: none, not yet). -/
structure Bk where
  at' : Int
  els : Int
  en : Int
deriving Inhabited
theorem Bk.ext' {a b : Bk} (h1 : a.at' = b.at') (h2 : a.els = b.els) (h3 : a.en = b.en) : a = b := by
  cases a; cases b; simp_all

/-- The blocks so far, in order; those without an end, the innermost first: which one, and may an else come. -/
structure Ns where
  bl : List Bk
  op : List (Nat × Bool)

def begins (x : Int) : Bool := x == 2 || (x == 3 || x == 4)
def nsEls (s : Ns) (k : Nat) (i : Int) : List Bk := s.bl.set k ⟨(s.bl.getD k default).at', i, (s.bl.getD k default).en⟩
def nsEnd (s : Ns) (k : Nat) (i : Int) : List Bk := s.bl.set k ⟨(s.bl.getD k default).at', (s.bl.getD k default).els, i⟩
def nsStep (i : Nat) (x : Int) (s : Ns) : Option Ns :=
  if begins x = true then (if s.op.length = 40 then none else some ⟨s.bl ++ [⟨i, -1, -1⟩], (s.bl.length, x == 4) :: s.op⟩)
  else if x = 5 then (match s.op with | (k, true) :: r => some ⟨nsEls s k i, (k, false) :: r⟩ | _ => none)
  else if x = 11 then (match s.op with | (k, _) :: r => some ⟨nsEnd s k i, r⟩ | [] => none)
  else some s
def runN : Nat → List Int → Ns → Option Ns
  | _, [], s => some s
  | i, x :: r, s => (nsStep i x s).bind (runN (i + 1) r)
def nsStart : Ns := ⟨[], []⟩
def fits (xs : List Int) : Option (List Bk) :=
  if 300 < xs.length then none else match runN 0 xs nsStart with | some ⟨bl, []⟩ => some bl | _ => none

theorem runN_append : ∀ (xs ys : List Int) (i : Nat) (s : Ns), runN i (xs ++ ys) s = (runN i xs s).bind (runN (i + xs.length) ys)
  | [], ys, i, s => rfl
  | x :: r, ys, i, s => by
    simp only [List.cons_append, runN, List.length_cons]
    cases nsStep i x s with
    | none => rfl
    | some s' =>
      simp only [Option.bind_some]
      rw [runN_append r ys (i + 1) s']
      congr 2
      omega
theorem runN_snoc (xs : List Int) (x : Int) (i : Nat) (s : Ns) : runN i (xs ++ [x]) s = (runN i xs s).bind (nsStep (i + xs.length) x) := by
  rw [runN_append]
  congr 1
  funext s'
  simp only [runN]
  cases nsStep (i + xs.length) x s' <;> rfl
theorem runN_none {xs : List Int} {k : Nat} (h : runN 0 (xs.take k) nsStart = none) : runN 0 xs nsStart = none := by
  rw [← List.take_append_drop k xs, runN_append, h]
  rfl

/-! What holds of the blocks up to an instruction. -/
structure NsInv (xs : List Int) (s : Ns) : Prop where
  lo : ∀ k, k < s.bl.length → 0 ≤ (s.bl.getD k default).at' ∧ (s.bl.getD k default).at' < xs.length
  inc : ∀ k k', k < k' → k' < s.bl.length → (s.bl.getD k default).at' < (s.bl.getD k' default).at'
  opn : ∀ p ∈ s.op, p.1 < s.bl.length ∧ (s.bl.getD p.1 default).en = -1 ∧ (p.2 = true ↔ (xs.getD (s.bl.getD p.1 default).at'.toNat 0 = 4 ∧ (s.bl.getD p.1 default).els = -1))
  dec : s.op.Pairwise fun p q => q.1 < p.1
  cls : ∀ k, k < s.bl.length → (∃ f, (k, f) ∈ s.op) ∨ ((s.bl.getD k default).at' < (s.bl.getD k default).en ∧ (s.bl.getD k default).en < xs.length)
  els : ∀ k, k < s.bl.length → (s.bl.getD k default).els = -1 ∨ ((s.bl.getD k default).at' < (s.bl.getD k default).els ∧ (s.bl.getD k default).els < xs.length)
  nest : ∀ k k', k < k' → k' < s.bl.length → (s.bl.getD k default).en ≠ -1 → (s.bl.getD k' default).at' < (s.bl.getD k default).en → (s.bl.getD k' default).en ≠ -1 ∧ (s.bl.getD k' default).en < (s.bl.getD k default).en
  deep : s.op.length ≤ 40
  few : s.bl.length ≤ xs.length

theorem getD_snoc (l : List Bk) (b : Bk) (k : Nat) : (l ++ [b]).getD k default = if k = l.length then b else l.getD k default := by
  by_cases h : k = l.length
  · subst h; simp [List.getD]
  · rw [if_neg h]
    by_cases h2 : k < l.length
    · simp [List.getD, List.getElem?_append_left h2]
    · simp only [List.getD]
      rw [List.getElem?_eq_none (by simp; omega), List.getElem?_eq_none (by omega)]
theorem getD_set (l : List Bk) (b : Bk) (k j : Nat) (hj : j < l.length) : (l.set j b).getD k default = if k = j then b else l.getD k default := by
  by_cases h : k = j
  · subst h; simp [List.getD, hj]
  · rw [if_neg h]
    simp [List.getD, Ne.symm h]

theorem NsInv.nsStart : NsInv [] nsStart := by
  constructor <;> simp [Proofs.Ytfambbpggodlkaa.nsStart]

theorem getD_app (xs : List Int) (x : Int) (i : Nat) (h : i < xs.length) : (xs ++ [x]).getD i 0 = xs.getD i 0 := by
  simp [List.getD, List.getElem?_append_left h]
theorem getD_app_at (xs : List Int) (x : Int) : (xs ++ [x]).getD xs.length 0 = x := by
  simp [List.getD]

theorem NsInv.nsStep {xs : List Int} {s s' : Ns} {x : Int} (h : NsInv xs s) (hs : nsStep xs.length x s = some s') : NsInv (xs ++ [x]) s' := by
  have hlen : (xs ++ [x]).length = xs.length + 1 := by simp
  have htn : ∀ k, k < s.bl.length → (s.bl.getD k default).at'.toNat < xs.length := fun k hk => by have := h.lo k hk; omega
  unfold Proofs.Ytfambbpggodlkaa.nsStep at hs
  by_cases hb : begins x = true
  · rw [if_pos hb] at hs
    by_cases h40 : s.op.length = 40
    · rw [if_pos h40] at hs; cases hs
    · rw [if_neg h40] at hs
      simp only [Option.some.injEq] at hs
      subst hs
      have hd := h.deep
      have hf := h.few
      refine ⟨?_, ?_, ?_, ?_, ?_, ?_, ?_, by simp; omega, by simp; omega⟩
      · intro k hk
        simp only [List.length_append, List.length_singleton] at hk
        rw [getD_snoc, hlen]
        by_cases e : k = s.bl.length
        · rw [if_pos e]; simp only; omega
        · rw [if_neg e]; have := h.lo k (by omega); omega
      · intro k k' hkk hk
        simp only [List.length_append, List.length_singleton] at hk
        rw [getD_snoc, getD_snoc, if_neg (show k ≠ s.bl.length by omega)]
        by_cases e : k' = s.bl.length
        · rw [if_pos e]; simp only; have := h.lo k (by omega); omega
        · rw [if_neg e]; exact h.inc k k' hkk (by omega)
      · intro p hp
        simp only [List.mem_cons] at hp
        rcases hp with rfl | hp
        · simp only
          rw [getD_snoc, if_pos rfl]
          refine ⟨by simp, rfl, ?_⟩
          simp
        · obtain ⟨h1, h2, h3⟩ := h.opn p hp
          rw [getD_snoc, if_neg (show p.1 ≠ s.bl.length by omega)]
          refine ⟨by simp; omega, h2, ?_⟩
          rw [getD_app _ _ _ (htn p.1 h1)]
          exact h3
      · refine List.Pairwise.cons (fun q hq => ?_) h.dec
        exact (h.opn q hq).1
      · intro k hk
        simp only [List.length_append, List.length_singleton] at hk
        by_cases e : k = s.bl.length
        · subst e; exact .inl ⟨_, List.mem_cons_self ..⟩
        · rw [getD_snoc, if_neg e, hlen]
          rcases h.cls k (by omega) with ⟨f, hf⟩ | hc
          · exact .inl ⟨f, List.mem_cons_of_mem _ hf⟩
          · exact .inr ⟨hc.1, by omega⟩
      · intro k hk
        simp only [List.length_append, List.length_singleton] at hk
        rw [getD_snoc, hlen]
        by_cases e : k = s.bl.length
        · rw [if_pos e]; exact .inl rfl
        · rw [if_neg e]
          rcases h.els k (by omega) with hc | hc
          · exact .inl hc
          · exact .inr ⟨hc.1, by omega⟩
      · intro k k' hkk hk
        simp only [List.length_append, List.length_singleton] at hk
        rw [getD_snoc, getD_snoc, if_neg (show k ≠ s.bl.length by omega)]
        by_cases e : k' = s.bl.length
        · rw [if_pos e]
          intro hen hat
          simp only at hat
          rcases h.cls k (by omega) with ⟨f, hf⟩ | hc
          · exact absurd (h.opn _ hf).2.1 hen
          · omega
        · rw [if_neg e]; exact h.nest k k' hkk (by omega)
  · rw [if_neg hb] at hs
    by_cases h5 : x = 5
    · rw [if_pos h5] at hs
      match hop : s.op with
      | [] => rw [hop] at hs; cases hs
      | (k0, false) :: r => rw [hop] at hs; cases hs
      | (k0, true) :: r =>
        rw [hop] at hs
        simp only [Option.some.injEq] at hs
        subst hs
        obtain ⟨g1, g2, g3⟩ := h.opn (k0, true) (by rw [hop]; simp)
        simp only at g1 g2 g3
        have hel := (g3.1 trivial).2
        have hl0 := h.lo k0 g1
        have hat : ∀ k, ((nsEls s k0 (xs.length : Int)).getD k default).at' = (s.bl.getD k default).at' := by
          intro k; unfold nsEls; rw [getD_set _ _ _ _ g1]
          by_cases e : k = k0
          · subst e; simp
          · simp [e]
        have hen : ∀ k, ((nsEls s k0 (xs.length : Int)).getD k default).en = (s.bl.getD k default).en := by
          intro k; unfold nsEls; rw [getD_set _ _ _ _ g1]
          by_cases e : k = k0
          · subst e; simp
          · simp [e]
        have hes : ∀ k, ((nsEls s k0 (xs.length : Int)).getD k default).els = if k = k0 then (xs.length : Int) else (s.bl.getD k default).els := by
          intro k; unfold nsEls; rw [getD_set _ _ _ _ g1]
          by_cases e : k = k0
          · subst e; simp
          · simp [e]
        have hll : (nsEls s k0 (xs.length : Int)).length = s.bl.length := by simp [nsEls]
        have hdec := h.dec
        rw [hop] at hdec
        have hdeep := h.deep
        rw [hop] at hdeep
        refine ⟨?_, ?_, ?_, ?_, ?_, ?_, ?_, by simpa using hdeep, by simp only [hll, hlen]; have := h.few; omega⟩
        · intro k hk; simp only [hll] at hk; simp only [hat]; rw [hlen]; have := h.lo k hk; omega
        · intro k k' hkk hk; simp only [hll] at hk; simp only [hat]; exact h.inc k k' hkk hk
        · intro p hp
          simp only [List.mem_cons] at hp
          simp only [hll, hat, hen, hes]
          rcases hp with rfl | hp
          · refine ⟨g1, g2, ?_⟩
            simp
          · obtain ⟨h1, h2, h3⟩ := h.opn p (by rw [hop]; exact List.mem_cons_of_mem _ hp)
            have hne : p.1 < k0 := (List.pairwise_cons.1 hdec).1 p hp
            refine ⟨h1, h2, ?_⟩
            rw [if_neg (by omega), getD_app _ _ _ (htn p.1 h1)]
            exact h3
        · exact List.Pairwise.cons (fun q hq => (List.pairwise_cons.1 hdec).1 q hq) (List.pairwise_cons.1 hdec).2
        · intro k hk
          simp only [hll] at hk
          simp only [hat, hen]
          rcases h.cls k hk with ⟨f, hf⟩ | hc
          · rw [hop] at hf
            simp only [List.mem_cons, Prod.mk.injEq] at hf
            rcases hf with ⟨rfl, rfl⟩ | hf
            · exact .inl ⟨false, by simp⟩
            · exact .inl ⟨f, by simp [hf]⟩
          · exact .inr ⟨hc.1, by omega⟩
        · intro k hk
          simp only [hll] at hk
          simp only [hat, hes]
          by_cases e : k = k0
          · rw [if_pos e]; subst e; exact .inr ⟨by omega, by omega⟩
          · rw [if_neg e]
            rcases h.els k hk with hc | hc
            · exact .inl hc
            · exact .inr ⟨hc.1, by omega⟩
        · intro k k' hkk hk; simp only [hll] at hk; simp only [hat, hen]; exact h.nest k k' hkk hk
    · rw [if_neg h5] at hs
      by_cases h11 : x = 11
      · rw [if_pos h11] at hs
        match hop : s.op with
        | [] => rw [hop] at hs; cases hs
        | (k0, f0) :: r =>
          rw [hop] at hs
          simp only [Option.some.injEq] at hs
          subst hs
          obtain ⟨g1, g2, g3⟩ := h.opn (k0, f0) (by rw [hop]; simp)
          simp only at g1 g2 g3
          have hl0 := h.lo k0 g1
          have hat : ∀ k, ((nsEnd s k0 (xs.length : Int)).getD k default).at' = (s.bl.getD k default).at' := by
            intro k; unfold nsEnd; rw [getD_set _ _ _ _ g1]
            by_cases e : k = k0
            · subst e; simp
            · simp [e]
          have hes : ∀ k, ((nsEnd s k0 (xs.length : Int)).getD k default).els = (s.bl.getD k default).els := by
            intro k; unfold nsEnd; rw [getD_set _ _ _ _ g1]
            by_cases e : k = k0
            · subst e; simp
            · simp [e]
          have hen : ∀ k, ((nsEnd s k0 (xs.length : Int)).getD k default).en = if k = k0 then (xs.length : Int) else (s.bl.getD k default).en := by
            intro k; unfold nsEnd; rw [getD_set _ _ _ _ g1]
            by_cases e : k = k0
            · subst e; simp
            · simp [e]
          have hll : (nsEnd s k0 (xs.length : Int)).length = s.bl.length := by simp [nsEnd]
          have hdec := h.dec
          rw [hop] at hdec
          have hdeep := h.deep
          rw [hop] at hdeep
          have hd2 := List.pairwise_cons.1 hdec
          refine ⟨?_, ?_, ?_, hd2.2, ?_, ?_, ?_, by simp at hdeep ⊢; omega, by simp only [hll, hlen]; have := h.few; omega⟩
          · intro k hk; simp only [hll] at hk; simp only [hat]; rw [hlen]; have := h.lo k hk; omega
          · intro k k' hkk hk; simp only [hll] at hk; simp only [hat]; exact h.inc k k' hkk hk
          · intro p hp
            simp only [hll, hat, hen, hes]
            obtain ⟨h1, h2, h3⟩ := h.opn p (by rw [hop]; exact List.mem_cons_of_mem _ hp)
            have hne : p.1 < k0 := hd2.1 p hp
            refine ⟨h1, by rw [if_neg (by omega)]; exact h2, ?_⟩
            rw [getD_app _ _ _ (htn p.1 h1)]
            exact h3
          · intro k hk
            simp only [hll] at hk
            simp only [hat, hen]
            by_cases e : k = k0
            · rw [if_pos e]; subst e; exact .inr ⟨by omega, by omega⟩
            · rw [if_neg e]
              rcases h.cls k hk with ⟨f, hf⟩ | hc
              · rw [hop] at hf
                simp only [List.mem_cons, Prod.mk.injEq] at hf
                rcases hf with ⟨rfl, rfl⟩ | hf
                · exact absurd rfl e
                · exact .inl ⟨f, hf⟩
              · exact .inr ⟨hc.1, by omega⟩
          · intro k hk
            simp only [hll] at hk
            simp only [hat, hes]
            rcases h.els k hk with hc | hc
            · exact .inl hc
            · exact .inr ⟨hc.1, by omega⟩
          · intro k k' hkk hk
            simp only [hll] at hk
            simp only [hat, hen]
            have hin := h.inc k k' hkk hk
            by_cases e : k = k0
            · subst e
              rw [if_pos rfl, if_neg (by omega)]
              intro _ _
              rcases h.cls k' hk with ⟨f, hf⟩ | hc
              · rw [hop] at hf
                simp only [List.mem_cons, Prod.mk.injEq] at hf
                rcases hf with ⟨rfl, rfl⟩ | hf
                · omega
                · have := hd2.1 _ hf; simp at this; omega
              · have := h.lo k' hk; exact ⟨by omega, by omega⟩
            · rw [if_neg e]
              by_cases e' : k' = k0
              · subst e'
                rw [if_pos rfl]
                intro hne hlt
                exact absurd g2 (h.nest k k' hkk hk hne hlt).1
              · rw [if_neg e']; exact h.nest k k' hkk hk
      · rw [if_neg h11] at hs
        simp only [Option.some.injEq] at hs
        subst hs
        refine ⟨?_, h.inc, ?_, h.dec, ?_, ?_, h.nest, h.deep, by rw [hlen]; have := h.few; omega⟩
        · intro k hk; rw [hlen]; have := h.lo k hk; omega
        · intro p hp
          obtain ⟨h1, h2, h3⟩ := h.opn p hp
          refine ⟨h1, h2, ?_⟩
          rw [getD_app _ _ _ (htn p.1 h1)]
          exact h3
        · intro k hk
          rcases h.cls k hk with hc | hc
          · exact .inl hc
          · exact .inr ⟨hc.1, by omega⟩
        · intro k hk
          rcases h.els k hk with hc | hc
          · exact .inl hc
          · exact .inr ⟨hc.1, by omega⟩

theorem NsInv.of : ∀ (n : Nat) (xs : List Int), xs.length = n → ∀ s, runN 0 xs Proofs.Ytfambbpggodlkaa.nsStart = some s → NsInv xs s
  | 0, xs, hn, s, h => by
    have : xs = [] := List.eq_nil_of_length_eq_zero hn
    subst this
    simp only [runN, Option.some.injEq] at h
    subst h
    exact NsInv.nsStart
  | n + 1, xs, hn, s, h => by
    obtain ⟨ys, y, rfl⟩ : ∃ ys y, xs = ys ++ [y] := ⟨xs.dropLast, xs.getLast (by intro e; simp [e] at hn), (List.dropLast_concat_getLast _).symm⟩
    rw [runN_snoc] at h
    simp only [Nat.zero_add] at h
    cases hr : runN 0 ys Proofs.Ytfambbpggodlkaa.nsStart with
    | none => rw [hr] at h; cases h
    | some t =>
      rw [hr] at h
      exact (NsInv.of n ys (by simpa using hn) t hr).nsStep h
end Go.Proofs.Ytfambbpggodlkaa
