/- Nested blocks: how many enclose an instruction; what a block encloses fits by itself. Plain mathematics; no program is named here. -/
import Derived.Test.YtfambbpggodlkaaCodeMath
namespace Go.Proofs.Ytfambbpggodlkaa

theorem runN_take {xs : List Int} {s : Ns} (h : runN 0 xs nsStart = some s) (k : Nat) (hk : k < xs.length) : ∃ t t', runN 0 (xs.take k) nsStart = some t ∧ nsStep k (xs.getD k 0) t = some t' ∧ runN 0 (xs.take (k + 1)) nsStart = some t' := by
  have e : xs.take (k + 1) = xs.take k ++ [xs.getD k 0] := by
    rw [List.take_succ_eq_append_getElem hk]; simp [List.getD, hk]
  cases h1 : runN 0 (xs.take k) nsStart with
  | none => rw [runN_none h1] at h; cases h
  | some t =>
    have h2 := runN_snoc (xs.take k) (xs.getD k 0) 0 nsStart
    rw [← e, h1] at h2
    simp only [Option.bind_some, Nat.zero_add, List.length_take, Nat.min_eq_left (Nat.le_of_lt hk)] at h2
    cases h3 : nsStep k (xs.getD k 0) t with
    | none =>
      rw [h3] at h2
      rw [runN_none h2] at h; cases h
    | some t' => exact ⟨t, t', rfl, h3, by rw [h2, h3]⟩

/-- Of what fits: all that is asked of it. -/
structure Fit (xs : List Int) (bl : List Bk) : Prop where
  run : runN 0 xs nsStart = some ⟨bl, []⟩
  len : xs.length ≤ 300
  inv : NsInv xs ⟨bl, []⟩
theorem fits_iff {xs : List Int} {bl : List Bk} : fits xs = some bl ↔ Fit xs bl := by
  unfold fits
  by_cases h : 300 < xs.length
  · rw [if_pos h]
    exact ⟨fun h' => (by cases h'), fun h' => by have := h'.len; omega⟩
  · rw [if_neg h]
    constructor
    · intro h'
      cases hr : runN 0 xs nsStart with
      | none => rw [hr] at h'; cases h'
      | some s =>
        obtain ⟨b, o⟩ := s
        rw [hr] at h'
        cases o with
        | nil =>
          simp only [Option.some.injEq] at h'
          subst h'
          exact ⟨hr, by omega, NsInv.of _ xs rfl _ hr⟩
        | cons p r => cases h'
    · intro h'
      rw [h'.run]
theorem Fit.closed {xs : List Int} {bl : List Bk} (h : Fit xs bl) (k : Nat) (hk : k < bl.length) : 0 ≤ (bl.getD k default).at' ∧ (bl.getD k default).at' < (bl.getD k default).en ∧ (bl.getD k default).en < xs.length := by
  have h1 := h.inv.lo k hk
  rcases h.inv.cls k hk with ⟨f, hf⟩ | hc
  · cases hf
  · exact ⟨h1.1, hc.1, hc.2⟩

/-! How many enclose it. -/
def insideB (i : Int) (b : Bk) : Bool := decide (b.at' < i) && ((b.en == -1 || decide (i < b.en)) && !(b.els == i))
def isOpen (b : Bk) : Bool := b.en == -1
theorem getD_lt (l : List Bk) (k : Nat) (h : k < l.length) : l.getD k default = l[k] := by simp [List.getD, h]

theorem opens {xs : List Int} {s s' : Ns} {x : Int} (h : NsInv xs s) (hs : nsStep xs.length x s = some s') (hc : s.bl.countP isOpen = s.op.length) : s'.bl.countP isOpen = s'.op.length := by
  unfold nsStep at hs
  by_cases hb : begins x = true
  · rw [if_pos hb] at hs
    by_cases h40 : s.op.length = 40
    · rw [if_pos h40] at hs; cases hs
    · rw [if_neg h40] at hs
      simp only [Option.some.injEq] at hs
      subst hs
      simp [List.countP_append, hc, isOpen]
  · rw [if_neg hb] at hs
    by_cases h5 : x = 5
    · rw [if_pos h5] at hs
      match hop : s.op with
      | [] => rw [hop] at hs; cases hs
      | (k0, false) :: r => rw [hop] at hs; cases hs
      | (k0, true) :: r =>
        rw [hop] at hs
        simp only [Option.some.injEq] at hs
        subst hs
        obtain ⟨g1, g2, g3⟩ := h.opn (k0, true) (by rw [hop]; simp)
        simp only at g1 g2
        have hpos : 0 < s.bl.countP isOpen := by rw [hc, hop]; simp
        rw [hop] at hc
        simp only [nsEls]
        rw [List.countP_set g1]
        rw [getD_lt _ _ g1] at g2
        simp only [getD_lt _ _ g1, isOpen, g2] at *
        simp at *
        omega
    · rw [if_neg h5] at hs
      by_cases h11 : x = 11
      · rw [if_pos h11] at hs
        match hop : s.op with
        | [] => rw [hop] at hs; cases hs
        | (k0, f0) :: r =>
          rw [hop] at hs
          simp only [Option.some.injEq] at hs
          subst hs
          obtain ⟨g1, g2, g3⟩ := h.opn (k0, f0) (by rw [hop]; simp)
          simp only at g1 g2
          rw [hop] at hc
          simp only [nsEnd]
          rw [List.countP_set g1]
          rw [getD_lt _ _ g1] at g2
          have hx : ((xs.length : Int) == -1) = false := by simp
          simp only [getD_lt _ _ g1, isOpen, g2, hx] at *
          simp at *
          omega
      · rw [if_neg h11] at hs
        simp only [Option.some.injEq] at hs
        subst hs
        exact hc
theorem opens_of : ∀ (n : Nat) (xs : List Int), xs.length = n → ∀ s, runN 0 xs nsStart = some s → s.bl.countP isOpen = s.op.length
  | 0, xs, hn, s, h => by
    have : xs = [] := List.eq_nil_of_length_eq_zero hn
    subst this
    simp only [runN, Option.some.injEq] at h
    subst h
    simp [nsStart]
  | n + 1, xs, hn, s, h => by
    obtain ⟨ys, y, rfl⟩ : ∃ ys y, xs = ys ++ [y] := ⟨xs.dropLast, xs.getLast (by intro e; simp [e] at hn), (List.dropLast_concat_getLast _).symm⟩
    rw [runN_snoc] at h
    simp only [Nat.zero_add] at h
    cases hr : runN 0 ys nsStart with
    | none => rw [hr] at h; cases h
    | some t =>
      rw [hr] at h
      exact opens (NsInv.of _ ys rfl t hr) h (opens_of n ys (by simpa using hn) t hr)

theorem mem_getD {l : List Bk} {b : Bk} (h : b ∈ l) : ∃ k, k < l.length ∧ b = l.getD k default := by
  obtain ⟨k, hk, rfl⟩ := List.getElem_of_mem h
  exact ⟨k, hk, (getD_lt _ _ hk).symm⟩

/-- At the instruction that comes next, just those that are open. -/
theorem inside_open {xs : List Int} {s : Ns} (h : NsInv xs s) : s.bl.countP (insideB xs.length) = s.bl.countP isOpen := by
  apply List.countP_congr
  intro b hb
  obtain ⟨k, hk, rfl⟩ := mem_getD hb
  have h1 := h.lo k hk
  have h2 := h.els k hk
  have h3 : (s.bl.getD k default).en = -1 ∨ (s.bl.getD k default).en < xs.length := by
    rcases h.cls k hk with ⟨f, hf⟩ | hc
    · exact .inl (h.opn _ hf).2.1
    · exact .inr hc.2
  generalize s.bl.getD k default = b at *
  simp [insideB, isOpen]
  omega

def minusN (x : Int) : Nat := if x = 5 ∨ x = 11 then 1 else 0

/-- One nsStep on: an else and an end take one off that instruction; what comes behind takes none. -/
theorem inside_step {xs : List Int} {s s' : Ns} {x : Int} (h : NsInv xs s) (hs : nsStep xs.length x s = some s') (i : Nat) (hi : i ≤ xs.length) :
    s'.bl.countP (insideB i) + (if i = xs.length then minusN x else 0) = s.bl.countP (insideB i) := by
  unfold nsStep at hs
  unfold minusN
  by_cases hb : begins x = true
  · have hx : ¬ (x = 5 ∨ x = 11) := by simp [begins] at hb; omega
    rw [if_pos hb] at hs
    by_cases h40 : s.op.length = 40
    · rw [if_pos h40] at hs; cases hs
    · rw [if_neg h40] at hs
      simp only [Option.some.injEq] at hs
      subst hs
      have hf : ¬ ((xs.length : Int) < i) := by omega
      simp [List.countP_append, insideB, hx, hf]
  · rw [if_neg hb] at hs
    by_cases h5 : x = 5
    · rw [if_pos h5] at hs
      match hop : s.op with
      | [] => rw [hop] at hs; cases hs
      | (k0, false) :: r => rw [hop] at hs; cases hs
      | (k0, true) :: r =>
        rw [hop] at hs
        simp only [Option.some.injEq] at hs
        subst hs
        obtain ⟨g1, g2, g3⟩ := h.opn (k0, true) (by rw [hop]; simp)
        simp only at g1 g2 g3
        have g4 := (g3.1 trivial).2
        have g5 := (h.lo k0 g1).2
        simp only [nsEls]
        rw [List.countP_set g1]
        rw [getD_lt _ _ g1] at g2 g4 g5
        have hle : (if insideB i s.bl[k0] = true then 1 else 0) ≤ s.bl.countP (insideB i) := by
          split
          · rename_i hin
            exact List.countP_pos_iff.2 ⟨_, List.getElem_mem g1, hin⟩
          · exact Nat.zero_le _
        rw [getD_lt _ _ g1]
        by_cases e : i = xs.length
        · have e1 : insideB i s.bl[k0] = true := by subst e; simp [insideB, g2, g4, g5]
          have e2 : insideB i ⟨s.bl[k0].at', (xs.length : Int), s.bl[k0].en⟩ = false := by simp [insideB, g2, e]
          have k1 : (if insideB i s.bl[k0] = true then 1 else 0) = 1 := if_pos e1
          have k2 : (if insideB i ⟨s.bl[k0].at', (xs.length : Int), s.bl[k0].en⟩ = true then 1 else 0) = 0 := by rw [e2]; rfl
          have k3 : (if x = 5 ∨ x = 11 then 1 else 0) = 1 := if_pos (Or.inl h5)
          rw [k1] at hle
          rw [k1, k2, k3, if_pos e]
          omega
        · have e1 : insideB i ⟨s.bl[k0].at', (xs.length : Int), s.bl[k0].en⟩ = insideB i s.bl[k0] := by
            have a1 : ((xs.length : Int) == (i : Int)) = false := by simp; omega
            have a2 : ((-1 : Int) == (i : Int)) = false := by simp
            simp only [insideB, g4, a1, a2]
          rw [e1, if_neg e]
          omega
    · rw [if_neg h5] at hs
      by_cases h11 : x = 11
      · rw [if_pos h11] at hs
        match hop : s.op with
        | [] => rw [hop] at hs; cases hs
        | (k0, f0) :: r =>
          rw [hop] at hs
          simp only [Option.some.injEq] at hs
          subst hs
          obtain ⟨g1, g2, g3⟩ := h.opn (k0, f0) (by rw [hop]; simp)
          simp only at g1 g2
          have g5 := (h.lo k0 g1).2
          have g4 := h.els k0 g1
          simp only [nsEnd]
          rw [List.countP_set g1]
          rw [getD_lt _ _ g1] at g2 g4 g5
          have hle : (if insideB i s.bl[k0] = true then 1 else 0) ≤ s.bl.countP (insideB i) := by
            split
            · rename_i hin
              exact List.countP_pos_iff.2 ⟨_, List.getElem_mem g1, hin⟩
            · exact Nat.zero_le _
          rw [getD_lt _ _ g1]
          by_cases e : i = xs.length
          · have e1 : insideB i s.bl[k0] = true := by subst e; simp [insideB, g2, g5]; omega
            have e2 : insideB i ⟨s.bl[k0].at', s.bl[k0].els, (xs.length : Int)⟩ = false := by simp [insideB, e]
            have k1 : (if insideB i s.bl[k0] = true then 1 else 0) = 1 := if_pos e1
            have k2 : (if insideB i ⟨s.bl[k0].at', s.bl[k0].els, (xs.length : Int)⟩ = true then 1 else 0) = 0 := by rw [e2]; rfl
            have k3 : (if x = 5 ∨ x = 11 then 1 else 0) = 1 := if_pos (Or.inr h11)
            rw [k1] at hle
            rw [k1, k2, k3, if_pos e]
            omega
          · have e1 : insideB i ⟨s.bl[k0].at', s.bl[k0].els, (xs.length : Int)⟩ = insideB i s.bl[k0] := by
              have a1 : decide ((i : Int) < (xs.length : Int)) = true := by simp; omega
              simp only [insideB, g2, a1]
              simp
            rw [e1, if_neg e]
            omega
      · rw [if_neg h11] at hs
        simp only [Option.some.injEq] at hs
        subst hs
        simp [h5, h11]

/-- Of what fits: as many as were open ahead of it, but for an else's and an end's own. -/
theorem inside_of : ∀ (n : Nat) (xs : List Int), xs.length = n → ∀ s, runN 0 xs nsStart = some s → ∀ i, i < xs.length → ∀ t, runN 0 (xs.take i) nsStart = some t →
    s.bl.countP (insideB i) + minusN (xs.getD i 0) = t.op.length
  | 0, xs, hn, _, _, i, hi, _, _ => by omega
  | n + 1, xs, hn, s, h, i, hi, t, ht => by
    obtain ⟨ys, y, rfl⟩ : ∃ ys y, xs = ys ++ [y] := ⟨xs.dropLast, xs.getLast (by intro e; simp [e] at hn), (List.dropLast_concat_getLast _).symm⟩
    rw [runN_snoc] at h
    simp only [Nat.zero_add] at h
    cases hr : runN 0 ys nsStart with
    | none => rw [hr] at h; cases h
    | some t' =>
      rw [hr] at h
      have hinv := NsInv.of _ ys rfl t' hr
      have hst := inside_step hinv h i (by simp at hi; omega)
      by_cases e : i = ys.length
      · subst e
        rw [if_pos rfl] at hst
        rw [getD_app_at, hst, inside_open hinv, opens_of _ ys rfl t' hr]
        rw [List.take_left] at ht
        rw [hr] at ht
        cases ht
        rfl
      · rw [if_neg e] at hst
        have hi' : i < ys.length := by simp at hi; omega
        rw [getD_app _ _ _ hi']
        rw [List.take_append_of_le_length (by omega)] at ht
        have := inside_of n ys (by simpa using hn) t' hr i hi' t ht
        omega

/-- What Targets tells. -/
def encl (i : Int) (b : Bk) : Bool := decide (b.at' < i) && (decide (i < b.en) && !(i == b.els))
def tgt (bl : List Bk) (i : Int) : List Int := (bl.filter (encl i)).reverse.map Bk.at'
theorem Fit.encl {xs : List Int} {bl : List Bk} (h : Fit xs bl) (i : Int) {b : Bk} (hb : b ∈ bl) : Proofs.Ytfambbpggodlkaa.encl i b = insideB i b := by
  obtain ⟨k, hk, rfl⟩ := mem_getD hb
  have := h.closed k hk
  generalize bl.getD k default = b at *
  have e : (b.en == -1) = false := by simp; omega
  simp only [Proofs.Ytfambbpggodlkaa.encl, insideB, e, Bool.false_or]
  congr 3
  rw [Bool.eq_iff_iff]
  simp
  omega
theorem Fit.tgt_len {xs : List Int} {bl : List Bk} (h : Fit xs bl) (i : Nat) (hi : i < xs.length) (t : Ns) (ht : runN 0 (xs.take i) nsStart = some t) : (tgt bl i).length + minusN (xs.getD i 0) = t.op.length := by
  have h1 := inside_of _ xs rfl _ h.run i hi t ht
  rw [← h1]
  simp only [tgt, List.length_map, List.length_reverse, ← List.countP_eq_length_filter]
  congr 1
  exact List.countP_congr fun b hb => by rw [h.encl i hb]
theorem Fit.tgt_out {xs : List Int} {bl : List Bk} (h : Fit xs bl) (i : Int) (hi : i < 0 ∨ xs.length ≤ i) : tgt bl i = [] := by
  unfold tgt
  rw [List.filter_eq_nil_iff.2]
  · rfl
  · intro b hb
    obtain ⟨k, hk, rfl⟩ := mem_getD hb
    have := h.closed k hk
    generalize bl.getD k default = b at *
    simp [Proofs.Ytfambbpggodlkaa.encl]
    omega
theorem Fit.sorted {xs : List Int} {bl : List Bk} (h : Fit xs bl) : bl.Pairwise fun a b => a.at' < b.at' := by
  rw [List.pairwise_iff_getElem]
  intro i j hi hj hij
  have := h.inv.inc i j hij hj
  simp only [getD_lt _ _ hi, getD_lt _ _ hj] at this
  exact this
theorem Fit.tgt_sorted {xs : List Int} {bl : List Bk} (h : Fit xs bl) (i : Int) : (tgt bl i).Pairwise fun a b => b < a := by
  unfold tgt
  rw [List.pairwise_map, List.pairwise_reverse]
  exact h.sorted.filter _
theorem Fit.tgt_dec {xs : List Int} {bl : List Bk} (h : Fit xs bl) (i : Int) (k : Nat) (hk : k + 1 < (tgt bl i).length) : (tgt bl i).getD (k + 1) 0 < (tgt bl i).getD k 0 := by
  have := List.pairwise_iff_getElem.1 (h.tgt_sorted i) k (k + 1) (by omega) hk (by omega)
  simpa [List.getD, hk, show k < (tgt bl i).length by omega] using this
end Go.Proofs.Ytfambbpggodlkaa
