/- MatchShape's mathematics: blocks that are written out; the map of their ends. -/
import Derived.Test.YtfambbpggodlkaaCodeTargets
import Derived.Maps.Views
import Derived.Maps.OwnOps
import Derived.Maps.OwnSet
namespace Go.Proofs.Ytfambbpggodlkaa
open Go.RowKit Go.Maps

abbrev key (n : Int) : Lit := .int .i64 n
theorem key_ne {a b : Int} (h : a ≠ b) : key a ≠ key b := fun e => by cases e; exact h rfl
/-- What is written so far, its blocks, the map of the ends. -/
structure Sh (X : List Int) (s : Ns) (D : DataW Unit) : Prop where
  run : runN 0 X nsStart = some s
  els : ∀ k, k < s.bl.length → (s.bl.getD k default).els = -1
  tidy : Tidy D
  size : Maps.size D + s.op.length = s.bl.length
  at' : ∀ k, k < s.bl.length → (s.bl.getD k default).en ≠ -1 → ∀ z, D.atKey (key (s.bl.getD k default).at') z = .lit (key (s.bl.getD k default).en)
  has : ∀ n : Int, Maps.has D (key n) = true → ∃ k, k < s.bl.length ∧ (s.bl.getD k default).at' = n ∧ (s.bl.getD k default).en ≠ -1
theorem Sh.start : Sh [] nsStart (.map []) := by
  refine ⟨rfl, fun k hk => by simp [nsStart] at hk, tidy_empty, rfl, fun k hk => by simp [nsStart] at hk, fun n h => ?_⟩
  simp [Maps.has_eq] at h

def opnAt (s : Ns) : List Int := s.op.map fun p => (s.bl.getD p.1 default).at'

theorem Sh.nop {X : List Int} {s : Ns} {D : DataW Unit} (h : Sh X s D) : Sh (X ++ [1]) s D := by
  refine ⟨?_, h.els, h.tidy, h.size, h.at', h.has⟩
  rw [runN_snoc, h.run]
  simp only [Option.bind_some]
  unfold nsStep
  rw [if_neg (by decide), if_neg (by decide), if_neg (by decide)]
theorem Sh.push {X : List Int} {s : Ns} {D : DataW Unit} (h : Sh X s D) {x : Int} (hx : begins x = true) (hd : s.op.length < 40) : Sh (X ++ [x]) ⟨s.bl ++ [⟨(X.length : Int), -1, -1⟩], (s.bl.length, x == 4) :: s.op⟩ D := by
  refine ⟨?_, fun k hk => ?_, h.tidy, ?_, fun k hk he => ?_, fun n hn => ?_⟩
  · rw [runN_snoc, h.run]
    simp only [Option.bind_some, Nat.zero_add]
    unfold nsStep
    rw [if_pos hx, if_neg (by omega)]
  · simp only [List.length_append, List.length_singleton] at hk
    rw [getD_snoc]
    by_cases e : k = s.bl.length
    · rw [if_pos e]
    · rw [if_neg e]; exact h.els k (by omega)
  · have := h.size
    simp
    omega
  · simp only [List.length_append, List.length_singleton] at hk
    rw [getD_snoc] at he ⊢
    by_cases e : k = s.bl.length
    · rw [if_pos e] at he; exact absurd rfl he
    · rw [if_neg e] at he ⊢; exact h.at' k (by omega) he
  · obtain ⟨k, hk, h1, h2⟩ := h.has n hn
    refine ⟨k, by simp; omega, ?_, ?_⟩
    · rw [getD_snoc, if_neg (by omega)]; exact h1
    · rw [getD_snoc, if_neg (by omega)]; exact h2
theorem opnAt_push {s : Ns} {b : Bk} {x : Bool} (hv : ∀ p ∈ s.op, p.1 < s.bl.length) : opnAt ⟨s.bl ++ [b], (s.bl.length, x) :: s.op⟩ = b.at' :: opnAt s := by
  unfold opnAt
  simp only [List.map_cons]
  congr 1
  · rw [getD_snoc, if_pos rfl]
  · refine List.map_congr_left fun p hp => ?_
    rw [getD_snoc, if_neg (by have := hv p hp; omega)]
theorem Sh.pop {X : List Int} {s : Ns} {D : DataW Unit} (h : Sh X s D) {k : Nat} {f : Bool} {r : List (Nat × Bool)} (hop : s.op = (k, f) :: r) :
    Sh (X ++ [11]) ⟨nsEnd s k (X.length : Int), r⟩ (D.put (key (s.bl.getD k default).at') (.lit (key (X.length : Int)))) := by
  have hinv := NsInv.of _ _ rfl _ h.run
  obtain ⟨g1, g2, g3⟩ := hinv.opn (k, f) (by rw [hop]; simp)
  simp only at g1 g2
  have hkl : WideAt.IsKeyLit (key (s.bl.getD k default).at') := by trivial
  have hat : ∀ j, ((nsEnd s k (X.length : Int)).getD j default).at' = (s.bl.getD j default).at' := by
    intro j; unfold nsEnd; rw [getD_set _ _ _ _ g1]
    by_cases e : j = k
    · subst e; simp
    · simp [e]
  have hes : ∀ j, ((nsEnd s k (X.length : Int)).getD j default).els = (s.bl.getD j default).els := by
    intro j; unfold nsEnd; rw [getD_set _ _ _ _ g1]
    by_cases e : j = k
    · subst e; simp
    · simp [e]
  have hen : ∀ j, ((nsEnd s k (X.length : Int)).getD j default).en = if j = k then (X.length : Int) else (s.bl.getD j default).en := by
    intro j; unfold nsEnd; rw [getD_set _ _ _ _ g1]
    by_cases e : j = k
    · subst e; simp
    · simp [e]
  have hll : (nsEnd s k (X.length : Int)).length = s.bl.length := by simp [nsEnd]
  have hinj : ∀ j, j < s.bl.length → j ≠ k → (s.bl.getD j default).at' ≠ (s.bl.getD k default).at' := fun j hj hne e => by
    rcases Nat.lt_or_gt_of_ne hne with q | q
    · have := hinv.inc j k q g1; omega
    · have := hinv.inc k j q hj; omega
  have hno : Maps.has D (key (s.bl.getD k default).at') = false := by
    cases hh : Maps.has D (key (s.bl.getD k default).at') with
    | false => rfl
    | true =>
      obtain ⟨j, hj, h1, h2⟩ := h.has _ hh
      by_cases e : j = k
      · rw [e] at h2; exact absurd g2 h2
      · exact absurd h1 (hinj j hj e)
  refine ⟨?_, fun j hj => ?_, h.tidy.put hkl _, ?_, fun j hj he z => ?_, fun n hn => ?_⟩
  · rw [runN_snoc, h.run]
    simp only [Option.bind_some, Nat.zero_add]
    unfold nsStep
    rw [if_neg (by decide), if_neg (by decide), if_pos rfl, hop]
  · simp only [hll] at hj
    simp only [hes]
    exact h.els j hj
  · rw [size_put h.tidy, hno]
    have := h.size
    rw [hop] at this
    simp only [hll]
    simp at this ⊢
    omega
  · simp only [hll] at hj
    simp only [hat, hen] at he ⊢
    by_cases e : j = k
    · subst e
      rw [if_pos rfl]
      exact atKey_put_same h.tidy.isMap hkl _ _
    · rw [if_neg e] at he ⊢
      rw [atKey_put_other (key_ne (hinj j hj e))]
      exact h.at' j hj he z
  · simp only [hll, hat, hen]
    by_cases e : n = (s.bl.getD k default).at'
    · exact ⟨k, g1, e.symm, by rw [if_pos rfl]; omega⟩
    · rw [has_put_other (key_ne e)] at hn
      obtain ⟨j, hj, h1, h2⟩ := h.has n hn
      refine ⟨j, hj, h1, ?_⟩
      rw [if_neg (fun q => by subst q; exact e h1.symm)]
      exact h2
theorem opnAt_pop {s : Ns} {k : Nat} {i : Int} {r : List (Nat × Bool)} (hk : k < s.bl.length) : opnAt ⟨nsEnd s k i, r⟩ = r.map fun p => (s.bl.getD p.1 default).at' := by
  unfold opnAt
  refine List.map_congr_left fun p _ => ?_
  simp only
  unfold nsEnd
  rw [getD_set _ _ _ _ hk]
  by_cases e : p.1 = k
  · rw [if_pos e, e]
  · rw [if_neg e]

/-- The innermost block around the last instruction of a block is that block. -/
theorem tgt_top {X : List Int} {bl : List Bk} (hF : Fit X bl) (hels : ∀ k, k < bl.length → (bl.getD k default).els = -1) {k : Nat} (hk : k < bl.length) (h : (bl.getD k default).at' < (bl.getD k default).en - 1) :
    0 < (tgt bl ((bl.getD k default).en - 1)).length ∧ (tgt bl ((bl.getD k default).en - 1)).getD 0 0 = (bl.getD k default).at' := by
  have hcl := hF.closed k hk
  obtain ⟨i, hi⟩ : ∃ i, i = (bl.getD k default).en - 1 := ⟨_, rfl⟩
  rw [← hi] at h ⊢
  have hin : encl i (bl.getD k default) = true := by
    have := hels k hk
    generalize bl.getD k default = b at *
    simp only [encl, this]
    simp
    omega
  have hmem : (bl.getD k default).at' ∈ tgt bl i := by
    unfold tgt
    refine List.mem_map.2 ⟨_, List.mem_reverse.2 (List.mem_filter.2 ⟨?_, hin⟩), rfl⟩
    rw [getD_lt _ _ hk]
    exact List.getElem_mem hk
  have hle : ∀ x ∈ tgt bl i, x ≤ (bl.getD k default).at' := by
    intro x hx
    unfold tgt at hx
    obtain ⟨b, hb, rfl⟩ := List.mem_map.1 hx
    obtain ⟨hb1, hb2⟩ := List.mem_filter.1 (List.mem_reverse.1 hb)
    obtain ⟨j, hj, rfl⟩ := mem_getD hb1
    have hb3 : (bl.getD j default).at' < i ∧ i < (bl.getD j default).en := by
      generalize bl.getD j default = b at *
      simp [encl] at hb2
      exact ⟨hb2.1, hb2.2.1⟩
    clear hb2
    rcases Nat.lt_trichotomy j k with q | q | q
    · have := hF.inv.inc j k q hk; simp only at this; omega
    · subst q; exact Int.le_refl _
    · have h1 := hF.inv.nest k j q hj
      simp only at h1
      have h2 := h1 (by omega) (by omega)
      omega
  have hs := hF.tgt_sorted i
  cases ht : tgt bl i with
  | nil => rw [ht] at hmem; cases hmem
  | cons x r =>
    rw [ht] at hmem hle hs
    refine ⟨by simp, ?_⟩
    have h1 := hle x (by simp)
    show x = _
    rcases List.mem_cons.1 hmem with q | q
    · exact q.symm
    · have := (List.pairwise_cons.1 hs).1 _ q
      omega
end Go.Proofs.Ytfambbpggodlkaa
