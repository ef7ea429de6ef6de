/- dev: what a crash leaves, plainly; slices.Clone of sectors. -/
import Derived.Test.YtpfcopdckjedfaaDoorDyH
namespace Go.Proofs.YtpfcopdckjedfaaDoor
open Go.RowKit Go.Maps
set_option linter.unusedVariables false
set_option maxRecDepth 100000

def rank (l : List Bool) (x : Nat) : Nat := (l.take x).count true
theorem looses_at : ∀ (l : List Bool) (k j : Nat) (x : Int), (loosesFrom k l)[j]? = some x → ∃ i : Nat, i < l.length ∧ x = (k : Int) + i ∧ l.getD i false = true ∧ rank l i = j
  | [], k, j, x, h => by simp [loosesFrom] at h
  | true :: l, k, 0, x, h => by
    simp [loosesFrom] at h
    exact ⟨0, by simp, by omega, rfl, rfl⟩
  | true :: l, k, j + 1, x, h => by
    obtain ⟨i, h1, h2, h3, h4⟩ := looses_at l (k + 1) j x (by simpa [loosesFrom] using h)
    exact ⟨i + 1, by simpa using h1, by omega, by simpa using h3, by simp [rank] at h4 ⊢; omega⟩
  | false :: l, k, j, x, h => by
    obtain ⟨i, h1, h2, h3, h4⟩ := looses_at l (k + 1) j x (by simpa [loosesFrom] using h)
    exact ⟨i + 1, by simpa using h1, by omega, by simpa using h3, by simp [rank] at h4 ⊢; omega⟩
theorem looses_rank : ∀ (l : List Bool) (k i : Nat), i < l.length → l.getD i false = true → (loosesFrom k l)[rank l i]? = some ((k : Int) + i)
  | true :: l, k, 0, _, _ => by simp [loosesFrom, rank]
  | false :: l, k, 0, _, h => by simp at h
  | true :: l, k, i + 1, h1, h2 => by
    have := looses_rank l (k + 1) i (by simpa using h1) (by simpa using h2)
    have e : rank (true :: l) (i + 1) = rank l i + 1 := by simp [rank]
    rw [e]
    simp only [loosesFrom, List.getElem?_cons_succ, this]
    congr 1; omega
  | false :: l, k, i + 1, h1, h2 => by
    have := looses_rank l (k + 1) i (by simpa using h1) (by simpa using h2)
    have e : rank (false :: l) (i + 1) = rank l i := by simp [rank]
    rw [e]
    simp only [loosesFrom, this]
    congr 1; omega
theorem getD_mem {α : Type} {L : List α} {i : Nat} {z : α} (h : i < L.length) : L.getD i z ∈ L := by
  rw [List.getD_eq_getElem?_getD, List.getElem?_eq_getElem h]
  exact List.getElem_mem h
/-- The sectors behind j of the loose ones. -/
def crS (M : Dv) (ks : List Bool) : Nat → List Sec
  | 0 => M.now
  | j + 1 => if ks.getD j false then crS M ks j else (crS M ks j).set (M.looses.getD j 0).toNat (M.safe.getD (M.looses.getD j 0).toNat [])
theorem crS_length (M : Dv) (ks : List Bool) : ∀ j, (crS M ks j).length = M.now.length
  | 0 => rfl
  | j + 1 => by
    unfold crS
    split
    · exact crS_length M ks j
    · rw [List.length_set]; exact crS_length M ks j
theorem crS_mem {M : Dv} (h : M.ok) (ks : List Bool) : ∀ j, ∀ s ∈ crS M ks j, secOk s
  | 0, s, hs => h.now s hs
  | j + 1, s, hs => by
    unfold crS at hs
    split at hs
    · exact crS_mem h ks j s hs
    · have hl := crS_length M ks j
      by_cases hx : (M.looses.getD j 0).toNat < M.now.length
      · rcases List.mem_or_eq_of_mem_set hs with hs | rfl
        · exact crS_mem h ks j s hs
        · exact h.safe _ (getD_mem (by rw [h.s]; exact hx))
      · rw [List.set_eq_of_length_le (by omega)] at hs
        exact crS_mem h ks j s hs
theorem crS_getD {M : Dv} (h : M.ok) (ks : List Bool) : ∀ j, j ≤ M.looses.length → ∀ x, x < M.now.length → (crS M ks j).getD x [] = if M.loose.getD x false = true ∧ rank M.loose x < j ∧ ks.getD (rank M.loose x) false = false then M.safe.getD x [] else M.now.getD x []
  | 0, _, x, hx => by rw [if_neg (by omega)]; rfl
  | j + 1, hj, x, hx => by
    have hL := h.l
    have ih := crS_getD h ks j (by omega) x hx
    have hat : M.looses[j]? = some (M.looses.getD j 0) := by simp [List.getD, show j < M.looses.length by omega]
    obtain ⟨i, i1, i2, i3, i4⟩ := looses_at M.loose 0 j _ hat
    have ei : (M.looses.getD j 0).toNat = i := by omega
    have huniq : M.loose.getD x false = true → rank M.loose x = j → x = i := fun h1 h2 => by
      have := looses_rank M.loose 0 x (by omega) h1
      rw [h2] at this
      have e2 := Option.some.inj (hat.symm.trans this)
      omega
    unfold crS
    rw [ei]
    by_cases hk : ks.getD j false = true
    · rw [if_pos hk, ih]
      by_cases hc : M.loose.getD x false = true ∧ rank M.loose x < j ∧ ks.getD (rank M.loose x) false = false
      · rw [if_pos hc, if_pos ⟨hc.1, by omega, hc.2.2⟩]
      · rw [if_neg hc, if_neg]
        rintro ⟨a, b, c⟩
        by_cases e : rank M.loose x = j
        · rw [e] at c; rw [hk] at c; cases c
        · exact hc ⟨a, by omega, c⟩
    · rw [if_neg hk]
      rw [getD_set' _ _ _ _ _ (by rw [crS_length]; omega)]
      by_cases e : i = x
      · subst e
        rw [if_pos rfl, if_pos ⟨i3, by omega, by rw [i4]; simpa using hk⟩]
      · rw [if_neg e, ih]
        by_cases hc : M.loose.getD x false = true ∧ rank M.loose x < j ∧ ks.getD (rank M.loose x) false = false
        · rw [if_pos hc, if_pos ⟨hc.1, by omega, hc.2.2⟩]
        · rw [if_neg hc, if_neg]
          rintro ⟨a, b, c⟩
          by_cases e' : rank M.loose x = j
          · exact e (huniq a e').symm
          · exact hc ⟨a, by omega, c⟩
theorem crS_all {M : Dv} (h : M.ok) (hs : ∀ j : Nat, j < M.now.length → M.loose.getD j false = false → M.safe.getD j [] = M.now.getD j []) (ks : List Bool) : crS M ks M.looses.length = keepS M.now M.safe M.loose ks := by
  have hk := keepS_length M.now M.safe M.loose ks h.s h.l
  apply List.ext_getElem?
  intro x
  by_cases hx : x < M.now.length
  · have h1 := crS_getD h ks M.looses.length (Nat.le_refl _) x hx
    have h2 := keepS_getD M.now M.safe M.loose ks x h.s h.l
    have e : (crS M ks M.looses.length).getD x [] = (keepS M.now M.safe M.loose ks).getD x [] := by
      rw [h1, h2]
      by_cases hl : M.loose.getD x false = true
      · have hr : rank M.loose x < M.looses.length := by
          have := looses_rank M.loose 0 x (by rw [h.l]; exact hx) hl
          exact (List.getElem?_eq_some_iff.1 this).1
        rw [hl, Bool.true_and]
        show _ = if ks.getD (rank M.loose x) false = true then _ else _
        by_cases hkk : ks.getD (rank M.loose x) false = true
        · rw [if_neg (by rw [hkk]; simp), if_pos hkk]
        · rw [if_pos ⟨rfl, hr, by simpa using hkk⟩, if_neg hkk]
      · have hl' : M.loose.getD x false = false := by simpa using hl
        rw [if_neg (by rintro ⟨a, _⟩; exact hl a), hl', Bool.false_and, if_neg (by decide), hs x hx hl']
    have l1 : x < (crS M ks M.looses.length).length := by rw [crS_length]; exact hx
    have l2 : x < (keepS M.now M.safe M.loose ks).length := by rw [hk]; exact hx
    rw [List.getD_eq_getElem?_getD, List.getD_eq_getElem?_getD, List.getElem?_eq_getElem l1, List.getElem?_eq_getElem l2] at e
    rw [List.getElem?_eq_getElem l1, List.getElem?_eq_getElem l2]
    simpa using e
  · rw [List.getElem?_eq_none (by rw [crS_length]; omega), List.getElem?_eq_none (by rw [hk]; omega)]
theorem crash_of (M : Dv) (h : M.ok) (ks : List Bool) : M.crash ks = Dv.of (keepS M.now M.safe M.loose ks) := by
  have hk := keepS_length M.now M.safe M.loose ks h.s h.l
  unfold Dv.crash Dv.of
  rw [hk]
/-- A device of just these sectors, one of which is written. -/
theorem DvL.sector {w w' : World} {L : List Sec} {p bs cap bm x : Nat} {s : Sec} (h : DvL w (Dv.of L) p bs cap bm) (hx : x < L.length) (hs : secOk s) (hw : Wr bs w w') (hb : ∀ cur, Blk w bs 60 cur → Blk w' bs 60 (splice cur (x * 64) (cs8 s))) : DvL w' (Dv.of (L.set x s)) p bs cap bm := by
  obtain ⟨n1, n2, n3⟩ := h.ne
  obtain ⟨D, hm, hD⟩ := h.map
  have hl : (L.set x s).length = L.length := by simp
  have h1 : 1 ≤ L.length := h.ok.n1
  have h2 : L.length ≤ 2048 := h.ok.n2
  have hno : Loo D (Dv.of (L.set x s)) := by
    refine ⟨fun n hn => hD.out n (by simpa [Dv.of] using hn), fun j hj => ?_, fun j hj hl' => ?_, fun j hj _ => rfl⟩
    · have := hD.has j (by simpa [Dv.of] using hj)
      simpa [Dv.of] using this
    · simp [Dv.of, List.getD, List.getElem?_replicate] at hl'
      split at hl' <;> simp at hl'
  refine ⟨Dv.of_ok (by omega) (by omega) (fun t ht => ?_), ?_, ?_, ⟨D, ?_, hno⟩⟩
  · rcases List.mem_or_eq_of_mem_set ht with ht | rfl
    · exact h.ok.now t ht
    · exact hs
  · have := h.blk.grown hw (fun e => n1 (by cases e; rfl))
    simpa [Dv.of] using this
  · have := h.sec.over' (i := x) (by simpa [Dv.of] using hx) (vs := cs8 s) (by rw [cs8_len hs]; exact Nat.le_refl _) hb
    rw [over_all _ _ (by rw [cs8_get, cs8_len hs, cs8_len (h.ok.now _ (by simp [Dv.of, List.getD, hx]))]; exact Nat.le_refl _), cs8_set] at this
    simpa [Dv.of] using this
  · have := hm.kept hw (fun e => n3 (by cases e; rfl))
    simpa [Dv.of] using this
end Go.Proofs.YtpfcopdckjedfaaDoor
