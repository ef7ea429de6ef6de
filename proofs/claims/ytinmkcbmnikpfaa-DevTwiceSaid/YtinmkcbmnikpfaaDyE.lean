/- dev: what a write leaves, plainly. -/
import Derived.Test.YtinmkcbmnikpfaaDyC
namespace Go.Proofs.Ytinmkcbmnikpfaa
open Go.RowKit Go.Maps
set_option linter.unusedVariables false

/-- The device with a sector written, ahead of its count. -/
def Dv.mid (M : Dv) (i : Nat) (b : List Int) : Dv := { M with now := M.now.set i (b ++ (M.now.getD i []).drop b.length), loose := M.loose.set i true }
theorem Dv.mid_next (M : Dv) (i : Nat) (b : List Int) : (M.mid i b).next = M.put i b := rfl
theorem Dv.mid_ok {M : Dv} (h : M.ok) {i : Nat} (hi : i < M.now.length) {b : List Int} (hb : b.length ≤ 64) (hw : ∀ x ∈ b, (Lit.int .u8 x).wf = true) : (M.mid i b).ok := by
  refine ⟨by simpa [Dv.mid] using h.n1, by simpa [Dv.mid] using h.n2, by simpa [Dv.mid] using h.s, by simpa [Dv.mid] using h.l, fun s hs => ?_, h.safe, h.f0, h.f1⟩
  rcases List.mem_or_eq_of_mem_set hs with hs | rfl
  · exact h.now s hs
  · refine secOk.over (h.now _ ?_) hb hw
    simp [List.getD, hi]
theorem getD_set' {α : Type} (L : List α) (i j : Nat) (x z : α) (hi : i < L.length) : (L.set i x).getD j z = if i = j then x else L.getD j z := by
  simp only [List.getD, List.getElem?_set]
  by_cases e : i = j
  · subst e; simp [hi]
  · simp [e]
theorem Loo.loose {D : DataW Value} {M : Dv} (h : Loo D M) (hM : M.ok) {i : Nat} (hi : i < M.now.length) (hl : M.loose.getD i false = true) (b : List Int) : Loo D (M.mid i b) := by
  have hL := hM.l
  have e0 : M.loose.set i true = M.loose := by
    apply List.ext_getElem?
    intro j
    rw [List.getElem?_set]
    by_cases e : i = j
    · subst e
      rw [if_pos rfl, if_pos (by omega)]
      rw [List.getD_eq_getElem?_getD, List.getElem?_eq_getElem (by omega)] at hl
      rw [List.getElem?_eq_getElem (by omega)]
      simpa using hl.symm
    · rw [if_neg e]
  refine ⟨fun n hn => h.out n (by simpa [Dv.mid] using hn), fun j hj => ?_, fun j hj hl' z => ?_, fun j hj hl' => ?_⟩
  · have := h.has j (by simpa [Dv.mid] using hj)
    simpa [Dv.mid, e0] using this
  · exact h.at' j (by simpa [Dv.mid] using hj) (by simpa [Dv.mid, e0] using hl') z
  · have hl2 : M.loose.getD j false = false := by simpa [Dv.mid, e0] using hl'
    have hne : i ≠ j := fun e => by subst e; rw [hl] at hl2; cases hl2
    show M.safe.getD j [] = (M.now.set i _).getD j []
    rw [getD_set' _ _ _ _ _ hi, if_neg hne]
    exact h.same j (by simpa [Dv.mid] using hj) hl2
theorem Loo.firm {D : DataW Value} {M : Dv} (h : Loo D M) (hm : IsMap D) (hM : M.ok) {i : Nat} (hi : i < M.now.length) (hl : M.loose.getD i false = false) (b : List Int) : Loo (D.put (key i) (.held (secV (M.now.getD i [])))) (M.mid i b) := by
  have hL := hM.l
  have hlen : (M.mid i b).now.length = M.now.length := by simp [Dv.mid]
  have elo : ∀ j, (M.mid i b).loose.getD j false = if i = j then true else M.loose.getD j false := fun j => getD_set' _ _ _ _ _ (by omega)
  refine ⟨fun n hn => ?_, fun j hj => ?_, fun j hj hl' z => ?_, fun j hj hl' => ?_⟩
  · rw [hlen] at hn
    rw [has_put_other (key_ne (by omega))]
    exact h.out n hn
  · rw [hlen] at hj
    rw [elo]
    by_cases e : i = j
    · subst e; rw [if_pos rfl, has_put_same hm (key_is _)]
    · rw [if_neg e, has_put_other (key_ne (by omega))]
      exact h.has j hj
  · rw [hlen] at hj
    rw [elo] at hl'
    show _ = DataW.held (secV (M.safe.getD j []))
    by_cases e : i = j
    · subst e
      rw [atKey_put_same hm (key_is _), h.same i hj hl]
    · rw [if_neg e] at hl'
      rw [atKey_put_other (key_ne (by omega))]
      exact h.at' j hj hl' z
  · rw [hlen] at hj
    rw [elo] at hl'
    by_cases e : i = j
    · rw [if_pos e] at hl'; cases hl'
    · rw [if_neg e] at hl'
      show M.safe.getD j [] = (M.now.set i _).getD j []
      rw [getD_set' _ _ _ _ _ hi, if_neg e]
      exact h.same j hj hl'
theorem count_set_true : ∀ (L : List Bool) (i : Nat), i < L.length → (L.set i true).count true = L.count true + if L.getD i false then 0 else 1
  | x :: L, 0, _ => by cases x <;> simp
  | x :: L, i + 1, h => by
    have := count_set_true L i (by simpa using h)
    simp only [List.set_cons_succ, List.count_cons, this, List.getD_cons_succ]
    omega
end Go.Proofs.Ytinmkcbmnikpfaa
