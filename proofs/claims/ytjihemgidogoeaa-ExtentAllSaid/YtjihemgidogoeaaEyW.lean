/- extent's program side: words. A room: its block (where it begins, its row of bools), the row. -/
import Derived.Test.YtjihemgidogoeaaExS
import Derived.Test.YtjihemgidogoeaaExN
import Derived.Test.YtjihemgidogoeaaVals
import Derived.Test.YtjihemgidogoeaaBlk
namespace Go.Proofs.Ytjihemgidogoeaa
open Go.RowKit
set_option linter.unusedVariables false

section
variable {E : TypeId} {base B : Nat} {w w' : World} {v : Value} {vs : List Value}
theorem OwnV.stay (h : OwnV E base w v vs) (hs : w.heap.size ≤ w'.heap.size) (hb : ∀ b, v.ownBlock = some b → w'.heap[b]? = w.heap[b]?) : OwnV E base w' v vs := by
  refine ⟨⟨h.row.1, ?_⟩⟩
  rcases h.row.2 with h2 | ⟨g, cap, cur, hv, hg, hh, r⟩
  · exact .inl h2
  · exact .inr ⟨g, cap, cur, hv, hg, (hb g (by rw [hv]; rfl)).trans hh, r⟩
theorem OwnV.stays (h : OwnV E base w v vs) (hb : ∀ b, v.ownBlock = some b → w'.heap[b]? = w.heap[b]?) : OwnV E base w' v vs := by
  refine ⟨⟨h.row.1, ?_⟩⟩
  rcases h.row.2 with h2 | ⟨g, cap, cur, hv, hg, hh, r⟩
  · exact .inl h2
  · exact .inr ⟨g, cap, cur, hv, hg, (hb g (by rw [hv]; rfl)).trans hh, r⟩
theorem OwnV.num {g n cap : Nat} (h : OwnV E base w (.slice (some ⟨g, 0, none⟩) n cap) vs) : n = vs.length := by
  rcases h.row.2 with ⟨h', _⟩ | ⟨g', cap', cur, h', _⟩
  · simp at h'
  · simp at h'; exact h'.2.1
theorem OwnV.set {g n cap : Nat} (h : OwnV E base w (.slice (some ⟨g, 0, none⟩) n cap) vs) (i : Nat) (u : Value) : OwnV E base (w.setCell ⟨g, i, none⟩ u) (.slice (some ⟨g, 0, none⟩) n cap) (vs.set i u) := by
  have hn := h.num
  subst hn
  have := (h.row.stored i u).1
  refine ⟨?_⟩
  rwa [List.length_set]
theorem OwnV.cell {g n cap : Nat} (h : OwnV E base w (.slice (some ⟨g, 0, none⟩) n cap) vs) (i : Nat) {u : Value} (hi : vs[i]? = some u) :
    w.cell? ⟨g, i, none⟩ = some u ∧ w.frozen? ⟨g, i, none⟩ = false ∧ base ≤ g ∧ g < w.heap.size := by
  have hn := h.num
  subst hn
  have hl : i < vs.length := (List.getElem?_eq_some_iff.1 hi).1
  exact ⟨by rw [h.row.cellAt i (by omega), hi], h.row.frozenAt i, (h.lt g rfl).1, (h.lt g rfl).2⟩
theorem OwnV.shape (h : OwnV E base w v vs) : ∃ ao cap, v = .slice ao vs.length cap ∧ vs.length ≤ cap ∧ cap ≤ maxLen ∧ (ao = none → vs = [] ∧ cap = 0) ∧ ∀ ad, ao = some ad → ∃ g, ad = ⟨g, 0, none⟩ := by
  rcases h.form with ⟨rfl, rfl⟩ | ⟨g, cap, rfl, _, _, h1, h2, _⟩
  · exact ⟨none, 0, rfl, Nat.le_refl _, Nat.zero_le _, fun _ => ⟨rfl, rfl⟩, fun _ h => by cases h⟩
  · exact ⟨_, cap, rfl, h1, h2, (fun h => by cases h), fun ad h => ⟨g, (Option.some.inj h).symm⟩⟩
theorem OwnV.ne_blk {g : Nat} {t : TypeId} {cs : List Value} (h : OwnV E base w v vs) (hg : Blk w g t cs) (hne : E ≠ t) : v.ownBlock ≠ some g := by
  rcases h.row.2 with ⟨rfl, _⟩ | ⟨g', cap, cur, rfl, _, hh, _⟩
  · simp [Value.ownBlock]
  · intro he
    have : g' = g := by simpa [Value.ownBlock] using he
    subst this
    unfold Blk at hg
    rw [hh] at hg
    injection hg with hg
    injection hg with _ ht
    exact hne ht
end
/-- Bools as values. -/
abbrev boolS (l : List Bool) : List Value := l.map Value.bool
theorem boolS_get (l : List Bool) (i : Nat) (hi : i < l.length) : (boolS l)[i]? = some (.bool (l.getD i false)) := by simp [boolS, List.getD, hi]
/-- A room: at block p its record, v its row. -/
structure RoomL (w : World) (M : Rm) (p : Nat) (v : Value) : Prop where
  blk : Blk w p 45 [.int .i64 M.lo, v]
  row : OwnV 4 0 w v (boolS M.fr)
  ok : M.ok
theorem RoomL.keep {w w' : World} {M : Rm} {p : Nat} {v : Value} (h : RoomL w M p v) (hp : w'.heap[p]? = w.heap[p]?) (hv : ∀ b, v.ownBlock = some b → w'.heap[b]? = w.heap[b]?) : RoomL w' M p v :=
  ⟨hp.trans h.blk, h.row.stays hv, h.ok⟩
theorem RoomL.below {w w' : World} {M : Rm} {p : Nat} {v : Value} (h : RoomL w M p v) (hb : Below w.heap.size w w') : RoomL w' M p v :=
  h.keep (hb.block p h.blk.lt) fun b e => hb.block b (h.row.lt b e).2
theorem RoomL.apart {w : World} {M : Rm} {p : Nat} {v : Value} (h : RoomL w M p v) : v.ownBlock ≠ some p := h.row.ne_blk h.blk (by decide)
/-- The word of ExtSpec. -/
def exAt (A : Nat → Prop) (M : Rm) (p : Addr) (w : World) : Prop := ∃ b v, p = ⟨b, 0, none⟩ ∧ RoomL w M b v ∧ A b ∧ (∀ g, v.ownBlock = some g → A g) ∧ ∀ g, A g → g < w.heap.size
theorem exAt.keep {A : Nat → Prop} {M : Rm} {p : Addr} {w w' : World} (h : exAt A M p w) (hs : ∀ b, A b → w'.heap[b]? = w.heap[b]?) : exAt A M p w' := by
  obtain ⟨b, v, rfl, hR, h1, h2, h3⟩ := h
  refine ⟨b, v, rfl, hR.keep (hs b h1) (fun g e => hs g (h2 g e)), h1, h2, fun g hg => ?_⟩
  have h4 := hs g hg
  have h5 := h3 g hg
  rcases Nat.lt_or_ge g w'.heap.size with h | h
  · exact h
  · rw [Array.getElem?_eq_none h, Array.getElem?_eq_getElem h5] at h4
    cases h4
theorem setb_getD (l : List Bool) (k i : Nat) (c : Bool) : (l.set k c).getD i false = if k = i ∧ k < l.length then c else l.getD i false := by
  rw [List.getD_eq_getElem?_getD, List.getD_eq_getElem?_getD, List.getElem?_set]
  by_cases h1 : k = i
  · subst h1
    by_cases h2 : k < l.length
    · simp [h2]
    · simp [h2]
  · simp [h1]
/-- The first j of n sectors from a on are laid to c. -/
theorem set_step {M : Rm} {a : Int} {j f : Nat} {c : Bool} (hf : a = M.lo + (f : Int)) (hj : f + j < M.fr.length) : (M.set a (j + 1 : Nat) c).fr = (M.set a j c).fr.set (f + j) c := by
  apply bl_ext
  · rw [List.length_set, Rm.set_length, Rm.set_length]
  · intro i
    rw [Rm.set_getD, setb_getD, Rm.set_getD, Rm.set_length]
    by_cases h1 : f + j = i
    · subst h1
      rw [if_pos ⟨hj, by omega, by omega⟩, if_pos ⟨rfl, hj⟩]
    · rw [if_neg (c := f + j = i ∧ _) (fun h => h1 h.1)]
      have e : (i < M.fr.length ∧ a ≤ (M.lo + i : Int) ∧ (M.lo + i : Int) < a + ((j + 1 : Nat) : Int)) ↔ (i < M.fr.length ∧ a ≤ (M.lo + i : Int) ∧ (M.lo + i : Int) < a + (j : Int)) := by omega
      simp only [e]
theorem set_zero (M : Rm) (a : Int) (c : Bool) : (M.set a (0 : Nat) c).fr = M.fr := by
  apply bl_ext
  · rw [Rm.set_length]
  · intro i
    rw [Rm.set_getD, if_neg (by omega)]
/-- What a room's blocks hold, as facts for a walk. -/
theorem RoomL.facts {w : World} {M : Rm} {p : Nat} {v : Value} (h : RoomL w M p v) : ∃ (ao : Option Addr) (n cap : Nat), v = .slice ao n cap ∧ M.fr.length = n ∧ n ≤ 2048 ∧ n ≤ cap ∧ cap ≤ 9223372036854775807 ∧
    w.cell? ⟨p, 0, none⟩ = some (.int .i64 M.lo) ∧ w.cell? ⟨p, 1, none⟩ = some (.slice ao n cap) ∧ RdB w ao n cap M.fr ∧ ∀ ad, ao = some ad → ∃ g, ad = ⟨g, 0, none⟩ := by
  obtain ⟨ao, cap, hv, h1, h2, h3, h4⟩ := h.row.shape
  have hl : (boolS M.fr).length = M.fr.length := List.length_map _
  have c0 := h.blk.cell 0
  have c1 := h.blk.cell 1
  simp only [List.getElem?_cons_zero, List.getElem?_cons_succ] at c0 c1
  have hr := h.row
  rw [hl] at hv h1
  subst hv
  refine ⟨ao, _, cap, rfl, rfl, h.ok.n, h1, by unfold maxLen at h2; omega, c0, c1, ⟨rfl, h1, h2, fun e => (h3 e).2, fun ad ha i hi => ?_⟩, h4⟩
  obtain ⟨g, rfl⟩ := h4 ad ha
  subst ha
  rw [Addr.add_lit, Nat.zero_add]
  exact (hr.cell i (boolS_get M.fr i hi)).1
end Go.Proofs.Ytjihemgidogoeaa
