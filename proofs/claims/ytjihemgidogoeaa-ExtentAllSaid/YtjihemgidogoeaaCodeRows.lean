/- Slices of the call's own whose elements are records of several cells. No program is named here. -/
import Derived.Test.YtjihemgidogoeaaTrio
import Derived.Deep.AppendLies
import Derived.Laws.OwnMore
namespace Go.Proofs.Ytjihemgidogoeaa
open Go.RowKit

/-- A slice value that the call itself has made (its block is at least number B); its elements are the records rs, of s cells each. -/
structure OwnC (E : TypeId) (s B : Nat) (w : World) (v : Value) (rs : List (List Value)) : Prop where
  row : w.ownsRow B E s v rs.length rs.flatten
  wid : ∀ r ∈ rs, r.length = s

theorem flat_get {α : Type} (s : Nat) : ∀ (rs : List (List α)) (i j : Nat), (∀ r ∈ rs, r.length = s) → i < rs.length → j < s → rs.flatten[i * s + j]? = (rs.getD i [])[j]?
  | r :: q, 0, j, hw, _, hj => by
    have hr := hw r (by simp)
    rw [List.flatten_cons, List.getElem?_append_left (by omega)]
    simp
  | r :: q, i + 1, j, hw, hi, hj => by
    have hr := hw r (by simp)
    have ih := flat_get s q i j (fun x hx => hw x (by simp [hx])) (by simpa using hi) hj
    rw [List.flatten_cons, List.getElem?_append_right (by rw [hr, Nat.add_mul]; omega), hr]
    rw [show (i + 1) * s + j - s = i * s + j by rw [Nat.add_mul]; omega, ih]
    rfl
theorem flat_set {α : Type} (s : Nat) : ∀ (rs : List (List α)) (i j : Nat) (u : α), (∀ r ∈ rs, r.length = s) → i < rs.length → j < s → (rs.set i ((rs.getD i []).set j u)).flatten = rs.flatten.set (i * s + j) u
  | r :: q, 0, j, u, hw, _, hj => by
    have hr := hw r (by simp)
    simp only [List.set_cons_zero, List.flatten_cons, Nat.zero_mul, Nat.zero_add]
    rw [List.set_append_left _ _ (by omega)]
    rfl
  | r :: q, i + 1, j, u, hw, hi, hj => by
    have hr := hw r (by simp)
    have ih := flat_set s q i j u (fun x hx => hw x (by simp [hx])) (by simpa using hi) hj
    have e : (i + 1) * s + j = r.length + (i * s + j) := by rw [hr, Nat.add_mul]; omega
    rw [List.flatten_cons, e, List.set_append_right _ _ (by omega), Nat.add_sub_cancel_left, ← ih]
    rfl
theorem flat_len' {α : Type} (s : Nat) : ∀ (rs : List (List α)), (∀ r ∈ rs, r.length = s) → rs.flatten.length = rs.length * s
  | [], _ => by simp
  | r :: q, hw => by
    have ih := flat_len' s q (fun x hx => hw x (by simp [hx]))
    rw [List.flatten_cons, List.length_append, ih, hw r (by simp), List.length_cons, Nat.add_mul]
    omega

section
variable {E : TypeId} {s B K : Nat} {w w' : World} {v : Value} {rs : List (List Value)}

theorem OwnC.nil (E : TypeId) (s B : Nat) (w : World) : OwnC E s B w (.slice none 0 0) [] := ⟨World.ownsRow_nil w B E s, fun _ h => by cases h⟩
theorem OwnC.below (h : OwnC E s B w v rs) (hb : Below K w w') (hK : w.heap.size ≤ K) : OwnC E s B w' v rs := by
  refine ⟨h.row.kept (row := none) ⟨hb.os, hb.tape, hb.output, hb.size, fun k hk _ => hb.block k (by omega)⟩ ?_, h.wid⟩
  cases hv : v.ownBlock <;> simp
theorem OwnC.grown {r : Option Nat} (h : OwnC E s B w v rs) (hg : w.grownBy w' r) (hne : ∀ g, v.ownBlock = some g → r ≠ some g) : OwnC E s B w' v rs := by
  refine ⟨h.row.kept hg ?_, h.wid⟩
  cases hv : v.ownBlock with
  | none => exact .inl rfl
  | some g => exact .inr (fun e => hne g hv e.symm)
theorem OwnC.alloc (h : OwnC E s B w v rs) (o : Obj) : OwnC E s B (w.alloc o) v rs := ⟨h.row.alloc o, h.wid⟩
theorem OwnC.drew (h : OwnC E s B w v rs) : OwnC E s B w.drew v rs := ⟨h.row.drew, h.wid⟩
theorem OwnC.lift {B' : Nat} (h : OwnC E s B w v rs) (hb : B' ≤ B) : OwnC E s B' w v rs := by
  refine ⟨⟨h.row.1, ?_⟩, h.wid⟩
  rcases h.row.2 with h2 | ⟨g, cap, cur, hv, hg, r⟩
  · exact .inl h2
  · exact .inr ⟨g, cap, cur, hv, by omega, r⟩
theorem OwnC.lt (h : OwnC E s B w v rs) : ∀ b, v.ownBlock = some b → B ≤ b ∧ b < w.heap.size := h.row.lt
theorem grown_set (w : World) (a : Addr) (u : Value) : w.grownBy (w.setCell a u) (some a.block) := ⟨rfl, rfl, rfl, by simp, fun i _ hi => Below.heap_setCell w a u i (fun e => hi (by rw [e]))⟩
theorem OwnC.aside (h : OwnC E s B w v rs) {p : Addr} (hp : ∀ b, v.ownBlock = some b → b ≠ p.block) (u : Value) : OwnC E s B (w.setCell p u) v rs :=
  h.grown (grown_set w p u) fun g hg e => hp g hg (by simpa using e.symm)
theorem OwnC.shape (h : OwnC E s B w v rs) : ∃ ao cap, v = .slice ao rs.length cap ∧ rs.length ≤ cap ∧ cap ≤ 9223372036854775807 ∧ (0 < rs.length → ∃ g, ao = some ⟨g, 0, none⟩) := by
  rcases h.row.2 with ⟨rfl, h0⟩ | ⟨g, cap, cur, rfl, hb, hg, hle, hmax, hsz, htake⟩
  · exact ⟨none, 0, by rw [h0], by omega, by omega, fun h => by omega⟩
  · exact ⟨_, cap, rfl, hle, by unfold maxLen at hmax; omega, fun _ => ⟨g, rfl⟩⟩
theorem OwnC.cell {g n cap : Nat} (h : OwnC E s B w (.slice (some ⟨g, 0, none⟩) n cap) rs) (i j : Nat) {u : Value} (hi : i < rs.length) (hj : (rs.getD i [])[j]? = some u) :
    w.cell? ⟨g, i * s + j, none⟩ = some u ∧ w.frozen? ⟨g, i * s + j, none⟩ = false ∧ g < w.heap.size ∧ B ≤ g := by
  have hl := h.lt g rfl
  have hmem : rs.getD i [] ∈ rs := by
    simp only [List.getD, List.getElem?_eq_getElem hi, Option.getD_some]
    exact List.getElem_mem hi
  have hjs : j < s := by
    rw [← h.wid _ hmem]
    exact (List.getElem?_eq_some_iff.1 hj).1
  have hc := h.row.cells (g := g) rfl (i * s + j) u (by rw [flat_get s rs i j h.wid hi hjs, hj])
  rw [Addr.add_lit, Nat.zero_add] at hc
  have hf : w.frozen? ⟨g, i * s + j, none⟩ = false := by
    rcases h.row.2 with ⟨h', _⟩ | ⟨g', cap', cur, h', r⟩
    · simp at h'
    · simp only [Value.slice.injEq, Option.some.injEq, Addr.mk.injEq] at h'
      obtain ⟨⟨rfl, _⟩, rfl, rfl⟩ := h'
      exact World.ownsRow.frozenAt ⟨h.row.1, .inr ⟨g, cap, cur, rfl, r⟩⟩ _
  exact ⟨hc, hf, hl.2, hl.1⟩
theorem OwnC.len {g n cap : Nat} (h : OwnC E s B w (.slice (some ⟨g, 0, none⟩) n cap) rs) : n = rs.length := by
  rcases h.row.2 with ⟨h', _⟩ | ⟨g', cap', cur, h', _⟩
  · simp at h'
  · simp at h'; exact h'.2.1
theorem OwnC.rowN (h : OwnC E s B w v rs) {n : Nat} (hn : rs.length = n) : w.ownsRow B E s v n rs.flatten := hn ▸ h.row
/-- One cell is written. -/
theorem OwnC.set {g n cap : Nat} (h : OwnC E s B w (.slice (some ⟨g, 0, none⟩) n cap) rs) (i j : Nat) (u : Value) (hi : i < rs.length) (hj : j < s) :
    OwnC E s B (w.setCell ⟨g, i * s + j, none⟩ u) (.slice (some ⟨g, 0, none⟩) n cap) (rs.set i ((rs.getD i []).set j u)) := by
  have hn := h.len
  subst hn
  refine ⟨?_, fun r hr => ?_⟩
  · rw [List.length_set, flat_set s rs i j u h.wid hi hj]
    exact (h.row.stored (i * s + j) u).1
  · rcases List.mem_or_eq_of_mem_set hr with hr | rfl
    · exact h.wid r hr
    · rw [List.length_set]
      refine h.wid _ ?_
      simp only [List.getD, List.getElem?_eq_getElem hi, Option.getD_some]
      exact List.getElem_mem hi
/-- The first ones. -/
theorem OwnC.take {g n cap : Nat} (h : OwnC E s B w (.slice (some ⟨g, 0, none⟩) n cap) rs) (m : Nat) (hm : m ≤ rs.length) : OwnC E s B w (.slice (some ⟨g, 0, none⟩) m cap) (rs.take m) := by
  have hn := h.len
  subst hn
  have hw : ∀ r ∈ rs.take m, r.length = s := fun r hr => h.wid r (List.mem_of_mem_take hr)
  refine ⟨⟨flat_len' s _ hw, ?_⟩, hw⟩
  rcases h.row.2 with ⟨h', _⟩ | ⟨g', cap', cur, h', hb, hg, hle, hmax, hsz, htake⟩
  · simp at h'
  · simp only [Value.slice.injEq, Option.some.injEq, Addr.mk.injEq] at h'
    obtain ⟨⟨rfl, _⟩, _, rfl⟩ := h'
    refine .inr ⟨g, cap, cur, by simp [Nat.min_eq_left hm], hb, hg, by rw [List.length_take]; omega, hmax, hsz, ?_⟩
    have hl : (rs.take m).length = m := by simp; omega
    rw [hl]
    have e : rs.flatten = (rs.take m).flatten ++ (rs.drop m).flatten := by rw [← List.flatten_append, List.take_append_drop]
    have hle2 : m * s ≤ rs.length * s := Nat.mul_le_mul_right s hm
    have : cur.toList.take (m * s) = (cur.toList.take (rs.length * s)).take (m * s) := by rw [List.take_take, Nat.min_eq_left hle2]
    rw [this, htake, e, List.take_left' (by rw [flat_len' s _ hw, hl])]
/-- One more: what an append of one record leaves. -/
theorem OwnC.snoc {n : Nat} (r : List Value) (hr : r.length = s) (hw : ∀ r ∈ rs, r.length = s) (hn : n = rs.length + 1) (h : w.ownsRow B E s v n (rs.flatten ++ r)) : OwnC E s B w v (rs ++ [r]) := by
  subst hn
  refine ⟨by simpa using h, fun x hx => ?_⟩
  rcases List.mem_append.1 hx with hx | hx
  · exact hw x hx
  · simp at hx
    rw [hx, hr]
end
end Go.Proofs.Ytjihemgidogoeaa
