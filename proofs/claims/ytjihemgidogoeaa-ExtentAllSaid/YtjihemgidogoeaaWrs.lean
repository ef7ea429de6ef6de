/- Words of my own: what a call on an object leaves (blocks that are not the object's stay); a slice of bools that is read. No program is named here. -/
import Derived.Test.YtjihemgidogoeaaQuiet
import Derived.Test.YtjihemgidogoeaaRegion
namespace Go.Proofs.Ytjihemgidogoeaa
open Go.RowKit
set_option linter.unusedVariables false

/-- Blocks that are not in A stay. -/
structure Wrs (A : Nat → Prop) (w w' : World) : Prop where
  os : w'.os = w.os
  tape : w'.tape = w.tape
  output : w'.output = w.output
  size : w.heap.size ≤ w'.heap.size
  block : ∀ b, b < w.heap.size → ¬ A b → w'.heap[b]? = w.heap[b]?
section
variable {A A' : Nat → Prop} {w w' w'' : World}
theorem Wrs.refl (A : Nat → Prop) (w : World) : Wrs A w w := ⟨rfl, rfl, rfl, Nat.le_refl _, fun _ _ _ => rfl⟩
theorem Wrs.of (h : Below w.heap.size w w') : Wrs A w w' := ⟨h.os, h.tape, h.output, h.size, fun b hb _ => h.block b hb⟩
theorem Wrs.trans (h : Wrs A w w') (h' : Wrs A' w' w'') (hA : ∀ b, A' b → A b ∨ w.heap.size ≤ b) : Wrs A w w'' :=
  ⟨h'.os.trans h.os, h'.tape.trans h.tape, h'.output.trans h.output, Nat.le_trans h.size h'.size, fun b hb hn =>
    (h'.block b (Nat.lt_of_lt_of_le hb h.size) (fun e => by rcases hA b e with e | e; exact hn e; omega)).trans (h.block b hb hn)⟩
theorem Wrs.below (h : Wrs A w w') {B : Nat} (hA : ∀ b, A b → B ≤ b) (hB : B ≤ w.heap.size) : Below B w w' :=
  ⟨h.os, h.tape, h.output, h.size, fun b hb => h.block b (by omega) (fun e => by have := hA b e; omega)⟩
theorem Wrs.old (h : Wrs A w w') (hA : ∀ b, A b → w.heap.size ≤ b) : Below w.heap.size w w' := h.below hA (Nat.le_refl _)
end
/-- A row of the call's own stays where its block does. -/
theorem Own.stay {E : TypeId} {k : IntKind} {base : Nat} {w w' : World} {v : Value} {xs : List Int} (h : Own E k base w v xs) (hs : w.heap.size ≤ w'.heap.size) (hb : ∀ b, v.ownBlock = some b → w'.heap[b]? = w.heap[b]?) : Own E k base w' v xs := by
  refine ⟨⟨h.row.1, ?_⟩, h.wf⟩
  rcases h.row.2 with h2 | ⟨g, cap, cur, hv, hg, hh, r⟩
  · exact .inl h2
  · refine .inr ⟨g, cap, cur, hv, hg, ?_, r⟩
    rw [hb g (by rw [hv]; rfl)]
    exact hh
theorem Own.wrs {E : TypeId} {k : IntKind} {base : Nat} {A : Nat → Prop} {w w' : World} {v : Value} {xs : List Int} (h : Own E k base w v xs) (hw : Wrs A w w') (hn : ∀ b, v.ownBlock = some b → ¬ A b) : Own E k base w' v xs :=
  h.stay hw.size fun b hb => hw.block b (h.lt b hb).2 (hn b hb)
theorem own_no {A : Nat → Prop} {g n c : Nat} (h : ∀ b, A b → g ≠ b) : ∀ b, (Value.slice (some ⟨g, 0, none⟩) n c).ownBlock = some b → ¬ A b := fun b e hb => by
  cases e
  exact h g hb rfl
theorem Rd.stay {k : IntKind} {w w' : World} {ao : Option Addr} {n cap : Nat} {xs : List Int} (h : Rd k w ao n cap xs) (hb : ∀ ad, ao = some ad → 0 < n → w'.heap[ad.block]? = w.heap[ad.block]?) : Rd k w' ao n cap xs :=
  ⟨h.len, h.le, h.max, h.nil, fun ad ha i hi => by
    have hc := h.cell ad ha i hi
    have hbk : (ad.add i).block = ad.block := by unfold Addr.add; split <;> rfl
    have e : w'.heap[(ad.add i).block]? = w.heap[(ad.add i).block]? := by rw [hbk]; exact hb ad ha (by omega)
    exact (World.cell?_of_block e).trans hc, h.wf⟩
theorem Rd.wrs {k : IntKind} {A : Nat → Prop} {w w' : World} {ao : Option Addr} {n cap : Nat} {xs : List Int} (h : Rd k w ao n cap xs) (hw : Wrs A w w') (hn : ∀ ad, ao = some ad → ¬ A ad.block) : Rd k w' ao n cap xs :=
  h.stay fun ad ha h0 => by
    have hc := h.cell ad ha 0 h0
    have hlt := World.block_lt_of_cell? w _ hc
    have hbk : (ad.add 0).block = ad.block := by unfold Addr.add; split <;> rfl
    rw [hbk] at hlt
    exact hw.block _ hlt (hn ad ha)

theorem Pair.stay {w w' : World} {p : Nat} {x y : Value} (h : Pair w p x y) (hb : w'.heap[p]? = w.heap[p]?) : Pair w' p x y :=
  ⟨(World.cell?_of_block (a := ⟨p, 0, none⟩) hb).trans h.c0, (World.cell?_of_block (a := ⟨p, 1, none⟩) hb).trans h.c1, (World.frozen?_of_block (a := ⟨p, 0, none⟩) hb).trans h.f0, (World.frozen?_of_block (a := ⟨p, 1, none⟩) hb).trans h.f1⟩
theorem Pair.lt {w : World} {p : Nat} {x y : Value} (h : Pair w p x y) : p < w.heap.size := World.block_lt_of_cell? w _ h.c0
/-- A slice value's parts: it reads as the bools xs in the world w. -/
structure RdB (w : World) (ao : Option Addr) (n cap : Nat) (xs : List Bool) : Prop where
  len : xs.length = n
  le : n ≤ cap
  max : cap ≤ maxLen
  nil : ao = none → cap = 0
  cell : ∀ ad, ao = some ad → ∀ i, i < n → w.cell? (ad.add i) = some (.bool (xs.getD i false))
section
variable {w w' : World} {ao : Option Addr} {n cap : Nat} {xs : List Bool}
theorem RdB.stay (h : RdB w ao n cap xs) (hb : ∀ ad, ao = some ad → ad.block < w.heap.size → w'.heap[ad.block]? = w.heap[ad.block]?) : RdB w' ao n cap xs :=
  ⟨h.len, h.le, h.max, h.nil, fun ad ha i hi => by
    have hc := h.cell ad ha i hi
    have hlt := World.block_lt_of_cell? w _ hc
    have hbk : (ad.add i).block = ad.block := by unfold Addr.add; split <;> rfl
    rw [hbk] at hlt
    have e : w'.heap[(ad.add i).block]? = w.heap[(ad.add i).block]? := by rw [hbk]; exact hb ad ha hlt
    exact (World.cell?_of_block e).trans hc⟩
theorem RdB.below (h : RdB w ao n cap xs) (hb : Below w.heap.size w w') : RdB w' ao n cap xs := h.stay fun ad _ hlt => hb.block _ hlt
theorem RdB.wrs {A : Nat → Prop} (h : RdB w ao n cap xs) (hw : Wrs A w w') (hn : ∀ ad, ao = some ad → ¬ A ad.block) : RdB w' ao n cap xs := h.stay fun ad ha hlt => hw.block _ hlt (hn ad ha)
theorem RdB.empty (w : World) : RdB w none 0 0 [] := ⟨rfl, Nat.le_refl _, Nat.zero_le _, fun _ => rfl, (fun _ h => by cases h)⟩
theorem RdB.built (w : World) (E : TypeId) (x : Bool) : RdB (w.alloc (.cells #[.bool x] E)) (some ⟨w.heap.size, 0, none⟩) 1 1 [x] := by
  refine ⟨rfl, Nat.le_refl _, by unfold maxLen; omega, (fun h => by cases h), fun ad ha i hi => ?_⟩
  cases ha
  obtain rfl : i = 0 := by omega
  simp [Addr.add, World.cell?_alloc_at]
theorem RdB.cap63 (h : RdB w ao n cap xs) : cap ≤ 9223372036854775807 := by have := h.max; unfold maxLen at this; omega
end
end Go.Proofs.Ytjihemgidogoeaa
