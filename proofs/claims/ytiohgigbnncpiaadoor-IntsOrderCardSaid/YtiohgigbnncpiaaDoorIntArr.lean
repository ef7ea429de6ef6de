/- Ten cells of yes or no, and what the comparisons say together. -/
import Derived.Test.YtiohgigbnncpiaaDoorIntLaw
namespace Go.Proofs.YtiohgigbnncpiaaDoor
open Go.RowKit

/-- What the ten comparisons answer, in their order. -/
def ordG (x y X Y : Int) : Nat → Bool
  | 0 => x == y
  | 1 => x != y
  | 2 => decide (x < y)
  | 3 => decide (X < Y)
  | 4 => decide (y < x)
  | 5 => decide (Y < X)
  | 6 => decide (x ≤ y)
  | 7 => decide (X ≤ Y)
  | 8 => decide (y ≤ x)
  | _ => decide (Y ≤ X)
theorem cmp_ordG (x y X Y : Int) (j : Nat) (hj : j < 10) : cmpS (70 + (j : Int)) x y X Y = ordG x y X Y j := by
  rcases (show j = 0 ∨ j = 1 ∨ j = 2 ∨ j = 3 ∨ j = 4 ∨ j = 5 ∨ j = 6 ∨ j = 7 ∨ j = 8 ∨ j = 9 by omega) with rfl | rfl | rfl | rfl | rfl | rfl | rfl | rfl | rfl | rfl <;> rfl
theorem ord_cases (c x y : Int) (ox : okv c x = true) (oy : okv c y = true) (rx : In64 x) (ry : In64 y) :
    (x = y ∧ un c x = un c y) ∨ (x < y ∧ un c x < un c y) ∨ (y < x ∧ un c y < un c x) ∨ (x < y ∧ un c y < un c x ∧ x < 0 ∧ 0 ≤ y) ∨ (y < x ∧ un c x < un c y ∧ y < 0 ∧ 0 ≤ x) := by
  unfold In64 at rx ry
  rcases okv_kind ox with rfl | rfl
  · unfold okv at ox oy
    simp at ox oy
    unfold un
    simp only [if_true]
    omega
  · unfold un
    rw [if_neg (by decide), if_neg (by decide)]
    omega

/-- Ten cells of yes or no, free to be written. -/
def Arr (w : World) (p : Nat) (f : Nat → Bool) : Prop := ∀ t, t < 10 → w.cell? ⟨p, t, none⟩ = some (.bool (f t)) ∧ w.frozen? ⟨p, t, none⟩ = false
section
variable {w w1 : World} {p : Nat} {f g : Nat → Bool}
theorem Arr.below (h : Arr w p f) (hb : Below w.heap.size w w1) : Arr w1 p f := fun t ht => by
  have hlt : p < w.heap.size := World.block_lt_of_cell? w _ (h t ht).1
  exact ⟨(hb.cell (p := ⟨p, t, none⟩) hlt).trans (h t ht).1, (hb.frozen (p := ⟨p, t, none⟩) hlt).trans (h t ht).2⟩
theorem Arr.alloc (h : Arr w p f) (o : Obj) : Arr (w.alloc o) p f := h.below (Bl.alloc (Bl.refl _) _)
theorem Arr.to (h : Arr w p f) (e : ∀ t, t < 10 → f t = g t) : Arr w p g := fun t ht => by rw [← e t ht]; exact h t ht
theorem Arr.set (h : Arr w p f) (j : Nat) (hj : j < 10) (b : Bool) : Arr (w.setCell ⟨p, j, none⟩ (.bool b)) p (fun t => if t = j then b else f t) := fun t ht => by
  obtain ⟨c0, f0⟩ := h t ht
  obtain ⟨c1, f1⟩ := h j hj
  by_cases e : t = j
  · subst e
    constructor <;> go_simp
  · have e' : ¬ j = t := fun h => e h.symm
    constructor <;> go_simp
    all_goals simp [e, e', f0]
theorem Arr.new (w : World) (T : TypeId) (hp : p = w.heap.size) (f : Nat → Bool) (hf : ∀ t, f t = false) : Arr (w.alloc (.cells #[.bool false, .bool false, .bool false, .bool false, .bool false, .bool false, .bool false, .bool false, .bool false, .bool false] T)) p f := fun t ht => by
  subst hp
  rw [hf]
  rcases (show t = 0 ∨ t = 1 ∨ t = 2 ∨ t = 3 ∨ t = 4 ∨ t = 5 ∨ t = 6 ∨ t = 7 ∨ t = 8 ∨ t = 9 by omega) with rfl | rfl | rfl | rfl | rfl | rfl | rfl | rfl | rfl | rfl <;> constructor <;> go_simp
end
theorem Pair.aside {w : World} {p : Nat} {x y : Value} (h : Pair w p x y) {a : Addr} (ha : p ≠ a.block) (u : Value) : Pair (w.setCell a u) p x y := by
  have e := Below.heap_setCell w a u p ha
  exact ⟨(World.cell?_of_block (w := w) (a := ⟨p, 0, none⟩) e).trans h.c0, (World.cell?_of_block (w := w) (a := ⟨p, 1, none⟩) e).trans h.c1, (World.frozen?_of_block (w := w) (a := ⟨p, 0, none⟩) e).trans h.f0, (World.frozen?_of_block (w := w) (a := ⟨p, 1, none⟩) e).trans h.f1⟩
end Go.Proofs.YtiohgigbnncpiaaDoor
