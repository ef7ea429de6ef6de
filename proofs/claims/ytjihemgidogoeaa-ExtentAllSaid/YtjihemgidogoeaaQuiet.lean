/- A region that draws its order, whose own operations read alone and whose callees make new memory alone: one walk in the text's order. The kit's theorem wp_region_quiet at the class of the worlds that are as W was below W's heap's size. No program is named here. -/
import Derived.Test.YtjihemgidogoeaaBase
import Derived.BigQuiet
import Derived.Deep.QuietTactic
namespace Go.Proofs.Ytjihemgidogoeaa
open Go.RowKit

/-- A world that is as W was in all that W has. -/
structure Bw (W : World) where
  w : World
  h : Below W.heap.size W w

instance (W : World) : Nonempty (Bw W) := ⟨⟨W, Below.refl _ _⟩⟩

theorem Bw.cell {W : World} (x : Bw W) (b o : Nat) (h : b < W.heap.size) : x.w.cell? ⟨b, o, none⟩ = W.cell? ⟨b, o, none⟩ := x.h.cell (p := ⟨b, o, none⟩) h
theorem Bw.frozen {W : World} (x : Bw W) (b o : Nat) (h : b < W.heap.size) : x.w.frozen? ⟨b, o, none⟩ = W.frozen? ⟨b, o, none⟩ := x.h.frozen (p := ⟨b, o, none⟩) h

theorem wp_region_quiet_below {P : Program} {id : Nat} {Q : Exit → Act → World → Prop} {a : Act} {W : World} {l : List Oper} (hm : P.follows .mixedOrders = true) (hB : Region.lexB .any l.toArray = true)
    (h : wpQuiet P l.toArray (fun w' => ∃ x : Bw W, w' = x.w) (fun a' => ∀ w', (∃ x : Bw W, w' = x.w) → Q .normal a' w') l a) : (Code.region id l.toArray true).wp P Q a W :=
  wp_region_quiet (C := fun w' => ∃ x : Bw W, w' = x.w) hm hB ⟨⟨_, (Below.refl _ _).drew⟩, rfl⟩ (by simpa using h)

theorem Calls.bw {P : Program} {f : FuncId} {args : Array Value} {W : World} {x : Bw W} {v : Value}
    (h : Calls P f args x.w fun e w' => e = .returned v ∧ Below x.w.heap.size x.w w') : Calls P f args x.w fun e w'' => e = .returned v ∧ ∃ y : Bw W, w'' = y.w :=
  h.mono fun _ _ ⟨he, hb⟩ => ⟨he, ⟨_, x.h.trans (hb.mono x.h.size)⟩, rfl⟩
theorem Calls.bws {P : Program} {f : FuncId} {args : Array Value} {W : World} {x : Bw W} {v : Value}
    (h : Calls P f args x.w fun e w' => e = .returned v ∧ x.w = w') : Calls P f args x.w fun e w'' => e = .returned v ∧ ∃ y : Bw W, w'' = y.w :=
  h.mono fun _ _ ⟨he, hb⟩ => ⟨he, x, hb.symm⟩

theorem bcell {W w1 : World} (hb : Below W.heap.size W w1) : (∀ b o, b < W.heap.size → w1.cell? ⟨b, o, none⟩ = W.cell? ⟨b, o, none⟩) ∧ (∀ b o, b < W.heap.size → w1.frozen? ⟨b, o, none⟩ = W.frozen? ⟨b, o, none⟩) :=
  ⟨fun b o h => hb.cell (p := ⟨b, o, none⟩) h, fun b o h => hb.frozen (p := ⟨b, o, none⟩) h⟩

theorem Bl.alloc {a w : World} (h : Below a.heap.size a w) (o : Obj) : Below a.heap.size a (w.alloc o) := Below.alloc h h.size o
theorem Bl.set {a w : World} (h : Below a.heap.size a w) {p : Addr} (hp : a.heap.size ≤ p.block) (u : Value) : Below a.heap.size a (w.setCell p u) := Below.setCell h hp u
theorem Bl.refl (w : World) : Below w.heap.size w w := Below.refl _ _
theorem Bl.step {w w1 w2 : World} (h : Below w.heap.size w w1) (h' : Below w1.heap.size w1 w2) : Below w.heap.size w w2 := h.trans (h'.mono h.size)

/-- Block p's first two cells, free to be written. -/
structure Pair (w : World) (p : Nat) (x y : Value) : Prop where
  c0 : w.cell? ⟨p, 0, none⟩ = some x
  c1 : w.cell? ⟨p, 1, none⟩ = some y
  f0 : w.frozen? ⟨p, 0, none⟩ = false
  f1 : w.frozen? ⟨p, 1, none⟩ = false
theorem Pair.new (w : World) (x y : Value) (T : TypeId) {p : Nat} (hp : p = w.heap.size) : Pair (w.alloc (.cells #[x, y] T)) p x y := by
  subst hp
  constructor <;> go_simp
theorem Pair.below {w w1 : World} {p : Nat} {x y : Value} (h : Pair w p x y) (hb : Below w.heap.size w w1) : Pair w1 p x y := by
  have hlt : p < w.heap.size := World.block_lt_of_cell? w _ h.c0
  exact ⟨(hb.cell (p := ⟨p, 0, none⟩) hlt).trans h.c0, (hb.cell (p := ⟨p, 1, none⟩) hlt).trans h.c1, (hb.frozen (p := ⟨p, 0, none⟩) hlt).trans h.f0, (hb.frozen (p := ⟨p, 1, none⟩) hlt).trans h.f1⟩
theorem Pair.alloc {w : World} {p : Nat} {x y : Value} (h : Pair w p x y) (o : Obj) : Pair (w.alloc o) p x y := h.below (Bl.alloc (Bl.refl _) _)
/-- Both cells written anew. -/
theorem Pair.set2 {w : World} {p : Nat} {x y : Value} (h : Pair w p x y) (x' y' : Value) : Pair ((w.setCell ⟨p, 0, none⟩ x').setCell ⟨p, 1, none⟩ y') p x' y' := by
  have c0 := h.c0
  have c1 := h.c1
  have f0 := h.f0
  have f1 := h.f1
  constructor <;> go_simp
end Go.Proofs.Ytjihemgidogoeaa
