/- Two or three small blocks that a call has made at its start, kept while it calls others. No program is named here. -/
import Derived.Test.YtjihemgidogoeaaQuiet
namespace Go.Proofs.Ytjihemgidogoeaa
open Go.RowKit

/-- Three blocks of two cells, the first three that the call made; all elder memory as it was. -/
structure Trio (w w1 : World) (x0 y0 x1 y1 x2 y2 : Value) : Prop where
  a : Pair w1 w.heap.size x0 y0
  b : Pair w1 (w.heap.size + 1) x1 y1
  r : Pair w1 (w.heap.size + 1 + 1) x2 y2
  bl : Below w.heap.size w w1
section
variable {w w1 w2 : World} {x0 y0 x1 y1 x2 y2 : Value} {T : TypeId}
theorem Trio.new (hb : Below (((w.alloc (.cells #[x0, y0] T)).alloc (.cells #[x1, y1] T)).alloc (.cells #[x2, y2] T)).heap.size (((w.alloc (.cells #[x0, y0] T)).alloc (.cells #[x1, y1] T)).alloc (.cells #[x2, y2] T)) w1) : Trio w w1 x0 y0 x1 y1 x2 y2 :=
  ⟨(((Pair.new w x0 y0 T rfl).alloc _).alloc _).below hb, ((Pair.new _ x1 y1 T (p := w.heap.size + 1) (by simp)).alloc _).below hb, (Pair.new _ x2 y2 T (p := w.heap.size + 1 + 1) (by simp)).below hb, Bl.step (Bl.alloc (Bl.alloc (Bl.alloc (Bl.refl w) _) _) _) hb⟩
theorem Trio.step (h : Trio w w1 x0 y0 x1 y1 x2 y2) (hb : Below w1.heap.size w1 w2) : Trio w w2 x0 y0 x1 y1 x2 y2 := ⟨h.a.below hb, h.b.below hb, h.r.below hb, Bl.step h.bl hb⟩
theorem Trio.facts (h : Trio w w1 x0 y0 x1 y1 x2 y2) :
    (w1.cell? ⟨w.heap.size, 0, none⟩ = some x0 ∧ w1.cell? ⟨w.heap.size, 1, none⟩ = some y0) ∧ (w1.cell? ⟨w.heap.size + 1, 0, none⟩ = some x1 ∧ w1.cell? ⟨w.heap.size + 1, 1, none⟩ = some y1) ∧
    (w1.cell? ⟨w.heap.size + 1 + 1, 0, none⟩ = some x2 ∧ w1.cell? ⟨w.heap.size + 1 + 1, 1, none⟩ = some y2 ∧ w1.frozen? ⟨w.heap.size + 1 + 1, 0, none⟩ = false ∧ w1.frozen? ⟨w.heap.size + 1 + 1, 1, none⟩ = false) :=
  ⟨⟨h.a.c0, h.a.c1⟩, ⟨h.b.c0, h.b.c1⟩, h.r.c0, h.r.c1, h.r.f0, h.r.f1⟩
/-- The third one written anew, and what the world is then. -/
theorem Trio.done (h : Trio w w1 x0 y0 x1 y1 x2 y2) (u v : Value) : (((w1.setCell ⟨w.heap.size + 1 + 1, 0, none⟩ u).setCell ⟨w.heap.size + 1 + 1, 1, none⟩ v).cell? ⟨w.heap.size + 1 + 1, 0, none⟩ = some u ∧
    ((w1.setCell ⟨w.heap.size + 1 + 1, 0, none⟩ u).setCell ⟨w.heap.size + 1 + 1, 1, none⟩ v).cell? ⟨w.heap.size + 1 + 1, 1, none⟩ = some v) ∧ Below w.heap.size w ((w1.setCell ⟨w.heap.size + 1 + 1, 0, none⟩ u).setCell ⟨w.heap.size + 1 + 1, 1, none⟩ v) :=
  ⟨⟨(h.r.set2 u v).c0, (h.r.set2 u v).c1⟩, Bl.set (Bl.set h.bl (by simp; omega) _) (by simp; omega) _⟩
end

/-- Two blocks of two cells, the first two that the call made. -/
structure Twin (w w1 : World) (x0 y0 x1 y1 : Value) : Prop where
  a : Pair w1 w.heap.size x0 y0
  r : Pair w1 (w.heap.size + 1) x1 y1
  bl : Below w.heap.size w w1
section
variable {w w1 w2 : World} {x0 y0 x1 y1 : Value} {T : TypeId}
theorem Twin.new (hb : Below ((w.alloc (.cells #[x0, y0] T)).alloc (.cells #[x1, y1] T)).heap.size ((w.alloc (.cells #[x0, y0] T)).alloc (.cells #[x1, y1] T)) w1) : Twin w w1 x0 y0 x1 y1 :=
  ⟨((Pair.new w x0 y0 T rfl).alloc _).below hb, (Pair.new _ x1 y1 T (p := w.heap.size + 1) (by simp)).below hb, Bl.step (Bl.alloc (Bl.alloc (Bl.refl w) _) _) hb⟩
theorem Twin.step (h : Twin w w1 x0 y0 x1 y1) (hb : Below w1.heap.size w1 w2) : Twin w w2 x0 y0 x1 y1 := ⟨h.a.below hb, h.r.below hb, Bl.step h.bl hb⟩
theorem Twin.facts (h : Twin w w1 x0 y0 x1 y1) :
    (w1.cell? ⟨w.heap.size, 0, none⟩ = some x0 ∧ w1.cell? ⟨w.heap.size, 1, none⟩ = some y0) ∧
    (w1.cell? ⟨w.heap.size + 1, 0, none⟩ = some x1 ∧ w1.cell? ⟨w.heap.size + 1, 1, none⟩ = some y1 ∧ w1.frozen? ⟨w.heap.size + 1, 0, none⟩ = false ∧ w1.frozen? ⟨w.heap.size + 1, 1, none⟩ = false) :=
  ⟨⟨h.a.c0, h.a.c1⟩, h.r.c0, h.r.c1, h.r.f0, h.r.f1⟩
theorem Twin.done (h : Twin w w1 x0 y0 x1 y1) (u v : Value) : (((w1.setCell ⟨w.heap.size + 1, 0, none⟩ u).setCell ⟨w.heap.size + 1, 1, none⟩ v).cell? ⟨w.heap.size + 1, 0, none⟩ = some u ∧
    ((w1.setCell ⟨w.heap.size + 1, 0, none⟩ u).setCell ⟨w.heap.size + 1, 1, none⟩ v).cell? ⟨w.heap.size + 1, 1, none⟩ = some v) ∧ Below w.heap.size w ((w1.setCell ⟨w.heap.size + 1, 0, none⟩ u).setCell ⟨w.heap.size + 1, 1, none⟩ v) :=
  ⟨⟨(h.r.set2 u v).c0, (h.r.set2 u v).c1⟩, Bl.set (Bl.set h.bl (by simp) _) (by simp) _⟩
end

/-- One block of two cells, the first that the call made. -/
structure Solo (w w1 : World) (x1 y1 : Value) : Prop where
  r : Pair w1 w.heap.size x1 y1
  bl : Below w.heap.size w w1
section
variable {w w1 w2 : World} {x1 y1 : Value} {T : TypeId}
theorem Solo.new (hb : Below (w.alloc (.cells #[x1, y1] T)).heap.size (w.alloc (.cells #[x1, y1] T)) w1) : Solo w w1 x1 y1 :=
  ⟨(Pair.new w x1 y1 T rfl).below hb, Bl.step (Bl.alloc (Bl.refl w) _) hb⟩
theorem Solo.facts (h : Solo w w1 x1 y1) :
    w1.cell? ⟨w.heap.size, 0, none⟩ = some x1 ∧ w1.cell? ⟨w.heap.size, 1, none⟩ = some y1 ∧ w1.frozen? ⟨w.heap.size, 0, none⟩ = false ∧ w1.frozen? ⟨w.heap.size, 1, none⟩ = false :=
  ⟨h.r.c0, h.r.c1, h.r.f0, h.r.f1⟩
theorem Solo.done (h : Solo w w1 x1 y1) (u v : Value) : (((w1.setCell ⟨w.heap.size, 0, none⟩ u).setCell ⟨w.heap.size, 1, none⟩ v).cell? ⟨w.heap.size, 0, none⟩ = some u ∧
    ((w1.setCell ⟨w.heap.size, 0, none⟩ u).setCell ⟨w.heap.size, 1, none⟩ v).cell? ⟨w.heap.size, 1, none⟩ = some v) ∧ Below w.heap.size w ((w1.setCell ⟨w.heap.size, 0, none⟩ u).setCell ⟨w.heap.size, 1, none⟩ v) :=
  ⟨⟨(h.r.set2 u v).c0, (h.r.set2 u v).c1⟩, Bl.set (Bl.set h.bl (Nat.le_refl _) _) (Nat.le_refl _) _⟩
end
end Go.Proofs.Ytjihemgidogoeaa
