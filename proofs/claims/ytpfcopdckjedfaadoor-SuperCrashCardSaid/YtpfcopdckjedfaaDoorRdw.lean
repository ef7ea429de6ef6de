/- A reader: a block of one cell that holds what is left of some bytes. The same words as WaRd: never beside it. -/
import Derived.Test.YtpfcopdckjedfaaDoorGen
import Derived.Test.YtpfcopdckjedfaaDoorCel
namespace Go.Proofs.YtpfcopdckjedfaaDoor
open Go.RowKit

/-- Block p holds a slice that reads as xs, whose bytes lie below K. -/
structure Rdw (K p : Nat) (w : World) (xs : List Int) : Prop where
  le : K ≤ p
  lt : p < w.heap.size
  fro : w.frozen? ⟨p, 0, none⟩ = false
  ex : ∃ ao n cap, w.cell? ⟨p, 0, none⟩ = some (.slice ao n cap) ∧ Bx (fun b => b < K) w fun w => Rd .u8 w ao n cap xs
/-- A reader as a value. -/
abbrev rp (p : Nat) : Value := .pointer (some ⟨p, 0, none⟩)
section
variable {K p : Nat} {w w' : World} {xs : List Int}
theorem Rdw.gr (h : Rdw K p w xs) {r : Option Nat} (hg : w.grownBy w' r) (hr : ∀ g, r = some g → p < g) : Rdw K p w' xs := by
  obtain ⟨ao, n, cap, hc, hx⟩ := h.ex
  have hle := h.le
  have hb : ∀ b, b ≤ p → w'.heap[b]? = w.heap[b]? := fun b hb => hg.block b (Nat.lt_of_le_of_lt hb h.lt) fun e => by have := hr b e.symm; omega
  exact ⟨h.le, Nat.lt_of_lt_of_le h.lt hg.size, (World.frozen?_of_block (a := ⟨p, 0, none⟩) (hb p (Nat.le_refl _))).trans h.fro, ao, n, cap, (World.cell?_of_block (a := ⟨p, 0, none⟩) (hb p (Nat.le_refl _))).trans hc, hx.keep fun b hbk => hb b (by omega)⟩
theorem Rdw.below (h : Rdw K p w xs) {B : Nat} (hb : Below B w w') (hB : w.heap.size ≤ B) : Rdw K p w' xs := h.gr (gr_below hb hB none) fun _ h => by cases h
theorem Rdw.alloc (h : Rdw K p w xs) (o : Obj) : Rdw K p (w.alloc o) xs := h.below (Bl.alloc (Bl.refl w) o) (Nat.le_refl _)
/-- The cell is written anew. -/
theorem Rdw.set (h : Rdw K p w xs) {ao : Option Addr} {n cap : Nat} {ys : List Int} (hx : Bx (fun b => b < K) w fun w => Rd .u8 w ao n cap ys) : Rdw K p (w.setCell ⟨p, 0, none⟩ (.slice ao n cap)) ys := by
  have hle := h.le
  obtain ⟨ao0, n0, cap0, hc, _⟩ := h.ex
  have hf := h.fro
  refine ⟨h.le, by simp; exact h.lt, ?_, ao, n, cap, ?_, hx.keep fun b hb => Below.heap_setCell w _ _ b (by simp only; omega)⟩
  · go_simp
  · go_simp
end

/-- A slice's length. -/
def _root_.Go.Value.lenN : Value → Nat
  | .slice _ n _ => n
  | _ => 0
/-- Where a walk is stopped: 'apply stopAt', 'refine hid ?_'. -/
theorem stopAt {p : Prop} (h : Hid p) : p := h.out
end Go.Proofs.YtpfcopdckjedfaaDoor
