/- An argument [][]byte: what is read there. -/
import Derived.Test.YtpfcopdckjedfaaDoorProg
import Derived.Test.YtpfcopdckjedfaaDoorBase
import Derived.Deep.Slices
import Derived.Deep.Fields
import Derived.ChangeSame
import Derived.OpenShut
namespace Go.Proofs.YtpfcopdckjedfaaDoor
open Go.RowKit Go.ChangeShapes Go.WideShapes Go.Deep
set_option linter.unusedVariables false

/-- One row, as it is read. -/
structure ByM where
  o : Option Addr
  n : Nat
  c : Nat
  l : List Int
instance : Inhabited ByM := ⟨⟨none, 0, 0, []⟩⟩
/-- A slice of rows of bytes that is read. -/
structure RdBB (w : World) (ao : Option Addr) (n cap : Nat) (os : List ByM) : Prop where
  len : os.length = n
  le : n ≤ cap
  max : cap ≤ maxLen
  cell : ∀ i, i < n → ∃ b off, ao = some ⟨b, off, none⟩ ∧ w.cell? ⟨b, off + i, none⟩ = some (.slice (os.getD i default).o (os.getD i default).n (os.getD i default).c) ∧ Rd .u8 w (os.getD i default).o (os.getD i default).n (os.getD i default).c (os.getD i default).l
section
variable {w w' : World} {ao : Option Addr} {n cap : Nat} {os : List ByM}
theorem RdBB.below (h : RdBB w ao n cap os) (hb : Below w.heap.size w w') : RdBB w' ao n cap os :=
  ⟨h.len, h.le, h.max, fun i hi => by
    obtain ⟨b, off, e, hc, hr⟩ := h.cell i hi
    exact ⟨b, off, e, (hb.cell (p := ⟨b, off + i, none⟩) (World.block_lt_of_cell? w _ hc)).trans hc, hr.below hb⟩⟩
theorem RdBB.cap63 (h : RdBB w ao n cap os) : cap ≤ 9223372036854775807 := by have := h.max; unfold maxLen at this; omega
end
section
variable {H : Type} {enc : TypeId × Value → H} {w : World} {base : Nat} {spare : Nat → Bool} {held : Bool}
theorem open_bytesB {fuel : Nat} {cs : List Value} {x : DataW H × List MemPlace} (h : DataW.trod enc Tryd.prog w base spare held fuel 30 cs = some x) : ∃ lo ln lc l, cs = [.slice lo ln lc] ∧ Rd .u8 w lo ln lc l := by
  rcases open_ints Tryd.underlying30 Tryd.underlying5 (by kernel_rfl) h with ⟨rfl, _⟩ | ⟨a, len, cap, zs, rfl, _, hl, hm, hz, _, hcell, hwz⟩
  · exact ⟨none, 0, 0, [], rfl, Rd.empty _ _⟩
  · have hle : len ≤ zs.length := by rw [hz]; split <;> omega
    refine ⟨some a, len, cap, zs.take len, rfl, by simp; omega, hl, hm, (fun h => by cases h), (fun ad ha i hi => ?_), fun x hx => hwz x (List.mem_of_mem_take hx)⟩
    cases ha
    rw [hcell i (by omega)]
    simp [List.getD, hi]
theorem open_rowsB {fuel : Nat} {cs : List Value} {x : DataW H × List MemPlace} (h : DataW.trod enc Tryd.prog w base spare held fuel 22 cs = some x) :
    ∃ ao n cap os, cs = [.slice ao n cap] ∧ RdBB w ao n cap os := by
  rcases open_slice Tryd.underlying22 h with ⟨rfl, _⟩ | ⟨a, len, cap, m, n, D, Pl, rfl, _, hl, hm, hmm, _, hi⟩
  · exact ⟨none, 0, 0, [], rfl, rfl, Nat.le_refl _, Nat.zero_le _, fun i hi => absurd hi (Nat.not_lt_zero _)⟩
  · have hlm : len ≤ m := by rw [hmm]; split <;> omega
    have hco : Tryd.prog.cellsOf 30 = 1 := by kernel_rfl
    have key : ∀ i : Nat, ∃ p : ByM, i < len → w.cell? (a.add i) = some (.slice p.o p.n p.c) ∧ Rd .u8 w p.o p.n p.c p.l := by
      intro i
      by_cases hil : i < len
      · obtain ⟨cs', hc, ht⟩ := hi i (by omega)
        rw [hco] at hc
        obtain ⟨lo, ln, lc, l, rfl, hr⟩ := open_bytesB ht
        obtain ⟨_, _, hcell⟩ := World.cells?_some hc
        have := hcell 0 (by omega)
        exact ⟨⟨lo, ln, lc, l⟩, fun _ => ⟨by simpa [Addr.add, hco] using this, hr⟩⟩
      · exact ⟨default, fun h => absurd h hil⟩
    obtain ⟨f, hf⟩ := Classical.axiomOfChoice key
    have hget : ∀ i, i < len → ((List.range len).map f).getD i default = f i := by
      intro i hil
      simp [List.getD, hil]
    refine ⟨some a, len, cap, (List.range len).map f, rfl, by rw [List.length_map, List.length_range], hl, hm, fun i hil => ?_⟩
    obtain ⟨hc, hok⟩ := hf i hil
    have hspot : a.spot = none := by
      have h0 := (hf 0 (by omega)).1
      simpa [Addr.add] using World.cell?_spot h0
    obtain ⟨b, off, spot⟩ := a
    simp only at hspot
    subst hspot
    rw [hget i hil]
    exact ⟨b, off, rfl, by rw [← Go.WideShapes.add_plain]; exact hc, hok⟩
end
end Go.Proofs.YtpfcopdckjedfaaDoor
