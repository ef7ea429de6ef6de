/- Slices of instructions: pieces of them, literals. -/
import Derived.Test.YtfambbpggodlkaaCodeGetM
import Derived.Test.YtfambbpggodlkaaCodePut
import Derived.Test.YtfambbpggodlkaaCodeTargets
namespace Go.Proofs.Ytfambbpggodlkaa
open Go.RowKit

theorem elem_i : Try.prog.underlying 22 = some (.slice (Try.prog.elem 22)) := by kernel_rfl
theorem size_i (w : World) : (sizeOf (Try.prog.elem 22)).run Try.prog w = .ok 4 w := by kernel_rfl

theorem RdP.cut {w : World} {C : Addr → Prop} {ao : Option Addr} {n cap : Nat} {is : List Ins} (h : RdP w C ao n cap is) (l m : Nat) (h1 : l ≤ m) (h2 : m ≤ n) : RdP w C (cutAt ao l cap 4) (m - l) (cap - l) ((is.take m).drop l) := by
  have hl := h.len
  have hle := h.le
  have hm := h.max
  have hgd : ∀ i, i < m - l → ((is.take m).drop l).getD i default = is.getD (l + i) default := fun i hi => by
    simp [List.getD, show l + i < m by omega]
  refine ⟨by simp; omega, by omega, by omega, fun i hi => ?_, fun i hi => by rw [hgd i hi]; exact h.ok _ (by omega)⟩
  rw [hgd i hi]
  obtain ⟨b, off, lo, ln, lc, e, c0, c1, c2, c3, hr, hC⟩ := h.cell (l + i) (by omega)
  have e4 : off + l * 4 + i * 4 = off + (l + i) * 4 := by omega
  refine ⟨b, off + l * 4, lo, ln, lc, ?_, ?_, ?_, ?_, ?_, hr, hC⟩
  · unfold cutAt
    rw [if_neg (by omega), e]
    simp [Addr.add]
  · rw [e4]; exact c0
  · rw [e4]; exact c1
  · rw [e4]; exact c2
  · rw [e4]; exact c3
theorem RdP.upto {w : World} {C : Addr → Prop} {ao : Option Addr} {n cap : Nat} {is : List Ins} (h : RdP w C ao n cap is) (m : Nat) (h2 : m ≤ n) : RdP w C ao m cap (is.take m) := by
  have hl := h.len
  have hle := h.le
  have hgd : ∀ i, i < m → (is.take m).getD i default = is.getD i default := fun i hi => by simp [List.getD, hi]
  exact ⟨by simp; omega, by omega, h.max, fun i hi => by rw [hgd i hi]; exact h.cell i (by omega), fun i hi => by rw [hgd i hi]; exact h.ok i (by omega)⟩
theorem RdP.weak {w : World} {C C' : Addr → Prop} {ao : Option Addr} {n cap : Nat} {is : List Ins} (h : RdP w C ao n cap is) (hC : ∀ a, C a → C' a) : RdP w C' ao n cap is :=
  ⟨h.len, h.le, h.max, fun i hi => by
    obtain ⟨b, off, lo, ln, lc, e, c0, c1, c2, c3, hr, hc⟩ := h.cell i hi
    exact ⟨b, off, lo, ln, lc, e, c0, c1, c2, c3, hr, fun a ha => hC a (hc a ha)⟩, h.ok⟩

/-- An instruction that is its byte alone. -/
def bare (op : Int) : Ins := ⟨op, 0, 0, []⟩
def bareC (op : Int) : List Value := [.int .i64 op, .int .i64 0, .int .i64 0, .slice none 0 0]
theorem opsI_bare (ops : List Int) : opsI (ops.map bare) = ops := by simp [opsI, bare, Function.comp_def]
theorem RdP.lit (w : World) (C : Addr → Prop) (ops : List Int) (arr : Array Value) (T : TypeId) (n : Nat) (hn : ops.length = n) (hn2 : n ≤ 1000) (h : arr.toList = (ops.map bareC).flatten) : RdP (w.alloc (.cells arr T)) C (some ⟨w.heap.size, 0, none⟩) n n (ops.map bare) := by
  subst hn
  have hw : ∀ r ∈ ops.map bareC, r.length = 4 := fun r hr => by
    obtain ⟨x, _, rfl⟩ := List.mem_map.1 hr
    rfl
  have hc : ∀ i j u, i < ops.length → (bareC (ops.getD i 0))[j]? = some u → (w.alloc (.cells arr T)).cell? ⟨w.heap.size, 0 + (i * 4 + j), none⟩ = some u := fun i j u hi hj => by
    have hj4 : j < 4 := by have := (List.getElem?_eq_some_iff.1 hj).1; simpa [bareC] using this
    have hf := flat_get 4 (ops.map bareC) i j hw (by simpa using hi) hj4
    have e : (ops.map bareC).getD i [] = bareC (ops.getD i 0) := by simp [List.getD, hi]
    rw [e, hj, ← h] at hf
    rw [Nat.zero_add, World.cell?_alloc_at _ _ _ _ rfl]
    simpa using hf
  have hgd : ∀ i, i < ops.length → (ops.map bare).getD i default = bare (ops.getD i 0) := fun i hi => by simp [List.getD, hi]
  refine ⟨by simp, Nat.le_refl _, by unfold maxLen; omega, fun i hi => ?_, fun i hi => by rw [hgd i hi]; exact ⟨by simp [bare], by simp [bare]⟩⟩
  rw [hgd i hi]
  refine ⟨_, 0, none, 0, 0, rfl, ?_, ?_, ?_, ?_, Rd.empty _ _, fun _ h => by cases h⟩
  · exact hc i 0 _ hi rfl
  · exact hc i 1 _ hi rfl
  · exact hc i 2 _ hi rfl
  · exact hc i 3 _ hi rfl
end Go.Proofs.Ytfambbpggodlkaa
