/- Words for arrays of the call's own: made by 'var', cut, read as a row. No program is named but for its types. -/
import Derived.Test.YtcbchhnbkgaboaaMemL3
import Derived.Test.YtcbchhnbkgaboaaMemL2
import Derived.Test.YtcbchhnbkgaboaaRegion
namespace Go.Proofs.Ytcbchhnbkgaboaa
open Go.RowKit

/-- 'var x T' of an array, its world a variable. -/
theorem wpList_var {P : Program} {w : World} {ops : Array Oper} {rest : List Oper} {o : Oper} {a : Act} {Q : Exit → Act → World → Prop} (hgd : o.guard = none) (t : TypeId) (ho : o.op = .alloc t) (cs : List Value)
    (hr : (Instr.alloc t true (.tuple #[])).run P w = .ok (.pointer (some ⟨w.heap.size, 0, none⟩)) (w.alloc (.cells cs.toArray t)))
    (h : ∀ w', Hid (Blk w' w.heap.size t cs ∧ Below w.heap.size w w') → wpList P ops Q rest (a.put o.dst (.pointer (some ⟨w.heap.size, 0, none⟩))) w') : wpList P ops Q (o :: rest) a w := by
  refine wpList_plain hgd fun K hK => ?_
  unfold Oper.wp execOp
  simp only [ho, hr, Sem.run_bind, Sem.run_pure, Result.andThen_ok]
  exact hK _ _ (h _ ⟨Blk.new _ _ _, Bl.alloc (Bl.refl _) _⟩)
/-- 'arr[l:h]'. -/
theorem run_cutAlh {P : Program} (t : TypeId) (ht : P.underlying t = some (.array (P.arrayLen t) (P.elem t))) (hs : ∀ w, (sizeOf (P.elem t)).run P w = .ok 1 w) (g o n : Nat) (hn : P.arrayLen t = n) (k k' : IntKind) (l h : Int) (l' h' : Nat) (hl : l = l') (hh : h = h') (h1 : l' ≤ h') (h2 : h' ≤ n) (h3 : l' < n) (w : World) :
    (Instr.sliceAt t (.pointer (some ⟨g, o, none⟩)) (some (.int k l)) (some (.int k' h)) none).run P w = .ok (.slice (some ⟨g, o + l', none⟩) (h' - l') (n - l')) w := by
  subst hl hh
  rw [run_sliceAt_array_lh w t _ ht k k' _ _ (by omega) (by omega) (by omega), hs, hn]
  simp [slicedAt, show ¬ n = l' by omega, Addr.add_lit]
/-- A block of numbers, read from some place on. -/
theorem Blk.rd {w : World} {g : Nat} {t : TypeId} {k : IntKind} {xs : List Int} (h : Blk w g t (xs.map (Value.int k))) (hw : ∀ x ∈ xs, (Lit.int k x).wf = true) (l n : Nat) (hn : l + n ≤ xs.length) (hm : xs.length ≤ 65536) : Rd k w (some ⟨g, l, none⟩) n (xs.length - l) ((xs.drop l).take n) := by
  refine ⟨by simp; omega, by omega, by unfold maxLen; omega, (fun h => by cases h), fun ad ha i hi => ?_, fun x hx => hw x (List.mem_of_mem_drop (List.mem_of_mem_take hx))⟩
  cases ha
  rw [Addr.add_lit, h.cell]
  have hlt : l + i < xs.length := by omega
  simp [List.getD, hlt, hi]
theorem wf_of_u8 {xs : List Int} (h : ∀ x ∈ xs, 0 ≤ x ∧ x < 256) : ∀ x ∈ xs, (Lit.int .u8 x).wf = true := fun x hx => WalkArith.wf_u8 (by have := h x hx; omega)
theorem take_set {α : Type} (xs : List α) (i n : Nat) (x : α) : (xs.set i x).take n = (xs.take n).set i x := by
  apply List.ext_getElem?
  intro j
  simp only [List.getElem?_take, List.getElem?_set, List.length_take]
  by_cases h : j < n
  · by_cases e : i = j
    · subst e
      simp only [h, if_true]
      by_cases h2 : i < xs.length
      · rw [if_pos h2, if_pos (by omega)]
      · rw [if_neg h2, if_neg (by omega)]
    · simp [h, e]
  · by_cases e : i = j
    · subst e
      rw [if_neg h, if_pos rfl, if_neg (by omega)]
    · simp [h, e]
end Go.Proofs.Ytcbchhnbkgaboaa
