/- Words of my own over the guide's library: a block that is known whole as a list of cells; a world of which one block alone has turned. No program is named here. -/
import Derived.Test.YtjihemgidogoeaaQuiet
import Derived.Laws.CopyOwn
import Derived.Deep.MidRow
namespace Go.Proofs.Ytjihemgidogoeaa
open Go.RowKit

/-- Block g alone may have been written; what is new is new. -/
abbrev Wr (g : Nat) (w w' : World) : Prop := w.grownBy w' (some g)
section
variable {g : Nat} {a w w' : World}
theorem Wr.refl (g : Nat) (w : World) : Wr g w w := ⟨rfl, rfl, rfl, Nat.le_refl _, fun _ _ _ => rfl⟩
theorem Wr.step (h : Wr g a w) (h' : Wr g w w') : Wr g a w' := ⟨h'.os.trans h.os, h'.tape.trans h.tape, h'.output.trans h.output, Nat.le_trans h.size h'.size, fun i hi hn => (h'.block i (Nat.lt_of_lt_of_le hi h.size) hn).trans (h.block i hi hn)⟩
theorem Wr.of (h : Below a.heap.size a w) : Wr g a w := ⟨h.os, h.tape, h.output, h.size, fun i hi _ => h.block i hi⟩
theorem Wr.drew (h : Wr g a w) : Wr g a w.drew := ⟨h.os, h.tape, h.output, h.size, h.block⟩
theorem Wr.drewN (h : Wr g a w) (n : Nat) : Wr g a (w.drewN n) := ⟨h.os, h.tape, h.output, h.size, h.block⟩
theorem Wr.alloc (h : Wr g a w) (o : Obj) : Wr g a (w.alloc o) := h.step (Wr.of (Bl.alloc (Bl.refl w) o))
theorem Wr.set (h : Wr g a w) (i : Nat) (u : Value) : Wr g a (w.setCell ⟨g, i, none⟩ u) :=
  h.step ⟨rfl, rfl, rfl, by simp [World.setCell], fun k _ hn => Below.heap_setCell w _ u k (fun e => hn (by simpa using e))⟩
theorem Wr.setRow (h : Wr g a w) (cs : Array Value) : Wr g a (w.setRow g cs) :=
  h.step ⟨rfl, rfl, rfl, by simp [World.setRow], fun k _ hn => setRow_other w g k cs (fun e => hn (by simpa using e))⟩
theorem Wr.below (h : Wr g a w) {B : Nat} (hB : B ≤ a.heap.size) (hg : B ≤ g) : Below B a w := (Below.refl _ _).grown h hB (fun k hk => by cases hk; exact hg)
theorem Wr.setCells (h : Wr g a w) : ∀ (vs : List Value) (o : Nat), Wr g a (w.setCells g o vs) := by
  intro vs
  induction vs generalizing w with
  | nil => intro o; exact h
  | cons v vs ih => intro o; exact ih (h.set o v) (o + 1)
theorem Wr.cell (h : Wr g a w) {p : Addr} (hp : p.block < a.heap.size) (hn : p.block ≠ g) : w.cell? p = a.cell? p := World.cell?_of_block (h.block p.block hp (fun e => hn (by simpa using e)))
theorem Rd.wr {k : IntKind} {ao : Option Addr} {n cap : Nat} {xs : List Int} (h : Rd k a ao n cap xs) (hw : Wr g a w) (hn : ∀ ad, ao = some ad → ad.block ≠ g) : Rd k w ao n cap xs :=
  ⟨h.len, h.le, h.max, h.nil, fun ad ha i hi => by
    have hc := h.cell ad ha i hi
    have hlt := World.block_lt_of_cell? a _ hc
    have hb : (ad.add i).block = ad.block := by unfold Addr.add; split <;> rfl
    exact (hw.cell hlt (by rw [hb]; exact hn ad ha)).trans hc, h.wf⟩
theorem Own.wr {E : TypeId} {k : IntKind} {base : Nat} {v : Value} {xs : List Int} (h : Own E k base a v xs) (hw : Wr g a w) (hn : v.ownBlock ≠ some g) : Own E k base w v xs :=
  ⟨h.row.kept hw (.inr hn), h.wf⟩
end

/-- Block g is just the cells cs of element type t; none is frozen. -/
def Blk (w : World) (g : Nat) (t : TypeId) (cs : List Value) : Prop := w.heap[g]? = some (.cells cs.toArray t (0, 0))
section
variable {w w' : World} {g : Nat} {t : TypeId} {cs : List Value}
theorem Blk.lt (h : Blk w g t cs) : g < w.heap.size := by
  rcases Nat.lt_or_ge g w.heap.size with hlt | hge
  · exact hlt
  · unfold Blk at h; rw [Array.getElem?_eq_none hge] at h; cases h
theorem Blk.cell (h : Blk w g t cs) (i : Nat) : w.cell? ⟨g, i, none⟩ = cs[i]? := by
  have := cell_of_row w g i cs.toArray t (0, 0) h
  simpa using this
theorem Blk.frozen (h : Blk w g t cs) (i : Nat) : w.frozen? ⟨g, i, none⟩ = false := frozen_of_row w g i cs.toArray t h
theorem Blk.new (w : World) (t : TypeId) (cs : List Value) : Blk (w.alloc (.cells cs.toArray t)) w.heap.size t cs := heap_alloc_new w _
theorem Blk.new_at (w : World) (t : TypeId) (cs : List Value) {p : Nat} (hp : p = w.heap.size) : Blk (w.alloc (.cells cs.toArray t)) p t cs := by subst hp; exact Blk.new w t cs
theorem Blk.drew (h : Blk w g t cs) : Blk w.drew g t cs := h
theorem Blk.drewN (h : Blk w g t cs) (n : Nat) : Blk (w.drewN n) g t cs := h
theorem Blk.alloc (h : Blk w g t cs) (o : Obj) : Blk (w.alloc o) g t cs := (Below.heap_alloc w o g h.lt).trans h
theorem Blk.set (h : Blk w g t cs) (i : Nat) (u : Value) : Blk (w.setCell ⟨g, i, none⟩ u) g t (cs.set i u) := by
  unfold Blk at h ⊢
  simp [World.setCell, Array.getElem?_modify, h]
theorem Blk.far (h : Blk w g t cs) {p : Addr} (hp : g ≠ p.block) (u : Value) : Blk (w.setCell p u) g t cs := (Below.heap_setCell w p u g hp).trans h
theorem Blk.below {B : Nat} (h : Blk w g t cs) (hb : Below B w w') (hg : g < B) : Blk w' g t cs := (hb.block g hg).trans h
theorem Blk.grown {row : Option Nat} (h : Blk w g t cs) (hb : w.grownBy w' row) (hg : some g ≠ row) : Blk w' g t cs := (hb.block g h.lt hg).trans h
theorem Blk.bl (h : Blk w g t cs) (hb : Below w.heap.size w w') : Blk w' g t cs := h.below hb h.lt
theorem Blk.ne_ {g' : Nat} {t' : TypeId} {cs' : List Value} (h : Blk w g t cs) (h' : Blk w g' t' cs') (hne : t ≠ t') : g ≠ g' := by
  rintro rfl
  unfold Blk at h h'
  rw [h] at h'
  injection h' with h'
  injection h' with _ ht
  exact hne ht
/-- A range of it is written. -/
theorem Blk.setRow (h : Blk w g t cs) (cs' : List Value) : Blk (w.setRow g cs'.toArray) g t cs' := setRow_heap w g _ _ t _ h
theorem splice_cons {α : Type} (L : List α) (o : Nat) (v : α) (vs : List α) (h : o < L.length) : splice (L.set o v) (o + 1) vs = splice L o (v :: vs) := by
  unfold splice
  have e1 : (L.set o v).take (o + 1) = L.take o ++ [v] := by
    apply List.ext_getElem?
    intro j
    simp only [List.getElem?_take, List.getElem?_set, List.getElem?_append, List.length_take]
    rw [Nat.min_eq_left (by omega)]
    by_cases hj : j < o
    · simp [hj, Nat.ne_of_gt hj]; omega
    · by_cases e : j = o
      · subst e; simp [h]
      · simp [hj, show ¬ j < o + 1 by omega]; omega
  have e2 : (L.set o v).drop (o + 1 + vs.length) = L.drop (o + (v :: vs).length) := by
    apply List.ext_getElem?
    intro j
    simp only [List.getElem?_drop, List.getElem?_set, List.length_cons]
    rw [if_neg (by omega)]
    congr 1
    omega
  rw [e1, e2]
  simp
theorem Blk.setCells : ∀ (vs : List Value) {w : World} {cs : List Value} (_ : Blk w g t cs) (o : Nat), o + vs.length ≤ cs.length → Blk (w.setCells g o vs) g t (splice cs o vs)
  | [], w, cs, h, o, _ => by simpa [splice, World.setCells] using h
  | v :: vs, w, cs, h, o, hl => by
    have hl' : o + (vs.length + 1) ≤ cs.length := hl
    have := Blk.setCells vs (h.set o v) (o + 1) (by simp; omega)
    rw [splice_cons cs o v vs (by omega)] at this
    exact this
theorem Blk.range (h : Blk w g t cs) (o : Nat) (vs : List Value) (hv : ∀ j v, vs[j]? = some v → cs[o + j]? = some v) : w.rangeAt g o vs := fun j v e => (h.cell (o + j)).trans (hv j v e)
theorem Blk.there (h : Blk w g t cs) (o n : Nat) (hn : o + n ≤ cs.length) : w.there g o n := fun j hj => ⟨by rw [h.cell (o + j)]; simp; omega, h.frozen _⟩
end
/-- What a row of the call's own and a block that is known whole have in common: nothing, where their types differ. -/
theorem Own.ne_blk {E : TypeId} {k : IntKind} {base : Nat} {w : World} {v : Value} {xs : List Int} {g : Nat} {t : TypeId} {cs : List Value} (h : Own E k base w v xs) (hg : Blk w g t cs) (hne : E ≠ t) : v.ownBlock ≠ some g := by
  rcases h.row.2 with ⟨rfl, _⟩ | ⟨g', cap, cur, rfl, _, hh, _⟩
  · simp [Value.ownBlock]
  · intro he
    have : g' = g := by simpa [Value.ownBlock] using he
    subst this
    unfold Blk at hg
    rw [hh] at hg
    injection hg with hg
    injection hg with _ ht
    exact hne ht
/-- 'copy(dst, src)' into a block that is known whole. -/
theorem wpList_copy_blk {P : Program} {w : World} {ops : Array Oper} {rest : List Oper} {o : Oper} {a : Act} {Q : Exit → Act → World → Prop} (hgd : o.guard = none) (d s : Operand) (dT sT : TypeId)
    (ho : o.op = .call { callee := .builtin .copy, args := #[d, s], argTypes := #[dT, sT] }) (elem : TypeId) (hu : P.underlying dT = some (.slice elem)) (hsz : (P.info? elem).map (·.size) = some 1)
    (g off dLen dCap : Nat) (ad : Addr) (sLen sCap : Nat) (hd : a.eval d = .slice (some ⟨g, off, none⟩) dLen dCap) (hs : a.eval s = .slice (some ad) sLen sCap)
    (cur : List Value) (t : TypeId) (hg : Blk w g t cur) (cs : List Value) (hn : cs.length = Nat.min sLen dLen)
    (hsrc : ∀ j v, cs[j]? = some v → w.cell? (ad.add j) = some v) (hfit : off + cs.length ≤ cur.length) (h1 : ∀ v ∈ cs, v.oneCell' = true)
    (h : ∀ w', Hid (Blk w' g t (splice cur off cs) ∧ Wr g w w') → wpList P ops Q rest (a.put o.dst (goInt cs.length)) w') : wpList P ops Q (o :: rest) a w := by
  refine wpList_copy_own hgd d s dT sT ho elem hu hsz g off dLen dCap ad sLen sCap hd hs cur.toArray t hg cs hn hsrc (by simpa using hfit) h1 ?_
  exact h _ ⟨hg.setRow _, (Wr.refl g w).setRow _⟩

/-- 'arr[l:]' of an array that lies at place o of block g (elements of one cell). -/
theorem run_cutA {P : Program} (t : TypeId) (ht : P.underlying t = some (.array (P.arrayLen t) (P.elem t))) (hs : ∀ w, (sizeOf (P.elem t)).run P w = .ok 1 w) (g o n : Nat) (hn : P.arrayLen t = n) (k : IntKind) (l : Int) (l' : Nat) (hl : l = l') (h : l' < n) (w : World) :
    (Instr.sliceAt t (.pointer (some ⟨g, o, none⟩)) (some (.int k l)) none none).run P w = .ok (.slice (some ⟨g, o + l', none⟩) (n - l') (n - l')) w := by
  subst hl
  rw [run_sliceAt_array_l w t _ ht k _ (by omega) (by omega), hs, hn]
  simp [slicedAt, show ¬ n = l' by omega, Addr.add_lit]
/-- 's[:h]' of a slice at a known address. -/
theorem run_cutS {P : Program} (t : TypeId) (ht : P.underlying t = some (.slice (P.elem t))) {s : Nat} (hs : ∀ w, (sizeOf (P.elem t)).run P w = .ok s w) (g o n cap : Nat) (k : IntKind) (h : Int) (h' : Nat) (hh : h = h') (h1 : 0 < h') (h2 : h' ≤ cap) (w : World) :
    (Instr.sliceAt t (.slice (some ⟨g, o, none⟩) n cap) none (some (.int k h)) none).run P w = .ok (.slice (some ⟨g, o, none⟩) h' cap) w := by
  subst hh
  rw [run_sliceAt_slice w t _ _ _ _ ht, run_slice_h w t _ n cap ht k _ (by omega) (by omega), hs]
  simp [sliced, show ¬ cap = 0 by omega, Addr.add]
/-- 'T{..}' whose value is told at once: the walk's own rule opens the zero value cell by cell. -/
theorem wpList_build {P : Program} {w : World} {ops : Array Oper} {rest : List Oper} {o : Oper} {a : Act} {Q : Exit → Act → World → Prop} (hgd : o.guard = none) (t : TypeId) (ps : Array (Nat × Operand)) (ho : o.op = .build t ps)
    (vs : Array (Nat × Value)) (hv : (ps.map fun (i, x) => (i, a.eval x)) = vs) (v : Value) (hr : (Instr.build t vs).run P w = .ok v w) (h : wpList P ops Q rest (a.put o.dst v) w) : wpList P ops Q (o :: rest) a w := by
  refine wpList_plain hgd fun K hK => ?_
  unfold Oper.wp execOp
  simp only [ho, hv, hr, Sem.run_bind, Sem.run_pure, Result.andThen_ok]
  exact hK _ _ h
end Go.Proofs.Ytjihemgidogoeaa
