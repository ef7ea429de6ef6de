/- Data of any shape, read or built: what is said of a world holds in each world that is as it on some blocks. No program is named here. -/
import Derived.Test.YtjihemgidogoeaaCodeRows
import Derived.Test.YtjihemgidogoeaaVals
namespace Go.Proofs.Ytjihemgidogoeaa
open Go.RowKit

/-- Φ holds in each world that is as w on the blocks C. -/
def Bx (C : Nat → Prop) (w : World) (Φ : World → Prop) : Prop := ∀ w', (∀ b, C b → w'.heap[b]? = w.heap[b]?) → Φ w'

section
variable {C C' : Nat → Prop} {w w' : World} {Φ Ψ : World → Prop}
theorem Bx.now (h : Bx C w Φ) : Φ w := h w fun _ _ => rfl
theorem Bx.more (h : Bx C w Φ) (hc : ∀ b, C b → C' b) : Bx C' w Φ := fun w' h' => h w' fun b hb => h' b (hc b hb)
theorem Bx.keep (h : Bx C w Φ) (hk : ∀ b, C b → w'.heap[b]? = w.heap[b]?) : Bx C w' Φ := fun w2 h2 => h w2 fun b hb => (h2 b hb).trans (hk b hb)
theorem Bx.to (h : Bx C w Φ) (hk : ∀ b, C b → w'.heap[b]? = w.heap[b]?) (hc : ∀ b, C b → C' b) : Bx C' w' Φ := (h.keep hk).more hc
theorem Bx.imp (h : Bx C w Φ) (hi : ∀ w, Φ w → Ψ w) : Bx C w Ψ := fun w' h' => hi w' (h w' h')
theorem Bx.imp2 {Ω : World → Prop} (h : Bx C w Φ) (h2 : Bx C w Ψ) (hi : ∀ w, Φ w → Ψ w → Ω w) : Bx C w Ω := fun w' h' => hi w' (h w' h') (h2 w' h')
theorem Bx.pure {p : Prop} (h : p) : Bx C w fun _ => p := fun _ _ => h
end

/-- What is read where all memory is as w's. -/
def Rx (w : World) (Φ : World → Prop) : Prop := Bx (fun b => b < w.heap.size) w Φ
section
variable {w w' : World} {Φ Ψ : World → Prop} {α : Type}
theorem Rx.now (h : Rx w Φ) : Φ w := Bx.now h
theorem Rx.below (h : Rx w Φ) (hb : Below w.heap.size w w') : Rx w' Φ := Bx.to h (fun b hlt => hb.block b hlt) fun _ hlt => Nat.lt_of_lt_of_le hlt hb.size
theorem Rx.imp (h : Rx w Φ) (hi : ∀ w, Φ w → Ψ w) : Rx w Ψ := Bx.imp h hi
theorem Rx.alloc (h : Rx w Φ) (o : Obj) : Rx (w.alloc o) Φ := h.below (Bl.alloc (Bl.refl _) _)
theorem Rd.rx {k : IntKind} {ao : Option Addr} {n cap : Nat} {xs : List Int} (h : Rd k w ao n cap xs) : Rx w fun w => Rd k w ao n cap xs := fun w' h' =>
  ⟨h.len, h.le, h.max, h.nil, fun ad ha i hi => by
    have hc := h.cell ad ha i hi
    exact (World.cell?_of_block (h' _ (World.block_lt_of_cell? w _ hc))).trans hc, h.wf⟩

/-- A slice value's parts: its elements of s cells read as xs by R. -/
structure RdG (s : Nat) (R : World → List Value → α → Prop) (w : World) (ao : Option Addr) (n cap : Nat) (xs : List α) : Prop where
  len : xs.length = n
  le : n ≤ cap
  max : cap ≤ maxLen
  nil : ao = none → cap = 0
  cell : ∀ i x, xs[i]? = some x → ∃ b off cs, ao = some ⟨b, off, none⟩ ∧ cs.length = s ∧ R w cs x ∧ ∀ j v, cs[j]? = some v → w.cell? ⟨b, off + i * s + j, none⟩ = some v

variable {s : Nat} {R : World → List Value → α → Prop} {ao : Option Addr} {n cap : Nat} {xs : List α}
theorem RdG.empty (w : World) : RdG s R w none 0 0 ([] : List α) := ⟨rfl, Nat.le_refl _, Nat.zero_le _, fun _ => rfl, fun _ _ h => by simp at h⟩
theorem RdG.cap63 (h : RdG s R w ao n cap xs) : n ≤ 9223372036854775807 ∧ cap ≤ 9223372036854775807 := by have := h.max; have := h.le; unfold maxLen at *; omega

/-- An element of what is read: its cells, and what holds of them wherever memory is as now. -/
theorem RdG.elem (h : Rx w fun w => RdG s R w ao n cap xs) {i : Nat} {x : α} (hx : xs[i]? = some x) : ∃ b off cs, ao = some ⟨b, off, none⟩ ∧ cs.length = s ∧ (Rx w fun w => R w cs x) ∧ ∀ j v, cs[j]? = some v → w.cell? ⟨b, off + i * s + j, none⟩ = some v := by
  obtain ⟨b, off, cs, e, hl, hR, hc⟩ := h.now.cell i x hx
  refine ⟨b, off, cs, e, hl, fun w' h' => ?_, hc⟩
  obtain ⟨b2, off2, cs2, e2, hl2, hR2, hc2⟩ := (h w' h').cell i x hx
  rw [e] at e2
  simp only [Option.some.injEq, Addr.mk.injEq, and_true] at e2
  obtain ⟨rfl, rfl⟩ := e2
  have : cs = cs2 := by
    refine List.ext_getElem (hl.trans hl2.symm) fun j h1 h2 => ?_
    have a1 := hc j _ (List.getElem?_eq_getElem h1)
    have a2 := hc2 j _ (List.getElem?_eq_getElem h2)
    rw [World.cell?_of_block (h' _ (World.block_lt_of_cell? w _ a1)), a1] at a2
    exact Option.some.inj a2
  rw [this]
  exact hR2
end

theorem gr_refl (w : World) (r : Option Nat) : w.grownBy w r := ⟨rfl, rfl, rfl, Nat.le_refl _, fun _ _ _ => rfl⟩
theorem gr_trans {a b c : World} {r : Option Nat} (h : a.grownBy b r) (k : b.grownBy c r) : a.grownBy c r :=
  ⟨k.os.trans h.os, k.tape.trans h.tape, k.output.trans h.output, Nat.le_trans h.size k.size, fun i hi hr => (k.block i (Nat.lt_of_lt_of_le hi h.size) hr).trans (h.block i hi hr)⟩
theorem gr_below {a b : World} {B : Nat} (h : Below B a b) (hB : a.heap.size ≤ B) (r : Option Nat) : a.grownBy b r := ⟨h.os, h.tape, h.output, h.size, fun i hi _ => h.block i (by omega)⟩
/-- A row that is younger than the world a has grown. -/
theorem gr_row {a b c : World} {r : Option Nat} {r2 : Option Nat} (h : a.grownBy b r) (k : b.grownBy c r2) (hr : ∀ g, r2 = some g → a.heap.size ≤ g) : a.grownBy c r :=
  ⟨k.os.trans h.os, k.tape.trans h.tape, k.output.trans h.output, Nat.le_trans h.size k.size, fun i hi hne => (k.block i (Nat.lt_of_lt_of_le hi h.size) (fun e => by have := hr i e.symm; omega)).trans (h.block i hi hne)⟩
theorem gr_set {a b : World} {p : Nat} (h : a.grownBy b (some p)) (o : Nat) (u : Value) : a.grownBy (b.setCell ⟨p, o, none⟩ u) (some p) := gr_trans h (grown_set b ⟨p, o, none⟩ u)
theorem gr_alloc {a b : World} {r : Option Nat} (h : a.grownBy b r) (o : Obj) : a.grownBy (b.alloc o) r := gr_trans h (gr_below (Bl.alloc (Bl.refl b) o) (Nat.le_refl _) r)

/-- A slice value that the call itself has made (from block B on): its elements of s cells read as xs by R, with memory of its own alone. -/
structure OwnG {α : Type} (E : TypeId) (s : Nat) (R : World → List Value → α → Prop) (B : Nat) (w : World) (v : Value) (xs : List α) : Prop where
  row : ∃ css : List (List Value), css.length = xs.length ∧ OwnC E s B w v css ∧ ∀ (i : Nat) (cs : List Value) (x : α), css[i]? = some cs → xs[i]? = some x → Bx (fun b => B ≤ b ∧ b < w.heap.size ∧ v.ownBlock ≠ some b) w fun w => R w cs x

section
variable {α : Type} {E : TypeId} {s B : Nat} {R : World → List Value → α → Prop} {w w' : World} {v : Value} {xs : List α}
theorem OwnG.nil (E : TypeId) (s : Nat) (R : World → List Value → α → Prop) (B : Nat) (w : World) : OwnG E s R B w (.slice none 0 0) [] := ⟨[], rfl, OwnC.nil E s B w, fun _ _ _ h => by simp at h⟩
theorem OwnG.lt (h : OwnG E s R B w v xs) : ∀ b, v.ownBlock = some b → B ≤ b ∧ b < w.heap.size := by
  obtain ⟨css, _, hc, _⟩ := h.row
  exact hc.lt
theorem OwnG.shape (h : OwnG E s R B w v xs) : ∃ ao cap, v = .slice ao xs.length cap ∧ xs.length ≤ cap ∧ cap ≤ 9223372036854775807 ∧ (0 < xs.length → ∃ g, ao = some ⟨g, 0, none⟩ ∧ B ≤ g ∧ g < w.heap.size) := by
  obtain ⟨css, hl, hc, _⟩ := h.row
  obtain ⟨ao, cap, rfl, h1, h2, h3⟩ := hc.shape
  rw [hl] at *
  refine ⟨ao, cap, rfl, h1, h2, fun h0 => ?_⟩
  obtain ⟨g, rfl⟩ := h3 h0
  exact ⟨g, rfl, hc.lt g rfl⟩
/-- Memory grew, but for a row p that is elder. -/
theorem OwnG.kept (h : OwnG E s R B w v xs) {r : Option Nat} (hg : w.grownBy w' r) (hr : ∀ p, r = some p → p < B) : OwnG E s R B w' v xs := by
  obtain ⟨css, hl, hc, hx⟩ := h.row
  refine ⟨css, hl, hc.grown hg (fun g hv e => by have := (hc.lt g hv).1; have := hr g e; omega), fun i cs x h1 h2 => (hx i cs x h1 h2).to (fun b hb => hg.block b hb.2.1 (fun e => by have := hr b e.symm; omega)) fun b hb => ⟨hb.1, Nat.lt_of_lt_of_le hb.2.1 hg.size, hb.2.2⟩⟩
theorem OwnG.below (h : OwnG E s R B w v xs) {K : Nat} (hb : Below K w w') (hK : w.heap.size ≤ K) : OwnG E s R B w' v xs := h.kept (gr_below hb hK none) fun _ h => by cases h
theorem OwnG.alloc (h : OwnG E s R B w v xs) (o : Obj) : OwnG E s R B (w.alloc o) v xs := h.below (Bl.alloc (Bl.refl w) o) (Nat.le_refl _)
theorem OwnG.lift (h : OwnG E s R B w v xs) {B' : Nat} (hB : B' ≤ B) : OwnG E s R B' w v xs := by
  obtain ⟨css, hl, hc, hx⟩ := h.row
  exact ⟨css, hl, hc.lift hB, fun i cs x h1 h2 => (hx i cs x h1 h2).more fun b hb => ⟨by omega, hb.2⟩⟩
/-- It is read; where: in blocks from B on. -/
theorem OwnG.bx (h : OwnG E s R B w v xs) : ∃ ao cap, v = .slice ao xs.length cap ∧ Bx (fun b => B ≤ b ∧ b < w.heap.size) w fun w => RdG s R w ao xs.length cap xs := by
  obtain ⟨css, hl, hc, hx⟩ := h.row
  obtain ⟨ao, cap, rfl, h1, h2, h3⟩ := hc.shape
  rw [hl] at h1 h3 ⊢
  refine ⟨ao, cap, rfl, fun w' h' => ⟨rfl, h1, by unfold maxLen; omega, fun e => ?_, fun i x hi => ?_⟩⟩
  · rcases hc.row.2 with ⟨e1, _⟩ | ⟨g, cap', cur, e1, _⟩
    · simp at e1; exact e1.2.2
    · simp at e1; rw [e] at e1; simp at e1
  · have hil : i < xs.length := (List.getElem?_eq_some_iff.1 hi).1
    obtain ⟨g, rfl⟩ := h3 (by omega)
    have hg := hc.lt g rfl
    have hcs : css[i]? = some (css.getD i []) := by simp [List.getD, show i < css.length by omega]
    refine ⟨g, 0, css.getD i [], rfl, hc.wid _ (List.mem_of_getElem? hcs), (hx i _ x hcs hi) w' (fun b hb => h' b ⟨hb.1, hb.2.1⟩), fun j u hj => ?_⟩
    have := (OwnC.cell (n := css.length) (by simpa [hl] using hc) i j (by omega) hj).1
    rw [Nat.zero_add]
    exact (World.cell?_of_block (h' g hg)).trans this
theorem OwnG.rx (h : OwnG E s R B w v xs) : ∃ ao cap, v = .slice ao xs.length cap ∧ Rx w fun w => RdG s R w ao xs.length cap xs := by
  obtain ⟨ao, cap, e, hb⟩ := h.bx
  exact ⟨ao, cap, e, Bx.more hb fun b h => h.2⟩

/-- One more, built by the call too: what an append of one element leaves. w: the world ahead of the append. -/
theorem OwnG.step {css : List (List Value)} (hl : css.length = xs.length) (hc : OwnC E s B w v css)
    (hx : ∀ (i : Nat) (cs : List Value) (x : α), css[i]? = some cs → xs[i]? = some x → Bx (fun b => B ≤ b ∧ b < w.heap.size ∧ v.ownBlock ≠ some b) w fun w => R w cs x)
    {x : α} {cs : List Value} {H : Nat} (hcs : cs.length = s) (hR : Bx (fun b => B ≤ b ∧ b < w.heap.size ∧ v.ownBlock ≠ some b) w fun w => R w cs x)
    {g cap n : Nat} (hn : n = xs.length + 1) (hrow' : w'.ownsRow B E s (.slice (some ⟨g, 0, none⟩) n cap) n (css.flatten ++ cs)) (hgr : w.grownBy w' v.ownBlock) (hg : v.ownBlock = some g ∨ g = H) (hH : w.heap.size = H) :
    OwnG E s R B w' (.slice (some ⟨g, 0, none⟩) n cap) (xs ++ [x]) := by
  have hne : ∀ b, b < w.heap.size → v.ownBlock ≠ some b → g ≠ b := fun b hb hv e => by
    rcases hg with h | h
    · exact hv (by rw [h, e])
    · omega
  have hto : ∀ {Φ : World → Prop}, Bx (fun b => B ≤ b ∧ b < w.heap.size ∧ v.ownBlock ≠ some b) w Φ → Bx (fun b => B ≤ b ∧ b < w'.heap.size ∧ (Value.slice (some ⟨g, 0, none⟩) n cap).ownBlock ≠ some b) w' Φ := fun h =>
    h.to (fun b hb => hgr.block b hb.2.1 (fun e => hb.2.2 e.symm)) fun b hb => ⟨hb.1, Nat.lt_of_lt_of_le hb.2.1 hgr.size, fun e => hne b hb.2.1 hb.2.2 (by simpa [Value.ownBlock] using e)⟩
  refine ⟨css ++ [cs], by simp [hl], OwnC.snoc cs hcs hc.wid (by rw [hn, hl]) hrow', fun i cs' x' h1 h2 => ?_⟩
  rcases Nat.lt_or_ge i xs.length with hi | hi
  · rw [List.getElem?_append_left (by omega)] at h1
    rw [List.getElem?_append_left hi] at h2
    exact hto (hx i cs' x' h1 h2)
  · rw [List.getElem?_append_right (by omega), hl] at h1
    rw [List.getElem?_append_right hi] at h2
    have e0 : i - xs.length = 0 := by
      have := (List.getElem?_eq_some_iff.1 h2).1
      simp at this; omega
    rw [e0] at h1 h2
    simp at h1 h2
    subst h1 h2
    exact hto hR

/-- 'append(v, x)': one element more, whose cells stand in a block. -/
theorem wpList_append_g {P : Program} {ops : Array Oper} {rest : List Oper} {o : Oper} {a : Act} {Q : Exit → Act → World → Prop} (hgd : o.guard = none) (so xo : Operand) (t : TypeId)
    (ho : o.op = .call { callee := .builtin .append, args := #[so, xo], argTypes := #[t, t] })
    (bytes : Nat) (z : Value) (ht : P.underlying t = some (.slice E)) (hi : (P.info? E).map (fun i => (i.zero, i.size, i.bytes)) = some (some z, s, bytes)) (hzs : z.cells.size = s) (hsz : 0 < s)
    (hs : a.eval so = v) (h : OwnG E s R B w v xs) (hB : B ≤ w.heap.size)
    (q : Nat) (cs : List Value) (hx : a.eval xo = .slice (some ⟨q, 0, none⟩) 1 1) (hcs : cs.length = s) (hnews : ∀ j u, cs[j]? = some u → w.cell? ⟨q, j, none⟩ = some u) (h1 : ∀ u ∈ cs, u.oneCell' = true)
    (x : α) (hR : Bx (fun b => B ≤ b ∧ b < w.heap.size ∧ v.ownBlock ≠ some b) w fun w => R w cs x)
    (h63 : xs.length + 1 ≤ 4611686018427387904) (hbytes : (xs.length + 1) * bytes ≤ 140737488355328)
    (hk : ∀ v' w', OwnG E s R B w' v' (xs ++ [x]) → w.grownBy w' v.ownBlock → wpList P ops Q rest (a.put o.dst v') w') : wpList P ops Q (o :: rest) a w := by
  obtain ⟨i, hi0, hz, his, hby⟩ := info_parts hi
  obtain ⟨css, hl, hc, hxs⟩ := h.row
  refine wpList_append_lies _ hgd so xo t ho B E i z s bytes ht hi0 hz his hby hzs hsz v css.length css.flatten hs hc.row ⟨q, 0, none⟩ 1 1 cs hx (by rw [hcs, Nat.one_mul]) (fun j u hu => by rw [Addr.add_lit, Nat.zero_add]; exact hnews j u hu) h1 (by decide) (by rw [hl]; unfold maxLen; omega) (by rw [hl]; exact hbytes) hB w.heap.size rfl ?_
  intro g cap w' o1 o2 o3 _
  exact hk _ _ (OwnG.step hl hc hxs hcs hR (by rw [hl]) o1 o2 o3 rfl) o2
end

/-- A whole number in one cell. -/
def IR (k : IntKind) (_ : World) (cs : List Value) (x : Int) : Prop := cs = [.int k x] ∧ (Lit.int k x).wf = true
theorem RdG.ints {k : IntKind} {w : World} {ao : Option Addr} {n cap : Nat} {xs : List Int} (h : RdG 1 (IR k) w ao n cap xs) : Rd k w ao n cap xs := by
  refine ⟨h.len, h.le, h.max, h.nil, fun ad ha i hi => ?_, fun x hx => ?_⟩
  · have hil : i < xs.length := by rw [h.len]; exact hi
    obtain ⟨b, off, cs, e, _, ⟨rfl, _⟩, hc⟩ := h.cell i xs[i] (List.getElem?_eq_getElem hil)
    rw [e] at ha
    cases ha
    have := hc 0 _ rfl
    rw [Addr.add_lit]
    simpa [List.getD, hil] using this
  · obtain ⟨i, hi, rfl⟩ := List.mem_iff_getElem.1 hx
    obtain ⟨b, off, cs, e, _, ⟨rfl, hw⟩, hc⟩ := h.cell i xs[i] (List.getElem?_eq_getElem hi)
    exact hw
theorem Rd.ints {k : IntKind} {w : World} {ao : Option Addr} {n cap : Nat} {xs : List Int} (h : Rd k w ao n cap xs) : RdG 1 (IR k) w ao n cap xs := by
  refine ⟨h.len, h.le, h.max, h.nil, fun i x hi => ?_⟩
  have hil : i < xs.length := (List.getElem?_eq_some_iff.1 hi).1
  obtain ⟨b, off, e, hc⟩ := h.at (by rw [← h.len]; omega)
  refine ⟨b, off, [.int k x], e, rfl, ⟨rfl, h.wf x (List.mem_of_getElem? hi)⟩, fun j v hj => ?_⟩
  have hj0 : j = 0 := by have := (List.getElem?_eq_some_iff.1 hj).1; simp at this; omega
  subst hj0
  simp at hj
  subst hj
  have := hc i (by rw [← h.len]; exact hil)
  rw [Nat.mul_one, Nat.add_zero, this]
  simp [List.getD, hi]
theorem OwnG.ints {E : TypeId} {k : IntKind} {B : Nat} {w : World} {v : Value} {xs : List Int} (h : OwnG E 1 (IR k) B w v xs) : Own E k B w v xs := by
  obtain ⟨css, hl, hc, hx⟩ := h.row
  have he : css.flatten = xs.map (Value.int k) := by
    have : css = xs.map fun x => [Value.int k x] := by
      refine List.ext_getElem (by simp [hl]) fun i h1 h2 => ?_
      have hi : i < xs.length := by omega
      have := (hx i _ xs[i] (List.getElem?_eq_getElem h1) (List.getElem?_eq_getElem hi)).now
      simp [this.1]
    rw [this]
    clear this hx hc hl h
    induction xs with
    | nil => rfl
    | cons x r ih => simp [ih]
  refine ⟨?_, fun x hx' => ?_⟩
  · have := hc.row
    rw [he, hl] at this
    exact this
  · obtain ⟨i, hi, rfl⟩ := List.mem_iff_getElem.1 hx'
    exact ((hx i _ xs[i] (List.getElem?_eq_getElem (show i < css.length by omega)) (List.getElem?_eq_getElem hi)).now).2
/-- What is owned is read, in blocks from B on. -/
theorem Own.bx {E : TypeId} {k : IntKind} {B : Nat} {w : World} {v : Value} {xs : List Int} (h : Own E k B w v xs) : ∃ ao cap, v = .slice ao xs.length cap ∧ Bx (fun b => B ≤ b ∧ b < w.heap.size) w fun w => Rd k w ao xs.length cap xs := by
  obtain ⟨ao, cap, rfl, hr⟩ := h.rd
  refine ⟨ao, cap, rfl, fun w' h' => ⟨hr.len, hr.le, hr.max, hr.nil, fun ad ha i hi => ?_, hr.wf⟩⟩
  have hc := hr.cell ad ha i hi
  have hb := World.block_lt_of_cell? w _ hc
  have hg := h.lt ad.block (by rw [ha]; rfl)
  refine (World.cell?_of_block (h' _ ⟨?_, hb⟩)).trans hc
  have : (ad.add i).block = ad.block := by unfold Addr.add; split <;> rfl
  omega
end Go.Proofs.Ytjihemgidogoeaa
