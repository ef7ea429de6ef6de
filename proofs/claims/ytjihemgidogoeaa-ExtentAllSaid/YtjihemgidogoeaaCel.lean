/- General words: a block of cells that may be written; a record that is built, laid in a block of its own, appended to a row of the call's own. No program is named here. (Out of WaA and CutW: never beside them.) -/
import Derived.Test.YtjihemgidogoeaaGen
import Derived.Test.YtjihemgidogoeaaRegionTail
namespace Go.Proofs.Ytjihemgidogoeaa
open Go.RowKit

/-- Block p's first cells, free to be written. -/
structure Cel (w : World) (p : Nat) (cs : List Value) : Prop where
  cell : ∀ i v, cs[i]? = some v → w.cell? ⟨p, i, none⟩ = some v
  fro : ∀ i v, cs[i]? = some v → w.frozen? ⟨p, i, none⟩ = false
section
variable {w w' : World} {p : Nat} {cs : List Value}
theorem Cel.new (w : World) (cs : List Value) (T : TypeId) : Cel (w.alloc (.cells cs.toArray T)) w.heap.size cs := by
  have h0 : (w.alloc (.cells cs.toArray T)).heap[w.heap.size]? = some (.cells cs.toArray T (0, 0)) := heap_alloc_new w _
  constructor
  · intro i v hi
    unfold World.cell?
    dsimp only
    rw [h0]
    simpa using hi
  · intro i v hi
    unfold World.frozen?
    dsimp only
    rw [h0]
    simp
theorem Cel.same (h : Cel w p cs) (hb : w'.heap[p]? = w.heap[p]?) : Cel w' p cs :=
  ⟨fun i v hi => (World.cell?_of_block (a := ⟨p, i, none⟩) hb).trans (h.cell i v hi), fun i v hi => (World.frozen?_of_block (a := ⟨p, i, none⟩) hb).trans (h.fro i v hi)⟩
theorem Cel.lt (h : Cel w p cs) (h0 : 0 < cs.length) : p < w.heap.size := World.block_lt_of_cell? w ⟨p, 0, none⟩ (h.cell 0 cs[0] (List.getElem?_eq_getElem h0))
theorem Cel.below (h : Cel w p cs) (h0 : 0 < cs.length) (hb : Below w.heap.size w w') : Cel w' p cs := h.same (hb.block p (h.lt h0))
theorem Cel.keep {B : Nat} (h : Cel w p cs) (hp : p < B) (hb : Below B w w') : Cel w' p cs := h.same (hb.block p hp)
theorem Cel.grown {r : Option Nat} (h : Cel w p cs) (h0 : 0 < cs.length) (hb : w.grownBy w' r) (hr : r ≠ some p) : Cel w' p cs := h.same (hb.block p (h.lt h0) (fun e => hr e.symm))
theorem Cel.other (h : Cel w p cs) {q : Nat} (hq : p ≠ q) (o : Nat) (u : Value) : Cel (w.setCell ⟨q, o, none⟩ u) p cs := h.same (Below.heap_setCell w _ u p hq)
theorem Cel.set (h : Cel w p cs) (i : Nat) (u : Value) (hi : i < cs.length) : Cel (w.setCell ⟨p, i, none⟩ u) p (cs.set i u) := by
  have hci := h.cell i cs[i] (List.getElem?_eq_getElem hi)
  have hfi := h.fro i cs[i] (List.getElem?_eq_getElem hi)
  constructor
  · intro j v hj
    by_cases e : i = j
    · subst e
      rw [List.getElem?_set_self (by simpa using hi)] at hj
      cases hj
      go_simp
    · rw [List.getElem?_set_ne e] at hj
      have hcj := h.cell j v hj
      have e' : ¬ j = i := fun h => e h.symm
      go_simp
  · intro j v hj
    have hjl : j < cs.length := by have := (List.getElem?_eq_some_iff.1 hj).1; simpa using this
    have hfj := h.fro j cs[j] (List.getElem?_eq_getElem hjl)
    go_simp
end

/-- A record that was built, whose cells read as x. -/
def IsAg {α : Type} (B s : Nat) (R : World → List Value → α → Prop) (x : α) : Value → World → Prop := fun v w => ∃ cs : List Value, v = .agg cs.toArray ∧ cs.length = s ∧ Bx (fun b => B ≤ b ∧ b < w.heap.size) w fun w => R w cs x
/-- One record in a block of its own. -/
def IsNw {α : Type} (B s : Nat) (R : World → List Value → α → Prop) (x : α) : Value → World → Prop := fun v w => ∃ (q : Nat) (cs : List Value), v = .slice (some ⟨q, 0, none⟩) 1 1 ∧ cs.length = s ∧ (∀ u ∈ cs, u.oneCell' = true) ∧ (∀ j u, cs[j]? = some u → w.cell? ⟨q, j, none⟩ = some u) ∧ Bx (fun b => B ≤ b ∧ b < w.heap.size) w fun w => R w cs x
section
variable {α : Type} {B s : Nat} {R : World → List Value → α → Prop} {x : α}
theorem Bx.bel {Φ : World → Prop} {w w' : World} (h : Bx (fun b => B ≤ b ∧ b < w.heap.size) w Φ) (hb : Below w.heap.size w w') : Bx (fun b => B ≤ b ∧ b < w'.heap.size) w' Φ :=
  h.to (fun b hb' => hb.block b hb'.2) fun _ hb' => ⟨hb'.1, Nat.lt_of_lt_of_le hb'.2 hb.size⟩
theorem Stays.ag : Stays (IsAg B s R x) := fun _ _ _ ⟨cs, e, hl, h⟩ hb => ⟨cs, e, hl, h.bel hb⟩
theorem Stays.nw : Stays (IsNw B s R x) := fun _ _ _ ⟨q, cs, e, hl, ho, hc, h⟩ hb => ⟨q, cs, e, hl, ho, fun j u hj => (hb.cell (p := ⟨q, j, none⟩) (World.block_lt_of_cell? _ _ (hc j u hj))).trans (hc j u hj), h.bel hb⟩
/-- A row of records of the call's own. -/
def IsOg {α : Type} (E : TypeId) (s : Nat) (R : World → List Value → α → Prop) (B : Nat) (xs : List α) : Value → World → Prop := fun v w => OwnG E s R B w v xs
theorem Stays.og {α : Type} (E : TypeId) (s : Nat) (R : World → List Value → α → Prop) (B : Nat) (xs : List α) : Stays (IsOg E s R B xs) := fun _ _ _ h hb => OwnG.below h hb (Nat.le_refl _)
theorem IsNw.mk {w : World} {cs : List Value} {T : TypeId} (hl : cs.length = s) (ho : ∀ u ∈ cs, u.oneCell' = true) (h : Bx (fun b => B ≤ b ∧ b < w.heap.size) w fun w => R w cs x) :
    IsNw B s R x (.slice (some ⟨w.heap.size, 0, none⟩) 1 1) (w.alloc (.cells cs.toArray T)) :=
  ⟨_, cs, rfl, hl, ho, fun j u hj => (Cel.new w cs T).cell j u hj, h.bel (Bl.alloc (Bl.refl w) _)⟩
end
section
variable {α : Type} {E : TypeId} {s : Nat} {R : World → List Value → α → Prop} {z q S : Nat} {w0 wr w1 w2 : World} {v v2 : Value} {cs : List Value} {xs ys : List α} {Φ : World → Prop}
/-- What an append to a row of its own, behind calls that make memory, leaves as it was. -/
theorem cut_mid (hb : Below z w0 wr) (hc : Cel wr q cs) (ho : OwnG E s R S wr v xs) (hp : Bx (fun b => z ≤ b ∧ b < S ∧ b ≠ q) wr Φ) (hz : z ≤ q) (hqS : q < S) (hS : S ≤ wr.heap.size) (hC : Below wr.heap.size wr w1) (o2 : w1.grownBy w2 v.ownBlock) (_h0 : 0 < cs.length) :
    Below z w0 w2 ∧ Cel w2 q cs ∧ Bx (fun b => z ≤ b ∧ b < S ∧ b ≠ q) w2 Φ ∧ S ≤ w2.heap.size := by
  have hne : ∀ b, b < S → v.ownBlock ≠ some b := fun b hb e => by have := (ho.lt b e).1; omega
  have hsz := hC.size
  have hs2 := o2.size
  have hblk : ∀ b, b < S → w2.heap[b]? = wr.heap[b]? := fun b hb' => (o2.block b (by omega) (fun e => hne b hb' e.symm)).trans (hC.block b (by omega))
  refine ⟨?_, hc.same (hblk q hqS), hp.keep (fun b hb' => hblk b hb'.2.1), by omega⟩
  have h1 := hb.trans (hC.mono (show z ≤ wr.heap.size by omega))
  exact ⟨o2.os.trans h1.os, o2.tape.trans h1.tape, o2.output.trans h1.output, Nat.le_trans h1.size o2.size, fun b hbl => (hblk b (by omega)).trans (hb.block b hbl)⟩
/-- The record's field is written. -/
theorem cut_end (hb : Below z w0 w2) (hc : Cel w2 q cs) (ho : OwnG E s R S w2 v2 ys) (hp : Bx (fun b => z ≤ b ∧ b < S ∧ b ≠ q) w2 Φ) (hz : z ≤ q) (hqS : q < S) (hS : S ≤ w2.heap.size) (_hz0 : z ≤ w0.heap.size) (i : Nat) (u : Value) (hi : i < cs.length) :
    Below z w0 (w2.setCell ⟨q, i, none⟩ u) ∧ Cel (w2.setCell ⟨q, i, none⟩ u) q (cs.set i u) ∧ OwnG E s R S (w2.setCell ⟨q, i, none⟩ u) v2 ys ∧ Bx (fun b => z ≤ b ∧ b < S ∧ b ≠ q) (w2.setCell ⟨q, i, none⟩ u) Φ ∧ S ≤ (w2.setCell ⟨q, i, none⟩ u).heap.size :=
  ⟨hb.setCell (p := ⟨q, i, none⟩) hz _, hc.set i u hi, ho.kept (grown_set w2 ⟨q, i, none⟩ _) (fun p e => by have h : q = p := (by simpa using e); omega), hp.keep (fun b hb' => Below.heap_setCell w2 _ u b (fun e => hb'.2.2 e)), by simpa using hS⟩
end
/-- A row of the call's own beside a block of another type. -/
theorem Own.bxq {E : TypeId} {k : IntKind} {B q : Nat} {w : World} {v : Value} {xs : List Int} (h : Own E k B w v xs) {T : TypeId} {arr : Array Value} (hq : w.heap[q]? = some (.cells arr T (0, 0))) (hT : T ≠ E) : ∃ ao cap, v = .slice ao xs.length cap ∧ Bx (fun b => B ≤ b ∧ b < w.heap.size ∧ b ≠ q) w fun w => Rd k w ao xs.length cap xs := by
  have hne : v.ownBlock ≠ some q := fun e => by
    obtain ⟨_, ⟨rfl, _⟩ | ⟨g, cap, cur, rfl, _, hg, _⟩⟩ := h.row
    · cases e
    · cases e
      rw [hq] at hg
      cases hg
      exact hT rfl
  obtain ⟨ao, cap, rfl, hr⟩ := h.rd
  refine ⟨ao, cap, rfl, fun w' h' => ⟨hr.len, hr.le, hr.max, hr.nil, fun ad ha i hi => ?_, hr.wf⟩⟩
  have hc := hr.cell ad ha i hi
  have hb := World.block_lt_of_cell? w _ hc
  have hg := h.lt ad.block (by rw [ha]; rfl)
  have e : (ad.add i).block = ad.block := by unfold Addr.add; split <;> rfl
  refine (World.cell?_of_block (h' _ ⟨by omega, hb, fun e2 => hne ?_⟩)).trans hc
  rw [ha, ← e2, e]
  rfl

/-- 'append(nil, x...)'. -/
theorem append_nil_rd {P : Program} {w : World} (t ty E : TypeId) (k : IntKind) (bytes : Nat) (ht : P.underlying t = some (.slice E)) (hi : (P.info? E).map (fun i => (i.zero, i.size, i.bytes)) = some (some (.int k 0), 1, bytes))
    (ao : Option Addr) (n cap : Nat) (ys : List Int) (hr : Rd k w ao n cap ys) (h63 : n ≤ 4611686018427387904) (hbytes : n * bytes ≤ 140737488355328) :
    ∃ v' w', (Builtin.append_ #[t, t] ty #[.slice none 0 0, .slice ao n cap]).run P w = .ok v' w' ∧ Own E k w.heap.size w' v' ys ∧ Below w.heap.size w w' := by
  obtain ⟨i, hi0, hz, hsz, hby⟩ := info_parts hi
  cases ao with
  | none =>
    have hc := hr.nil rfl
    have hn : n = 0 := by have := hr.le; omega
    have hy : ys = [] := List.eq_nil_of_length_eq_zero (by rw [hr.len]; exact hn)
    subst hc hn hy
    exact ⟨_, _, run_append_owned_none (P := P) (w := w) w.heap.size t ty E i 1 ht hi0 (.slice none 0 0) 0 [] (World.ownsRow_nil w _ E 1), Own.nil _ _ _ _, Below.refl _ _⟩
  | some ad =>
    obtain ⟨v', w', hrun, h1, h2, _⟩ := run_append_own (P := P) w w.heap.size t ty E i (.int k 0) 1 bytes ht hi0 hz hsz hby rfl (by decide) (.slice none 0 0) 0 [] (World.ownsRow_nil w _ E 1) ad n cap (ys.map (Value.int k)) (by simp [hr.len]) (hr.news rfl) (ints_oneCell _ _) (by unfold maxLen; omega) (by simpa using hbytes) (Nat.le_refl _)
    refine ⟨v', w', hrun, ⟨?_, hr.wf⟩, (Below.refl _ _).grown h2 (Nat.le_refl _) (fun _ h => by cases h)⟩
    simpa [hr.len] using h1

theorem bx_gen {C : Nat → Prop} {w : World} {Φ Ψ : World → Prop} (h : Hid (Bx C w fun w => Φ w ∧ Ψ w)) : ∃ Φ' : World → Prop, Hid (∀ w, Φ' w → Φ w ∧ Ψ w) ∧ Hid (Bx C w Φ') := ⟨_, hid fun _ h => h, h⟩
theorem gr_blK {B : Nat} {w a b : World} {p : Nat} (h : Below B w a) (g : a.grownBy b (some p)) (hB : B ≤ a.heap.size) (hp : B ≤ p) : Below B w b :=
  h.grown g hB fun k hk => by cases hk; exact hp
end Go.Proofs.Ytjihemgidogoeaa
