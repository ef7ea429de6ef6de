/- The evaluator's memory: a new block, a cell that is written, rows that are read and written. No program is named here. -/
import Derived.Test.YtggfhklokfcplaaGreatEvA
import Derived.Laws.Cells
import Derived.Laws.IdiomCopy
namespace Go.Proofs.YtggfhklokfcplaaGreat
open Go.RowKit
namespace Ev
noncomputable section

def setσ (σ : Map) (b : Nat) (x : Nat × Nat × Nat) : Map := fun c => if c = b then some x else σ c

theorem setσ_le {σ : Map} {b : Nat} {x : Nat × Nat × Nat} (h : σ b = none) : Le σ (setσ σ b x) := by
  intro c y hc
  unfold setσ
  split
  · rename_i e; subst e; rw [h] at hc; cases hc
  · exact hc

def newBlk (m : M) (cs : List AV) : M := { m with h := T.upd fuel m.nx (some (ofList 0 cs .nil)) m.h, nx := Nat.succ m.nx }

theorem newBlk_pure (m : M) (cs : List AV) (hf : m.fl ≤ m.nx) : Pure m (newBlk m cs) :=
  ⟨Nat.le_succ _, rfl, fun _ h => h, fun b hb _ => T.get_upd_ne _ _ _ _ _ (by omega), fun hl b hb => (by
    have hb : m.nx + 1 ≤ b := hb
    exact (T.get_upd_ne _ _ _ _ _ (by omega)).trans (hl b (by omega))), fun _ h => .inl h⟩

/-- A new block. -/
theorem Sim.new {own : Nat → Prop} {lim : Nat} {σ : Map} {m : M} {w : World} {cs : List AV} {C : Array Value} {el : TypeId} {fr : Nat × Nat} (h : Sim own lim σ m w) (hl : m.nx < lim)
    (hC : ∀ i v, cs[i]? = some v → i < C.size ∧ RelV σ v (C.getD i undef)) (hfr : Unfr fr C.size) (w' : World) (hw' : w'.heap = w.heap.push (.cells C el fr))
    (ho : w'.os = w.os) (ht : w'.tape = w.tape) (hu : w'.output = w.output) :
    Sim own lim (setσ σ m.nx (w.heap.size, 0, C.size)) (newBlk m cs) w' ∧
      Ext own σ (setσ σ m.nx (w.heap.size, 0, C.size)) m (newBlk m cs) w w' := by
  have hn : σ m.nx = none := h.fresh _ (Nat.le_refl _) hl
  have hle : Le σ (setσ σ m.nx (w.heap.size, 0, C.size)) := setσ_le hn
  have hpush : ∀ c, c < w.heap.size → w'.heap[c]? = w.heap[c]? := fun c hc => by rw [hw', Array.getElem?_push, if_neg (by omega)]
  refine ⟨⟨?_, ?_, ?_, ?_, ?_⟩, ⟨hle, ?_, ?_, ?_, ho, ht, hu⟩⟩
  · intro b B hb
    rcases T.get_upd _ _ _ _ _ _ hb with ⟨rfl, e⟩ | ⟨e, hb⟩
    · simp only [Option.some.injEq] at e
      subst e
      refine ⟨w.heap.size, 0, C.size, by simp [setσ], h.news _ (Nat.le_refl _), C, el, fr, by rw [hw']; simp, by simp, ?_, hfr⟩
      intro i v hi
      rcases ofList_get _ _ _ _ _ hi with ⟨_, h2⟩ | ⟨_, h2⟩
      · obtain ⟨h3, h4⟩ := hC _ _ h2
        exact ⟨by simpa using h3, (by simpa using h4.mono hle)⟩
      · rw [T.get_nil] at h2; cases h2
    · obtain ⟨k, sh, sz, e1, e2, e3⟩ := h.blk b B hb
      refine ⟨k, sh, sz, hle _ _ e1, e2, e3.mono hle (hpush _ ?_)⟩
      obtain ⟨c, el', fr', e4, _⟩ := e3
      exact (Array.getElem?_eq_some_iff.1 e4).1
  · intro b b' B B' x x' hb hb' hne hx hx'
    have hold : ∀ {b B}, m.blk b = some B → ∀ {x}, σ b = some x → x.1 < w.heap.size := by
      intro b B hb x hx
      obtain ⟨k, sh, sz, e1, _, c, el', fr', e4, _⟩ := h.blk b B hb
      rw [e1] at hx; cases hx
      exact (Array.getElem?_eq_some_iff.1 e4).1
    unfold setσ at hx hx'
    rcases T.get_upd _ _ _ _ _ _ hb with ⟨rfl, e⟩ | ⟨e, hb⟩ <;> rcases T.get_upd _ _ _ _ _ _ hb' with ⟨rfl, e'⟩ | ⟨e', hb'⟩
    · exact absurd rfl hne
    · rw [if_pos rfl] at hx; rw [if_neg e'] at hx'; cases hx; have := hold hb' hx'; intro e3; simp only at e3; omega
    · rw [if_neg e] at hx; rw [if_pos rfl] at hx'; cases hx'; have := hold hb hx; intro e3; simp only at e3; omega
    · rw [if_neg e] at hx; rw [if_neg e'] at hx'; exact h.inj b b' B B' x x' hb hb' hne hx hx'
  · intro b hb hb'
    have : m.nx < b := hb
    unfold setσ
    rw [if_neg (by omega)]
    exact h.fresh b (by omega) hb'
  · intro b B hb
    show b < m.nx + 1
    rcases T.get_upd _ _ _ _ _ _ hb with ⟨rfl, e⟩ | ⟨e, hb⟩
    · omega
    · have := h.low b B hb; omega
  · intro c hc
    refine h.news c ?_
    rw [hw', Array.size_push] at hc
    omega
  · intro b hb
    unfold setσ
    rw [if_neg]
    intro e
    subst e
    rcases hb with hb | hb
    · omega
    · have : m.nx + 1 ≤ m.nx := hb; omega
  · rw [hw', Array.size_push]; omega
  · intro c hc
    exact hpush c (Nat.lt_of_not_le fun hle => hc (h.news c hle))

/-- A cell that is there already is written. -/
def setCell (m : M) (b o : Nat) (v : AV) : Option M :=
  match m.blk b with
  | none => none
  | some B => match T.get fuel o B with
    | none => none
    | some _ => some { m with h := T.upd fuel b (some (T.upd fuel o (some v) B)) m.h, lg := match Nat.blt b m.fl with | true => b :: m.lg | false => m.lg }

theorem mem_lg {m : M} {b c : Nat} (h : c ∈ m.lg) : c ∈ (match Nat.blt b m.fl with | true => b :: m.lg | false => m.lg) := by
  split
  · exact List.mem_cons_of_mem _ h
  · exact h

theorem was_lg {m : M} {b c : Nat} (h : c ∈ (match Nat.blt b m.fl with | true => b :: m.lg | false => m.lg)) (hb : m.blk b ≠ none) : c ∈ m.lg ∨ (c < m.fl ∧ m.blk c ≠ none) := by
  split at h
  · rename_i hlt
    rcases List.mem_cons.1 h with rfl | h
    · exact .inr ⟨Nat.le_of_ble_eq_true hlt, hb⟩
    · exact .inl h
  · exact .inl h

theorem setCell_pure {m m' : M} {b o : Nat} {v : AV} (h : setCell m b o v = some m') : Pure m m' ∧ m'.nx = m.nx := by
  unfold setCell at h
  split at h
  · cases h
  split at h
  · cases h
  cases h
  rename_i hB _ _ _
  refine ⟨⟨Nat.le_refl _, rfl, fun _ h => mem_lg h, fun c hc hn => ?_, fun hl c hc => ?_, fun c hc => ?_⟩, rfl⟩
  · refine T.get_upd_ne _ _ _ _ _ ?_
    rintro rfl
    apply hn
    have : Nat.blt c m.fl = true := by simpa [Nat.blt_eq] using hc
    simp [this]
  · refine (T.get_upd_ne _ _ _ _ _ ?_).trans (hl c hc)
    rintro rfl
    rw [hl c hc] at hB; cases hB
  · exact was_lg hc (by rw [hB]; simp)

theorem Sim.set {own : Nat → Prop} {lim : Nat} {σ : Map} {m m' : M} {w : World} {b o : Nat} {v : AV} {V : Value} (h : Sim own lim σ m w) (hs : setCell m b o v = some m') (hv : RelV σ v V) :
    ∃ k sh sz, σ b = some (k, sh, sz) ∧ o < sz ∧ (w.cell? ⟨k, sh + o, none⟩).isSome = true ∧ w.frozen? ⟨k, sh + o, none⟩ = false ∧ Sim own lim σ m' (w.setCell ⟨k, sh + o, none⟩ V) ∧
      Ext own σ σ m m' w (w.setCell ⟨k, sh + o, none⟩ V) := by
  have hp := setCell_pure hs
  unfold setCell at hs
  split at hs
  · cases hs
  rename_i B hB
  split at hs
  · cases hs
  rename_i u hu
  cases hs
  have hc : m.cell b o = some u := by unfold M.cell; rw [hB]; exact hu
  obtain ⟨k, sh, sz, V0, e1, e2, e3, e4, e5⟩ := h.cell hc
  obtain ⟨k', sh', sz', e1', e6, c, el, fr, e7, e8, e9, e10⟩ := h.blk b B hB
  rw [e1] at e1'
  cases e1'
  have hheap : (w.setCell ⟨k, sh + o, none⟩ V).heap[k]? = some (.cells (c.setIfInBounds (sh + o) V) el fr) := by
    simp [World.setCell, Array.getElem?_modify, e7]
  have hother : ∀ j, j ≠ k → (w.setCell ⟨k, sh + o, none⟩ V).heap[j]? = w.heap[j]? := fun j hj => by
    simp only [World.setCell, Array.getElem?_modify]; rw [if_neg (by omega)]
  have hsz : (w.setCell ⟨k, sh + o, none⟩ V).heap.size = w.heap.size := by simp [World.setCell]
  refine ⟨k, sh, sz, e1, e2, by rw [e3]; rfl, e5, ⟨?_, ?_, h.fresh, ?_, by rw [hsz]; exact h.news⟩, ⟨Le.refl σ, fun _ _ => rfl, by rw [hsz]; exact Nat.le_refl _, ?_, rfl, rfl, rfl⟩⟩
  · intro b' B' hb'
    rcases T.get_upd _ _ _ _ _ _ hb' with ⟨rfl, e⟩ | ⟨e, hb'⟩
    · simp only [Option.some.injEq] at e
      subst e
      refine ⟨k, sh, sz, e1, e6, _, el, fr, hheap, by simp [e8], ?_, by simpa using e10⟩
      intro i x hi
      rcases T.get_upd _ _ _ _ _ _ hi with ⟨rfl, e⟩ | ⟨e, hi⟩
      · simp only [Option.some.injEq] at e
        subst e
        refine ⟨e2, ?_⟩
        rw [Array.getD_eq_getD_getElem?, Array.getElem?_setIfInBounds_self_of_lt (by omega)]
        exact hv
      · refine ⟨(e9 i x hi).1, ?_⟩
        rw [Array.getD_eq_getD_getElem?, Array.getElem?_setIfInBounds_ne (by omega), ← Array.getD_eq_getD_getElem?]
        exact (e9 i x hi).2
    · obtain ⟨k2, sh2, sz2, f1, f2, f3⟩ := h.blk b' B' hb'
      exact ⟨k2, sh2, sz2, f1, f2, f3.mono (Le.refl _) (hother _ fun ek => h.inj b' b B' B _ _ hb' hB e f1 e1 ek)⟩
  · intro b1 b2 B1 B2 x x' h1 h2 hne hx hx'
    have : ∀ b1 B1, T.get fuel b1 (T.upd fuel b (some (T.upd fuel o (some v) B)) m.h) = some B1 → ∃ B0, m.blk b1 = some B0 := by
      intro b1 B1 h1
      rcases T.get_upd _ _ _ _ _ _ h1 with ⟨rfl, _⟩ | ⟨_, h1⟩
      · exact ⟨B, hB⟩
      · exact ⟨B1, h1⟩
    obtain ⟨C1, g1⟩ := this b1 B1 h1
    obtain ⟨C2, g2⟩ := this b2 B2 h2
    exact h.inj b1 b2 C1 C2 x x' g1 g2 hne hx hx'
  · intro b' B' hb'
    rcases T.get_upd _ _ _ _ _ _ hb' with ⟨rfl, e⟩ | ⟨e, hb'⟩
    · exact h.low _ _ hB
    · exact h.low b' B' hb'
  · intro j hj
    exact hother j fun e => hj (e ▸ e6)

/-- A row of cells is read. -/
def loadCs (B : Blk) : Nat → Nat → Option (List AV)
  | _, 0 => some []
  | o, Nat.succ n => match T.get fuel o B with
    | none => none
    | some v => match loadCs B (Nat.succ o) n with
      | none => none
      | some r => some (v :: r)

theorem loadCs_get : ∀ (n o : Nat) {B : Blk} {l : List AV}, loadCs B o n = some l → l.length = n ∧ ∀ i v, l[i]? = some v → T.get fuel (o + i) B = some v
  | 0, o, B, l, h => by simp only [loadCs, Option.some.injEq] at h; subst h; exact ⟨rfl, by simp⟩
  | n + 1, o, B, l, h => by
    simp only [loadCs] at h
    split at h
    · cases h
    rename_i v hv
    split at h
    · cases h
    rename_i r hr
    cases h
    obtain ⟨h1, h2⟩ := loadCs_get n (o + 1) hr
    refine ⟨by simp [h1], fun i x hi => ?_⟩
    cases i with
    | zero => simp at hi; subst hi; exact hv
    | succ i => simp at hi; rw [show o + (i + 1) = o + 1 + i by omega]; exact h2 i x hi

theorem RelL.of_get {σ : Map} : ∀ {l : List AV} {L : List Value}, L.length = l.length → (∀ i v, l[i]? = some v → RelV σ v (L.getD i undef)) → RelL σ l L
  | [], L, h, _ => by simp only [RelL]; exact List.length_eq_zero_iff.1 h
  | v :: vs, [], h, _ => by simp at h
  | v :: vs, V :: Vs, h, g => ⟨V, Vs, rfl, by simpa using g 0 v rfl, RelL.of_get (by simpa using h) fun i x hi => by simpa using g (i + 1) x (by simpa using hi)⟩

/-- A row that the evaluator knows is read by the model. -/
theorem Sim.load {own : Nat → Prop} {lim : Nat} {σ : Map} {m : M} {w : World} (h : Sim own lim σ m w) {P : Program} {b o n : Nat} {B : Blk} {l : List AV} (hb : m.blk b = some B) (hl : loadCs B o n = some l) :
    ∃ k sh sz L, σ b = some (k, sh, sz) ∧ (n = 0 ∨ o + n ≤ sz) ∧ (loadCells ⟨k, sh + o, none⟩ n).run P w = .ok L w ∧ RelL σ l L.toList := by
  obtain ⟨k, sh, sz, e1, e2, c, el, fr, e3, e4, e5, e6⟩ := h.blk b B hb
  obtain ⟨h1, h2⟩ := loadCs_get n o hl
  have hcell : ∀ j, j < n → ∃ v, l[j]? = some v ∧ o + j < sz ∧ RelV σ v (c.getD (sh + (o + j)) undef) := by
    intro j hj
    have hj' : j < l.length := by omega
    obtain ⟨h3, h4⟩ := e5 (o + j) _ (h2 j _ (List.getElem?_eq_getElem hj'))
    exact ⟨_, List.getElem?_eq_getElem hj', h3, h4⟩
  have hrun := run_loadCells (P := P) (w := w) ⟨k, sh + o, none⟩ n (fun j => c.getD (sh + (o + j)) undef) (by
    intro j hj
    obtain ⟨v, h3, h4, h5⟩ := hcell j hj
    have ha : (⟨k, sh + o, none⟩ : Addr).add j = ⟨k, sh + o + j, none⟩ := by
      unfold Addr.add; split
      · rename_i e; subst e; rfl
      · rfl
    rw [ha]
    simp only [World.cell?, e3, Option.isSome_none, Bool.false_eq_true, if_false]
    rw [Array.getElem?_eq_getElem (by omega), Array.getD_eq_getD_getElem?, Array.getElem?_eq_getElem (by omega)]
    simp [Nat.add_assoc])
  refine ⟨k, sh, sz, _, e1, ?_, hrun, ?_⟩
  · cases n with
    | zero => exact .inl rfl
    | succ n => obtain ⟨_, _, h4, _⟩ := hcell n (by omega); right; omega
  · refine RelL.of_get ?_ ?_
    · simp [h1]
    · intro i v hi
      have hi' : i < n := by have := (List.getElem?_eq_some_iff.1 hi).1; omega
      obtain ⟨v', h3, h4, h5⟩ := hcell i hi'
      rw [hi] at h3; cases h3
      simpa [hi', List.getElem?_map, List.getElem?_range] using h5

def flat : AV → Bool
  | .agg _ => false
  | .tup _ => false
  | .lit v => v.oneCell'
  | _ => true

theorem flat_one {σ : Map} {v : AV} {V : Value} (h : RelV σ v V) (hf : flat v = true) : V.oneCell' = true := by
  cases v <;> simp only [RelV] at h <;> simp only [flat] at hf
  case lit v => subst h; exact hf
  case ptr b o => obtain ⟨k, sh, sz, e, rfl⟩ := h; rfl
  case sl b o n c => obtain ⟨k, sh, sz, e, rfl⟩ := h; rfl
  case su b o n es => obtain ⟨k, sh, sz, c, e, e', e2, rfl⟩ := h; rfl
  case se => obtain ⟨k, o, c, rfl⟩ := h; rfl
  case agg cs => cases hf
  case tup cs => cases hf
  case fn f a b => obtain ⟨vs, us, rfl, h, h'⟩ := h; rfl

/-- A row of cells is written. -/
def storeCs (b : Nat) : Nat → List AV → M → Option M
  | _, [], m => some m
  | o, v :: vs, m => match flat v with
    | false => none
    | true => match setCell m b o v with
      | none => none
      | some m' => storeCs b (Nat.succ o) vs m'

theorem storeCs_pure : ∀ (l : List AV) {b o : Nat} {m m' : M}, storeCs b o l m = some m' → Pure m m' ∧ m'.nx = m.nx
  | [], b, o, m, m', h => by simp only [storeCs, Option.some.injEq] at h; subst h; exact ⟨Pure.refl _, rfl⟩
  | v :: vs, b, o, m, m', h => by
    simp only [storeCs] at h
    split at h
    · cases h
    split at h
    · cases h
    rename_i m1 h1
    obtain ⟨p1, n1⟩ := setCell_pure h1
    obtain ⟨p2, n2⟩ := storeCs_pure vs h
    exact ⟨p1.trans p2, n2.trans n1⟩

theorem add_none (k o i : Nat) : (⟨k, o, none⟩ : Addr).add i = ⟨k, o + i, none⟩ := by
  unfold Addr.add; split
  · rename_i e; subst e; rfl
  · rfl

theorem Sim.store {own : Nat → Prop} {lim : Nat} {σ : Map} {P : Program} {b k sh sz : Nat} (hσ : σ b = some (k, sh, sz)) : ∀ (l : List AV) (L : List Value) (o i : Nat) {m m' : M} {w : World}, Sim own lim σ m w → storeCs b (o + i) l m = some m' → RelL σ l L →
    ∃ w', (storeCells ⟨k, sh + o, none⟩ L i).run P w = .ok () w' ∧ Sim own lim σ m' w' ∧ Ext own σ σ m m' w w' ∧ w'.drawn = w.drawn
  | [], L, o, i, m, m', w, h, hs, hr => by
    simp only [storeCs, Option.some.injEq] at hs; subst hs
    simp only [RelL] at hr; subst hr
    exact ⟨w, rfl, h, Ext.refl own σ m w, rfl⟩
  | v :: vs, L, o, i, m, m', w, h, hs, hr => by
    simp only [RelL] at hr
    obtain ⟨V, L', rfl, hv, hr⟩ := hr
    simp only [storeCs] at hs
    split at hs
    · cases hs
    rename_i hf
    split at hs
    · cases hs
    rename_i m1 h1
    obtain ⟨k', sh', sz', e1, e2, e3, e4, e5, e6⟩ := h.set h1 hv
    rw [hσ] at e1
    cases e1
    obtain ⟨w', g1, g2, g3, g4⟩ := Sim.store hσ vs L' o (i + 1) e5 (by rw [show o + (i + 1) = Nat.succ (o + i) by omega]; exact hs) hr
    refine ⟨w', ?_, g2, e6.trans g3 (setCell_pure h1).1 (storeCs_pure vs hs).1, g4⟩
    unfold storeCells
    obtain ⟨V0, hV0⟩ := Option.isSome_iff_exists.1 e3
    rw [Sem.run_bind, add_none, run_store P w _ V _ (flat_one hv hf), Nat.add_assoc, hV0, e4]
    exact g1
end
end Ev
end Go.Proofs.YtggfhklokfcplaaGreat
