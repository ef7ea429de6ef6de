/- append: in place where there is room, else into a new row; where the room is not known, both. No program is named here. -/
import Derived.Test.YtggfhklokfcplaaGreatEvF
namespace Go.Proofs.YtggfhklokfcplaaGreat
open Go.RowKit
namespace Ev
noncomputable section

/-- A row of the model's is written where there is room. -/
theorem storeRow {P : Program} {k el : Nat} {fr : Nat × Nat} (o : Nat) : ∀ (vs : List Value) (i : Nat) (c : Array Value) (w : World), w.heap[k]? = some (.cells c el fr) → Unfr fr c.size →
    o + i + vs.length ≤ c.size → (∀ v ∈ vs, v.oneCell' = true) →
    ∃ w' c', (storeCells ⟨k, o, none⟩ vs i).run P w = .ok () w' ∧ w'.heap[k]? = some (.cells c' el fr) ∧ c'.size = c.size ∧ (∀ j, j < o + i → c'.getD j undef = c.getD j undef) ∧ (∀ j, j < vs.length → c'.getD (o + i + j) undef = vs.getD j undef) ∧
      (∀ j, j ≠ k → w'.heap[j]? = w.heap[j]?) ∧ w'.heap.size = w.heap.size ∧ w'.os = w.os ∧ w'.tape = w.tape ∧ w'.output = w.output
  | [], i, c, w, hk, hf, hs, h1 => ⟨w, c, rfl, hk, rfl, fun _ _ => rfl, by simp, fun _ _ => rfl, rfl, rfl, rfl, rfl⟩
  | v :: vs, i, c, w, hk, hf, hs, h1 => by
    simp only [List.length_cons] at hs
    have hi : o + i < c.size := by omega
    have hcell : w.cell? ⟨k, o + i, none⟩ = some (c.getD (o + i) undef) := by simp [World.cell?, hk, hi]
    have hfro : w.frozen? ⟨k, o + i, none⟩ = false := by simp only [World.frozen?, hk]; exact hf.not _ hi
    have hst : (store ((⟨k, o, none⟩ : Addr).add i) v).run P w = .ok () (w.setCell ⟨k, o + i, none⟩ v) := by
      rw [add_none, run_store P w _ v _ (h1 v (by simp)), hcell]
      simp [hfro]
    have hheap : (w.setCell ⟨k, o + i, none⟩ v).heap[k]? = some (.cells (c.setIfInBounds (o + i) v) el fr) := by simp [World.setCell, Array.getElem?_modify, hk]
    obtain ⟨w', c', g1, g2, g3, g4, g5, g6, g7, g8⟩ := storeRow (P := P) o vs (i + 1) (c.setIfInBounds (o + i) v) (w.setCell ⟨k, o + i, none⟩ v) hheap (by simpa using hf) (by simp; omega) (fun x hx => h1 x (by simp [hx]))
    refine ⟨w', c', ?_, g2, by simpa using g3, ?_, ?_, ?_, ?_, g8⟩
    · simp only [storeCells, Sem.run_bind, hst, Result.andThen_ok, g1]
    · intro j hj
      rw [g4 j (by omega)]
      simp only [Array.getD_eq_getD_getElem?]
      rw [Array.getElem?_setIfInBounds_ne (by omega)]
    · intro j hj
      cases j with
      | zero =>
        rw [g4 (o + i + 0) (by omega)]
        simp only [Array.getD_eq_getD_getElem?, Nat.add_zero]
        rw [Array.getElem?_setIfInBounds_self_of_lt hi]
        rfl
      | succ j =>
        have := g5 j (by simpa using hj)
        rw [show o + i + (j + 1) = o + (i + 1) + j by omega, this]
        rfl
    · intro j hj
      rw [g6 j hj]
      simp only [World.setCell, Array.getElem?_modify]
      rw [if_neg (by omega)]
    · rw [g7]; simp [World.setCell]

/-- A block is given up for a new one that begins within it. -/
def reBlk (m : M) (b : Nat) (cs : List AV) : M :=
  newBlk { m with h := T.upd fuel b none m.h, lg := match Nat.blt b m.fl with | true => b :: m.lg | false => m.lg } cs

theorem reBlk_pure (m : M) (b : Nat) (cs : List AV) (hf : m.fl ≤ m.nx) (hb : m.blk b ≠ none) : Pure m (reBlk m b cs) := by
  refine ⟨Nat.le_succ _, rfl, fun _ h => mem_lg h, fun c hc hn => ?_, fun hl c hc => ?_, fun c hc => was_lg hc hb⟩
  · show T.get fuel c (T.upd fuel m.nx _ (T.upd fuel b none m.h)) = _
    rw [T.get_upd_ne _ _ _ _ _ (by omega)]
    refine T.get_upd_ne _ _ _ _ _ ?_
    rintro rfl
    apply hn
    have : Nat.blt c m.fl = true := by simpa [Nat.blt_eq] using hc
    show c ∈ (match Nat.blt c m.fl with | true => c :: m.lg | false => m.lg)
    simp [this]
  · show T.get fuel c (T.upd fuel m.nx _ (T.upd fuel b none m.h)) = none
    have hc : m.nx + 1 ≤ c := hc
    rw [T.get_upd_ne _ _ _ _ _ (by omega)]
    by_cases e : c = b
    · subst e; exact absurd (hl c (by omega)) hb
    · rw [T.get_upd_ne _ _ _ _ _ e]; exact hl c (by omega)

theorem Sim.erase {own : Nat → Prop} {lim : Nat} {σ : Map} {m : M} {w : World} (h : Sim own lim σ m w) (b : Nat) (lg : List Nat) : Sim own lim σ { m with h := T.upd fuel b none m.h, lg := lg } w := by
  have sub : ∀ c B, T.get fuel c (T.upd fuel b none m.h) = some B → m.blk c = some B := by
    intro c B hc
    rcases T.get_upd _ _ _ _ _ _ hc with ⟨_, e⟩ | ⟨_, hc⟩
    · cases e
    · exact hc
  exact ⟨fun c B hc => h.blk c B (sub c B hc), fun b b' B B' x x' h1 h2 => h.inj b b' B B' x x' (sub _ _ h1) (sub _ _ h2), h.fresh, fun c B hc => h.low c B (sub c B hc), h.news⟩

/-- A row of which the rest was written in place, under its new number. -/
theorem Sim.inPlace {own : Nat → Prop} {lim : Nat} {σ : Map} {m : M} {w w' : World} {b k sh sz o : Nat} {B : Blk} {c c' : Array Value} {el : TypeId} {fr : Nat × Nat} {cs : List AV} (h : Sim own lim σ m w) (hl : m.nx < lim) (hb : m.blk b = some B) (hσ : σ b = some (k, sh, sz))
    (hk : w.heap[k]? = some (.cells c el fr)) (hk' : w'.heap[k]? = some (.cells c' el fr)) (hsz : c'.size = c.size) (hoth : ∀ j, j ≠ k → w'.heap[j]? = w.heap[j]?) (hs : w'.heap.size = w.heap.size) (ho : w'.os = w.os) (ht : w'.tape = w.tape) (hu : w'.output = w.output) (hol : o ≤ sz)
    (hC : ∀ i v, cs[i]? = some v → i < sz - o ∧ RelV σ v (c'.getD (sh + o + i) undef)) :
    Sim own lim (setσ σ m.nx (k, sh + o, sz - o)) (reBlk m b cs) w' ∧ Ext own σ (setσ σ m.nx (k, sh + o, sz - o)) m (reBlk m b cs) w w' := by
  have hn : σ m.nx = none := h.fresh _ (Nat.le_refl _) hl
  have hle : Le σ (setσ σ m.nx (k, sh + o, sz - o)) := setσ_le hn
  obtain ⟨k', sh', sz', e1, e2, c0, el0, fr0, e3, e4, e5, e6⟩ := h.blk b B hb
  rw [hσ] at e1; cases e1
  rw [hk] at e3; cases e3
  have key : ∀ d D, (reBlk m b cs).blk d = some D → (d = m.nx ∧ D = ofList 0 cs .nil) ∨ (d ≠ m.nx ∧ d ≠ b ∧ m.blk d = some D) := by
    intro d D hd
    rcases T.get_upd _ _ _ _ _ _ hd with ⟨e, e'⟩ | ⟨e, hd⟩
    · simp only [Option.some.injEq] at e'
      exact .inl ⟨e, e'.symm⟩
    · rcases T.get_upd _ _ _ _ _ _ hd with ⟨_, e'⟩ | ⟨e', hd⟩
      · cases e'
      · exact .inr ⟨e, e', hd⟩
  refine ⟨⟨?_, ?_, ?_, ?_, by rw [hs]; exact h.news⟩, ⟨hle, ?_, by rw [hs]; exact Nat.le_refl _, fun j hj => hoth j fun e => hj (e ▸ e2), ho, ht, hu⟩⟩
  · intro d D hd
    rcases key d D hd with ⟨rfl, rfl⟩ | ⟨h1, h2, h3⟩
    · refine ⟨k, sh + o, sz - o, by simp [setσ], e2, c', el, fr, hk', by omega, ?_, by rw [hsz]; exact e6⟩
      intro i v hi
      rcases ofList_get _ _ _ _ _ hi with ⟨_, g2⟩ | ⟨_, g2⟩
      · obtain ⟨g3, g4⟩ := hC _ _ g2
        exact ⟨by simpa using g3, by simpa using g4.mono hle⟩
      · rw [T.get_nil] at g2; cases g2
    · obtain ⟨k2, sh2, sz2, f1, f2, f3⟩ := h.blk d D h3
      exact ⟨k2, sh2, sz2, hle _ _ f1, f2, f3.mono hle (hoth _ fun ek => h.inj d b D B _ _ h3 hb h2 f1 hσ ek)⟩
  · intro d d' D D' x x' hd hd' hne hx hx'
    unfold setσ at hx hx'
    rcases key d D hd with ⟨rfl, rfl⟩ | ⟨h1, h2, h3⟩ <;> rcases key d' D' hd' with ⟨rfl, rfl⟩ | ⟨h1', h2', h3'⟩
    · exact absurd rfl hne
    · rw [if_pos rfl] at hx; rw [if_neg h1'] at hx'; cases hx
      exact fun e => h.inj d' b D' B _ _ h3' hb h2' hx' hσ e.symm
    · rw [if_neg h1] at hx; rw [if_pos rfl] at hx'; cases hx'
      exact fun e => h.inj d b D B _ _ h3 hb h2 hx hσ e
    · rw [if_neg h1] at hx; rw [if_neg h1'] at hx'; exact h.inj d d' D D' x x' h3 h3' hne hx hx'
  · intro d hd hd'
    have : m.nx < d := hd
    unfold setσ
    rw [if_neg (by omega)]
    exact h.fresh d (by omega) hd'
  · intro d D hd
    show d < m.nx + 1
    rcases key d D hd with ⟨rfl, rfl⟩ | ⟨h1, h2, h3⟩
    · omega
    · have := h.low d D h3; omega
  · intro d hd
    unfold setσ
    rw [if_neg]
    intro e
    subst e
    rcases hd with hd | hd
    · omega
    · have : m.nx + 1 ≤ m.nx := hd; omega

theorem nextslicecap_le (n c : Nat) (h : c < n) : Builtin.nextslicecap n c ≤ 4 * (n + 1000) := by
  unfold Builtin.nextslicecap
  split
  · omega
  split
  · omega
  simp only [Builtin.growBy]
  repeat' split
  all_goals omega

section ops
variable (P : Program)

def isIntT (ts : Array TypeId) : Bool := match ts[1]? with
  | none => false
  | some t => match P.underlying t with
    | some (.int _) => true
    | _ => false

def hasT (ts : Array TypeId) : Bool := match ts[1]? with
  | none => true
  | some t => (P.underlying t).isSome

/-- How many are appended: noughts, or what a source has. -/
def appN (zs : Bool) (bytes : Nat) (x : AV) : Option Nat := match zs with
  | true => match intA x with
    | none => none
    | some n => match decide (0 ≤ IntKind.i64.wrap n) && decide (IntKind.i64.wrap n * bytes ≤ 2 ^ 48) with
      | true => some (IntKind.i64.wrap n).toNat
      | false => none
  | false => lenA x

def appNew (zs : Bool) (zc : Array Value) (size n : Nat) (x : AV) (m : M) : Option (List AV) := match zs with
  | true => match Nat.beq (n * size) 0 with
    | true => some []
    | false => some ((zeros zc (n * zc.size)).map .lit)
  | false => firstA size n x m

def growA (size : Nat) (need cap : Nat) (bytes : Nat) (zc : Array Value) : Bool :=
  decide (need ≤ 2 ^ 62) && decide (Builtin.nextslicecap need cap * bytes ≤ 2 ^ 48) && Nat.beq zc.size size

def appendA (ts : Array TypeId) (s x : AV) (m : M) : Option R := match isSliceT P ts 0 with
  | none => none
  | some el => match P.info? el with
    | none => none
    | some i => match i.zero with
      | none => none
      | some z => match hasT P ts, appN (isIntT P ts) i.bytes x with
        | true, some n => match appNew (isIntT P ts) z.cells i.size n x m with
          | none => none
          | some new => match Nat.beq new.length (n * i.size), s with
            | true, .lit (.slice none 0 0) => match Nat.beq n 0 with
              | true => some (.val (.lit (.slice none 0 0)) m)
              | false => match growA i.size n 0 i.bytes z.cells with
                | false => none
                | true => some (.val (.su m.nx 0 n i.size) (newBlk m new))
            | true, .sl b o len cap => match Nat.ble (len + n) cap with
              | true => match storeCs b (o + len * i.size + 0) new m with
                | none => none
                | some m' => some (.val (.sl b o (len + n) cap) m')
              | false => match growA i.size (len + n) cap i.bytes z.cells with
                | false => none
                | true => match firstA i.size len (.sl b o len cap) m with
                  | none => none
                  | some old => some (.val (.su m.nx 0 (len + n) i.size) (newBlk m (old ++ new)))
            | true, .su b o len es => match Nat.beq n 0 with
              | true => some (.val (.su b o len es) m)
              | false => match Nat.beq es i.size && Nat.beq z.cells.size i.size && decide (len + n ≤ 2 ^ 62) && decide (4 * (len + n + 1000) * i.bytes ≤ 2 ^ 48) && new.all flat with
                | false => none
                | true => match firstA i.size len (.su b o len es) m with
                  | none => none
                  | some old => some (.val (.su m.nx 0 (len + n) i.size) (reBlk m b (old ++ new)))
            | _, _ => none
        | _, _ => none

theorem zeroCells_eq (zc : Array Value) (n : Nat) : (Builtin.zeroCells zc n).toList = zeros zc (n * zc.size) := by
  simp [Builtin.zeroCells, zeros, Array.toList_range]
theorem zeroCells_size (zc : Array Value) (n : Nat) : (Builtin.zeroCells zc n).size = n * zc.size := by simp [Builtin.zeroCells]
end ops
end
end Ev
end Go.Proofs.YtggfhklokfcplaaGreat
