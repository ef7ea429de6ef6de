/- The evaluator's operations, one by one: each answers as the model's. No program is named here. -/
import Derived.Test.YtggfhklokfcplaaGreatEvB
namespace Go.Proofs.YtggfhklokfcplaaGreat
open Go.RowKit
namespace Ev
noncomputable section

inductive R where
  | val (v : AV) (m : M)
  | enter (f : Nat) (args : List AV) (m : M)

def OpOk (P : Program) (own : Nat → Prop) (lim : Nat) (σ : Map) (m : M) (w : World) (s : Sem Next) : R → Prop
  | .val v m' => ∃ w' σ' V, (s.run P w = .ok (.value V) w' ∨ (V = undef ∧ s.run P w = .ok .skip w')) ∧ RelV σ' v V ∧ Sim own lim σ' m' w' ∧ Ext own σ σ' m m' w w'
  | .enter f args m' => m' = m ∧ ∃ As, s.run P w = .ok (.enter f As) w ∧ RelL σ args As.toList

theorem OpOk.val0 {P : Program} {own : Nat → Prop} {lim : Nat} {σ : Map} {m : M} {w : World} {s : Sem Next} {v : AV} {V : Value} (h : Sim own lim σ m w) (hr : s.run P w = .ok (.value V) w) (hv : RelV σ v V) : OpOk P own lim σ m w s (.val v m) :=
  ⟨w, σ, V, .inl hr, hv, h, Ext.refl own σ m w⟩

section
variable {P : Program} {w : World}
theorem run_und {t : TypeId} {d : TypeDesc} (h : P.underlying t = some d) : (underlying t).run P w = .ok d w := by
  unfold underlying; rw [Sem.run_bind, run_program]; simp [h]
theorem run_info {t : TypeId} {i : TypeInfo} (h : P.info? t = some i) : (typeInfo t).run P w = .ok i w := by
  unfold typeInfo; rw [Sem.run_bind, run_program]; simp [h]
theorem run_size {t : TypeId} {i : TypeInfo} (h : P.info? t = some i) : (sizeOf t).run P w = .ok i.size w := by
  unfold sizeOf; rw [Sem.run_bind, run_info h]; rfl
theorem run_zero {t : TypeId} {i : TypeInfo} {z : Value} (h : P.info? t = some i) (hz : i.zero = some z) : (zeroValue t).run P w = .ok z w := by
  unfold zeroValue; rw [Sem.run_bind, run_info h]; simp [hz]
end

def opnd (t : T AV) : Operand → Option AV
  | .tmp k => T.get fuel k t
  | .const v => some (.lit v)
  | .func f => some (.fn (.func f) [] [])
  | .global _ => none

/-- How the slots stand. -/
def Slots (σ : Map) (t : T AV) (a : Act) : Prop := ∀ k v, T.get fuel k t = some v → RelV σ v (a.tmps.getD k undef)

theorem Slots.opnd {σ : Map} {t : T AV} {a : Act} (h : Slots σ t a) {x : Operand} {v : AV} (hx : opnd t x = some v) : RelV σ v (a.eval x) := by
  cases x <;> simp only [Ev.opnd, Option.some.injEq] at hx
  case tmp k => exact h k v hx
  case const u => subst hx; exact rfl
  case global g => cases hx
  case func f => subst hx; exact ⟨#[], #[], rfl, rfl, rfl⟩

def toVals : List AV → Option (List Value)
  | [] => some []
  | .lit v :: r => match toVals r with
    | none => none
    | some l => some (v :: l)
  | _ :: _ => none

theorem toVals_eq {σ : Map} : ∀ {l : List AV} {L : List Value} {vs : List Value}, RelL σ l L → toVals l = some vs → L = vs
  | [], L, vs, h, e => by simp only [RelL] at h; simp only [toVals, Option.some.injEq] at e; rw [h, e]
  | v :: r, L, vs, h, e => by
    simp only [RelL] at h
    obtain ⟨V, l', rfl, h1, h2⟩ := h
    cases v <;> simp only [toVals] at e <;> try cases e
    rename_i x
    split at e
    · cases e
    · rename_i l hl
      cases e
      simp only [RelV] at h1
      rw [h1, toVals_eq h2 hl]

def toVal : AV → Option Value
  | .lit v => some v
  | .agg cs => match toVals cs with
    | none => none
    | some l => some (.agg ⟨l⟩)
  | _ => none

theorem toVal_eq {σ : Map} {v : AV} {V u : Value} (h : RelV σ v V) (e : toVal v = some u) : V = u := by
  cases v <;> simp only [toVal] at e <;> try cases e
  · simp only [RelV] at h; exact h
  · simp only [RelV] at h
    obtain ⟨vs, rfl, h⟩ := h
    split at e
    · cases e
    · rename_i l hl
      cases e
      have := toVals_eq h hl
      rw [← this]

section ops
variable (P : Program)

/-- An operation that looks at nothing but known values. -/
def litOp (s : Sem Value) (m : M) : Option R := match pure? P s with
  | none => none
  | some v => some (.val (.lit v) m)

theorem litOp_ok {P : Program} {own : Nat → Prop} {lim : Nat} {σ : Map} {m : M} {w : World} (h : Sim own lim σ m w) {s : Sem Value} {r : R} (e : litOp P s m = some r) :
    OpOk P own lim σ m w (do pure (.value (← s))) r := by
  unfold litOp at e
  split at e
  · cases e
  · rename_i v hv
    cases e
    refine OpOk.val0 h ?_ (show RelV σ (.lit v) v from rfl)
    rw [Sem.run_bind, pure?_run w hv]
    rfl

/- a new variable -/
def newA (m : M) (cs : List AV) : R := .val (.ptr m.nx 0) (newBlk m cs)

theorem newVar_ok {P : Program} {own : Nat → Prop} {lim : Nat} {σ : Map} {m : M} {w : World} (h : Sim own lim σ m w) (hl : m.nx < lim) {cs : List AV} {C : Array Value} (hc : RelL σ cs C.toList) (el : TypeId) :
    ∃ w' σ' V, (newRow el C).run P w = .ok V w' ∧ σ' m.nx = some (V.block, 0, C.size) ∧ V = ⟨V.block, 0, none⟩ ∧ Sim own lim σ' (newBlk m cs) w' ∧ Ext own σ σ' m (newBlk m cs) w w' := by
  have hC : ∀ i v, cs[i]? = some v → i < C.size ∧ RelV σ v (C.getD i undef) := by
    intro i v hi
    obtain ⟨V, h1, h2⟩ := hc.get hi
    have : C[i]? = some V := by simpa using h1
    refine ⟨(Array.getElem?_eq_some_iff.1 this).1, ?_⟩
    rw [Array.getD_eq_getD_getElem?, this]; exact h2
  obtain ⟨h1, h2⟩ := h.new (el := el) (fr := (0, 0)) hl hC (.inl rfl) { w with heap := w.heap.push (.cells C el) } rfl rfl rfl rfl
  exact ⟨_, _, _, rfl, by simp [setσ], rfl, h1, h2⟩

def allocA (el : TypeId) (m : M) : Option R := match P.info? el with
  | none => none
  | some i => match i.zero with
    | none => none
    | some z => some (newA m (z.cells.toList.map .lit))

def outNx : R → Nat
  | .val _ m => m.nx
  | .enter _ _ m => m.nx

theorem allocA_ok {P : Program} {own : Nat → Prop} {lim : Nat} {σ : Map} {m : M} {w : World} (h : Sim own lim σ m w) {el : TypeId} {r : R} (e : allocA P el m = some r) (hl : outNx r ≤ lim) :
    OpOk P own lim σ m w (do pure (.value (← Instr.alloc el true (.tuple #[])))) r := by
  unfold allocA at e
  split at e
  · cases e
  rename_i i hi
  split at e
  · cases e
  rename_i z hz
  cases e
  obtain ⟨w', σ', V, h1, h2, h3, h4, h5⟩ := newVar_ok (P := P) h (show m.nx < lim from hl) (cellsA_lit_rel σ z.cells.toList) el
  refine ⟨w', σ', .pointer (some V), .inl ?_, ⟨_, _, _, h2, by rw [h3]⟩, h4, h5⟩
  simp only [Instr.alloc, Sem.run_bind, run_zero hi hz, Result.andThen_ok, newVar, h1]
  rfl

theorem boxA_ok {P : Program} {own : Nat → Prop} {lim : Nat} {σ : Map} {m : M} {w : World} (h : Sim own lim σ m w) {el : TypeId} {v : AV} {V : Value} (hv : RelV σ v V) (hl : m.nx < lim) :
    OpOk P own lim σ m w (do pure (.value (← Instr.box el V))) (newA m (cellsA v)) := by
  obtain ⟨w', σ', A, h1, h2, h3, h4, h5⟩ := newVar_ok (P := P) h hl (cellsA_rel hv) el
  refine ⟨w', σ', .pointer (some A), .inl ?_, ⟨_, _, _, h2, by rw [h3]⟩, h4, h5⟩
  simp only [Instr.box, Sem.run_bind, newVar, h1, Result.andThen_ok]
  rfl

/- build -/
def splice (cells : List AV) (off : Nat) (cs : List AV) : List AV := cells.take off ++ (cs ++ cells.drop (off + cs.length))

def fillA (place : Nat → Option (Nat × Nat)) : List AV → List (Nat × AV) → Option (List AV)
  | cells, [] => some cells
  | cells, (i, v) :: rest => match place i with
    | none => none
    | some (off, size) => match Nat.beq (cellsA v).length size && Nat.ble (off + (cellsA v).length) cells.length with
      | false => none
      | true => fillA place (splice cells off (cellsA v)) rest

theorem foldl_set (off : Nat) : ∀ (cs : List Value) (j : Nat) (a : Array Value), off + j + cs.length ≤ a.size →
    ((cs.zipIdx j).foldl (fun (cs : Array Value) (p : Value × Nat) => cs.setIfInBounds (off + p.2) p.1) a).toList = a.toList.take (off + j) ++ (cs ++ a.toList.drop (off + j + cs.length))
  | [], j, a, _ => by simp
  | c :: cs, j, a, h => by
    simp only [List.zipIdx_cons, List.foldl_cons]
    rw [foldl_set off cs (j + 1) _ (by simp at h ⊢; omega)]
    simp only [List.length_cons] at h
    have hj : off + j < a.size := by omega
    have hj' : off + j < a.toList.length := by simpa using hj
    simp only [Array.toList_setIfInBounds]
    rw [show off + (j + 1) = off + j + 1 by omega, List.take_add_one]
    rw [List.drop_set_of_lt (by omega)]
    rw [List.take_set_of_le (Nat.le_refl _)]
    simp [List.getElem?_set_self hj', show off + j + 1 + cs.length = off + j + (cs.length + 1) by omega]

theorem fillA_ok {σ : Map} {place : Nat → Option (Nat × Nat)} : ∀ (ps : List (Nat × AV)) {cells : List AV} {C : Array Value} {l : List AV} {qs : List (Nat × Value)}, RelL σ cells C.toList → fillA place cells ps = some l →
    qs.map (·.1) = ps.map (·.1) → RelL σ (ps.map (·.2)) (qs.map (·.2)) → ∃ C', Instr.fill place C qs = some C' ∧ RelL σ l C'.toList
  | [], cells, C, l, qs, h, e, h1, _ => by
    simp only [fillA, Option.some.injEq] at e
    subst e
    have : qs = [] := by cases qs <;> simp_all
    subst this
    exact ⟨C, rfl, h⟩
  | (i, v) :: rest, cells, C, l, [], h, e, h1, _ => by simp at h1
  | (i, v) :: rest, cells, C, l, (i', V) :: qs, h, e, h1, h2 => by
    simp only [List.map_cons, List.cons.injEq] at h1
    obtain ⟨rfl, h1⟩ := h1
    simp only [List.map_cons, RelL] at h2
    obtain ⟨V', l', e', hv, h2⟩ := h2
    cases e'
    simp only [fillA] at e
    split at e
    · cases e
    rename_i off size hp
    split at e
    · cases e
    rename_i hc
    simp only [Bool.and_eq_true] at hc
    obtain ⟨c1, c2⟩ := hc
    have c1 := Nat.eq_of_beq_eq_true c1
    have c2 := Nat.le_of_ble_eq_true c2
    have hcv := cellsA_rel hv
    have hlen : V.cells.size = (cellsA v).length := by have := hcv.length; simpa using this
    have hClen : C.size = cells.length := by have := h.length; simpa using this
    have hf : (V.cells.zipIdx.foldl (fun (cs : Array Value) (p : Value × Nat) => cs.setIfInBounds (off + p.2) p.1) C).toList = C.toList.take off ++ (V.cells.toList ++ C.toList.drop (off + V.cells.toList.length)) := by
      rw [← Array.foldl_toList, Array.toList_zipIdx]
      exact foldl_set off V.cells.toList 0 C (by simp; omega)
    have hrel : RelL σ (splice cells off (cellsA v)) (V.cells.zipIdx.foldl (fun (cs : Array Value) (p : Value × Nat) => cs.setIfInBounds (off + p.2) p.1) C).toList := by
      rw [hf]
      unfold splice
      refine (h.take off).append (hcv.append ?_)
      rw [show V.cells.toList.length = (cellsA v).length by simp [hlen]]
      exact h.drop _
    obtain ⟨C', g1, g2⟩ := fillA_ok rest hrel e h1 h2
    refine ⟨C', ?_, g2⟩
    simp only [Instr.fill, hp]
    rw [if_neg]
    · exact g1
    · rw [hlen, hClen]; simp; omega

def opndsP (t : T AV) : List (Nat × Operand) → Option (List (Nat × AV))
  | [] => some []
  | (i, x) :: r => match opnd t x with
    | none => none
    | some v => match opndsP t r with
      | none => none
      | some l => some ((i, v) :: l)

theorem opndsP_ok {σ : Map} {t : T AV} {a : Act} (h : Slots σ t a) : ∀ {l : List (Nat × Operand)} {r : List (Nat × AV)}, opndsP t l = some r →
    (l.map fun p => (p.1, a.eval p.2)).map (·.1) = r.map (·.1) ∧ RelL σ (r.map (·.2)) ((l.map fun p => (p.1, a.eval p.2)).map (·.2))
  | [], r, e => by simp only [opndsP, Option.some.injEq] at e; subst e; exact ⟨rfl, rfl⟩
  | (i, x) :: l, r, e => by
    simp only [opndsP] at e
    split at e
    · cases e
    rename_i v hv
    split at e
    · cases e
    rename_i r' hr
    cases e
    obtain ⟨h1, h2⟩ := opndsP_ok h hr
    refine ⟨?_, ?_⟩
    · simpa using h1
    · exact ⟨_, _, rfl, h.opnd hv, h2⟩

def placesA : List Field → Option (List (Nat × Nat))
  | [] => some []
  | f :: fs => match P.info? f.type with
    | none => none
    | some i => match placesA fs with
      | none => none
      | some l => some ((f.offset, i.size) :: l)

theorem placesA_ok {P : Program} {w : World} : ∀ {fs : List Field} {l : List (Nat × Nat)}, placesA P fs = some l → (fs.mapM (m := Sem) fun f => do pure (f.offset, ← sizeOf f.type)).run P w = .ok l w
  | [], l, e => by simp only [placesA, Option.some.injEq] at e; subst e; rfl
  | f :: fs, l, e => by
    simp only [placesA] at e
    split at e
    · cases e
    rename_i i hi
    split at e
    · cases e
    rename_i l' hl
    cases e
    simp only [List.mapM_cons, Sem.run_bind, run_size hi, Result.andThen_ok, Sem.run_pure, placesA_ok hl]

def buildA (t : TypeId) (ps : List (Nat × AV)) (m : M) : Option R := match P.info? t with
  | none => none
  | some i => match i.zero with
    | none => none
    | some z => match P.underlying t with
      | some (.struct fs) => match placesA P fs.toList with
        | none => none
        | some pl => match fillA (fun k => pl[k]?) (z.cells.toList.map .lit) ps with
          | none => none
          | some cs => some (.val (.agg cs) m)
      | some (.array _ el) => match P.info? el with
        | none => none
        | some j => match fillA (fun k => some (k * j.size, j.size)) (z.cells.toList.map .lit) ps with
          | none => none
          | some cs => some (.val (.agg cs) m)
      | _ => none

theorem buildA_ok {P : Program} {own : Nat → Prop} {lim : Nat} {σ : Map} {m : M} {w : World} (h : Sim own lim σ m w) {t : TypeId} {ps : List (Nat × AV)} {qs : Array (Nat × Value)} {r : R} (e : buildA P t ps m = some r)
    (h1 : qs.toList.map (·.1) = ps.map (·.1)) (h2 : RelL σ (ps.map (·.2)) (qs.toList.map (·.2))) : OpOk P own lim σ m w (do pure (.value (← Instr.build t qs))) r := by
  unfold buildA at e
  split at e
  · cases e
  rename_i i hi
  split at e
  · cases e
  rename_i z hz
  split at e
  · rename_i fs hu
    split at e
    · cases e
    rename_i pl hpl
    split at e
    · cases e
    rename_i cs hcs
    cases e
    obtain ⟨C', g1, g2⟩ := fillA_ok ps (cellsA_lit_rel σ z.cells.toList) hcs h1 h2
    refine OpOk.val0 (V := .agg C') h ?_ ⟨_, rfl, g2⟩
    have hm : (fs.mapM (m := Sem) fun f => do pure (f.offset, ← sizeOf f.type)).run P w = .ok pl.toArray w := by
      rw [← Array.toArray_toList (xs := fs), List.mapM_toArray, Sem.run_map, placesA_ok hpl]
      rfl
    simp only [Instr.build, Sem.run_bind, run_zero hi hz, run_und hu, Result.andThen_ok, hm]
    have : (fun k : Nat => pl.toArray[k]?) = fun k : Nat => pl[k]? := by funext k; simp
    rw [this, g1]
    rfl
  · rename_i n el hu
    split at e
    · cases e
    rename_i j hj
    split at e
    · cases e
    rename_i cs hcs
    cases e
    obtain ⟨C', g1, g2⟩ := fillA_ok ps (cellsA_lit_rel σ z.cells.toList) hcs h1 h2
    refine OpOk.val0 (V := .agg C') h ?_ ⟨_, rfl, g2⟩
    simp only [Instr.build, Sem.run_bind, run_zero hi hz, run_und hu, Result.andThen_ok, run_size hj]
    rw [g1]
    rfl
  · cases e

/-- n cells of noughts. -/
def zeros (zc : Array Value) (n : Nat) : List Value := (List.range n).map fun i => zc[i % zc.size]!

theorem zeros_eq (zc : Array Value) (n : Nat) : ((Array.range n).map (fun i => zc[i % zc.size]!)).toList = zeros zc n := by
  simp [zeros, Array.toList_range]

def buildSliceA (t : TypeId) (len : Nat) (ps : List (Nat × AV)) (m : M) : Option R := match P.underlying t with
  | some (.slice el) => match P.info? el with
    | none => none
    | some j => match Nat.ble (len * j.size) (2 ^ 24) with
      | false => none
      | true => match (match Nat.beq (len * j.size) 0 with | true => some #[] | false => match j.zero with | none => none | some z => some z.cells) with
        | none => none
        | some zc => match fillA (fun k => some (k * j.size, j.size)) ((zeros zc (len * j.size)).map .lit) ps with
          | none => none
          | some cs => some (.val (.sl m.nx 0 len len) (newBlk m cs))
  | _ => none

theorem buildSliceA_ok {P : Program} {own : Nat → Prop} {lim : Nat} {σ : Map} {m : M} {w : World} (h : Sim own lim σ m w) {t : TypeId} {len : Nat} {ps : List (Nat × AV)} {qs : Array (Nat × Value)} {r : R} (e : buildSliceA P t len ps m = some r)
    (h1 : qs.toList.map (·.1) = ps.map (·.1)) (h2 : RelL σ (ps.map (·.2)) (qs.toList.map (·.2))) (hl : outNx r ≤ lim) : OpOk P own lim σ m w (do pure (.value (← Instr.buildSlice t len qs))) r := by
  unfold buildSliceA at e
  split at e
  · rename_i el hu
    split at e
    · cases e
    rename_i j hj
    split at e
    · cases e
    rename_i hn
    split at e
    · cases e
    rename_i zc hzc
    split at e
    · cases e
    rename_i cs hcs
    cases e
    obtain ⟨C', g1, g2⟩ := fillA_ok ps (C := (Array.range (len * j.size)).map (fun i => zc[i % zc.size]!)) (by rw [zeros_eq]; exact cellsA_lit_rel σ _) hcs h1 h2
    obtain ⟨w', σ', A, k1, k2, k3, k4, k5⟩ := newVar_ok (P := P) h (show m.nx < lim from hl) g2 el
    refine ⟨w', σ', .slice (some A) len len, .inl ?_, ⟨_, _, _, k2, by rw [k3]⟩, k4, k5⟩
    simp only [Instr.buildSlice, Sem.run_bind, run_und hu, Result.andThen_ok, run_size hj]
    have hn' := Nat.le_of_ble_eq_true hn
    rw [if_neg (by omega)]
    split at hzc
    · rename_i hb
      cases hzc
      rw [if_pos (Nat.eq_of_beq_eq_true hb)]
      simp only [Sem.run_bind, Sem.run_pure, Result.andThen_ok, g1, k1]
    · rename_i hb
      rw [if_neg (Nat.ne_of_beq_eq_false hb)]
      split at hzc
      · cases hzc
      rename_i z hz
      cases hzc
      simp only [Sem.run_bind, run_zero hj hz, Sem.run_pure, Result.andThen_ok, g1, k1]
  · cases e

/- memory -/
def isAggT (t : TypeId) : Option Bool := match P.underlying t with
  | some (.struct _) => some true
  | some (.array _ _) => some true
  | some _ => some false
  | none => none

theorem isAggT_run {P : Program} {w : World} {t : TypeId} {b : Bool} (h : isAggT P t = some b) : (isAgg t).run P w = .ok b w := by
  unfold isAggT at h
  unfold isAgg
  rw [Sem.run_bind]
  split at h <;> rename_i hu <;> (try cases h) <;> rw [run_und hu] <;> try rfl
  rename_i d h1 h2
  simp only [Result.andThen_ok]
  cases d <;> first | rfl | exact absurd rfl (h1 _) | exact absurd rfl (h2 _ _)

def loadA (t : TypeId) (x : AV) (m : M) : Option R := match x with
  | .ptr b o => match m.blk b with
    | none => none
    | some B => match isAggT P t with
      | some true => match P.info? t with
        | none => none
        | some i => match loadCs B o i.size with
          | none => none
          | some l => some (.val (.agg l) m)
      | some false => match T.get fuel o B with
        | none => none
        | some v => some (.val v m)
      | none => none
  | _ => none

theorem loadA_ok {P : Program} {own : Nat → Prop} {lim : Nat} {σ : Map} {m : M} {w : World} (h : Sim own lim σ m w) {t : TypeId} {x : AV} {X : Value} (hx : RelV σ x X) {r : R} (e : loadA P t x m = some r) :
    OpOk P own lim σ m w (do pure (.value (← Instr.loadAt t X))) r := by
  unfold loadA at e
  split at e
  · rename_i b o
    split at e
    · cases e
    rename_i B hB
    simp only [RelV] at hx
    obtain ⟨k, sh, sz, e1, rfl⟩ := hx
    split at e
    · rename_i ha
      split at e
      · cases e
      rename_i i hi
      split at e
      · cases e
      rename_i l hl
      cases e
      obtain ⟨k', sh', sz', L, e1', _, g1, g2⟩ := h.load (P := P) hB hl
      rw [e1] at e1'; cases e1'
      refine OpOk.val0 (V := .agg L) h ?_ ⟨_, rfl, g2⟩
      simp only [Instr.loadAt, Instr.sureAddr, loadVar, Sem.run_bind, Sem.run_pure, Result.andThen_ok, isAggT_run ha, if_true, run_size hi, g1]
    · rename_i ha
      split at e
      · cases e
      rename_i v hv
      cases e
      have hc : m.cell b o = some v := by unfold M.cell; rw [hB]; exact hv
      obtain ⟨k', sh', sz', V, e1', _, g1, g2, _⟩ := h.cell hc
      rw [e1] at e1'; cases e1'
      refine OpOk.val0 (V := V) h ?_ g2
      simp only [Instr.loadAt, Instr.sureAddr, loadVar, Sem.run_bind, Sem.run_pure, Result.andThen_ok, isAggT_run ha, Bool.false_eq_true, if_false, run_load, g1]
    · cases e
  · cases e

def storeA (t : TypeId) (x v : AV) (m : M) : Option R := match x with
  | .ptr b o => match P.info? t with
    | none => none
    | some i => match Nat.beq (cellsA v).length i.size with
      | false => none
      | true => match storeCs b o (cellsA v) m with
        | none => none
        | some m' => some (.val (.lit undef) m')
  | _ => none

theorem storeA_ok {P : Program} {own : Nat → Prop} {lim : Nat} {σ : Map} {m : M} {w : World} (h : Sim own lim σ m w) {t : TypeId} {x v : AV} {X V : Value} (hx : RelV σ x X) (hv : RelV σ v V) {r : R} (e : storeA P t x v m = some r) :
    OpOk P own lim σ m w (do Instr.storeAt t X V; pure .skip) r := by
  unfold storeA at e
  split at e
  · rename_i b o
    split at e
    · cases e
    rename_i i hi
    split at e
    · cases e
    rename_i hn
    split at e
    · cases e
    rename_i m' hm
    cases e
    simp only [RelV] at hx
    obtain ⟨k, sh, sz, e1, rfl⟩ := hx
    have hc := cellsA_rel hv
    obtain ⟨w', g1, g2, g3, _⟩ := Sim.store (P := P) e1 (cellsA v) V.cells.toList o 0 h hm hc
    refine ⟨w', σ, undef, .inr ⟨rfl, ?_⟩, rfl, g2, g3⟩
    have hlen : V.cells.size = i.size := by have := hc.length; rw [Nat.eq_of_beq_eq_true hn] at this; simpa using this
    simp only [Instr.storeAt, Instr.sureAddr, storeVar, Sem.run_bind, Sem.run_pure, Result.andThen_ok, run_size hi, hlen, ne_eq, not_true_eq_false, if_false, g1]
  · cases e

def nilCheckA (x : AV) (m : M) : Option R := match x with
  | .ptr b o => some (.val (.ptr b o) m)
  | .fn (.func f) a c => some (.val (.fn (.func f) a c) m)
  | _ => none
end ops
end
end Ev
end Go.Proofs.YtggfhklokfcplaaGreat
