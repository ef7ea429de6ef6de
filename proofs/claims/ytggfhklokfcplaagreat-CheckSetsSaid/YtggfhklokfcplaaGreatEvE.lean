/- The evaluator's operations, further: fields, elements, parts, calls of functions, len, cap, copy, append. No program is named here. -/
import Derived.Test.YtggfhklokfcplaaGreatEvD
namespace Go.Proofs.YtggfhklokfcplaaGreat
open Go.RowKit
namespace Ev
noncomputable section
section ops
variable (P : Program)

def fieldAddrA (s : TypeId) (x : AV) (f : Nat) (m : M) : Option R := match P.underlying s, x with
  | some (.struct fs), .ptr b o => match fs[f]? with
    | none => none
    | some fd => match P.info? fd.type with
      | none => none
      | some i => match Nat.beq i.size 0 with
        | true => none
        | false => some (.val (.ptr b (o + fd.offset)) m)
  | _, _ => none

theorem fieldAddrA_ok {P : Program} {own : Nat → Prop} {lim : Nat} {σ : Map} {m : M} {w : World} (h : Sim own lim σ m w) {s : TypeId} {x : AV} {X : Value} {f : Nat} (hx : RelV σ x X) {r : R} (e : fieldAddrA P s x f m = some r) :
    OpOk P own lim σ m w (do pure (.value (← Instr.fieldAt s X f))) r := by
  unfold fieldAddrA at e
  split at e
  · rename_i fs b o hu
    split at e
    · cases e
    rename_i fd hf
    split at e
    · cases e
    rename_i i hi
    split at e
    · cases e
    rename_i hs
    cases e
    simp only [RelV] at hx
    obtain ⟨k, sh, sz, e1, rfl⟩ := hx
    refine OpOk.val0 (V := .pointer (some ⟨k, sh + (o + fd.offset), none⟩)) h ?_ ⟨k, sh, sz, e1, rfl⟩
    simp only [Instr.fieldAt, Sem.run_bind, run_und hu, Result.andThen_ok, hf, Instr.sureAddr, Sem.run_pure, fieldPlace, run_size hi, if_neg (Nat.ne_of_beq_eq_false hs), add_none, Nat.add_assoc]
  · cases e

def partA (t : TypeId) (cs : List AV) (off : Nat) : Option AV := match isAggT P t with
  | some true => match P.info? t with
    | none => none
    | some i => some (.agg ((cs.drop off).take i.size))
  | some false => cs[off]?
  | none => none

theorem partA_ok {P : Program} {w : World} {σ : Map} {t : TypeId} {cs : List AV} {C : Array Value} {off : Nat} {v : AV} (h : RelL σ cs C.toList) (e : partA P t cs off = some v) : ∃ V, (part t C off).run P w = .ok V w ∧ RelV σ v V := by
  unfold partA at e
  split at e
  · rename_i ha
    split at e
    · cases e
    rename_i i hi
    cases e
    refine ⟨.agg (C.extract off (off + i.size)), ?_, ⟨_, rfl, ?_⟩⟩
    · simp only [part, Sem.run_bind, isAggT_run ha, Result.andThen_ok, if_true, run_size hi, Sem.run_pure]
    · have := (h.drop off).take i.size
      simpa [Array.toList_extract] using this
  · rename_i ha
    obtain ⟨V, h1, h2⟩ := h.get e
    refine ⟨V, ?_, h2⟩
    have : C[off]? = some V := by simpa using h1
    simp only [part, Sem.run_bind, isAggT_run ha, Result.andThen_ok, Bool.false_eq_true, if_false, this, Sem.run_pure]
  · cases e

def fieldA (s : TypeId) (x : AV) (f : Nat) (m : M) : Option R := match P.underlying s, x with
  | some (.struct fs), .agg cs => match fs[f]? with
    | none => none
    | some fd => match partA P fd.type cs fd.offset with
      | none => none
      | some v => some (.val v m)
  | some (.struct fs), .lit (.agg vs) => match fs[f]? with
    | none => none
    | some fd => match partA P fd.type (vs.toList.map .lit) fd.offset with
      | none => none
      | some v => some (.val v m)
  | _, _ => none

theorem fieldA_ok {P : Program} {own : Nat → Prop} {lim : Nat} {σ : Map} {m : M} {w : World} (h : Sim own lim σ m w) {s : TypeId} {x : AV} {X : Value} {f : Nat} (hx : RelV σ x X) {r : R} (e : fieldA P s x f m = some r) :
    OpOk P own lim σ m w (do pure (.value (← Instr.field s X f))) r := by
  have key : ∀ (fs : Array Field) (cs : List AV) (C : Array Value) (fd : Field) (v : AV), P.underlying s = some (.struct fs) → X = .agg C → RelL σ cs C.toList → fs[f]? = some fd → partA P fd.type cs fd.offset = some v → OpOk P own lim σ m w (do pure (.value (← Instr.field s X f))) (.val v m) := by
    intro fs cs C fd v hu hX hC hf hp
    obtain ⟨V, h1, h2⟩ := partA_ok (w := w) hC hp
    refine OpOk.val0 (V := V) h ?_ h2
    subst hX
    simp only [Instr.field, Sem.run_bind, run_und hu, Result.andThen_ok, hf, asAgg, Sem.run_pure, h1]
  unfold fieldA at e
  split at e
  · rename_i fs cs hu
    split at e
    · cases e
    rename_i fd hf
    split at e
    · cases e
    rename_i v hv
    cases e
    simp only [RelV] at hx
    obtain ⟨C, rfl, hx⟩ := hx
    exact key fs cs C fd v hu rfl hx hf hv
  · rename_i fs vs hu
    split at e
    · cases e
    rename_i fd hf
    split at e
    · cases e
    rename_i v hv
    cases e
    simp only [RelV] at hx
    exact key fs _ vs fd v hu hx (cellsA_lit_rel σ _) hf hv
  · cases e

def indexAddrA (t : TypeId) (x ix : AV) (m : M) : Option R := match intA ix with
  | none => none
  | some n => match P.underlying t, x with
    | some (.array len el), .ptr b o => match P.info? el with
      | none => none
      | some i => match decide (0 ≤ n) && decide (n < len) with
        | true => some (.val (.ptr b (o + n.toNat * i.size)) m)
        | false => none
    | some (.slice el), .sl b o len _ => match P.info? el with
      | none => none
      | some i => match decide (0 ≤ n) && decide (n < len) with
        | true => some (.val (.ptr b (o + n.toNat * i.size)) m)
        | false => none
    | some (.slice el), .su b o len _ => match P.info? el with
      | none => none
      | some i => match decide (0 ≤ n) && decide (n < len) with
        | true => some (.val (.ptr b (o + n.toNat * i.size)) m)
        | false => none
    | _, _ => none

theorem indexAddrA_ok {P : Program} {own : Nat → Prop} {lim : Nat} {σ : Map} {m : M} {w : World} (h : Sim own lim σ m w) {t : TypeId} {x ix : AV} {X Ix : Value} (hx : RelV σ x X) (hi : RelV σ ix Ix) {r : R} (e : indexAddrA P t x ix m = some r) :
    OpOk P own lim σ m w (do pure (.value (← Instr.indexAt t X Ix))) r := by
  unfold indexAddrA at e
  split at e
  · cases e
  rename_i n hn
  obtain ⟨kk, rfl⟩ := intA_ok hi hn
  split at e
  · rename_i len el b o hu
    split at e
    · cases e
    rename_i i hi
    split at e
    · rename_i hc
      cases e
      simp only [Bool.and_eq_true, decide_eq_true_eq] at hc
      simp only [RelV] at hx
      obtain ⟨k, sh, sz, e1, rfl⟩ := hx
      refine OpOk.val0 (V := .pointer (some ⟨k, sh + (o + n.toNat * i.size), none⟩)) h ?_ ⟨k, sh, sz, e1, rfl⟩
      simp only [Instr.indexAt, asIntOf, Sem.run_bind, Sem.run_pure, run_und hu, Result.andThen_ok, Instr.sureAddr, if_pos hc, run_size hi, add_none, Nat.add_assoc]
    · cases e
  · rename_i el b o len cc hu
    split at e
    · cases e
    rename_i i hi
    split at e
    · rename_i hc
      cases e
      simp only [Bool.and_eq_true, decide_eq_true_eq] at hc
      simp only [RelV] at hx
      obtain ⟨k, sh, sz, e1, rfl⟩ := hx
      refine OpOk.val0 (V := .pointer (some ⟨k, sh + (o + n.toNat * i.size), none⟩)) h ?_ ⟨k, sh, sz, e1, rfl⟩
      simp only [Instr.indexAt, asIntOf, Sem.run_bind, Sem.run_pure, run_und hu, Result.andThen_ok, Instr.sureAddr, if_pos hc, run_size hi, add_none, Nat.add_assoc]
    · cases e
  · rename_i el b o len es hu
    split at e
    · cases e
    rename_i i hi
    split at e
    · rename_i hc
      cases e
      simp only [Bool.and_eq_true, decide_eq_true_eq] at hc
      simp only [RelV] at hx
      obtain ⟨k, sh, sz, c, e1, _, _, rfl⟩ := hx
      refine OpOk.val0 (V := .pointer (some ⟨k, sh + (o + n.toNat * i.size), none⟩)) h ?_ ⟨k, sh, sz, e1, rfl⟩
      simp only [Instr.indexAt, asIntOf, Sem.run_bind, Sem.run_pure, run_und hu, Result.andThen_ok, Instr.sureAddr, if_pos hc, run_size hi, add_none, Nat.add_assoc]
    · cases e
  · cases e

def indexA (t : TypeId) (x ix : AV) (m : M) : Option R := match toVal x, toVal ix with
  | some a, some b => litOp P (Instr.index t a b) m
  | _, _ => match intA ix, P.underlying t, x with
    | some n, some (.array len el), .agg cs => match P.info? el with
      | none => none
      | some i => match decide (0 ≤ n) && decide (n < len) with
        | true => match partA P el cs (n.toNat * i.size) with
          | none => none
          | some v => some (.val v m)
        | false => none
    | _, _, _ => none

theorem indexA_ok {P : Program} {own : Nat → Prop} {lim : Nat} {σ : Map} {m : M} {w : World} (h : Sim own lim σ m w) {t : TypeId} {x ix : AV} {X Ix : Value} (hx : RelV σ x X) (hi : RelV σ ix Ix) {r : R} (e : indexA P t x ix m = some r) :
    OpOk P own lim σ m w (do pure (.value (← Instr.index t X Ix))) r := by
  unfold indexA at e
  split at e
  · rename_i a b ha hb
    rw [toVal_eq hx ha, toVal_eq hi hb]
    exact litOp_ok h e
  split at e
  · rename_i n len el cs hn hu _
    split at e
    · cases e
    rename_i i hi'
    split at e
    · rename_i hc
      split at e
      · cases e
      rename_i v hv
      cases e
      simp only [Bool.and_eq_true, decide_eq_true_eq] at hc
      obtain ⟨kk, rfl⟩ := intA_ok hi hn
      simp only [RelV] at hx
      obtain ⟨C, rfl, hx⟩ := hx
      obtain ⟨V, h1, h2⟩ := partA_ok (w := w) hx hv
      refine OpOk.val0 (V := V) h ?_ h2
      simp only [Instr.index, asIntOf, Sem.run_bind, Sem.run_pure, run_und hu, Result.andThen_ok, if_pos hc, run_size hi', h1]
    · cases e
  · cases e

def extractA (x : AV) (i : Nat) (m : M) : Option R := match x with
  | .tup vs => match vs[i]? with
    | none => none
    | some v => some (.val v m)
  | .lit (.tuple vs) => match vs[i]? with
    | none => none
    | some v => some (.val (.lit v) m)
  | _ => none

theorem extractA_ok {P : Program} {own : Nat → Prop} {lim : Nat} {σ : Map} {m : M} {w : World} (h : Sim own lim σ m w) {x : AV} {X : Value} {i : Nat} (hx : RelV σ x X) {r : R} (e : extractA x i m = some r) :
    OpOk P own lim σ m w (do pure (.value (← Instr.extract X i))) r := by
  unfold extractA at e
  split at e
  · rename_i vs
    split at e
    · cases e
    rename_i v hv
    cases e
    simp only [RelV] at hx
    obtain ⟨C, rfl, hx⟩ := hx
    obtain ⟨V, h1, h2⟩ := hx.get hv
    have : C[i]? = some V := by simpa using h1
    refine OpOk.val0 (V := V) h ?_ h2
    simp only [Instr.extract, this, Sem.run_bind, Sem.run_pure, Result.andThen_ok]
  · rename_i vs
    split at e
    · cases e
    rename_i v hv
    cases e
    simp only [RelV] at hx
    subst hx
    refine OpOk.val0 (V := v) h ?_ rfl
    simp only [Instr.extract, hv, Sem.run_bind, Sem.run_pure, Result.andThen_ok]
  · cases e

/- calls -/
def opnds (t : T AV) : List Operand → Option (List AV)
  | [] => some []
  | x :: r => match opnd t x with
    | none => none
    | some v => match opnds t r with
      | none => none
      | some l => some (v :: l)

theorem opnds_ok {σ : Map} {t : T AV} {a : Act} (h : Slots σ t a) : ∀ {l : List Operand} {r : List AV}, opnds t l = some r → RelL σ r (l.map a.eval)
  | [], r, e => by simp only [opnds, Option.some.injEq] at e; subst e; rfl
  | x :: l, r, e => by
    simp only [opnds] at e
    split at e
    · cases e
    rename_i v hv
    split at e
    · cases e
    rename_i r' hr
    cases e
    exact ⟨_, _, rfl, h.opnd hv, opnds_ok h hr⟩

def callOk (f : Nat) : Bool := match P.funcs[f]? with
  | none => false
  | some fn => !(fn.name == "runtime.NumGoroutine") && !fn.body.isNone

theorem callFunc_run {P : Program} {w : World} {f : Nat} (h : callOk P f = true) (args : Array Value) : (callFunc f args).run P w = .ok (.enter f args) w := by
  unfold callOk at h
  split at h
  · cases h
  rename_i fn hf
  simp only [Bool.and_eq_true, Bool.not_eq_true'] at h
  unfold callFunc
  simp only [Sem.run_bind, run_program, Result.andThen_ok, hf, h.1, h.2, Bool.false_eq_true, if_false, Sem.run_pure]

/- lengths -/
def lenA : AV → Option Nat
  | .sl _ _ n _ => some n
  | .su _ _ n _ => some n
  | .se => some 0
  | .lit (.slice none n _) => some n
  | .lit (.string s) => some s.size
  | _ => none

/-- The first cells of a source. -/
def firstA (size n : Nat) (x : AV) (m : M) : Option (List AV) := match x with
  | .sl b o _ _ => match m.blk b with
    | none => none
    | some B => loadCs B o (n * size)
  | .su b o _ _ => match m.blk b with
    | none => none
    | some B => loadCs B o (n * size)
  | .se => match Nat.beq (n * size) 0 with
    | true => some []
    | false => none
  | .lit (.slice none _ _) => some []
  | .lit (.string s) => some (((s.data.toList.take n).map fun b => Value.int .u8 b.toNat).map .lit)
  | _ => none

theorem lenA_run {P : Program} {w : World} {σ : Map} {x : AV} {X : Value} {n : Nat} (h : RelV σ x X) (e : lenA x = some n) : (Builtin.lenOf X).run P w = .ok n w := by
  unfold lenA at e
  split at e <;> cases e <;> simp only [RelV] at h
  · obtain ⟨k, sh, sz, _, rfl⟩ := h; rfl
  · obtain ⟨k, sh, sz, c, _, _, _, rfl⟩ := h; rfl
  · obtain ⟨k, o, c, rfl⟩ := h; rfl
  · subst h; rfl
  · subst h; rfl

theorem firstA_run {P : Program} {own : Nat → Prop} {lim : Nat} {σ : Map} {m : M} {w : World} (h : Sim own lim σ m w) {x : AV} {X : Value} {size n : Nat} {l : List AV} (hx : RelV σ x X) (e : firstA size n x m = some l) :
    ∃ L, (Builtin.firstCells size n X).run P w = .ok L w ∧ RelL σ l L.toList := by
  unfold firstA at e
  split at e
  · rename_i b o n' c
    split at e
    · cases e
    rename_i B hB
    simp only [RelV] at hx
    obtain ⟨k, sh, sz, e1, rfl⟩ := hx
    obtain ⟨k', sh', sz', L, e1', _, g1, g2⟩ := h.load (P := P) hB e
    rw [e1] at e1'; cases e1'
    exact ⟨L, g1, g2⟩
  · rename_i b o n' c
    split at e
    · cases e
    rename_i B hB
    simp only [RelV] at hx
    obtain ⟨k, sh, sz, c', e1, _, _, rfl⟩ := hx
    obtain ⟨k', sh', sz', L, e1', _, g1, g2⟩ := h.load (P := P) hB e
    rw [e1] at e1'; cases e1'
    exact ⟨L, g1, g2⟩
  · split at e
    · rename_i h0
      cases e
      simp only [RelV] at hx
      obtain ⟨k, o, c, rfl⟩ := hx
      refine ⟨#[], ?_, rfl⟩
      simp only [Builtin.firstCells, Nat.eq_of_beq_eq_true h0]
      rfl
    · cases e
  · rename_i n' c'
    cases e
    simp only [RelV] at hx
    subst hx
    exact ⟨#[], rfl, rfl⟩
  · rename_i s
    cases e
    simp only [RelV] at hx
    subst hx
    refine ⟨_, rfl, ?_⟩
    have : ((s.extract 0 n).data.map fun b => Value.int .u8 b.toNat).toList = (s.data.toList.take n).map fun b => Value.int .u8 b.toNat := by
      simp [ByteArray.data_extract, Array.toList_extract]
    rw [this]
    exact cellsA_lit_rel σ _
  · cases e
end ops
end
end Ev
end Go.Proofs.YtggfhklokfcplaaGreat
