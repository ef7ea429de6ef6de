/- strings and bytes; all operations in one. No program is named here. -/
import Derived.Test.YtggfhklokfcplaaGreatEvH
namespace Go.Proofs.YtggfhklokfcplaaGreat
open Go.RowKit
namespace Ev
noncomputable section
section ops
variable (P : Program)

/-- The bytes of known cells. -/
def bytesA : List AV → ByteArray → Option ByteArray
  | [], s => some s
  | .lit (.int .u8 n) :: r, s => bytesA r (s.push (UInt8.ofNat n.toNat))
  | _ :: _, _ => none

theorem bytesA_run {P : Program} {w : World} {σ : Map} : ∀ {l : List AV} {L : List Value} {s r : ByteArray}, RelL σ l L → bytesA l s = some r →
    (forIn (m := Sem) L s fun c s => (match c with
      | .int .u8 n => pure (ForInStep.yield (s.push (UInt8.ofNat n.toNat)))
      | _ => do
        stuck "bytesToString: byte expected"
        pure (ForInStep.yield s))).run P w = .ok r w
  | [], L, s, r, h, e => by simp only [RelL] at h; subst h; simp only [bytesA, Option.some.injEq] at e; subst e; rfl
  | v :: vs, L, s, r, h, e => by
    simp only [RelL] at h
    obtain ⟨V, l', rfl, h1, h2⟩ := h
    unfold bytesA at e
    split at e
    · cases ‹_ :: _ = []›
    · rename_i n r' s' heq
      cases heq
      simp only [RelV] at h1
      subst h1
      simp only [List.forIn_cons, Sem.run_bind, Sem.run_pure, Result.andThen_ok]
      exact bytesA_run h2 e
    · cases e

/-- A row is marked as one that a string may share: behind its end. -/
theorem Sim.mark {own : Nat → Prop} {lim : Nat} {σ : Map} {m : M} {w : World} (h : Sim own lim σ m w) {P : Program} {b k sh sz o : Nat} {B : Blk} (hb : m.blk b = some B) (hσ : σ b = some (k, sh, sz)) :
    ∃ w', (markStringish ⟨k, o, none⟩).run P w = .ok () w' ∧ Sim own lim σ m w' ∧ Ext own σ σ m m w w' := by
  obtain ⟨k', sh', sz', e1, e2, c, el, fr, e3, e4, e5, e6⟩ := h.blk b B hb
  rw [hσ] at e1; cases e1
  refine ⟨w.freeze { block := k, off := c.size } 1, ?_, ?_, ?_⟩
  · simp only [markStringish, Sem.run_bind, run_shape, World.shape?, e3, Result.andThen_ok, run_freeze]
  · have hother : ∀ j, j ≠ k → (w.freeze { block := k, off := c.size } 1).heap[j]? = w.heap[j]? := fun j hj => by
      simp only [World.freeze, Nat.one_ne_zero, if_false, Array.getElem?_modify]; rw [if_neg (by omega)]
    have hsz : (w.freeze { block := k, off := c.size } 1).heap.size = w.heap.size := by simp [World.freeze]
    obtain ⟨lo, hi⟩ := fr
    have hk : (w.freeze { block := k, off := c.size } 1).heap[k]? = some (.cells c el (if lo == hi then (c.size, c.size + 1) else (min lo c.size, max hi (c.size + 1)))) := by
      simp [World.freeze, Array.getElem?_modify, e3]
    refine ⟨?_, h.inj, h.fresh, h.low, by rw [hsz]; exact h.news⟩
    intro b' B' hb'
    by_cases hbb : b' = b
    · subst hbb
      rw [hb] at hb'; cases hb'
      refine ⟨k, sh, sz, hσ, e2, c, el, _, hk, e4, e5, ?_⟩
      split
      · exact .inr (Nat.le_refl _)
      · rename_i hne
        rcases e6 with e6 | e6
        · exact absurd (by simpa using e6) hne
        · right; simp only at e6 ⊢; omega
    · obtain ⟨k2, sh2, sz2, f1, f2, f3⟩ := h.blk b' B' hb'
      exact ⟨k2, sh2, sz2, f1, f2, f3.mono (Le.refl _) (hother _ fun ek => h.inj b' b B' B _ _ hb' hb hbb f1 hσ ek)⟩
  · refine ⟨Le.refl σ, fun _ _ => rfl, by simp [World.freeze], ?_, by simp [World.freeze], by simp [World.freeze], by simp [World.freeze]⟩
    intro j hj
    have : j ≠ k := fun e => hj (e ▸ e2)
    simp only [World.freeze, Nat.one_ne_zero, if_false, Array.getElem?_modify]; rw [if_neg (by omega)]

def markA (src dst : TypeId) (e : TypeId) (b : Nat) (x : AV) (m : M) : Option R := match Nat.beq src dst, P.underlying e, m.blk b with
  | true, some (.int .u8), some _ => some (.val x m)
  | _, _, _ => none

theorem markA_ok {P : Program} {own : Nat → Prop} {lim : Nat} {σ : Map} {m : M} {w : World} (h : Sim own lim σ m w) {src dst e e' : TypeId} {b k sh sz o n c : Nat} {x : AV} {r : R} (hs : P.underlying src = some (.slice e')) (hd : P.underlying dst = some (.slice e)) (hσ : σ b = some (k, sh, sz)) (hx : RelV σ x (.slice (some ⟨k, o, none⟩) n c))
    (he : markA P src dst e b x m = some r) : OpOk P own lim σ m w (do pure (.value (← convert src dst (.slice (some ⟨k, o, none⟩) n c)))) r := by
  unfold markA at he
  split at he
  · rename_i h1 h2 hb
    cases he
    obtain ⟨w', g1, g2, g3⟩ := h.mark (P := P) (o := o) hb hσ
    refine ⟨w', σ, _, .inl ?_, hx, g2, g3⟩
    have := Nat.eq_of_beq_eq_true h1
    subst this
    have : e' = e := by rw [hs] at hd; simpa using hd
    subst this
    unfold convert
    simp only [Sem.run_bind, run_und hd, Result.andThen_ok, beq_self_eq_true, run_und h2, g1, Sem.run_pure]
  · cases he

def convA (src dst : TypeId) (x : AV) (m : M) : Option R := match toVal x with
  | some a => match P.underlying src, P.underlying dst, a with
    | some .string, some (.slice e), .string s => match P.underlying e with
      | some (.int .u8) => some (.val (.su m.nx 0 s.size 1) (newBlk m ((s.data.toList.map fun b => Value.int .u8 b.toNat).map .lit)))
      | _ => none
    | _, _, _ => litOp P (convert src dst a) m
  | none => match P.underlying src, P.underlying dst with
    | some (.slice e), some .string => match P.underlying e, lenA x with
      | some (.int .u8), some n => match firstA 1 n x m with
        | none => none
        | some l => match bytesA l .empty with
          | none => none
          | some s => some (.val (.lit (.string s)) m)
      | _, _ => none
    | some (.slice _), some (.slice e) => match x with
      | .sl b _ _ _ => markA P src dst e b x m
      | .su b _ _ _ => markA P src dst e b x m
      | _ => none
    | _, _ => none

theorem convA_ok {P : Program} {own : Nat → Prop} {lim : Nat} {σ : Map} {m : M} {w : World} (h : Sim own lim σ m w) {src dst : TypeId} {x : AV} {X : Value} (hx : RelV σ x X) {r : R} (e : convA P src dst x m = some r) (hl : outNx r ≤ lim) :
    OpOk P own lim σ m w (do pure (.value (← convert src dst X))) r := by
  unfold convA at e
  split at e
  · rename_i a ha
    have hX := toVal_eq hx ha
    subst hX
    split at e
    · rename_i el s hs hd
      split at e
      · rename_i hu
        cases e
        have hl : m.nx < lim := hl
        let cap := (Question.appendCap s.size 0 el).cut (w.tape w.drawn (.appendCap s.size 0 el))
        have hcap : s.size ≤ cap := Nat.le_add_right _ _
        let C : Array Value := (s.data.map fun b => Value.int .u8 b.toNat) ++ Array.replicate (cap - s.size) (.int .u8 0)
        have hsz : C.size = cap := by
          show ((s.data.map fun b : UInt8 => Value.int .u8 b.toNat) ++ Array.replicate (cap - s.size) (Value.int .u8 0)).size = cap
          rw [Array.size_append, Array.size_map, Array.size_replicate]
          have : s.data.size = s.size := rfl
          omega
        obtain ⟨k1, k2⟩ := h.new (el := el) (fr := (C.size, C.size + 1)) (C := C) (cs := (s.data.toList.map fun b => Value.int .u8 b.toNat).map .lit) hl (by
            intro j v hj
            simp only [List.map_map, List.getElem?_map, Option.map_eq_some_iff, Function.comp] at hj
            obtain ⟨b, hb, rfl⟩ := hj
            have hjs : j < s.data.size := by have := (List.getElem?_eq_some_iff.1 hb).1; simpa using this
            have hjs' : s.data.size = s.size := rfl
            refine ⟨by omega, ?_⟩
            show C.getD j undef = Value.int .u8 b.toNat
            rw [Array.getD_eq_getD_getElem?]
            show (((s.data.map fun b : UInt8 => Value.int .u8 b.toNat) ++ Array.replicate (cap - s.size) (Value.int .u8 0))[j]?).getD undef = Value.int .u8 b.toNat
            rw [Array.getElem?_append_left (by simpa using hjs), Array.getElem?_map]
            have : s.data[j]? = some b := by simpa using hb
            rw [this]; rfl) (.inr (Nat.le_refl _)) { w with drawn := w.drawn + 1, heap := w.heap.push (.cells C el (C.size, C.size + 1)) } rfl rfl rfl rfl
        refine ⟨_, _, .slice (some ⟨w.heap.size, 0, none⟩) s.size cap, .inl ?_, ⟨w.heap.size, 0, C.size, cap, by simp [setσ], hcap, by omega, by simp⟩, k1, k2⟩
        unfold convert
        simp only [Sem.run_bind, run_und hs, run_und hd, run_und hu, Result.andThen_ok]
        unfold Conv.stringToBytes
        simp only [Sem.run_bind, run_choose, Question.forced, Bool.false_eq_true, if_false, Result.andThen_ok, newRow, run_newObj, Sem.run_pure, markStringish, run_shape, World.shape?]
        rw [Array.getElem?_push_size]
        simp only [run_freeze, Result.andThen_ok, World.freeze, Nat.one_ne_zero, if_false]
        have hheap : (w.heap.push (Obj.cells C el)).modify w.heap.size (fun o => match o with
            | .cells c elem (lo, hi) => .cells c elem (if (lo == hi) = true then (C.size, C.size + 1) else (min lo C.size, max hi (C.size + 1)))
            | o => o) = w.heap.push (Obj.cells C el (C.size, C.size + 1)) := by
          apply Array.ext_getElem?
          intro j
          rw [Array.getElem?_modify, Array.getElem?_push, Array.getElem?_push]
          by_cases hj : w.heap.size = j
          · subst hj; simp
          · rw [if_neg hj, if_neg (by omega), if_neg (by omega)]
        exact congrArg (fun hp => Result.ok (Next.value (Value.slice (some ⟨w.heap.size, 0, none⟩) s.size cap)) { w with drawn := w.drawn + 1, heap := hp }) hheap
      · cases e
    · exact litOp_ok h e
  · rename_i ha
    split at e
    · rename_i el hs hd
      split at e
      · rename_i n hu hn
        split at e
        · cases e
        rename_i l hl'
        split at e
        · cases e
        rename_i s hb
        cases e
        refine OpOk.val0 (V := .string s) h ?_ rfl
        obtain ⟨L, g1, g2⟩ := firstA_run (P := P) h hx hl'
        have hb' := bytesA_run (P := P) (w := w) g2 hb
        unfold convert
        simp only [Sem.run_bind, run_und hs, run_und hd, Result.andThen_ok]
        cases x <;> simp only [lenA, toVal] at hn ha
        case lit v => cases ha
        case ptr => cases hn
        case agg => cases hn
        case tup => cases hn
        case fn => cases hn
        case sl =>
          simp only [RelV] at hx
          obtain ⟨k, sh, sz, e1, rfl⟩ := hx
          cases hn
          simp only [Builtin.firstCells, Nat.mul_one] at g1
          simp only [Sem.run_bind, run_und hu, Result.andThen_ok, Conv.bytesToString, g1, ← Array.forIn_toList, Sem.run_pure]
          exact congrArg (fun r : Result ByteArray => (r.andThen fun a w' => Result.ok (Value.string a) w').andThen fun a w' => Result.ok (Next.value a) w') hb'
        case su =>
          simp only [RelV] at hx
          obtain ⟨k, sh, sz, c, e1, _, _, rfl⟩ := hx
          cases hn
          simp only [Builtin.firstCells, Nat.mul_one] at g1
          simp only [Sem.run_bind, run_und hu, Result.andThen_ok, Conv.bytesToString, g1, ← Array.forIn_toList, Sem.run_pure]
          exact congrArg (fun r : Result ByteArray => (r.andThen fun a w' => Result.ok (Value.string a) w').andThen fun a w' => Result.ok (Next.value a) w') hb'
        case se =>
          simp only [RelV] at hx
          obtain ⟨k, o, c, rfl⟩ := hx
          cases hn
          simp only [Builtin.firstCells, Nat.mul_one] at g1
          simp only [Sem.run_bind, run_und hu, Result.andThen_ok, Conv.bytesToString, g1, ← Array.forIn_toList, Sem.run_pure]
          exact congrArg (fun r : Result ByteArray => (r.andThen fun a w' => Result.ok (Value.string a) w').andThen fun a w' => Result.ok (Next.value a) w') hb'
      · cases e
    · rename_i el' el hs hd
      split at e
      · rename_i b o n c
        have hx' := hx
        simp only [RelV] at hx
        obtain ⟨k, sh, sz, e1, rfl⟩ := hx
        exact markA_ok h hs hd e1 hx' e
      · rename_i b o n es
        have hx' := hx
        simp only [RelV] at hx
        obtain ⟨k, sh, sz, c, e1, _, _, rfl⟩ := hx
        exact markA_ok h hs hd e1 hx' e
      · cases e
    · cases e

/- all of them -/
def constsOf (as : Array Operand) : Array Bool := as.map fun | .const _ => true | _ => false

def litNext (s : Sem Next) (m : M) : Option R := match pure? P s with
  | some (.value v) => some (.val (.lit v) m)
  | _ => none

theorem litNext_ok {P : Program} {own : Nat → Prop} {lim : Nat} {σ : Map} {m : M} {w : World} (h : Sim own lim σ m w) {s : Sem Next} {r : R} (e : litNext P s m = some r) : OpOk P own lim σ m w s r := by
  unfold litNext at e
  split at e
  · rename_i v hv
    cases e
    exact OpOk.val0 h (pure?_run w hv) (show RelV σ (.lit v) v from rfl)
  · cases e

def builtinA (b : Builtin) (c : Call) (ty : TypeId) (args : List AV) (m : M) : Option R := match toVals args with
  | some vs => match litNext P (builtin b c.argTypes ty (constsOf c.args) ⟨vs⟩) m with
    | some r => some r
    | none => match b, args with
      | .append, [s, x] => appendA P c.argTypes s x m
      | .copy, [d, s] => copyA P c.argTypes d s m
      | _, _ => none
  | none => match b, args with
    | .append, [s, x] => appendA P c.argTypes s x m
    | .copy, [d, s] => copyA P c.argTypes d s m
    | .len, [x] => lenOpA P c.argTypes x m
    | .cap, [x] => capOpA P c.argTypes x m
    | _, _ => none

theorem list2 {σ : Map} {a b : AV} {L : Array Value} (h : RelL σ [a, b] L.toList) : ∃ A B, L = #[A, B] ∧ RelV σ a A ∧ RelV σ b B := by
  simp only [RelL] at h
  obtain ⟨A, l, e, hA, B, l', e', hB, e''⟩ := h
  subst e''; subst e'
  refine ⟨A, B, ?_, hA, hB⟩
  rw [← Array.toArray_toList (xs := L), e]
theorem list1 {σ : Map} {a : AV} {L : Array Value} (h : RelL σ [a] L.toList) : ∃ A, L = #[A] ∧ RelV σ a A := by
  simp only [RelL] at h
  obtain ⟨A, l, e, hA, e''⟩ := h
  subst e''
  refine ⟨A, ?_, hA⟩
  rw [← Array.toArray_toList (xs := L), e]

theorem builtinA_ok {P : Program} {own : Nat → Prop} {lim : Nat} {σ : Map} {m : M} {w : World} (h : Sim own lim σ m w) {b : Builtin} {c : Call} {ty : TypeId} {args : List AV} {Args : Array Value} (ha : RelL σ args Args.toList) {r : R} (e : builtinA P b c ty args m = some r) (hl : outNx r ≤ lim) :
    OpOk P own lim σ m w (builtin b c.argTypes ty (constsOf c.args) Args) r := by
  have rest : ∀ {b : Builtin} {args : List AV} {r : R}, RelL σ args Args.toList → outNx r ≤ lim → (match b, args with
      | .append, [s, x] => appendA P c.argTypes s x m
      | .copy, [d, s] => copyA P c.argTypes d s m
      | _, _ => none) = some r → OpOk P own lim σ m w (builtin b c.argTypes ty (constsOf c.args) Args) r := by
    intro b args r ha hl e
    split at e
    · obtain ⟨A, B, rfl, hA, hB⟩ := list2 ha
      exact appendA_ok h hA hB e hl
    · obtain ⟨A, B, rfl, hA, hB⟩ := list2 ha
      exact copyA_ok h hA hB e
    · cases e
  unfold builtinA at e
  split at e
  · rename_i vs hvs
    split at e
    · rename_i r' hr
      cases e
      have := toVals_eq ha hvs
      have hA : Args = ⟨vs⟩ := by rw [← this]
      rw [hA]
      exact litNext_ok h hr
    · exact rest ha hl e
  · split at e
    · obtain ⟨A, B, rfl, hA, hB⟩ := list2 ha
      exact appendA_ok h hA hB e hl
    · obtain ⟨A, B, rfl, hA, hB⟩ := list2 ha
      exact copyA_ok h hA hB e
    · obtain ⟨A, rfl, hA⟩ := list1 ha
      exact lenOpA_ok h hA e
    · obtain ⟨A, rfl, hA⟩ := list1 ha
      exact capOpA_ok h hA e
    · cases e

def opndO (t : T AV) : Option Operand → Option (Option AV)
  | none => some none
  | some x => match opnd t x with
    | none => none
    | some v => some (some v)

theorem opndO_ok {σ : Map} {t : T AV} {a : Act} (h : Slots σ t a) {x : Option Operand} {v : Option AV} (e : opndO t x = some v) : OptRel σ v (x.map a.eval) := by
  unfold opndO at e
  split at e
  · cases e; exact .none
  · split at e
    · cases e
    · rename_i u hu
      cases e
      exact .some (h.opnd hu)

def opA (t : T AV) (m : M) (o : Oper) : Option R := match o.op with
  | .move x => match opnd t x with | none => none | some v => some (.val v m)
  | .assign x => match opnd t x with | none => none | some v => some (.val v m)
  | .pick c a b => match opnd t c with
    | some (.lit (.bool true)) => match opnd t a with | none => none | some v => some (.val v m)
    | some (.lit (.bool false)) => match opnd t b with | none => none | some v => some (.val v m)
    | _ => none
  | .alloc el => allocA P el m
  | .box _ x => match opnd t x with | none => none | some v => some (newA m (cellsA v))
  | .build ty ps => match opndsP t ps.toList with | none => none | some l => buildA P ty l m
  | .buildSlice ty n ps => match opndsP t ps.toList with | none => none | some l => buildSliceA P ty n l m
  | .load ty x => match opnd t x with | none => none | some v => loadA P ty v m
  | .store ty x y => match opnd t x, opnd t y with | some a, some b => storeA P ty a b m | _, _ => none
  | .nilCheck x => match opnd t x with | none => none | some v => nilCheckA v m
  | .binOp op ty x y _ => match opnd t x, opnd t y with | some a, some b => binA P op ty x y a b m | _, _ => none
  | .unOp op _ x => match opnd t x with | some (.lit v) => litOp P (Op.unary op v) m | _ => none
  | .convert s d x => match opnd t x with | none => none | some v => convA P s d v m
  | .makeFunc fn first cap => match opnds t first.toList, opnds t cap.toList with | some a, some b => some (.val (.fn fn a b) m) | _, _ => none
  | .makeSlice ty x y => match opnd t x, opnd t y with | some a, some b => makeA P ty a b m | _, _ => none
  | .slice ty x lo hi mx => match opnd t x, opndO t lo, opndO t hi, opndO t mx with
    | some a, some l, some h, some k => match a, l, h, k with
      | .lit v, none, none, none => litOp P (Instr.sliceAt ty v none none none) m
      | .lit v, some (.lit l), none, none => litOp P (Instr.sliceAt ty v (some l) none none) m
      | .lit v, none, some (.lit h), none => litOp P (Instr.sliceAt ty v none (some h) none) m
      | .lit v, some (.lit l), some (.lit h), none => litOp P (Instr.sliceAt ty v (some l) (some h) none) m
      | .lit v, none, some (.lit h), some (.lit k) => litOp P (Instr.sliceAt ty v none (some h) (some k)) m
      | .lit v, some (.lit l), some (.lit h), some (.lit k) => litOp P (Instr.sliceAt ty v (some l) (some h) (some k)) m
      | a, l, h, k => sliceA P ty a l h k m
    | _, _, _, _ => none
  | .fieldAddr s x f => match opnd t x with | none => none | some v => fieldAddrA P s v f m
  | .field s x f => match opnd t x with | none => none | some v => fieldA P s v f m
  | .indexAddr ty x i => match opnd t x, opnd t i with | some a, some b => indexAddrA P ty a b m | _, _ => none
  | .index ty x i => match opnd t x, opnd t i with | some a, some b => indexA P ty a b m | _, _ => none
  | .extract x i => match opnd t x with | none => none | some v => extractA v i m
  | .call c => match c.callee, opnds t c.args.toList with
    | .value f, some args => match opnd t f with
      | some (.fn (.func g) first cap) => match callOk P g with
        | true => some (.enter g (first ++ args ++ cap) m)
        | false => none
      | _ => none
    | .builtin b, some args => builtinA P b c o.type args m
    | _, _ => none
  | _ => none

theorem opA_ok {P : Program} {own : Nat → Prop} {lim : Nat} {σ : Map} {m : M} {w : World} {t : T AV} {a : Act} {o : Oper} (h : Sim own lim σ m w) (hs : Slots σ t a) {r : R} (e : opA P t m o = some r) (hl : outNx r ≤ lim) :
    OpOk P own lim σ m w (execOp a.eval o) r := by
  have hmove : ∀ {x : Operand} {r : R}, (match opnd t x with | none => none | some v => some (R.val v m)) = some r → OpOk P own lim σ m w (pure (.value (a.eval x))) r := by
    intro x r e
    split at e
    · cases e
    · rename_i v hv
      cases e
      exact OpOk.val0 h rfl (hs.opnd hv)
  unfold opA at e
  unfold execOp
  split at e <;> rename_i hop <;> try cases e
  case h_1 x => rw [hop]; exact hmove e
  case h_2 x => rw [hop]; exact hmove e
  case h_3 c x y =>
    rw [hop]
    split at e
    · rename_i hc
      have := hs.opnd hc
      simp only [RelV] at this
      simp only [this, asBool]
      split at e
      · cases e
      · rename_i v hv
        cases e
        exact OpOk.val0 h rfl (hs.opnd hv)
    · rename_i hc
      have := hs.opnd hc
      simp only [RelV] at this
      simp only [this, asBool]
      split at e
      · cases e
      · rename_i v hv
        cases e
        exact OpOk.val0 h rfl (hs.opnd hv)
    · cases e
  case h_4 el => rw [hop]; exact allocA_ok h e hl
  case h_5 el x =>
    rw [hop]
    split at e
    · cases e
    · rename_i v hv
      cases e
      exact boxA_ok h (hs.opnd hv) (show m.nx < lim from hl)
  case h_6 ty ps =>
    rw [hop]
    split at e
    · cases e
    · rename_i l hl'
      obtain ⟨h1, h2⟩ := opndsP_ok hs hl'
      exact buildA_ok h e (by simpa using h1) (by simpa using h2)
  case h_7 ty n ps =>
    rw [hop]
    split at e
    · cases e
    · rename_i l hl'
      obtain ⟨h1, h2⟩ := opndsP_ok hs hl'
      exact buildSliceA_ok h e (by simpa using h1) (by simpa using h2) hl
  case h_8 ty x =>
    rw [hop]
    split at e
    · cases e
    · rename_i v hv
      exact loadA_ok h (hs.opnd hv) e
  case h_9 ty x y =>
    rw [hop]
    split at e
    · rename_i u v hu hv
      exact storeA_ok h (hs.opnd hu) (hs.opnd hv) e
    · cases e
  case h_10 x =>
    split at e
    · cases e
    · rename_i v hv
      have := nilCheckA_ok (P := P) h hop (hs.opnd hv) e
      unfold execOp at this
      exact this
  case h_11 op ty x y yt =>
    rw [hop]
    split at e
    · rename_i u v hu hv
      exact binA_ok h (hs.opnd hu) (hs.opnd hv) e
    · cases e
  case h_12 op ty x =>
    rw [hop]
    split at e
    · rename_i v hv
      have := hs.opnd hv
      simp only [RelV] at this
      dsimp only
      rw [this]
      exact litOp_ok h e
    · cases e
  case h_13 s d x =>
    rw [hop]
    split at e
    · cases e
    · rename_i v hv
      exact convA_ok h (hs.opnd hv) e hl
  case h_14 fn first cap =>
    rw [hop]
    split at e
    · rename_i u v hu hv
      cases e
      refine OpOk.val0 (V := .func fn (first.map a.eval) (cap.map a.eval)) h rfl ⟨_, _, rfl, ?_, ?_⟩
      · simpa using opnds_ok hs hu
      · simpa using opnds_ok hs hv
    · cases e
  case h_15 ty x y =>
    rw [hop]
    split at e
    · rename_i u v hu hv
      exact makeA_ok h (hs.opnd hu) (hs.opnd hv) e hl
    · cases e
  case h_16 ty x lo hi mx =>
    rw [hop]
    split at e
    · rename_i u l hh k hu hlo hhi hmx
      have r0 := hs.opnd hu
      have r1 := opndO_ok hs hlo
      have r2 := opndO_ok hs hhi
      have r3 := opndO_ok hs hmx
      dsimp only
      generalize lo.map a.eval = Lo at r1 ⊢
      generalize hi.map a.eval = Hi at r2 ⊢
      generalize mx.map a.eval = Mx at r3 ⊢
      generalize a.eval x = X at r0 ⊢
      split at e
      case h_7 => exact sliceA_ok h r0 r1 r2 r3 e
      all_goals (cases r1; cases r2; cases r3; simp only [RelV] at *; subst_vars; exact litOp_ok h e)
    · cases e
  case h_17 s x f =>
    rw [hop]
    split at e
    · cases e
    · rename_i v hv
      exact fieldAddrA_ok h (hs.opnd hv) e
  case h_18 s x f =>
    rw [hop]
    split at e
    · cases e
    · rename_i v hv
      exact fieldA_ok h (hs.opnd hv) e
  case h_19 ty x i =>
    rw [hop]
    split at e
    · rename_i u v hu hv
      exact indexAddrA_ok h (hs.opnd hu) (hs.opnd hv) e
    · cases e
  case h_20 ty x i =>
    rw [hop]
    split at e
    · rename_i u v hu hv
      exact indexA_ok h (hs.opnd hu) (hs.opnd hv) e
    · cases e
  case h_21 x i =>
    rw [hop]
    split at e
    · cases e
    · rename_i v hv
      exact extractA_ok h (hs.opnd hv) e
  case h_22 c =>
    rw [hop]
    split at e
    · rename_i f args hf ha
      split at e
      · rename_i g first cap hg
        split at e
        · rename_i hc
          cases e
          have r0 := hs.opnd hg
          simp only [RelV] at r0
          obtain ⟨vs, us, r0, r1, r2⟩ := r0
          have r3 := opnds_ok hs ha
          refine ⟨rfl, vs ++ c.args.map a.eval ++ us, ?_, ?_⟩
          · unfold resolve
            simp only [hf, r0, Deferred.ofValue, Sem.run_bind, Sem.run_pure, Result.andThen_ok, invoke, callFunc_run hc]
          · simp only [Array.toList_append, Array.toList_map]
            exact (r1.append r3).append r2
        · cases e
      · cases e
    · rename_i b args hf ha
      have r3 := opnds_ok hs ha
      have : (do let d ← resolve a.eval c o.type; invoke d.target d.args : Sem Next) = builtin b c.argTypes o.type (constsOf c.args) (c.args.map a.eval) := by
        unfold resolve
        simp only [hf]
        rfl
      dsimp only
      rw [this]
      exact builtinA_ok h (by simpa using r3) e hl
    · cases e
end ops
end
end Ev
end Go.Proofs.YtggfhklokfcplaaGreat
