/- The evaluator once more, written so that the kernel reckons it fast; it is the same. No program is named here. -/
import Derived.Test.YtggfhklokfcplaaGreatEvL
namespace Go.Proofs.YtggfhklokfcplaaGreat
open Go.RowKit
namespace Ev
noncomputable section

/- numbers that are there already -/
def frcN {β : Type} (n : Nat) (k : Nat → β) : β := Nat.rec (motive := fun _ => β) (k 0) (fun n _ => k (Nat.succ n)) n
theorem frcN_eq {β : Type} (n : Nat) (k : Nat → β) : frcN n k = k n := by cases n <;> rfl

def onB {β : Type} (b : Bool) (t f : β) : β := Bool.rec (motive := fun _ => β) f t b

/- fast arithmetic of small numbers -/
def maxN (k : IntKind) : Nat := IntKind.rec (motive := fun _ => Nat) 127 32767 2147483647 9223372036854775807 255 65535 4294967295 18446744073709551615 k

theorem maxN_eq (k : IntKind) : (maxN k : Int) = k.max := by cases k <;> decide
theorem wrap_small {k : IntKind} {n : Nat} (h : n ≤ maxN k) : k.wrap (n : Int) = n := by
  cases k <;> simp only [maxN] at h <;> simp [IntKind.wrap, IntKind.bits, IntKind.signed] <;> omega

def fitN (k : IntKind) (n : Nat) : Option Value := onB (Nat.ble n (maxN k)) (some (.int k (.ofNat n))) none

def fAdd (k : IntKind) (a b : Nat) : Option Value := frcN (Nat.add a b) (fitN k)
def fSub (k : IntKind) (a b : Nat) : Option Value := onB (Nat.ble b a) (frcN (Nat.sub a b) (fitN k)) none
def fMul (k : IntKind) (a b : Nat) : Option Value := frcN (Nat.mul a b) (fitN k)
def fQuo (k : IntKind) (a b : Nat) : Option Value := onB (Nat.beq b 0) none (frcN (Nat.div a b) (fitN k))
def fRem (k : IntKind) (a b : Nat) : Option Value := onB (Nat.beq b 0) none (frcN (Nat.mod a b) (fun n => some (.int k (.ofNat n))))
def fAnd (k : IntKind) (a b : Nat) : Option Value := onB (Nat.ble a (maxN k)) (onB (Nat.ble b (maxN k)) (frcN (Nat.land a b) (fitN k)) none) none
def fOr (k : IntKind) (a b : Nat) : Option Value := onB (Nat.ble a (maxN k)) (onB (Nat.ble b (maxN k)) (frcN (Nat.lor a b) (fitN k)) none) none
def fNo (_k : IntKind) (_a _b : Nat) : Option Value := none
def fBool (b : Bool) : Option Value := onB b (some (.bool true)) (some (.bool false))
def fEql (_k : IntKind) (a b : Nat) : Option Value := fBool (Nat.beq a b)
def fNeq (_k : IntKind) (a b : Nat) : Option Value := onB (Nat.beq a b) (some (.bool false)) (some (.bool true))
def fLss (_k : IntKind) (a b : Nat) : Option Value := fBool (Nat.blt a b)
def fLeq (_k : IntKind) (a b : Nat) : Option Value := fBool (Nat.ble a b)
def fGtr (_k : IntKind) (a b : Nat) : Option Value := fBool (Nat.blt b a)
def fGeq (_k : IntKind) (a b : Nat) : Option Value := fBool (Nat.ble b a)
def fOp (op : BinOp) : IntKind → Nat → Nat → Option Value :=
  BinOp.rec (motive := fun _ => IntKind → Nat → Nat → Option Value) fAdd fSub fMul fQuo fRem fAnd fOr fNo fNo fNo fNo fEql fNeq fLss fLeq fGtr fGeq op

theorem fitN_eq {k : IntKind} {n : Nat} {v : Value} (h : fitN k n = some v) : n ≤ maxN k ∧ v = .int k n := by
  unfold fitN onB at h
  cases hb : Nat.ble n (maxN k) <;> rw [hb] at h <;> simp only [reduceCtorEq, Option.some.injEq] at h
  exact ⟨Nat.le_of_ble_eq_true hb, h.symm⟩

theorem onB_none {β : Type} {b : Bool} {x : Option β} {v : β} (h : onB b x none = some v) : b = true ∧ x = some v := by
  cases b
  · simp [onB] at h
  · exact ⟨rfl, h⟩
theorem onB_none' {β : Type} {b : Bool} {x : Option β} {v : β} (h : onB b none x = some v) : b = false ∧ x = some v := by
  cases b
  · exact ⟨rfl, h⟩
  · simp [onB] at h
theorem fBool_eq {b : Bool} {v : Value} (h : fBool b = some v) : v = .bool b := by
  cases b <;> simp only [fBool, onB, Option.some.injEq] at h <;> exact h.symm

theorem guard_int {P : Program} (op : BinOp) (t : TypeId) (x y : Operand) (k k' : IntKind) (a b : Int) : pure? P (do eqGuard op t x y (.int k a) (.int k' b); binOp op t (.int k a) (.int k' b)) = pure? P (binOp op t (.int k a) (.int k' b)) := by
  cases op <;> rfl

theorem maxN_lt (k : IntKind) : maxN k < 2 ^ k.bits := by cases k <;> decide

theorem bits_small {k : IntKind} {n : Nat} (h : n ≤ maxN k) : (BitVec.ofInt k.bits (n : Int)).toNat = n := by
  have := maxN_lt k
  rw [BitVec.ofInt_natCast, BitVec.toNat_ofNat, Nat.mod_eq_of_lt (by omega)]

theorem fOp_eq {P : Program} {op : BinOp} {t : TypeId} {x y : Operand} {k : IntKind} {a b : Nat} {v : Value} (h : fOp op k a b = some v) : pure? P (do eqGuard op t x y (.int k (a : Int)) (.int k (b : Int)); binOp op t (.int k (a : Int)) (.int k (b : Int))) = some v := by
  rw [guard_int]
  cases op <;> simp only [fOp, fNo, reduceCtorEq] at h <;> simp only [binOp, ne_eq, not_true_eq_false, if_false]
  · simp only [fAdd, frcN_eq] at h
    obtain ⟨h1, rfl⟩ := fitN_eq h
    have : (a : Int) + (b : Int) = ((Nat.add a b : Nat) : Int) := by simp
    simp only [Op.intArith, this, wrap_small h1]; rfl
  · simp only [fSub, frcN_eq] at h
    obtain ⟨h0, h⟩ := onB_none h
    obtain ⟨h1, rfl⟩ := fitN_eq h
    have h0 := Nat.le_of_ble_eq_true h0
    have : (a : Int) - (b : Int) = ((Nat.sub a b : Nat) : Int) := by show (a : Int) - b = ((a - b : Nat) : Int); omega
    simp only [Op.intArith, this, wrap_small h1]; rfl
  · simp only [fMul, frcN_eq] at h
    obtain ⟨h1, rfl⟩ := fitN_eq h
    have : (a : Int) * (b : Int) = ((Nat.mul a b : Nat) : Int) := by simp
    simp only [Op.intArith, this, wrap_small h1]; rfl
  · simp only [fQuo, frcN_eq] at h
    obtain ⟨h0, h⟩ := onB_none' h
    obtain ⟨h1, rfl⟩ := fitN_eq h
    have h0 := Nat.ne_of_beq_eq_false h0
    have h0' : ¬ (b : Int) = 0 := by omega
    have : (a : Int).tdiv (b : Int) = ((Nat.div a b : Nat) : Int) := rfl
    simp only [Op.intDiv, if_neg h0', this, wrap_small h1]; rfl
  · simp only [fRem, frcN_eq] at h
    obtain ⟨h0, h⟩ := onB_none' h
    cases h
    have h0 := Nat.ne_of_beq_eq_false h0
    have h0' : ¬ (b : Int) = 0 := by omega
    have : (a : Int).tmod (b : Int) = ((Nat.mod a b : Nat) : Int) := rfl
    simp only [Op.intDiv, if_neg h0', this]; rfl
  · simp only [fAnd, frcN_eq] at h
    obtain ⟨g1, h⟩ := onB_none h
    obtain ⟨g2, h⟩ := onB_none h
    obtain ⟨h1, rfl⟩ := fitN_eq h
    have g1 := Nat.le_of_ble_eq_true g1
    have g2 := Nat.le_of_ble_eq_true g2
    have : (BitVec.ofInt k.bits (a : Int) &&& BitVec.ofInt k.bits (b : Int)).toNat = Nat.land a b := by
      rw [BitVec.toNat_and, bits_small g1, bits_small g2]; rfl
    simp only [Op.intBits, this, wrap_small h1]; rfl
  · simp only [fOr, frcN_eq] at h
    obtain ⟨g1, h⟩ := onB_none h
    obtain ⟨g2, h⟩ := onB_none h
    obtain ⟨h1, rfl⟩ := fitN_eq h
    have g1 := Nat.le_of_ble_eq_true g1
    have g2 := Nat.le_of_ble_eq_true g2
    have : (BitVec.ofInt k.bits (a : Int) ||| BitVec.ofInt k.bits (b : Int)).toNat = Nat.lor a b := by
      rw [BitVec.toNat_or, bits_small g1, bits_small g2]; rfl
    simp only [Op.intBits, this, wrap_small h1]; rfl
  · simp only [fEql] at h
    rw [fBool_eq h]
    simp only [Op.intCmp]
    show some (Value.bool ((a : Int) == (b : Int))) = some (.bool (Nat.beq a b))
    congr 2
    by_cases e : a = b
    · subst e; simp
    · have : Nat.beq a b = false := by cases hq : Nat.beq a b with
        | false => rfl
        | true => exact absurd (Nat.eq_of_beq_eq_true hq) e
      rw [this]; simp; omega
  · simp only [fNeq] at h
    simp only [Op.intCmp]
    by_cases e : a = b
    · subst e
      have : Nat.beq a a = true := Nat.beq_refl a
      rw [this] at h
      simp only [onB, Option.some.injEq] at h
      subst h
      show some (Value.bool ((a : Int) != (a : Int))) = _
      simp
    · have : Nat.beq a b = false := by cases hq : Nat.beq a b with
        | false => rfl
        | true => exact absurd (Nat.eq_of_beq_eq_true hq) e
      rw [this] at h
      simp only [onB, Option.some.injEq] at h
      subst h
      show some (Value.bool ((a : Int) != (b : Int))) = _
      congr 2
      simp; omega
  · simp only [fLss] at h
    rw [fBool_eq h]
    simp only [Op.intCmp]
    show some (Value.bool (decide ((a : Int) < (b : Int)))) = _
    congr 2
    rw [Bool.eq_iff_iff]; simp [Nat.blt_eq]
  · simp only [fLeq] at h
    rw [fBool_eq h]
    simp only [Op.intCmp]
    show some (Value.bool (decide ((a : Int) ≤ (b : Int)))) = _
    congr 2
    rw [Bool.eq_iff_iff]; simp [Nat.ble_eq]
  · simp only [fGtr] at h
    rw [fBool_eq h]
    simp only [Op.intCmp]
    show some (Value.bool (decide ((a : Int) > (b : Int)))) = _
    congr 2
    rw [Bool.eq_iff_iff]; simp [Nat.blt_eq]
  · simp only [fGeq] at h
    rw [fBool_eq h]
    simp only [Op.intCmp]
    show some (Value.bool (decide ((a : Int) ≥ (b : Int)))) = _
    congr 2
    rw [Bool.eq_iff_iff]; simp [Nat.ble_eq]

def litNat {β : Type} (v : AV) (yes : IntKind → Nat → β) (no : β) : β := match v with
  | .lit (.int k (.ofNat a)) => yes k a
  | _ => no

def kN (k : IntKind) : Nat := IntKind.rec (motive := fun _ => Nat) 0 1 2 3 4 5 6 7 k
theorem kN_inj {k k' : IntKind} (h : Nat.beq (kN k) (kN k') = true) : k = k' := by
  have := Nat.eq_of_beq_eq_true h
  revert this; cases k <;> cases k' <;> simp [kN]

def orV (v : Option Value) (m : M) (no : Option R) : Option R := match v with
  | some v => some (.val (.lit v) m)
  | none => no
def binI (op : BinOp) (m : M) (no : Option R) (k : IntKind) (a : Nat) (k' : IntKind) (b : Nat) : Option R := onB (Nat.beq (kN k) (kN k')) (orV (fOp op k a b) m no) no
def binII (op : BinOp) (m : M) (no : Option R) (y : AV) (k : IntKind) (a : Nat) : Option R := litNat y (binI op m no k a) no
def binF (P : Program) (op : BinOp) (t : TypeId) (xo yo : Operand) (x y : AV) (m : M) : Option R := litNat x (binII op m (binA P op t xo yo x y m) y) (binA P op t xo yo x y m)

theorem binF_eq (P : Program) (op : BinOp) (t : TypeId) (xo yo : Operand) (x y : AV) (m : M) : binF P op t xo yo x y m = binA P op t xo yo x y m := by
  unfold binF litNat
  split
  · rename_i k a
    unfold binII litNat
    split
    · rename_i k' b
      unfold binI
      cases hk : Nat.beq (kN k) (kN k')
      · rfl
      · have := kN_inj hk
        subst this
        show orV (fOp op k a b) m _ = _
        cases hf : fOp op k a b with
        | none => rfl
        | some v =>
          have := fOp_eq (P := P) (t := t) (x := xo) (y := yo) hf
          show some (R.val (.lit v) m) = _
          unfold binA
          simp only [toVal, litOp]
          have h2 : pure? P (do eqGuard op t xo yo (.int k (Int.ofNat a)) (.int k (Int.ofNat b)); binOp op t (.int k (Int.ofNat a)) (.int k (Int.ofNat b))) = some v := this
          rw [h2]
    · rfl
  · rfl

/- the operations, told apart at one stroke -/
abbrev HT := Program → T AV → M → Oper → Option R
def hNo : HT := fun _ _ _ _ => none
def hNo1 {α : Type} (_ : α) : HT := hNo
def hNo2 {α β : Type} (_ : α) (_ : β) : HT := hNo
def hNo3 {α β γ : Type} (_ : α) (_ : β) (_ : γ) : HT := hNo
def hNo4 {α β γ δ : Type} (_ : α) (_ : β) (_ : γ) (_ : δ) : HT := hNo
def hMove (x : Operand) : HT := fun _ t m _ => match opnd t x with | none => none | some v => some (.val v m)
def hPick (c a b : Operand) : HT := fun _ t m _ => match opnd t c with
    | some (.lit (.bool true)) => match opnd t a with | none => none | some v => some (.val v m)
    | some (.lit (.bool false)) => match opnd t b with | none => none | some v => some (.val v m)
    | _ => none
def hAlloc (el : TypeId) : HT := fun P _ m _ => allocA P el m
def hBox (_el : TypeId) (x : Operand) : HT := fun _ t m _ => match opnd t x with | none => none | some v => some (newA m (cellsA v))
def hBuild (ty : TypeId) (ps : Array (Nat × Operand)) : HT := fun P t m _ => match opndsP t ps.toList with | none => none | some l => buildA P ty l m
def hBuildSlice (ty : TypeId) (n : Nat) (ps : Array (Nat × Operand)) : HT := fun P t m _ => match opndsP t ps.toList with | none => none | some l => buildSliceA P ty n l m
def hLoad (ty : TypeId) (x : Operand) : HT := fun P t m _ => match opnd t x with | none => none | some v => loadA P ty v m
def hStore (ty : TypeId) (x y : Operand) : HT := fun P t m _ => match opnd t x, opnd t y with | some a, some b => storeA P ty a b m | _, _ => none
def hNilCheck (x : Operand) : HT := fun _ t m _ => match opnd t x with | none => none | some v => nilCheckA v m
def hBin (op : BinOp) (ty : TypeId) (x y : Operand) (_ : TypeId) : HT := fun P t m _ => match opnd t x, opnd t y with | some a, some b => binF P op ty x y a b m | _, _ => none
def hUn (op : UnOp) (_ : TypeId) (x : Operand) : HT := fun P t m _ => match opnd t x with | some (.lit v) => litOp P (Op.unary op v) m | _ => none
def hConv (s d : TypeId) (x : Operand) : HT := fun P t m _ => match opnd t x with | none => none | some v => convA P s d v m
def hFunc (fn : Fn) (first cap : Array Operand) : HT := fun _ t m _ => match opnds t first.toList, opnds t cap.toList with | some a, some b => some (.val (.fn fn a b) m) | _, _ => none
def hMake (ty : TypeId) (x y : Operand) : HT := fun P t m _ => match opnd t x, opnd t y with | some a, some b => makeA P ty a b m | _, _ => none
def hSlice (_ : TypeId) (_ : Operand) (_ _ _ : Option Operand) : HT := fun P t m o => opA P t m o
def hFieldAddr (s : TypeId) (x : Operand) (f : Nat) : HT := fun P t m _ => match opnd t x with | none => none | some v => fieldAddrA P s v f m
def hField (s : TypeId) (x : Operand) (f : Nat) : HT := fun P t m _ => match opnd t x with | none => none | some v => fieldA P s v f m
def hIndexAddr (ty : TypeId) (x i : Operand) : HT := fun P t m _ => match opnd t x, opnd t i with | some a, some b => indexAddrA P ty a b m | _, _ => none
def hIndex (ty : TypeId) (x i : Operand) : HT := fun P t m _ => match opnd t x, opnd t i with | some a, some b => indexA P ty a b m | _, _ => none
def hExtract (x : Operand) (i : Nat) : HT := fun _ t m _ => match opnd t x with | none => none | some v => extractA v i m
def hCall (c : Call) : HT := fun P t m o => match c.callee, opnds t c.args.toList with
    | .value f, some args => match opnd t f with
      | some (.fn (.func g) first cap) => match callOk P g with
        | true => some (.enter g (first ++ args ++ cap) m)
        | false => none
      | _ => none
    | .builtin b, some args => builtinA P b c o.type args m
    | _, _ => none

def opF (op : Op) : HT := Op.rec (motive := fun _ => HT) hMove hMove hPick hAlloc hBox hBuild hBuildSlice hNo4 hLoad hStore hNo1 hNo1 hNilCheck hBin hUn hConv hNo2 hNo2 hFunc hNo2 hNo2 hMake hSlice hFieldAddr hField hIndexAddr hIndex hNo4 hNo4 hNo3 hNo4 hNo2 hNo2 hNo1 hNo4 hExtract hCall hNo1 hNo1 hNo1 hNo2 hNo3 hNo2 op

theorem opF_eq (P : Program) (t : T AV) (m : M) (o : Oper) : opF o.op P t m o = opA P t m o := by
  obtain ⟨dst, op, tt, pos, after, guard⟩ := o
  cases op
  case binOp op ty x y ty' =>
    show hBin op ty x y ty' P t m ⟨dst, .binOp op ty x y ty', tt, pos, after, guard⟩ = _
    unfold hBin opA
    simp only [binF_eq]
    rfl
  all_goals rfl

/- what is kept is there already -/
def frcV {β : Type} (v : AV) (k : AV → β) : β := match v with
  | .lit (.int i (.ofNat n)) => frcN n fun n => k (.lit (.int i (.ofNat n)))
  | .lit (.bool b) => onB b (k (.lit (.bool true))) (k (.lit (.bool false)))
  | .ptr b o => frcN b fun b => frcN o fun o => k (.ptr b o)
  | .sl b o n c => frcN b fun b => frcN o fun o => frcN n fun n => frcN c fun c => k (.sl b o n c)
  | .su b o n e => frcN b fun b => frcN o fun o => frcN n fun n => frcN e fun e => k (.su b o n e)
  | v => k v
theorem frcV_eq {β : Type} (v : AV) (k : AV → β) : frcV v k = k v := by
  unfold frcV
  split <;> (try simp only [frcN_eq])
  rename_i b
  cases b <;> rfl

def mkM (h : T Blk) (nx fl : Nat) (lg : List Nat) : M := ⟨h, nx, fl, lg⟩
def mkS2 (t : T AV) (nt : Nat) (lg : List Nat) (h : T Blk) (nx : Nat) (fl : Nat) : Option St := some ⟨t, nt, ⟨h, nx, fl, lg⟩⟩
def mkS1 (t : T AV) (nt : Nat) (nx fl : Nat) (lg : List Nat) (h : T Blk) : Option St := frcN nx fun nx => frcN fl (mkS2 t nt lg h nx)
def mkS0 (nt : Nat) (m : M) (t : T AV) : Option St := M.rec (motive := fun _ => Option St) (fun h nx fl lg => T.force h (mkS1 t nt nx fl lg)) m
theorem mkS0_eq (nt : Nat) (m : M) (t : T AV) : mkS0 nt m t = some ⟨t, nt, m⟩ := by
  cases m
  simp only [mkS0, mkS1, mkS2, T.force_eq, frcN_eq]

def setS (d : Nat) (s : St) (v : AV) : Option St := St.rec (motive := fun _ => Option St) (fun t nt m => T.force (T.upd fuel d (some v) t) (mkS0 nt m)) s
def putF (s : St) (d : Option Tmp) (v : AV) : Option St := match d with
  | none => some s
  | some d => onB (Nat.blt d s.nt) (frcV v (setS d s)) none
theorem putF_eq (s : St) (d : Option Tmp) (v : AV) : putF s d v = putA s d v := by
  unfold putF putA
  cases d with
  | none => rfl
  | some d =>
    cases s
    simp only [frcV_eq, setS, T.force_eq, mkS0_eq]
    split <;> rename_i h <;> rw [h] <;> rfl

section
variable (P : Program) (pr : Prim)

def doOpF (self : Self) (o : Oper) (s : St) : Option (AV × M) := match opF o.op P s.t s.m o with
  | none => none
  | some (.val v m) => some (v, m)
  | some (.enter f args m) => callA P pr self f args m
theorem doOpF_eq (self : Self) (o : Oper) (s : St) : doOpF P pr self o s = doOp P pr self o s := by
  unfold doOpF doOp; rw [opF_eq]; rfl

def withM (s : St) (o : Oper) (v : AV) (m : M) : Option St := putF (St.mk s.t s.nt m) o.dst v
def runOpF (self : Self) (ops : Array Oper) (o : Oper) (s : St) : Option St := match wantedA ops s.t o with
  | none => none
  | some false => putF s o.dst (.lit undef)
  | some true => match doOpF P pr self o s with
    | none => none
    | some (v, m) => withM s o v m
theorem runOpF_eq (self : Self) (ops : Array Oper) (o : Oper) (s : St) : runOpF P pr self ops o s = runOp P pr self ops o s := by
  unfold runOpF runOp; rw [doOpF_eq]; simp only [putF_eq, withM]; rfl

def runOpsF (self : Self) (ops : Array Oper) : List Oper → St → Option St
  | [], s => some s
  | o :: r, s => match runOpF P pr self ops o s with
    | none => none
    | some s' => runOpsF self ops r s'
theorem runOpsF_eq (self : Self) (ops : Array Oper) : ∀ (l : List Oper) (s : St), runOpsF P pr self ops l s = runOps P pr self ops l s
  | [], s => rfl
  | o :: r, s => by
    unfold runOpsF runOps; rw [runOpF_eq]
    cases runOp P pr self ops o s with
    | none => rfl
    | some s' => exact runOpsF_eq self ops r s'
end

abbrev CT := Program → Prim → Draw → Self → St → Option (AE × St)
def sNorm : CT := fun _ _ _ _ s => some (.normal, s)
def sLabel (_ : Nat) : CT := sNorm
def sRegion (_ : Nat) (ops : Array Oper) (draw : Bool) : CT := fun P pr dr self s => onB draw (match dr self ops s with
    | some s' => some (.normal, s')
    | none => none) (match runOpsF P pr self ops ops.toList s with
    | some s' => some (.normal, s')
    | none => none)
def sSeq (a b : Code) (_ _ : CT) : CT := fun _ _ _ self s => match self a s with
    | some (.normal, s') => self b s'
    | r => r
def sCond (c : Operand) (x y : Code) (_ _ : CT) : CT := fun _ _ _ self s => match opnd s.t c with
    | some (.lit (.bool true)) => self x s
    | some (.lit (.bool false)) => self y s
    | _ => none
def sBlock (id : Nat) (c : Code) (_ : CT) : CT := fun _ _ _ self s => match self c s with
    | some (.exit id', s') => match Nat.beq id' id with
      | true => some (.normal, s')
      | false => some (.exit id', s')
    | r => r
def sLoop (c : Code) (_ : CT) : CT := fun _ _ _ self s => match self c s with
    | some (.normal, s') => self (.loop c) s'
    | r => r
def sRange (_ : Operand) (_ : Array Tmp) (_ _ : Code) (_ _ : CT) : CT := fun _ _ _ _ _ => none
def sExit (id : Nat) : CT := fun _ _ _ _ s => some (.exit id, s)
def sScope (c : Code) (_ : CT) : CT := fun _ _ _ self s => scopeA self c 100000 c s
def sGoto (l : Nat) : CT := fun _ _ _ _ s => some (.goto l, s)
def sRet : CT := fun _ _ _ _ s => some (.ret, s)
def sRefuse (_ : String) : CT := fun _ _ _ _ _ => none

def codeF (c : Code) : CT := Code.rec (motive := fun _ => CT) sNorm sRegion sSeq sCond sBlock sLoop sRange sExit sScope sLabel sGoto sRet sRefuse c

theorem codeF_eq (P : Program) (pr : Prim) (dr : Draw) (self : Self) (c : Code) (s : St) : codeF c P pr dr self s = step1 P pr dr self c s := by
  cases c
  case region id ops draw =>
    cases draw
    · show (match runOpsF P pr self ops ops.toList s with
        | some s' => some (AE.normal, s')
        | none => none) = _
      rw [runOpsF_eq]; rfl
    · rfl
  all_goals rfl

def evF (P : Program) (pr : Prim) (dr : Draw) (n : Nat) : Self := Nat.rec (motive := fun _ => Self) (fun _ _ => none) (fun _ self c => codeF c P pr dr self) n
theorem evF_eq (P : Program) (pr : Prim) (dr : Draw) : ∀ n, evF P pr dr n = ev P pr dr n
  | 0 => rfl
  | n + 1 => by
    funext c s
    show codeF c P pr dr (evF P pr dr n) s = step1 P pr dr (ev P pr dr n) c s
    rw [evF_eq P pr dr n, codeF_eq]
end
end Ev
end Go.Proofs.YtggfhklokfcplaaGreat
