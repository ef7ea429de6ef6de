/- The evaluator of code, and that what it answers the model does. Regions that draw come behind (a parameter here). No program is named here. -/
import Derived.Test.YtggfhklokfcplaaGreatEvI
import Derived.Scope
namespace Go.Proofs.YtggfhklokfcplaaGreat
open Go.RowKit
namespace Ev
noncomputable section

structure St where
  t : T AV
  nt : Nat
  m : M

inductive AE where
  | normal
  | exit (id : Nat)
  | goto (l : Nat)
  | ret

def AE.to : AE → Exit
  | .normal => .normal
  | .exit id => .exit id
  | .goto l => .goto l
  | .ret => .ret

abbrev Self := Code → St → Option (AE × St)

def putA (s : St) (d : Option Tmp) (v : AV) : Option St := match d with
  | none => some s
  | some d => match Nat.blt d s.nt with
    | true => some { s with t := T.upd fuel d (some v) s.t }
    | false => none

def wantedA (ops : Array Oper) (t : T AV) (o : Oper) : Option Bool := match o.guard with
  | none => some true
  | some (j, want) => match (ops[j]?).bind (·.dst) with
    | none => none
    | some d => match T.get fuel d t with
      | some (.lit (.bool b)) => some (b == want)
      | some (.lit (.tuple _)) => some false
      | _ => none

section
variable (P : Program)

def loadV (t : TypeId) (x : AV) (m : M) : Option AV := match loadA P t x m with
  | some (.val v _) => some v
  | _ => none

def resultsA (s : St) : List ResultVar → Option (List AV)
  | [] => some []
  | .tmp k :: r => match T.get fuel k s.t with
    | none => none
    | some v => match resultsA s r with
      | none => none
      | some l => some (v :: l)
  | .cell k ty :: r => match T.get fuel k s.t with
    | none => none
    | some x => match loadV P ty x s.m with
      | none => none
      | some v => match resultsA s r with
        | none => none
        | some l => some (v :: l)

def oneA : List AV → AV
  | [v] => v
  | l => .tup l

def bodyA (self : Self) (f : Nat) (args : List AV) (m : M) : Option (AV × M) := match P.funcs[f]? with
  | none => none
  | some fn => match fn.body with
    | none => none
    | some c => match self c { t := ofList 0 args .nil, nt := args.length + (fn.ntmps - args.length), m } with
      | some (.normal, s) => match resultsA P s fn.results.toList with
        | none => none
        | some l => some (oneA l, s.m)
      | some (.ret, s) => match resultsA P s fn.results.toList with
        | none => none
        | some l => some (oneA l, s.m)
      | _ => none

/-- Functions that are told apart. -/
abbrev Prim := Self → Nat → Option (List AV → M → Option (AV × M))

variable (pr : Prim)

def callA (self : Self) (f : Nat) (args : List AV) (m : M) : Option (AV × M) := match pr self f with
  | some g => g args m
  | none => bodyA P self f args m

def doOp (self : Self) (o : Oper) (s : St) : Option (AV × M) := match opA P s.t s.m o with
  | none => none
  | some (.val v m) => some (v, m)
  | some (.enter f args m) => callA P pr self f args m

def runOp (self : Self) (ops : Array Oper) (o : Oper) (s : St) : Option St := match wantedA ops s.t o with
  | none => none
  | some false => putA s o.dst (.lit undef)
  | some true => match doOp P pr self o s with
    | none => none
    | some (v, m) => putA { s with m := m } o.dst v

def runOps (self : Self) (ops : Array Oper) : List Oper → St → Option St
  | [], s => some s
  | o :: r, s => match runOp P pr self ops o s with
    | none => none
    | some s' => runOps self ops r s'

/-- What lies in a scope, from some place on. -/
def scopeA (self : Self) (body : Code) : Nat → Code → St → Option (AE × St)
  | 0, _, _ => none
  | n + 1, c, s => match self c s with
    | some (.goto l, s') => match findLabel body l with
      | some rest => scopeA self body n rest s'
      | none => some (.goto l, s')
    | r => r

abbrev Draw := Self → Array Oper → St → Option St

def step1 (dr : Draw) (self : Self) : Code → St → Option (AE × St)
  | .skip, s => some (.normal, s)
  | .label _, s => some (.normal, s)
  | .seq a b, s => match self a s with
    | some (.normal, s') => self b s'
    | r => r
  | .cond c x y, s => match opnd s.t c with
    | some (.lit (.bool true)) => self x s
    | some (.lit (.bool false)) => self y s
    | _ => none
  | .block id c, s => match self c s with
    | some (.exit id', s') => match Nat.beq id' id with
      | true => some (.normal, s')
      | false => some (.exit id', s')
    | r => r
  | .loop c, s => match self c s with
    | some (.normal, s') => self (.loop c) s'
    | r => r
  | .exit id, s => some (.exit id, s)
  | .goto l, s => some (.goto l, s)
  | .ret, s => some (.ret, s)
  | .scope c, s => scopeA self c 100000 c s
  | .region _ ops false, s => match runOps P pr self ops ops.toList s with
    | some s' => some (.normal, s')
    | none => none
  | .region _ ops true, s => match dr self ops s with
    | some s' => some (.normal, s')
    | none => none
  | _, _ => none

def ev (dr : Draw) : Nat → Self
  | 0 => fun _ _ => none
  | n + 1 => step1 P pr dr (ev dr n)
end

/- what it means -/
structure SimS (own : Nat → Prop) (lim : Nat) (σ : Map) (s : St) (a : Act) (w : World) : Prop where
  sim : Sim own lim σ s.m w
  size : a.tmps.size = s.nt
  slots : Slots σ s.t a
  defers : a.defers = []

def Post (own : Nat → Prop) (lim : Nat) (σ : Map) (m : M) (w : World) (e : AE) (s' : St) : Exit → Act → World → Prop :=
  fun E a' w' => E = e.to ∧ ∃ σ', SimS own lim σ' s' a' w' ∧ Ext own σ σ' m s'.m w w'

def LoopWp (P : Program) (c : Code) (Q : Exit → Act → World → Prop) (a : Act) (w : World) : Prop :=
  ∀ (b : Frame) (k : List Item) (cs : List Frame), ∃ e a' w', Q e a' w' ∧ Arrives P (lone (b.at a (.inLoop c :: k)) cs w) b k cs e a' w'

def Good (P : Program) (self : Self) : Prop := ∀ c s e s', self c s = some (e, s') → Okm s.m → Pure s.m s'.m ∧ s'.nt = s.nt ∧
  ∀ own lim σ a w, s'.m.nx ≤ lim → SimS own lim σ s a w → Code.wp P c (Post own lim σ s.m w e s') a w ∧ ∀ body, c = .loop body → LoopWp P body (Post own lim σ s.m w e s') a w

def CallGood (P : Program) (f : Nat) (g : List AV → M → Option (AV × M)) : Prop := ∀ args m v m', g args m = some (v, m') → Okm m → Pure m m' ∧
  ∀ own lim σ w Args, m'.nx ≤ lim → Sim own lim σ m w → RelL σ args Args.toList → Calls P f Args w fun e w' => ∃ V σ', e = .returned V ∧ RelV σ' v V ∧ Sim own lim σ' m' w' ∧ Ext own σ σ' m m' w w'

def PrimOk (P : Program) (pr : Prim) : Prop := ∀ self, Good P self → ∀ f g, pr self f = some g → CallGood P f g

def DrawOk (P : Program) (dr : Draw) : Prop := ∀ self, Good P self → ∀ ops s s', dr self ops s = some s' → Okm s.m → Pure s.m s'.m ∧ s'.nt = s.nt ∧
  ∀ own lim σ a w, s'.m.nx ≤ lim → SimS own lim σ s a w → ∀ t, wpOps P ops (Post own lim σ s.m w .normal s') (Region.schedule (P.follows .mixedOrders) ops t) a { w with drawn := w.drawn + 1 }

theorem Post.after {own : Nat → Prop} {lim : Nat} {σ σ' : Map} {m m' : M} {w w' : World} {e : AE} {s' : St} (h : Ext own σ σ' m m' w w') (p : Pure m m') (p' : Pure m' s'.m) :
    ∀ E a x, Post own lim σ' m' w' e s' E a x → Post own lim σ m w e s' E a x :=
  fun _ _ _ ⟨h1, σ'', h2, h3⟩ => ⟨h1, σ'', h2, h.trans h3 p p'⟩

/- the operations change the evaluator's memory in these ways alone -/
def PR (m : M) : R → Prop
  | .val _ m' => Pure m m'
  | .enter _ _ m' => m' = m

theorem opA_pure {P : Program} {t : T AV} {m : M} {o : Oper} {r : R} (e : opA P t m o = some r) (hf : m.fl ≤ m.nx) : PR m r := by
  have hlit : ∀ {s : Sem Value} {r : R}, litOp P s m = some r → PR m r := by
    intro s r e
    unfold litOp at e
    split at e
    · cases e
    · cases e; exact Pure.refl m
  have hstore : ∀ {b o : Nat} {l : List AV} {m' : M}, storeCs b o l m = some m' → Pure m m' := fun h => (storeCs_pure _ h).1
  have happ : ∀ {ts : Array TypeId} {s x : AV} {r : R}, appendA P ts s x m = some r → PR m r := by
    intro ts s x r e
    unfold appendA at e
    repeat' split at e
    all_goals first
      | (cases e; done)
      | (cases e; exact Pure.refl m)
      | (cases e; exact newBlk_pure m _ hf)
      | (rename_i ho; cases e; exact reBlk_pure m _ _ hf (by unfold firstA at ho; intro hn; dsimp only at ho; rw [hn] at ho; cases ho))
      | (rename_i hs; cases e; exact hstore hs)
  have hcopy : ∀ {ts : Array TypeId} {s x : AV} {r : R}, copyA P ts s x m = some r → PR m r := by
    intro ts s x r e
    unfold copyA at e
    repeat' split at e
    all_goals first
      | (cases e; done)
      | (cases e; exact Pure.refl m)
      | (rename_i hs; cases e; exact hstore hs)
  have hbui : ∀ {b : Builtin} {c : Call} {ty : TypeId} {args : List AV} {r : R}, builtinA P b c ty args m = some r → PR m r := by
    intro b c ty args r e
    unfold builtinA litNext lenOpA capOpA at e
    repeat' split at e
    all_goals first
      | (cases e; done)
      | (cases e; exact Pure.refl m)
      | exact happ e
      | exact hcopy e
      | (rename_i hr _; cases e; split at hr <;> first | (cases hr; exact Pure.refl m) | cases hr)
      | (rename_i hr; cases e; split at hr <;> first | (cases hr; exact Pure.refl m) | cases hr)
  unfold opA at e
  split at e
  all_goals (try unfold allocA newA at e); (try unfold buildA at e); (try unfold buildSliceA at e); (try unfold loadA at e); (try unfold storeA at e); (try unfold nilCheckA at e); (try unfold binA at e); (try unfold convA at e); (try unfold markA at e); (try unfold makeA at e); (try unfold sliceA at e); (try unfold fieldAddrA at e); (try unfold fieldA at e); (try unfold indexAddrA at e); (try unfold indexA at e); (try unfold extractA at e)
  all_goals repeat' split at e
  all_goals first
    | (cases e; done)
    | (cases e; exact Pure.refl m)
    | (cases e; rfl)
    | (cases e; exact newBlk_pure m _ hf)
    | exact hlit e
    | exact hbui e
    | (rename_i hs; cases e; exact hstore hs)
end
end Ev
end Go.Proofs.YtggfhklokfcplaaGreat
