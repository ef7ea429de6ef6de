/- A region that draws its order: the steps, and what each leaves. No program is named here. -/
import Derived.Test.YtggfhklokfcplaaGreatEvO
namespace Go.Proofs.YtggfhklokfcplaaGreat
open Go.RowKit
namespace Ev
noncomputable section

structure DS where
  h : T Blk
  nx : Nat
  t : T AV
  rc : List Rc
  rv : Nat
  rs : List (Nat × Nat)
  lg : List Nat

def setT (t : T AV) (d : Option Tmp) (v : AV) : T AV := match d with
  | none => t
  | some d => frcV v fun v => T.upd fuel d (some v) t
def mkD3 (h : T Blk) (rc : List Rc) (rv : Nat) (rs : List (Nat × Nat)) (lg : List Nat) (nx : Nat) (t : T AV) : Option DS := some ⟨h, nx, t, rc, rv, rs, lg⟩
def mkD2 (t : T AV) (rc : List Rc) (rv : Nat) (rs : List (Nat × Nat)) (lg : List Nat) (h : T Blk) (nx : Nat) : Option DS := T.force t (mkD3 h rc rv rs lg nx)
def mkD (h : T Blk) (nx : Nat) (t : T AV) (rc : List Rc) (rv : Nat) (rs : List (Nat × Nat)) (lg : List Nat) : Option DS := T.force h fun h => frcN nx (mkD2 t rc rv rs lg h)
theorem mkD_eq (h : T Blk) (nx : Nat) (t : T AV) (rc : List Rc) (rv : Nat) (rs : List (Nat × Nat)) (lg : List Nat) : mkD h nx t rc rv rs lg = some ⟨h, nx, t, rc, rv, rs, lg⟩ := by
  simp only [mkD, mkD2, mkD3, T.force_eq, frcN_eq]

def addRc (i lo hi : Nat) (lg : List Nat) (rc : List Rc) : List Rc := onB (Nat.beq lo hi) (onB (isImp lg) (⟨i, lo, hi, lg⟩ :: rc) rc) (⟨i, lo, hi, lg⟩ :: rc)

section
variable (P : Program) (pr : Prim) (self : Self) (ops : Array Oper) (ms : T Nat) (nt i : Nat) (o : Oper)

def endFree (D : DS) (v : AV) (m' : M) : Option DS := mkD (copyR m'.h D.nx (Nat.sub m'.nx D.nx) D.h) m'.nx (setT D.t o.dst v) (addRc i D.nx m'.nx [] D.rc) D.rv D.rs D.lg
def doFree (D : DS) : Option DS := match doOpF P pr self o ⟨D.t, nt, ⟨.nil, D.nx, D.nx, []⟩⟩ with
  | none => none
  | some (v, m') => endFree i o D v m'

def endReal (mask : Nat) (D : DS) (v : AV) (m' : M) : Option DS :=
  onB (onB (isImp m'.lg) (onB (Nat.beq (Nat.land D.rv mask) D.rv) (rsOk mask m'.lg D.rs) false) true) (mkD (showR mask D.h D.rc m'.h) m'.nx (setT D.t o.dst v) (addRc i D.nx m'.nx m'.lg D.rc) (Nat.lor D.rv (Nat.pow 2 i)) D.rs (m'.lg ++ D.lg)) none
def doReal (mask : Nat) (D : DS) : Option DS := match hideR mask D.rc D.h with
  | none => none
  | some hv => match doOpF P pr self o ⟨D.t, nt, ⟨hv, D.nx, D.nx, []⟩⟩ with
    | none => none
    | some (v, m') => endReal i o mask D v m'

def addrOf (t : T AV) : Op → Option Nat
  | .load _ x => match opnd t x with
    | some (.ptr b _) => some b
    | _ => none
  | .store _ x _ => match opnd t x with
    | some (.ptr b _) => some b
    | _ => none
  | _ => none
def joinOne (b : Nat) (h : T Blk) (m' : M) : T Blk := onB (isImp m'.lg) (T.upd fuel b (T.get fuel b m'.h) h) h
def endOne (mask b : Nat) (D : DS) (v : AV) (m' : M) : Option DS :=
  onB (onB (isImp m'.lg) (onB (Nat.beq (Nat.land D.rv mask) D.rv) (rsOk mask m'.lg D.rs) false) true)
    (onB (Nat.beq D.nx m'.nx) (mkD (joinOne b D.h m') D.nx (setT D.t o.dst v) (addRc i D.nx m'.nx m'.lg D.rc) D.rv ((i, b) :: D.rs) (m'.lg ++ D.lg)) none) none
def doOne (mask : Nat) (D : DS) : Option DS := match addrOf D.t o.op with
  | none => none
  | some b => onB (freeOf mask b D.rc) (match T.get fuel b D.h with
    | none => none
    | some B => match doOpF P pr self o ⟨D.t, nt, ⟨T.upd fuel b (some B) .nil, D.nx, D.nx, []⟩⟩ with
      | none => none
      | some (v, m') => endOne i o mask b D v m') none

def bothWays (a b : Option DS) : Option DS := match a with
  | some D => some D
  | none => b

def isFree : Op → Nat
  | .load .. => 3
  | .store .. => 3
  | .call c => match c.callee with
    | .value _ => 1
    | _ => 2
  | .convert .. => 2
  | _ => 0

def dstep (D : DS) : Option DS := match wantedA ops D.t o with
  | none => none
  | some false => mkD D.h D.nx (setT D.t o.dst (.lit undef)) D.rc D.rv D.rs D.lg
  | some true => match isFree o.op with
    | 0 => doFree P pr self nt i o D
    | 1 => doReal P pr self nt i o (getN ms i) D
    | 3 => doOne P pr self nt i o (getN ms i) D
    | _ => bothWays (doFree P pr self nt i o D) (doReal P pr self nt i o (getN ms i) D)

def dsteps : List Oper → Nat → DS → Option DS
  | [], _, D => some D
  | o :: r, i, D => match dstep P pr self ops ms nt i o D with
    | none => none
    | some D' => dsteps r (Nat.succ i) D'

def below (n : Nat) : List Nat → List Nat → List Nat
  | [], l => l
  | b :: r, l => onB (Nat.blt b n) (b :: below n r l) (below n r l)

def drawA : Draw := fun self ops s => match static ops s.nt with
  | none => none
  | some ms => match dsteps P pr self ops ms s.nt ops.toList 0 ⟨s.m.h, s.m.nx, s.t, [], 0, [], []⟩ with
    | none => none
    | some D => some ⟨D.t, s.nt, ⟨D.h, D.nx, s.m.fl, below s.m.fl D.lg s.m.lg⟩⟩
end

theorem below_mem {n : Nat} : ∀ {l l' : List Nat} {b : Nat}, b ∈ below n l l' ↔ (b ∈ l ∧ b < n) ∨ b ∈ l'
  | [], l', b => by simp [below]
  | x :: r, l', b => by
    unfold below
    cases hx : Nat.blt x n with
    | true =>
      have hx : x < n := Nat.le_of_ble_eq_true hx
      show b ∈ x :: below n r l' ↔ _
      rw [List.mem_cons, below_mem, List.mem_cons]
      constructor
      · rintro (rfl | ⟨h, h'⟩ | h)
        · exact .inl ⟨.inl rfl, hx⟩
        · exact .inl ⟨.inr h, h'⟩
        · exact .inr h
      · rintro (⟨rfl | h, h'⟩ | h)
        · exact .inl rfl
        · exact .inr (.inl ⟨h, h'⟩)
        · exact .inr (.inr h)
    | false =>
      have hx : ¬ x < n := fun hc => by rw [show Nat.blt x n = true by simpa [Nat.blt_eq] using hc] at hx; cases hx
      show b ∈ below n r l' ↔ _
      rw [below_mem, List.mem_cons]
      constructor
      · rintro (⟨h, h'⟩ | h)
        · exact .inl ⟨.inr h, h'⟩
        · exact .inr h
      · rintro (⟨rfl | h, h'⟩ | h)
        · exact absurd h' hx
        · exact .inl ⟨h, h'⟩
        · exact .inr h

/-- What holds of what has been evaluated. -/
structure PI (i : Nat) (D : DS) : Prop where
  low : ∀ b, D.nx ≤ b → T.get fuel b D.h = none
  rcs : ∀ r ∈ D.rc, r.i < i ∧ r.hi ≤ D.nx ∧ r.lo ≤ r.hi
  rvs : ∀ j, bit D.rv j = true → j < i

/-- What a step leaves. -/
structure Done (P : Program) (pr : Prim) (slf : Self) (ms : T Nat) (nt i : Nat) (o : Oper) (D D' : DS) (view m' : M) (v : AV) : Prop where
  run : doOp P pr slf o ⟨D.t, nt, view⟩ = some (v, m')
  vnx : view.nx = D.nx
  vfl : view.fl = D.nx
  vlg : view.lg = []
  pure : Pure view m'
  vlow : ∀ b, D.nx ≤ b → view.blk b = none
  sub : ∀ b B, view.blk b = some B → T.get fuel b D.h = some B
  hid : ∀ b, view.blk b ≠ none → ∀ r ∈ D.rc, bit (getN ms i) r.i = false → b ∉ r.lg ∧ ¬ (r.lo ≤ b ∧ b < r.hi)
  real : ∀ b, view.blk b ≠ none → bit D'.rv i = true ∨ (i, b) ∈ D'.rs
  nx : D'.nx = m'.nx
  t : D'.t = setT D.t o.dst v
  touched : ∀ b, (b ∈ m'.lg ∨ (D.nx ≤ b ∧ b < m'.nx)) → T.get fuel b D'.h = m'.blk b
  kept : ∀ b, ¬ (b ∈ m'.lg ∨ (D.nx ≤ b ∧ b < m'.nx)) → T.get fuel b D'.h = T.get fuel b D.h
  rc : ∀ r, r ∈ D.rc → r ∈ D'.rc
  rcn : (m'.lg ≠ [] ∨ D.nx < m'.nx) → ⟨i, D.nx, m'.nx, m'.lg⟩ ∈ D'.rc
  rv : ∀ j, bit D.rv j = true → bit D'.rv j = true
  rs : ∀ x, x ∈ D.rs → x ∈ D'.rs
  imp : ∀ b, b ∈ m'.lg → ∀ j, bit D.rv j = true ∨ (j, b) ∈ D.rs → bit (getN ms i) j = true
  lg : ∀ b, b ∈ m'.lg → b ∈ D'.lg
  lgk : ∀ b, b ∈ D.lg → b ∈ D'.lg
  lgn : ∀ b, b ∈ D'.lg → b ∈ D.lg ∨ b ∈ m'.lg

structure Skip (i : Nat) (o : Oper) (D D' : DS) : Prop where
  h : D'.h = D.h
  nx : D'.nx = D.nx
  t : D'.t = setT D.t o.dst (.lit undef)
  rc : D'.rc = D.rc
  rv : D'.rv = D.rv
  rs : D'.rs = D.rs
  lg : D'.lg = D.lg

theorem addRc_mem {i lo hi : Nat} {lg : List Nat} {rc : List Rc} (h : lg ≠ [] ∨ lo < hi) : (⟨i, lo, hi, lg⟩ : Rc) ∈ addRc i lo hi lg rc := by
  unfold addRc
  cases hb : Nat.beq lo hi with
  | true =>
    have := Nat.eq_of_beq_eq_true hb
    rcases h with h | h
    · rw [isImp_eq.2 h]; exact List.mem_cons_self
    · omega
  | false => exact List.mem_cons_self
theorem addRc_keep {i lo hi : Nat} {lg : List Nat} {rc : List Rc} {r : Rc} (h : r ∈ rc) : r ∈ addRc i lo hi lg rc := by
  unfold addRc
  cases Nat.beq lo hi <;> cases isImp lg <;> simp [onB, h]
theorem addRc_or {i lo hi : Nat} {lg : List Nat} {rc : List Rc} {r : Rc} (h : r ∈ addRc i lo hi lg rc) : r ∈ rc ∨ r = ⟨i, lo, hi, lg⟩ := by
  unfold addRc at h
  cases hb : Nat.beq lo hi <;> rw [hb] at h
  · rcases List.mem_cons.1 h with h | h
    · exact .inr h
    · exact .inl h
  · cases hi' : isImp lg <;> rw [hi'] at h
    · exact .inl h
    · rcases List.mem_cons.1 h with h | h
      · exact .inr h
      · exact .inl h

section
variable {P : Program} {pr : Prim} {self : Self} {ops : Array Oper} {ms : T Nat} {nt i : Nat} {o : Oper} {D D' : DS}

theorem doFree_ok (hg : Good P self) (hp : PrimOk P pr) (hI : PI i D) (e : doFree P pr self nt i o D = some D') : ∃ view m' v, Done P pr self ms nt i o D D' view m' v ∧ PI (i + 1) D' := by
  unfold doFree at e
  split at e
  · cases e
  rename_i v m' hd
  rw [doOpF_eq] at hd
  unfold endFree at e
  rw [mkD_eq] at e
  cases e
  have hnil : ∀ b, (⟨.nil, D.nx, D.nx, []⟩ : M).blk b = none := fun b => T.get_nil _ _
  obtain ⟨p, _⟩ := doOp_ok hg hp hd ⟨Nat.le_refl _, fun b _ => hnil b⟩
  have hlg : m'.lg = [] := by
    cases hl : m'.lg with
    | nil => rfl
    | cons x r =>
      rcases p.was x (by rw [hl]; exact List.mem_cons_self) with h | ⟨_, h⟩
      · cases h
      · exact absurd (hnil x) h
  have hnx : D.nx ≤ m'.nx := p.nx
  have hget : ∀ b, T.get fuel b (copyR m'.h D.nx (Nat.sub m'.nx D.nx) D.h) = if D.nx ≤ b ∧ b < m'.nx then m'.blk b else T.get fuel b D.h := by
    intro b
    rw [copyR_get]
    have : D.nx + Nat.sub m'.nx D.nx = m'.nx := by show D.nx + (m'.nx - D.nx) = m'.nx; omega
    rw [this]
    rfl
  refine ⟨⟨.nil, D.nx, D.nx, []⟩, m', v, ⟨hd, rfl, rfl, rfl, p, fun b _ => hnil b, fun b B h => (by rw [hnil] at h; cases h), fun b h => absurd (hnil b) h, fun b h => absurd (hnil b) h, rfl, rfl, ?_, ?_, fun r h => addRc_keep h, ?_, fun j h => h, fun x h => h, fun b h => (by rw [hlg] at h; cases h), fun b h => (by rw [hlg] at h; cases h), fun b h => h, fun b h => .inl h⟩, ?_, ?_, ?_⟩
  · intro b hb
    rw [hlg] at hb
    rcases hb with hb | hb
    · cases hb
    · show T.get fuel b (copyR m'.h D.nx (Nat.sub m'.nx D.nx) D.h) = _
      rw [hget, if_pos hb]
  · intro b hb
    show T.get fuel b (copyR m'.h D.nx (Nat.sub m'.nx D.nx) D.h) = _
    rw [hget, if_neg fun h => hb (.inr h)]
  · intro h
    rw [hlg] at h
    have hlt : D.nx < m'.nx := by
      rcases h with h | h
      · exact absurd rfl h
      · exact h
    have := addRc_mem (i := i) (lg := []) (rc := D.rc) (.inr hlt)
    rw [hlg]; exact this
  · intro b hb
    show T.get fuel b (copyR m'.h D.nx (Nat.sub m'.nx D.nx) D.h) = none
    have hb : m'.nx ≤ b := hb
    rw [hget, if_neg (by omega)]
    exact hI.low b (by omega)
  · intro r hr
    show r.i < i + 1 ∧ r.hi ≤ m'.nx ∧ r.lo ≤ r.hi
    rcases addRc_or hr with h | rfl
    · have := hI.rcs r h; omega
    · exact ⟨Nat.lt_succ_self _, Nat.le_refl _, hnx⟩
  · intro j hj
    have := hI.rvs j hj
    omega

theorem impOk {mask : Nat} {lg : List Nat} (hc : onB (isImp lg) (onB (Nat.beq (Nat.land D.rv mask) D.rv) (rsOk mask lg D.rs) false) true = true) (b : Nat) (hb : b ∈ lg) (j : Nat) (hj : bit D.rv j = true ∨ (j, b) ∈ D.rs) : bit mask j = true := by
  have him : isImp lg = true := isImp_eq.2 (by rintro rfl; cases hb)
  rw [him] at hc
  cases hq : Nat.beq (Nat.land D.rv mask) D.rv with
  | false => rw [hq] at hc; cases hc
  | true =>
    rw [hq] at hc
    rcases hj with hj | hj
    · have hc := Nat.eq_of_beq_eq_true hq
      rw [bit_eq] at hj ⊢
      have h3 : (D.rv &&& mask).testBit j = true := by
        show (Nat.land D.rv mask).testBit j = true
        rw [hc]; exact hj
      rw [Nat.testBit_and, Bool.and_eq_true] at h3
      exact h3.2
    · exact rsOk_ok hc j b hj hb

theorem doOne_ok (hg : Good P self) (hp : PrimOk P pr) (hI : PI i D) (e : doOne P pr self nt i o (getN ms i) D = some D') : ∃ view m' v, Done P pr self ms nt i o D D' view m' v ∧ PI (i + 1) D' := by
  unfold doOne at e
  split at e
  · cases e
  rename_i b0 hb0
  obtain ⟨hfr, e⟩ := onB_none e
  split at e
  · cases e
  rename_i B hB
  split at e
  · cases e
  rename_i v m' hd
  rw [doOpF_eq] at hd
  unfold endOne at e
  obtain ⟨hc, e⟩ := onB_none e
  obtain ⟨hnxe, e⟩ := onB_none e
  have hnxe := Nat.eq_of_beq_eq_true hnxe
  rw [mkD_eq] at e
  cases e
  have hview : ∀ b B', (⟨T.upd fuel b0 (some B) .nil, D.nx, D.nx, []⟩ : M).blk b = some B' → b = b0 ∧ B' = B := by
    intro b B' hb
    rcases T.get_upd _ _ _ _ _ _ hb with ⟨h1, h2⟩ | ⟨_, h2⟩
    · simp only [Option.some.injEq] at h2; exact ⟨h1, h2.symm⟩
    · rw [T.get_nil] at h2; cases h2
  have hview' : ∀ b, (⟨T.upd fuel b0 (some B) .nil, D.nx, D.nx, []⟩ : M).blk b ≠ none → b = b0 := by
    intro b hb
    cases hq : (⟨T.upd fuel b0 (some B) .nil, D.nx, D.nx, []⟩ : M).blk b with
    | none => exact absurd hq hb
    | some B' => exact (hview b B' hq).1
  have hvlow : ∀ b, D.nx ≤ b → (⟨T.upd fuel b0 (some B) .nil, D.nx, D.nx, []⟩ : M).blk b = none := by
    intro b hb
    cases hq : (⟨T.upd fuel b0 (some B) .nil, D.nx, D.nx, []⟩ : M).blk b with
    | none => rfl
    | some B' =>
      have := (hview b B' hq).1
      subst this
      rw [hI.low b hb] at hB; cases hB
  obtain ⟨p, _⟩ := doOp_ok hg hp hd ⟨Nat.le_refl _, hvlow⟩
  have hlg : ∀ b, b ∈ m'.lg → b = b0 := by
    intro b hb
    rcases p.was b hb with h | ⟨_, h⟩
    · cases h
    · exact hview' b h
  have hjoin : ∀ b, T.get fuel b (joinOne b0 D.h m') = if b ∈ m'.lg then m'.blk b else T.get fuel b D.h := by
    intro b
    unfold joinOne
    cases him : isImp m'.lg with
    | false =>
      rw [if_neg (isImp_no him b)]; rfl
    | true =>
      show T.get fuel b (T.upd fuel b0 (T.get fuel b0 m'.h) D.h) = _
      by_cases hb : b ∈ m'.lg
      · have := hlg b hb
        subst this
        rw [if_pos hb, T.get_upd_same]; rfl
      · rw [if_neg hb]
        by_cases e : b = b0
        · exfalso
          obtain ⟨x, hx⟩ := List.exists_mem_of_ne_nil _ (isImp_eq.1 him)
          have := hlg x hx
          subst this; subst e
          exact hb hx
        · rw [T.get_upd_ne _ _ _ _ _ e]
  have hchunk : ∀ b, ¬ (D.nx ≤ b ∧ b < m'.nx) := by intro b h; omega
  refine ⟨⟨T.upd fuel b0 (some B) .nil, D.nx, D.nx, []⟩, m', v, ⟨hd, rfl, rfl, rfl, p, hvlow, ?_, ?_, ?_, hnxe, rfl, ?_, ?_, fun r h => addRc_keep h, fun h => addRc_mem h, fun j h => h, fun x h => List.mem_cons_of_mem _ h, impOk hc, fun b h => List.mem_append_left _ h, fun b h => List.mem_append_right _ h, fun b h => ?_⟩, ?_, ?_, ?_⟩
  · intro b B' hb
    obtain ⟨rfl, rfl⟩ := hview b B' hb
    exact hB
  · intro b hb r hr hm
    have := hview' b hb
    subst this
    exact freeOf_ok hfr r hr hm
  · intro b hb
    have := hview' b hb
    subst this
    exact .inr List.mem_cons_self
  · intro b hb
    show T.get fuel b (joinOne b0 D.h m') = _
    rw [hjoin, if_pos (hb.resolve_right (hchunk b))]
  · intro b hb
    show T.get fuel b (joinOne b0 D.h m') = _
    rw [hjoin, if_neg fun h => hb (.inl h)]
  · rcases List.mem_append.1 h with h | h
    · exact .inr h
    · exact .inl h
  · intro b hb
    show T.get fuel b (joinOne b0 D.h m') = none
    have hb : D.nx ≤ b := hb
    rw [hjoin, if_neg]
    · exact hI.low b hb
    · intro h
      have := hlg b h
      subst this
      rw [hI.low b hb] at hB; cases hB
  · intro r hr
    show r.i < i + 1 ∧ r.hi ≤ D.nx ∧ r.lo ≤ r.hi
    rcases addRc_or hr with h | rfl
    · have := hI.rcs r h; omega
    · exact ⟨Nat.lt_succ_self _, by show m'.nx ≤ D.nx; omega, by show D.nx ≤ m'.nx; omega⟩
  · intro j hj
    have := hI.rvs j hj
    omega

theorem doReal_ok (hg : Good P self) (hp : PrimOk P pr) (hI : PI i D) (e : doReal P pr self nt i o (getN ms i) D = some D') : ∃ view m' v, Done P pr self ms nt i o D D' view m' v ∧ PI (i + 1) D' := by
  unfold doReal at e
  split at e
  · cases e
  rename_i hv hh
  split at e
  · cases e
  rename_i v m' hd
  rw [doOpF_eq] at hd
  unfold endReal at e
  obtain ⟨hc, e⟩ := onB_none e
  rw [mkD_eq] at e
  cases e
  obtain ⟨h1, h2⟩ := hideR_get hh
  have hview : ∀ b, (⟨hv, D.nx, D.nx, []⟩ : M).blk b = T.get fuel b hv := fun b => rfl
  have hvlow : ∀ b, D.nx ≤ b → (⟨hv, D.nx, D.nx, []⟩ : M).blk b = none := by
    intro b hb
    rw [hview, h2 b]
    split
    · rfl
    · exact hI.low b hb
  obtain ⟨p, _⟩ := doOp_ok hg hp hd ⟨Nat.le_refl _, hvlow⟩
  have hnx : D.nx ≤ m'.nx := p.nx
  have hrange : ∀ r ∈ D.rc, r.lo + (r.hi - r.lo) = r.hi := fun r hr => by have := hI.rcs r hr; omega
  have hsub : ∀ b B, (⟨hv, D.nx, D.nx, []⟩ : M).blk b = some B → T.get fuel b D.h = some B := by
    intro b B hb
    rw [hview, h2 b] at hb
    split at hb
    · cases hb
    · exact hb
  have hnh : ∀ b, (⟨hv, D.nx, D.nx, []⟩ : M).blk b ≠ none → ¬ ∃ r ∈ D.rc, bit (getN ms i) r.i = false ∧ r.lo ≤ b ∧ b < r.lo + (r.hi - r.lo) := by
    intro b hb hx
    rw [hview, h2 b, if_pos hx] at hb
    exact hb rfl
  have hnh2 : ∀ b, D.nx ≤ b → ¬ ∃ r ∈ D.rc, bit (getN ms i) r.i = false ∧ r.lo ≤ b ∧ b < r.lo + (r.hi - r.lo) := by
    rintro b hb ⟨r, hr, _, h3⟩
    have := hI.rcs r hr
    omega
  have hor : ∀ (a : Nat) (j : Nat), bit (Nat.lor a (Nat.pow 2 i)) j = true ↔ bit a j = true ∨ j = i := by
    intro a j
    simp only [bit_eq]
    show (a ||| 2 ^ i).testBit j = true ↔ _
    rw [Nat.testBit_or, Bool.or_eq_true, Nat.testBit_two_pow, decide_eq_true_eq]
    exact ⟨fun h => h.imp id Eq.symm, fun h => h.imp id Eq.symm⟩
  refine ⟨⟨hv, D.nx, D.nx, []⟩, m', v, ⟨hd, rfl, rfl, rfl, p, hvlow, hsub, ?_, fun _ _ => .inl ((hor D.rv i).2 (.inr rfl)), rfl, rfl, ?_, ?_, fun r h => addRc_keep h, ?_, fun j h => (hor D.rv j).2 (.inl h), fun x h => h, ?_, fun b h => List.mem_append_left _ h, fun b h => List.mem_append_right _ h, fun b h => ?_⟩, ?_, ?_, ?_⟩
  · intro b hb r hr hm
    refine ⟨isImp_no (h1 r hr hm) b, fun hlt => hnh b hb ⟨r, hr, hm, hlt.1, by rw [hrange r hr]; exact hlt.2⟩⟩
  · intro b hb
    show T.get fuel b (showR (getN ms i) D.h D.rc m'.h) = _
    rw [showR_get, if_neg]
    · rfl
    · rcases hb with hb | hb
      · rcases p.was b hb with h | ⟨_, h⟩
        · cases h
        · exact hnh b h
      · exact hnh2 b hb.1
  · intro b hb
    show T.get fuel b (showR (getN ms i) D.h D.rc m'.h) = _
    rw [showR_get]
    split
    · rfl
    · rename_i hx
      have hb1 : b ∉ m'.lg := fun h => hb (.inl h)
      by_cases hlt : b < D.nx
      · have := p.kept b hlt hb1
        rw [hview, h2 b, if_neg hx] at this
        exact this
      · have hge : m'.nx ≤ b := by
          rcases Nat.lt_or_ge b m'.nx with g | g
          · exact absurd (.inr ⟨by omega, g⟩) hb
          · exact g
        have h3 : m'.blk b = none := p.low hvlow b hge
        rw [hI.low b (by omega)]
        exact h3
  · intro h
    exact addRc_mem h
  · exact impOk hc
  · rcases List.mem_append.1 h with h | h
    · exact .inr h
    · exact .inl h
  · intro b hb
    show T.get fuel b (showR (getN ms i) D.h D.rc m'.h) = none
    have hb : m'.nx ≤ b := hb
    rw [showR_get, if_neg (hnh2 b (by omega))]
    exact p.low hvlow b hb
  · intro r hr
    show r.i < i + 1 ∧ r.hi ≤ m'.nx ∧ r.lo ≤ r.hi
    rcases addRc_or hr with h | rfl
    · have := hI.rcs r h; omega
    · exact ⟨Nat.lt_succ_self _, Nat.le_refl _, hnx⟩
  · intro j hj
    rcases (hor D.rv j).1 hj with h | rfl
    · have := hI.rvs j h; omega
    · omega

theorem dstep_ok (hg : Good P self) (hp : PrimOk P pr) (hI : PI i D) (e : dstep P pr self ops ms nt i o D = some D') :
    PI (i + 1) D' ∧ ((wantedA ops D.t o = some false ∧ Skip i o D D') ∨ (wantedA ops D.t o = some true ∧ ∃ view m' v, Done P pr self ms nt i o D D' view m' v)) := by
  unfold dstep at e
  split at e
  · cases e
  · rename_i hw
    rw [mkD_eq] at e
    cases e
    exact ⟨⟨hI.low, fun r hr => by have := hI.rcs r hr; exact ⟨by omega, this.2⟩, fun j hj => by have := hI.rvs j hj; omega⟩, .inl ⟨hw, rfl, rfl, rfl, rfl, rfl, rfl, rfl⟩⟩
  · rename_i hw
    have fin : (∃ view m' v, Done P pr self ms nt i o D D' view m' v ∧ PI (i + 1) D') → PI (i + 1) D' ∧ ((wantedA ops D.t o = some false ∧ Skip i o D D') ∨ (wantedA ops D.t o = some true ∧ ∃ view m' v, Done P pr self ms nt i o D D' view m' v)) := by
      rintro ⟨view, m', v, h1, h2⟩
      exact ⟨h2, .inr ⟨hw, view, m', v, h1⟩⟩
    split at e
    · exact fin (doFree_ok hg hp hI e)
    · exact fin (doReal_ok hg hp hI e)
    · exact fin (doOne_ok hg hp hI e)
    · unfold bothWays at e
      split at e
      · rename_i D1 h1
        cases e
        exact fin (doFree_ok hg hp hI h1)
      · exact fin (doReal_ok hg hp hI e)

/-- All steps, as a row of states. -/
theorem dsteps_ok : ∀ (l : List Oper) (i : Nat) (D D' : DS), dsteps P pr self ops ms nt l i D = some D' →
    ∃ ds : Nat → DS, ds i = D ∧ ds (i + l.length) = D' ∧ ∀ k o, l[k]? = some o → dstep P pr self ops ms nt (i + k) o (ds (i + k)) = some (ds (i + k + 1))
  | [], i, D, D', e => by
    simp only [dsteps, Option.some.injEq] at e
    subst e
    exact ⟨fun _ => D, rfl, rfl, by simp⟩
  | o :: r, i, D, D', e => by
    unfold dsteps at e
    split at e
    · cases e
    rename_i D1 h1
    obtain ⟨ds, g1, g2, g3⟩ := dsteps_ok r (i + 1) D1 D' e
    refine ⟨fun k => if k = i then D else ds k, by simp, ?_, ?_⟩
    · simp only [List.length_cons]
      rw [if_neg (by omega), ← g2]
      congr 1; omega
    · intro k o' hk
      cases k with
      | zero =>
        simp at hk
        subst hk
        show dstep P pr self ops ms nt i o (if i = i then D else ds i) = some (if i + 1 = i then D else ds (i + 1))
        rw [if_pos rfl, if_neg (by omega), g1]
        exact h1
      | succ k =>
        simp at hk
        have := g3 k o' hk
        show dstep P pr self ops ms nt (i + (k + 1)) o' (if i + (k + 1) = i then D else ds (i + (k + 1))) = some (if i + (k + 1) + 1 = i then D else ds (i + (k + 1) + 1))
        rw [if_neg (by omega), if_neg (by omega), show i + (k + 1) = i + 1 + k by omega]
        exact this
end
end
end Ev
end Go.Proofs.YtggfhklokfcplaaGreat
