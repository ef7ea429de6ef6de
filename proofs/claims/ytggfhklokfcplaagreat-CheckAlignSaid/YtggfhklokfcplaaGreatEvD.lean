/- The evaluator's operations, further: comparisons with nil, slices, fields, elements, calls. No program is named here. -/
import Derived.Test.YtggfhklokfcplaaGreatEvC
namespace Go.Proofs.YtggfhklokfcplaaGreat
open Go.RowKit
namespace Ev
noncomputable section
section ops
variable (P : Program)

theorem nilCheckA_ok {P : Program} {own : Nat → Prop} {lim : Nat} {σ : Map} {m : M} {w : World} (h : Sim own lim σ m w) {x : AV} {o : Oper} {op : Operand} {ρ : Operand → Value} (ho : o.op = .nilCheck op) (hx : RelV σ x (ρ op)) {r : R} (e : nilCheckA x m = some r) :
    OpOk P own lim σ m w (execOp ρ o) r := by
  unfold nilCheckA at e
  split at e
  · cases e
    simp only [RelV] at hx
    obtain ⟨k, sh, sz, e1, e2⟩ := hx
    refine OpOk.val0 (V := ρ op) h ?_ ⟨k, sh, sz, e1, e2⟩
    simp only [execOp, ho, e2]
    rfl
  · cases e
    simp only [RelV] at hx
    obtain ⟨vs, us, e2, h1, h2⟩ := hx
    refine OpOk.val0 (V := ρ op) h ?_ ⟨vs, us, e2, h1, h2⟩
    simp only [execOp, ho, e2]
    rfl
  · cases e

/-- Comparisons with nil, and of two places in one block: are they alike? -/
def eqA (t : TypeId) (x y : AV) : Option Bool :=
  match P.underlying t, x, y with
  | some (.pointer _), .ptr _ _, .lit (.pointer none) => some false
  | some (.pointer _), .lit (.pointer none), .ptr _ _ => some false
  | some (.pointer el), .ptr b o, .ptr b' o' => match P.info? el with
    | some i => match Nat.beq i.size 0, Nat.beq b b' with
      | false, true => some (Nat.beq o o')
      | _, _ => none
    | none => none
  | some (.slice _), .sl _ _ _ _, .lit (.slice none _ _) => some false
  | some (.slice _), .su _ _ _ _, .lit (.slice none _ _) => some false
  | some (.slice _), .se, .lit (.slice none _ _) => some false
  | some (.slice _), .lit (.slice none _ _), .sl _ _ _ _ => some false
  | some (.slice _), .lit (.slice none _ _), .su _ _ _ _ => some false
  | some (.slice _), .lit (.slice none _ _), .se => some false
  | some (.func _ _ _), .fn _ _ _, .lit .nilFunc => some false
  | some (.func _ _ _), .lit .nilFunc, .fn _ _ _ => some false
  | _, _, _ => none

section
variable {P : Program} {w : World} {t el : TypeId}
theorem eq_p1 (hu : P.underlying t = some (.pointer el)) (a : Addr) (d : Nat) : (Op.equalIn (d + 1) t (.pointer (some a)) (.pointer none)).run P w = .ok false w := by
  simp [Op.equalIn, run_und hu]
theorem eq_p2 (hu : P.underlying t = some (.pointer el)) (a : Addr) (d : Nat) : (Op.equalIn (d + 1) t (.pointer none) (.pointer (some a))).run P w = .ok false w := by
  simp [Op.equalIn, run_und hu]
theorem eq_p3 {i : TypeInfo} (hu : P.underlying t = some (.pointer el)) (hi : P.info? el = some i) (hs : i.size ≠ 0) (k o o' : Nat) (d : Nat) :
    (Op.equalIn (d + 1) t (.pointer (some ⟨k, o, none⟩)) (.pointer (some ⟨k, o', none⟩))).run P w = .ok (decide (o = o')) w := by
  simp only [Op.equalIn, run_und hu, Sem.run_bind, Result.andThen_ok, run_size hi, ne_eq, hs, not_false_eq_true, if_true, sameAddr, beq_self_eq_true, Sem.run_pure]
  congr 1
  by_cases h : o = o'
  · subst h; simp
  · rw [decide_eq_false h, beq_eq_false_iff_ne]; intro e; exact h (by injection e)
theorem eq_s1 (hu : P.underlying t = some (.slice el)) (a : Addr) (n c n' c' : Nat) (d : Nat) : (Op.equalIn (d + 1) t (.slice (some a) n c) (.slice none n' c')).run P w = .ok false w := by
  simp [Op.equalIn, run_und hu]
theorem eq_s2 (hu : P.underlying t = some (.slice el)) (a : Addr) (n c n' c' : Nat) (d : Nat) : (Op.equalIn (d + 1) t (.slice none n' c') (.slice (some a) n c)).run P w = .ok false w := by
  simp [Op.equalIn, run_und hu]
theorem eq_f1 {ps rs : Array TypeId} {v : Bool} (hu : P.underlying t = some (.func ps rs v)) (f : Fn) (a c : Array Value) (d : Nat) : (Op.equalIn (d + 1) t (.func f a c) .nilFunc).run P w = .ok false w := by
  simp [Op.equalIn, run_und hu]
theorem eq_f2 {ps rs : Array TypeId} {v : Bool} (hu : P.underlying t = some (.func ps rs v)) (f : Fn) (a c : Array Value) (d : Nat) : (Op.equalIn (d + 1) t .nilFunc (.func f a c)).run P w = .ok false w := by
  simp [Op.equalIn, run_und hu]
end

theorem eqA_run {P : Program} {σ : Map} {t : TypeId} {x y : AV} {X Y : Value} {b : Bool} {w : World} (hx : RelV σ x X) (hy : RelV σ y Y) (e : eqA P t x y = some b) :
    (Op.equal t X Y).run P w = .ok b w ∧ ((∃ a, X = .pointer a) ∧ (∃ a, Y = .pointer a) ∨ (∃ a n c, X = .slice a n c) ∨ (∃ f a c, X = .func f a c) ∨ X = .nilFunc) := by
  unfold eqA at e
  split at e <;> try cases e
  case h_1 hu =>
    simp only [RelV] at hx hy; obtain ⟨k, sh, sz, e1, rfl⟩ := hx; subst hy
    exact ⟨eq_p1 hu _ 9999, .inl ⟨⟨_, rfl⟩, ⟨_, rfl⟩⟩⟩
  case h_2 hu =>
    simp only [RelV] at hx hy; obtain ⟨k, sh, sz, e1, rfl⟩ := hy; subst hx
    exact ⟨eq_p2 hu _ 9999, .inl ⟨⟨_, rfl⟩, ⟨_, rfl⟩⟩⟩
  case h_3 el b1 o1 b2 o2 hu =>
    simp only [RelV] at hx hy
    obtain ⟨k, sh, sz, e1, rfl⟩ := hx
    obtain ⟨k', sh', sz', e1', rfl⟩ := hy
    split at e
    · rename_i i hi
      split at e
      · rename_i h1 h2
        cases e
        have := Nat.eq_of_beq_eq_true h2
        subst this
        rw [e1] at e1'; cases e1'
        refine ⟨?_, .inl ⟨⟨_, rfl⟩, ⟨_, rfl⟩⟩⟩
        have hq : Nat.beq o1 o2 = decide (sh + o1 = sh + o2) := by
          cases hb : Nat.beq o1 o2 with
          | true => have := Nat.eq_of_beq_eq_true hb; simp [this]
          | false => have := Nat.ne_of_beq_eq_false hb; simp [this]
        rw [hq]
        exact eq_p3 hu hi (Nat.ne_of_beq_eq_false h1) k _ _ 9999
      · cases e
    · cases e
  case h_4 hu =>
    simp only [RelV] at hx hy; obtain ⟨k, sh, sz, e1, rfl⟩ := hx; subst hy
    exact ⟨eq_s1 hu _ _ _ _ _ 9999, .inr (.inl ⟨_, _, _, rfl⟩)⟩
  case h_5 hu =>
    simp only [RelV] at hx hy; obtain ⟨k, sh, sz, c, e1, _, _, rfl⟩ := hx; subst hy
    exact ⟨eq_s1 hu _ _ _ _ _ 9999, .inr (.inl ⟨_, _, _, rfl⟩)⟩
  case h_6 hu =>
    simp only [RelV] at hx hy; obtain ⟨k, sh, c, rfl⟩ := hx; subst hy
    exact ⟨eq_s1 hu _ _ _ _ _ 9999, .inr (.inl ⟨_, _, _, rfl⟩)⟩
  case h_7 hu =>
    simp only [RelV] at hx hy; obtain ⟨k, sh, sz, e1, rfl⟩ := hy; subst hx
    exact ⟨eq_s2 hu _ _ _ _ _ 9999, .inr (.inl ⟨_, _, _, rfl⟩)⟩
  case h_8 hu =>
    simp only [RelV] at hx hy; obtain ⟨k, sh, sz, c, e1, _, _, rfl⟩ := hy; subst hx
    exact ⟨eq_s2 hu _ _ _ _ _ 9999, .inr (.inl ⟨_, _, _, rfl⟩)⟩
  case h_9 hu =>
    simp only [RelV] at hx hy; obtain ⟨k, sh, c, rfl⟩ := hy; subst hx
    exact ⟨eq_s2 hu _ _ _ _ _ 9999, .inr (.inl ⟨_, _, _, rfl⟩)⟩
  case h_10 hu =>
    simp only [RelV] at hx hy; obtain ⟨vs, us, rfl, _, _⟩ := hx; subst hy
    exact ⟨eq_f1 hu _ _ _ 9999, .inr (.inr (.inl ⟨_, _, _, rfl⟩))⟩
  case h_11 hu =>
    simp only [RelV] at hx hy; obtain ⟨vs, us, rfl, _, _⟩ := hy; subst hx
    exact ⟨eq_f2 hu _ _ _ 9999, .inr (.inr (.inr rfl))⟩

def binA (op : BinOp) (t : TypeId) (xo yo : Operand) (x y : AV) (m : M) : Option R :=
  match toVal x, toVal y with
  | some a, some b => litOp P (do eqGuard op t xo yo a b; binOp op t a b) m
  | _, _ => match op with
    | .eql => match eqA P t x y with
      | some b => some (.val (.lit (.bool b)) m)
      | none => none
    | .neq => match eqA P t x y with
      | some b => some (.val (.lit (.bool (!b))) m)
      | none => none
    | _ => none

theorem binA_ok {P : Program} {own : Nat → Prop} {lim : Nat} {σ : Map} {m : M} {w : World} (h : Sim own lim σ m w) {op : BinOp} {t : TypeId} {xo yo : Operand} {x y : AV} {X Y : Value} (hx : RelV σ x X) (hy : RelV σ y Y) {r : R} (e : binA P op t xo yo x y m = some r) :
    OpOk P own lim σ m w (do pure (.value (← (do eqGuard op t xo yo X Y; binOp op t X Y : Sem Value)))) r := by
  unfold binA at e
  split at e
  · rename_i a b ha hb
    rw [toVal_eq hx ha, toVal_eq hy hb]
    exact litOp_ok h e
  · have key : ∀ (b : Bool), eqA P t x y = some b → (op = .eql ∨ op = .neq) → (do eqGuard op t xo yo X Y; binOp op t X Y : Sem Value).run P w = .ok (.bool (if op = .eql then b else !b)) w := by
      intro b hb hop
      obtain ⟨h1, h2⟩ := eqA_run (w := w) hx hy hb
      have hg : (eqGuard op t xo yo X Y).run P w = .ok () w := by
        unfold eqGuard
        rcases hop with rfl | rfl <;> rcases h2 with ⟨⟨a, rfl⟩, ⟨c, rfl⟩⟩ | ⟨a, n, c, rfl⟩ | ⟨f, a, c, rfl⟩ | rfl <;> rfl
      rw [Sem.run_bind, hg, Result.andThen_ok]
      rcases hop with rfl | rfl <;> rcases h2 with ⟨⟨a, rfl⟩, ⟨c, rfl⟩⟩ | ⟨a, n, c, rfl⟩ | ⟨f, a, c, rfl⟩ | rfl <;> simp [binOp, h1]
    split at e
    · split at e
      · rename_i b hb
        cases e
        refine OpOk.val0 (V := .bool b) h ?_ rfl
        rw [Sem.run_bind, key b hb (.inl rfl)]; rfl
      · cases e
    · split at e
      · rename_i b hb
        cases e
        refine OpOk.val0 (V := .bool (!b)) h ?_ rfl
        rw [Sem.run_bind, key b hb (.inr rfl)]; rfl
      · cases e
    · cases e

/- makeSlice -/
def intA : AV → Option Int
  | .lit (.int _ n) => some n
  | _ => none

def makeA (t : TypeId) (x y : AV) (m : M) : Option R := match P.underlying t with
  | some (.slice el) => match P.info? el with
    | none => none
    | some i => match intA x, intA y with
      | some l, some c => match i.zero with
        | none => none
        | some z =>
          match decide (0 ≤ IntKind.i64.wrap l) && decide (IntKind.i64.wrap l ≤ IntKind.i64.wrap c) && decide (i.bytes * IntKind.i64.wrap c ≤ 2 ^ 48) with
          | false => none
          | true => match Nat.beq ((IntKind.i64.wrap c).toNat * i.size) 0 with
            | true => some (.val (.sl m.nx 0 (IntKind.i64.wrap l).toNat (IntKind.i64.wrap c).toNat) (newBlk m []))
            | false => some (.val (.sl m.nx 0 (IntKind.i64.wrap l).toNat (IntKind.i64.wrap c).toNat) (newBlk m ((zeros z.cells ((IntKind.i64.wrap c).toNat * i.size)).map .lit)))
      | _, _ => none
  | _ => none

theorem intA_ok {σ : Map} {x : AV} {X : Value} {n : Int} (h : RelV σ x X) (e : intA x = some n) : ∃ k, X = .int k n := by
  unfold intA at e
  split at e
  · cases e; simp only [RelV] at h; exact ⟨_, h⟩
  · cases e

theorem makeA_ok {P : Program} {own : Nat → Prop} {lim : Nat} {σ : Map} {m : M} {w : World} (h : Sim own lim σ m w) {t : TypeId} {x y : AV} {X Y : Value} (hx : RelV σ x X) (hy : RelV σ y Y) {r : R} (e : makeA P t x y m = some r) (hl : outNx r ≤ lim) :
    OpOk P own lim σ m w (do pure (.value (← Instr.makeSlice t X Y))) r := by
  unfold makeA at e
  split at e
  · rename_i el hu
    split at e
    · cases e
    rename_i i hi
    split at e
    · rename_i l c hlx hcx
      obtain ⟨k1, rfl⟩ := intA_ok hx hlx
      obtain ⟨k2, rfl⟩ := intA_ok hy hcx
      split at e
      · cases e
      rename_i z hz
      split at e
      · cases e
      rename_i hc
      simp only [Bool.and_eq_true, decide_eq_true_eq] at hc
      obtain ⟨⟨c1, c2⟩, c3⟩ := hc
      have hz0 : ∀ f : Nat → Value, (Array.range 0).map f = #[] := fun f => by simp [Array.range]
      have hno : ¬ (((IntKind.i64.wrap c < 0 || i.bytes * IntKind.i64.wrap c > 2 ^ 48) = true ∨ IntKind.i64.wrap l < 0) ∨ IntKind.i64.wrap l > IntKind.i64.wrap c) := by
        rintro ((h1 | h1) | h1)
        · simp only [Bool.or_eq_true, decide_eq_true_eq] at h1; omega
        · omega
        · omega
      split at e
      · rename_i hb
        cases e
        obtain ⟨w', σ', A, g1, g2, g3, g4, g5⟩ := newVar_ok (P := P) h (show m.nx < lim from hl) (cs := []) (C := #[]) rfl el
        refine ⟨w', σ', .slice (some A) _ _, .inl ?_, ⟨_, _, _, g2, by rw [g3]⟩, g4, g5⟩
        have hb' := Nat.eq_of_beq_eq_true hb
        simp only [Instr.makeSlice, Sem.run_bind, run_und hu, Result.andThen_ok, asInt, asIntOf, Sem.run_pure, run_info hi]
        simp only [Bool.or_eq_true, decide_eq_true_eq] at hno ⊢
        rw [if_neg hno]
        simp only [Sem.run_bind, run_askRoom, Result.andThen_ok, run_size hi, hb', if_true, Sem.run_pure, hz0, g1]
      · rename_i hb
        cases e
        obtain ⟨w', σ', A, g1, g2, g3, g4, g5⟩ := newVar_ok (P := P) h (show m.nx < lim from hl) (C := (Array.range ((IntKind.i64.wrap c).toNat * i.size)).map (fun i => z.cells[i % z.cells.size]!)) (by rw [zeros_eq]; exact cellsA_lit_rel σ _) el
        refine ⟨w', σ', .slice (some A) _ _, .inl ?_, ⟨_, _, _, g2, by rw [g3]⟩, g4, g5⟩
        have hb' := Nat.ne_of_beq_eq_false hb
        simp only [Instr.makeSlice, Sem.run_bind, run_und hu, Result.andThen_ok, asInt, asIntOf, Sem.run_pure, run_info hi]
        simp only [Bool.or_eq_true, decide_eq_true_eq] at hno ⊢
        rw [if_neg hno]
        simp only [Sem.run_bind, run_askRoom, Result.andThen_ok, run_size hi, if_neg hb', run_zero hi hz, Sem.run_pure, g1]
    · cases e
  · cases e

/- slices of slices -/
def sbA (v : AV) (y : Nat) : Option Nat := match v with
  | .lit (.int _ i) => match decide (0 ≤ i) && decide (i ≤ y) with
    | true => some i.toNat
    | false => none
  | _ => none

theorem sbA_run {P : Program} {w : World} {σ : Map} {v : AV} {V : Value} {y y' i : Nat} {code : BoundsCode} (h : RelV σ v V) (e : sbA v y = some i) (hy : y ≤ y') : (Instr.sliceBound V y' code).run P w = .ok i w ∧ i ≤ y := by
  unfold sbA at e
  split at e
  · rename_i k n
    split at e
    · rename_i hc
      cases e
      simp only [Bool.and_eq_true, decide_eq_true_eq] at hc
      simp only [RelV] at h
      subst h
      refine ⟨?_, by omega⟩
      simp only [Instr.sliceBound, asIntOf, Sem.run_bind, Sem.run_pure, Result.andThen_ok]
      rw [if_pos ⟨hc.1, by omega⟩]; rfl
    · cases e
  · cases e

/-- The three bounds; y: up to where a bound may reach (the length, or the room). -/
def boundsA (len y : Nat) (capk : Option Nat) (low high max : Option AV) : Option (Nat × Nat × Option Nat) :=
  match (match max with
    | some v => match sbA v y with | some i => some (some i) | none => none
    | none => some none) with
  | none => none
  | some mx => match (match high with
      | some v => sbA v (match mx with | some i => i | none => y)
      | none => match mx with | some _ => none | none => some len) with
    | none => none
    | some h => match (match low with | some v => sbA v h | none => some 0) with
      | none => none
      | some l => some (l, h, match mx with | some i => some i | none => capk)

inductive OptRel (σ : Map) : Option AV → Option Value → Prop
  | none : OptRel σ none none
  | some {v V} (h : RelV σ v V) : OptRel σ (some v) (some V)

theorem boundsA_run {P : Program} {w : World} {σ : Map} {isSlice : Bool} {len y cap : Nat} {capk : Option Nat} {low high max : Option AV} {Low High Max : Option Value} {l h : Nat} {mo : Option Nat}
    (hl : OptRel σ low Low) (hh : OptRel σ high High) (hm : OptRel σ max Max) (e : boundsA len y capk low high max = some (l, h, mo)) (hy : y ≤ cap) (hlen : len ≤ y) :
    ∃ mm, (Instr.sliceBounds isSlice len cap Low High Max).run P w = .ok (l, h, mm) w ∧ l ≤ h ∧ h ≤ y ∧ h ≤ mm ∧ mm ≤ cap ∧ (mo = some mm ∨ (mo = capk ∧ mm = cap)) ∧ (Max = none → mm = cap) ∧ (Max ≠ none → mm ≤ y ∧ mo = some mm) := by
  unfold boundsA at e
  cases hm with
  | none =>
    dsimp only at e
    split at e
    · cases e
    rename_i h' hh'
    split at e
    · cases e
    rename_i l' hl'
    simp only [Option.some.injEq, Prod.mk.injEq] at e
    obtain ⟨rfl, rfl, rfl⟩ := e
    refine ⟨cap, ?_, ?_, ?_, ?_, Nat.le_refl _, .inr ⟨rfl, rfl⟩, fun _ => rfl, fun hne => absurd rfl hne⟩
    · unfold Instr.sliceBounds
      cases hh with
      | none =>
        simp only [Option.some.injEq] at hh'
        subst hh'
        cases hl with
        | none => simp only [Option.some.injEq] at hl'; subst hl'; simp only [Sem.run_bind, Sem.run_pure, Result.andThen_ok]
        | some hvl => simp only [Sem.run_bind, Sem.run_pure, Result.andThen_ok, Option.isSome_none, Bool.false_eq_true, if_false, (sbA_run hvl hl' (Nat.le_refl _)).1]
      | some hv =>
        cases hl with
        | none => simp only [Option.some.injEq] at hl'; subst hl'; simp only [Sem.run_bind, Sem.run_pure, Result.andThen_ok, (sbA_run hv hh' hy).1]
        | some hvl => simp only [Sem.run_bind, Sem.run_pure, Result.andThen_ok, Option.isSome_none, Bool.false_eq_true, if_false, (sbA_run hv hh' hy).1, (sbA_run hvl hl' (Nat.le_refl _)).1]
    · cases hl with
      | none => simp only [Option.some.injEq] at hl'; omega
      | some hv => exact (sbA_run (P := P) (w := w) (code := .index) hv hl' (Nat.le_refl _)).2
    · cases hh with
      | none => simp only [Option.some.injEq] at hh'; omega
      | some hv => exact (sbA_run (P := P) (w := w) (code := .index) hv hh' hy).2
    · cases hh with
      | none => simp only [Option.some.injEq] at hh'; omega
      | some hv => have := (sbA_run (P := P) (w := w) (code := .index) hv hh' hy).2; omega
  | some hv0 =>
    dsimp only at e
    split at e
    · cases e
    rename_i mx hmx
    split at hmx
    · rename_i i hi
      simp only [Option.some.injEq] at hmx
      subst hmx
      dsimp only at e
      obtain ⟨r0, b0⟩ := sbA_run (P := P) (w := w) (code := if isSlice then .slice3Acap else .slice3Alen) hv0 hi hy
      cases hh with
      | none => cases e
      | some hv =>
        dsimp only at e
        split at e
        · cases e
        rename_i h' hh'
        split at e
        · cases e
        rename_i l' hl'
        simp only [Option.some.injEq, Prod.mk.injEq] at e
        obtain ⟨rfl, rfl, rfl⟩ := e
        obtain ⟨r1, b1⟩ := sbA_run (P := P) (w := w) (code := .slice3B) hv hh' (Nat.le_refl _)
        refine ⟨i, ?_, ?_, by omega, b1, by omega, .inl rfl, fun hn => by simp at hn, fun _ => ⟨b0, rfl⟩⟩
        · unfold Instr.sliceBounds
          cases hl with
          | none => simp only [Option.some.injEq] at hl'; subst hl'; simp only [Sem.run_bind, Sem.run_pure, r0, Result.andThen_ok, r1]
          | some hvl => simp only [Sem.run_bind, Sem.run_pure, r0, Result.andThen_ok, r1, Option.isSome_some, if_true, (sbA_run hvl hl' (Nat.le_refl _)).1]
        · cases hl with
          | none => simp only [Option.some.injEq] at hl'; omega
          | some hvl => exact (sbA_run (P := P) (w := w) (code := .index) hvl hl' (Nat.le_refl _)).2
    · cases hmx

/-- Where a cut slice begins. -/
def cutAt (o l size : Nat) (m : Nat) : Nat := match Nat.beq m l with | true => o | false => o + l * size

theorem cut_addr (k o l size m : Nat) : (if m = l then (⟨k, o, none⟩ : Addr) else (⟨k, o, none⟩ : Addr).add (l * size)) = ⟨k, cutAt o l size m, none⟩ := by
  unfold cutAt
  cases hb : Nat.beq m l with
  | true => rw [if_pos (Nat.eq_of_beq_eq_true hb)]
  | false => rw [if_neg (Nat.ne_of_beq_eq_false hb), add_none]

theorem cutAt_add (sh o l size m : Nat) : cutAt (sh + o) l size m = sh + cutAt o l size m := by
  unfold cutAt; split <;> omega

def sliceA (t : TypeId) (x : AV) (low high max : Option AV) (m : M) : Option R :=
  match P.underlying t, x with
  | some (.array n el), .ptr b o => match P.info? el with
    | none => none
    | some i => match boundsA n n (some n) low high max with
      | some (l, h, some mm) => some (.val (.sl b (cutAt o l i.size mm) (Nat.sub h l) (Nat.sub mm l)) m)
      | _ => none
  | some (.slice el), .sl b o len cap => match Nat.ble len cap with
    | false => none
    | true => match P.info? el with
      | none => none
      | some i => match boundsA len cap (some cap) low high max with
        | some (l, h, some mm) => some (.val (.sl b (cutAt o l i.size mm) (Nat.sub h l) (Nat.sub mm l)) m)
        | _ => none
  | some (.slice el), .su b o len es => match P.info? el with
    | none => none
    | some i => match Nat.beq i.size es, boundsA len len none low high max with
      | true, some (l, h, some mm) => some (.val (.sl b (cutAt o l i.size mm) (Nat.sub h l) (Nat.sub mm l)) m)
      | true, some (l, h, none) => match Nat.beq l 0 with
        | true => some (.val (.su b o h es) m)
        | false => match Nat.blt l len with
          | true => some (.val (.su b (o + l * es) (Nat.sub h l) es) m)
          | false => some (.val .se m)
      | _, _ => none
  | some (.slice el), .se => match P.info? el with
    | none => none
    | some _ => match boundsA 0 0 none low high max with
      | some _ => some (.val .se m)
      | none => none
  | _, _ => none

theorem sliceA_ok {P : Program} {own : Nat → Prop} {lim : Nat} {σ : Map} {m : M} {w : World} (h : Sim own lim σ m w) {t : TypeId} {x : AV} {X : Value} {low high max : Option AV} {Low High Max : Option Value} (hx : RelV σ x X)
    (hl : OptRel σ low Low) (hh : OptRel σ high High) (hm : OptRel σ max Max) {r : R} (e : sliceA P t x low high max m = some r) :
    OpOk P own lim σ m w (do pure (.value (← Instr.sliceAt t X Low High Max))) r := by
  unfold sliceA at e
  split at e
  · rename_i n el b o hu
    split at e
    · cases e
    rename_i i hi
    split at e
    · rename_i l h' mm hb
      cases e
      simp only [RelV] at hx
      obtain ⟨k, sh, sz, e1, rfl⟩ := hx
      obtain ⟨mm', g1, g2, g3, g4, g5, g6, g7, g8⟩ := boundsA_run (P := P) (w := w) (isSlice := false) (cap := n) hl hh hm hb (Nat.le_refl _) (Nat.le_refl _)
      have hmm : mm' = mm := by rcases g6 with g | ⟨g, g'⟩ <;> simp only [Option.some.injEq] at g <;> omega
      subst hmm
      refine OpOk.val0 (V := .slice (some ⟨k, sh + cutAt o l i.size mm', none⟩) (h' - l) (mm' - l)) h ?_ ⟨k, sh, sz, e1, rfl⟩
      simp only [Instr.sliceAt, Sem.run_bind, run_und hu, Result.andThen_ok, Instr.sureAddr, Sem.run_pure, g1, run_size hi, cut_addr, cutAt_add]
    · cases e
  · rename_i el b o len cap hu
    split at e
    · cases e
    rename_i hlc
    split at e
    · cases e
    rename_i i hi
    split at e
    · rename_i l h' mm hb
      cases e
      simp only [RelV] at hx
      obtain ⟨k, sh, sz, e1, rfl⟩ := hx
      obtain ⟨mm', g1, g2, g3, g4, g5, g6, g7, g8⟩ := boundsA_run (P := P) (w := w) (isSlice := true) (cap := cap) hl hh hm hb (Nat.le_refl _) (Nat.le_of_ble_eq_true hlc)
      have hmm : mm' = mm := by rcases g6 with g | ⟨g, g'⟩ <;> simp only [Option.some.injEq] at g <;> omega
      subst hmm
      refine OpOk.val0 (V := .slice (some ⟨k, sh + cutAt o l i.size mm', none⟩) (h' - l) (mm' - l)) h ?_ ⟨k, sh, sz, e1, rfl⟩
      simp only [Instr.sliceAt, Sem.run_bind, run_und hu, Result.andThen_ok, Instr.slice, Sem.run_pure, g1, run_size hi, Option.map_some]
      congr 2
      rw [← cutAt_add, ← cut_addr]
      split <;> rfl
    · cases e
  · rename_i el b o len es hu
    split at e
    · cases e
    rename_i i hi
    simp only [RelV] at hx
    obtain ⟨k, sh, sz, c, e1, e2, e3, rfl⟩ := hx
    split at e
    · rename_i l h' mm hs hb
      cases e
      obtain ⟨mm', g1, g2, g3, g4, g5, g6, g7, g8⟩ := boundsA_run (P := P) (w := w) (isSlice := true) (cap := c) hl hh hm hb e2 (Nat.le_refl _)
      have hmm : mm' = mm := by rcases g6 with g | ⟨g, g'⟩ <;> simp at g; omega
      subst hmm
      refine OpOk.val0 (V := .slice (some ⟨k, sh + cutAt o l i.size mm', none⟩) (h' - l) (mm' - l)) h ?_ ⟨k, sh, sz, e1, rfl⟩
      simp only [Instr.sliceAt, Sem.run_bind, run_und hu, Result.andThen_ok, Instr.slice, Sem.run_pure, g1, run_size hi, Option.map_some]
      congr 2
      rw [← cutAt_add, ← cut_addr]
      split <;> rfl
    · rename_i l h' hs hb
      obtain ⟨mm', g1, g2, g3, g4, g5, g6, g7, g8⟩ := boundsA_run (P := P) (w := w) (isSlice := true) (cap := c) hl hh hm hb e2 (Nat.le_refl _)
      have hmm : mm' = c := by rcases g6 with g | ⟨g, g'⟩ <;> simp at g; omega
      subst hmm
      have hes := Nat.eq_of_beq_eq_true hs
      have hrun : (Instr.sliceAt t (.slice (some ⟨k, sh + o, none⟩) len mm') Low High Max).run P w = .ok (.slice (some ⟨k, sh + cutAt o l i.size mm', none⟩) (h' - l) (mm' - l)) w := by
        simp only [Instr.sliceAt, Sem.run_bind, run_und hu, Result.andThen_ok, Instr.slice, Sem.run_pure, g1, run_size hi, Option.map_some]
        congr 2
        rw [← cutAt_add, ← cut_addr]
        split <;> rfl
      split at e
      · rename_i h0
        cases e
        have h0 := Nat.eq_of_beq_eq_true h0
        subst h0
        refine OpOk.val0 h (by rw [Sem.run_bind, hrun]; rfl) ⟨k, sh, sz, mm', e1, by omega, e3, ?_⟩
        have : cutAt o 0 i.size mm' = o := by unfold cutAt; split <;> simp
        rw [this]; rfl
      · rename_i h0
        split at e
        · rename_i hlt
          cases e
          have hlt := Nat.le_of_ble_eq_true hlt
          have hcut : cutAt o l i.size mm' = o + l * es := by
            unfold cutAt
            have : Nat.beq mm' l = false := by
              cases hq : Nat.beq mm' l with
              | false => rfl
              | true => have := Nat.eq_of_beq_eq_true hq; omega
            rw [this, hes]
          refine OpOk.val0 h (by rw [Sem.run_bind, hrun]; rfl) ⟨k, sh, sz, mm' - l, e1, by show h' - l ≤ mm' - l; omega, ?_, by rw [hcut]; rfl⟩
          have : l * es + (mm' - l) * es = mm' * es := by rw [← Nat.add_mul]; congr 1; omega
          omega
        · rename_i hlt
          cases e
          have hlt : ¬ l < len := fun hc => by
            have : Nat.blt l len = true := by simpa [Nat.blt_eq] using hc
            rw [this] at hlt; cases hlt
          exact OpOk.val0 h (by rw [Sem.run_bind, hrun]; rfl) ⟨k, sh + cutAt o l i.size mm', mm' - l, by rw [show h' - l = 0 by omega]⟩
    · cases e
  · rename_i el hu
    split at e
    · cases e
    rename_i i hi
    split at e
    · rename_i q hb
      cases e
      obtain ⟨l, h', mo⟩ := q
      simp only [RelV] at hx
      obtain ⟨k, o, c, rfl⟩ := hx
      obtain ⟨mm', g1, g2, g3, g4, g5, g6, g7, g8⟩ := boundsA_run (P := P) (w := w) (isSlice := true) (cap := c) hl hh hm hb (Nat.zero_le _) (Nat.le_refl _)
      refine OpOk.val0 (V := .slice (some ⟨k, cutAt o l i.size mm', none⟩) (h' - l) (mm' - l)) h ?_ ⟨k, cutAt o l i.size mm', mm' - l, by rw [show h' - l = 0 by omega]⟩
      simp only [Instr.sliceAt, Sem.run_bind, run_und hu, Result.andThen_ok, Instr.slice, Sem.run_pure, g1, run_size hi, Option.map_some]
      congr 2
      rw [← cut_addr]
      split <;> rfl
    · cases e
  · cases e
end ops
end
end Ev
end Go.Proofs.YtggfhklokfcplaaGreat
