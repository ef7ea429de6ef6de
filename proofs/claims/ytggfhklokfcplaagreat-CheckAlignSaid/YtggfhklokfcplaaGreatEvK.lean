/- What the evaluator answers the model does. No program is named here. -/
import Derived.Test.YtggfhklokfcplaaGreatEvJ
namespace Go.Proofs.YtggfhklokfcplaaGreat
open Go.RowKit
namespace Ev

theorem putA_ok {own : Nat → Prop} {lim : Nat} {σ : Map} {s s' : St} {a : Act} {w : World} {d : Option Tmp} {v : AV} {V : Value} (h : SimS own lim σ s a w) (hv : RelV σ v V) (e : putA s d v = some s') : SimS own lim σ s' (a.put d V) w ∧ s'.m = s.m ∧ s'.nt = s.nt := by
  unfold putA at e
  split at e
  · cases e; exact ⟨h, rfl, rfl⟩
  · rename_i d
    split at e
    · rename_i hd
      cases e
      have hd : d < s.nt := Nat.le_of_ble_eq_true hd
      refine ⟨⟨h.sim, by simp [Act.put, h.size], ?_, h.defers⟩, rfl, rfl⟩
      intro k x hk
      simp only [Act.put]
      rcases T.get_upd _ _ _ _ _ _ hk with ⟨rfl, e⟩ | ⟨e, hk⟩
      · simp only [Option.some.injEq] at e
        subst e
        rw [Array.getD_eq_getD_getElem?, Array.getElem?_setIfInBounds_self_of_lt (by rw [h.size]; exact hd)]
        exact hv
      · rw [Array.getD_eq_getD_getElem?, Array.getElem?_setIfInBounds_ne (by omega), ← Array.getD_eq_getD_getElem?]
        exact h.slots k x hk
    · cases e

theorem wantedA_ok {σ : Map} {ops : Array Oper} {t : T AV} {a : Act} {o : Oper} {b : Bool} (h : Slots σ t a) (e : wantedA ops t o = some b) : Region.wanted o (yielded ops a.tmps) = b := by
  unfold wantedA at e
  unfold Region.wanted
  split at e
  · rename_i hg
    cases e
    rw [hg]
  · rename_i j want hg
    rw [hg]
    split at e
    · cases e
    rename_i d hd
    split at e
    · rename_i c hc
      cases e
      have := h d _ hc
      simp only [RelV] at this
      have hy : yielded ops a.tmps j = some c := by
        unfold yielded
        rw [hd]
        simp only [Option.bind_some]
        rw [Array.getD_eq_getD_getElem?] at this
        cases hq : a.tmps[d]? with
        | none => rw [hq] at this; simp [undef] at this
        | some x => rw [hq] at this; simp at this; subst this; rfl
      simp only [hy]
      cases c <;> cases want <;> rfl
    · rename_i c hc
      cases e
      have := h d _ hc
      simp only [RelV] at this
      have hy : yielded ops a.tmps j = none := by
        unfold yielded
        rw [hd]
        simp only [Option.bind_some]
        rw [Array.getD_eq_getD_getElem?] at this
        cases hq : a.tmps[d]? with
        | none => rfl
        | some x => rw [hq] at this; simp at this; subst this; rfl
      simp only [hy]
      cases want <;> rfl
    · cases e

theorem loadV_ok {P : Program} {own : Nat → Prop} {lim : Nat} {σ : Map} {m : M} {w : World} (h : Sim own lim σ m w) {t : TypeId} {x : AV} {X : Value} (hx : RelV σ x X) {v : AV} (e : loadV P t x m = some v) :
    ∃ V, (do loadVar t (← asAddr X) : Sem Value).run P w = .ok V w ∧ RelV σ v V := by
  unfold loadV at e
  split at e
  · rename_i v' m' hl
    cases e
    unfold loadA at hl
    split at hl
    · rename_i b o
      split at hl
      · cases hl
      rename_i B hB
      simp only [RelV] at hx
      obtain ⟨k, sh, sz, e1, rfl⟩ := hx
      split at hl
      · rename_i ha
        split at hl
        · cases hl
        rename_i i hi
        split at hl
        · cases hl
        rename_i l hl'
        cases hl
        obtain ⟨k', sh', sz', L, e1', _, g1, g2⟩ := h.load (P := P) hB hl'
        rw [e1] at e1'; cases e1'
        refine ⟨.agg L, ?_, ⟨_, rfl, g2⟩⟩
        simp only [asAddr, loadVar, Sem.run_bind, Sem.run_pure, Result.andThen_ok, isAggT_run ha, if_true, run_size hi, g1]
      · rename_i ha
        split at hl
        · cases hl
        rename_i v hv
        cases hl
        have hc : m.cell b o = some v := by unfold M.cell; rw [hB]; exact hv
        obtain ⟨k', sh', sz', V, e1', _, g1, g2, _⟩ := h.cell hc
        rw [e1] at e1'; cases e1'
        refine ⟨V, ?_, g2⟩
        simp only [asAddr, loadVar, Sem.run_bind, Sem.run_pure, Result.andThen_ok, isAggT_run ha, Bool.false_eq_true, if_false, run_load, g1]
      · cases hl
    · cases hl
  · cases e

def resV (tmps : Array Value) : ResultVar → Sem Value
  | .tmp t => pure (tmps.getD t undef)
  | .cell a t => do loadVar t (← asAddr (tmps.getD a undef))

theorem resultsA_ok {P : Program} {own : Nat → Prop} {lim : Nat} {σ : Map} {s : St} {a : Act} {w : World} (h : SimS own lim σ s a w) : ∀ {rs : List ResultVar} {l : List AV}, resultsA P s rs = some l →
    ∃ L, (rs.mapM (resV a.tmps)).run P w = .ok L w ∧ RelL σ l L
  | [], l, e => by simp only [resultsA, Option.some.injEq] at e; subst e; exact ⟨[], rfl, rfl⟩
  | .tmp k :: r, l, e => by
    simp only [resultsA] at e
    split at e
    · cases e
    rename_i v hv
    split at e
    · cases e
    rename_i l' hl
    cases e
    obtain ⟨L, g1, g2⟩ := resultsA_ok h hl
    refine ⟨a.tmps.getD k undef :: L, ?_, ⟨_, _, rfl, h.slots k v hv, g2⟩⟩
    simp only [List.mapM_cons, Sem.run_bind, resV, Sem.run_pure, Result.andThen_ok, g1]
  | .cell k ty :: r, l, e => by
    simp only [resultsA] at e
    split at e
    · cases e
    rename_i x hx
    split at e
    · cases e
    rename_i v hv
    split at e
    · cases e
    rename_i l' hl
    cases e
    obtain ⟨L, g1, g2⟩ := resultsA_ok h hl
    obtain ⟨V, g3, g4⟩ := loadV_ok (P := P) h.sim (h.slots k x hx) hv
    refine ⟨V :: L, ?_, ⟨_, _, rfl, g4, g2⟩⟩
    have g3' : (resV a.tmps (.cell k ty)).run P w = .ok V w := g3
    simp only [List.mapM_cons, Sem.run_bind, g3', Sem.run_pure, Result.andThen_ok, g1]

theorem results_ok {P : Program} {own : Nat → Prop} {lim : Nat} {σ : Map} {s : St} {a : Act} {w : World} {fn : Func} {l : List AV} (h : SimS own lim σ s a w) (e : resultsA P s fn.results.toList = some l) :
    ∃ V, (results fn a.tmps).run P w = .ok V w ∧ RelV σ (oneA l) V := by
  obtain ⟨L, g1, g2⟩ := resultsA_ok h e
  have hm : (fn.results.mapM (resV a.tmps)).run P w = .ok L.toArray w := by
    rw [← Array.toArray_toList (xs := fn.results), List.mapM_toArray, Sem.run_map, g1]
    rfl
  have hr : (results fn a.tmps).run P w = .ok (if h : L.toArray.size = 1 then L.toArray[0] else .tuple L.toArray) w := by
    have : results fn a.tmps = (do let vs ← fn.results.mapM (resV a.tmps); pure (if h : vs.size = 1 then vs[0] else .tuple vs)) := by
      unfold results
      congr 1
    rw [this, Sem.run_bind, hm]
    rfl
  refine ⟨_, hr, ?_⟩
  have hlen := g2.length
  unfold oneA
  split
  · rename_i v
    simp only [RelL] at g2
    obtain ⟨V, l', rfl, h1, h2⟩ := g2
    subst h2
    simpa using h1
  · rename_i hne
    rw [dif_neg]
    · exact ⟨_, rfl, by simpa using g2⟩
    · intro h1
      simp at h1
      rw [h1] at hlen
      match l, hlen with
      | [v], _ => exact hne v rfl

theorem bodyA_ok {P : Program} {self : Self} (hg : Good P self) (f : Nat) : CallGood P f (bodyA P self f) := by
  intro args m v m' e hf
  unfold bodyA at e
  split at e
  · cases e
  rename_i fn hfn
  split at e
  · cases e
  rename_i c hc
  have main : ∀ (ex : AE) (s : St) (l : List AV), self c { t := ofList 0 args .nil, nt := args.length + (fn.ntmps - args.length), m } = some (ex, s) → (ex = .normal ∨ ex = .ret) → resultsA P s fn.results.toList = some l → (v, m') = (oneA l, s.m) → Pure m m' ∧
      ∀ own lim σ w Args, m'.nx ≤ lim → Sim own lim σ m w → RelL σ args Args.toList → Calls P f Args w fun e w' => ∃ V σ', e = .returned V ∧ RelV σ' v V ∧ Sim own lim σ' m' w' ∧ Ext own σ σ' m m' w w' := by
    intro ex s l hs hex hl hv
    cases hv
    obtain ⟨p, _, hw⟩ := hg _ _ _ _ hs hf
    refine ⟨p, fun own lim σ w Args hlim hsim hargs => ?_⟩
    have hlen : Args.size = args.length := by have := hargs.length; simpa using this
    refine calls_of_wp hfn hc ?_
    have hS : SimS own lim σ { t := ofList 0 args .nil, nt := args.length + (fn.ntmps - args.length), m } { tmps := Args ++ Array.replicate (fn.ntmps - Args.size) undef, defers := [] } w := by
      refine ⟨hsim, by simp [hlen], ?_, rfl⟩
      intro k x hk
      rcases ofList_get _ _ _ _ _ hk with ⟨_, h2⟩ | ⟨_, h2⟩
      · simp only [Nat.sub_zero] at h2
        obtain ⟨V, h3, h4⟩ := hargs.get h2
        have h3' : Args[k]? = some V := by simpa using h3
        have hk' : k < Args.size := (Array.getElem?_eq_some_iff.1 h3').1
        rw [Array.getD_eq_getD_getElem?, Array.getElem?_append_left hk', h3']
        exact h4
      · rw [T.get_nil] at h2; cases h2
    refine wp_mono (hw own lim σ _ w hlim hS).1 ?_
    rintro E a w' ⟨rfl, σ', h1, h2⟩
    obtain ⟨V, g1, g2⟩ := results_ok h1 hl
    rcases hex with rfl | rfl
    · exact ⟨h1.defers, V, g1, V, σ', rfl, g2, h1.sim, h2⟩
    · exact ⟨h1.defers, V, g1, V, σ', rfl, g2, h1.sim, h2⟩
  split at e
  · rename_i s hs
    split at e
    · cases e
    rename_i l hl
    cases e
    exact main .normal s l hs (.inl rfl) hl rfl
  · rename_i s hs
    split at e
    · cases e
    rename_i l hl
    cases e
    exact main .ret s l hs (.inr rfl) hl rfl
  · cases e

theorem callA_ok {P : Program} {pr : Prim} {self : Self} (hg : Good P self) (hp : PrimOk P pr) (f : Nat) : CallGood P f (callA P pr self f) := by
  intro args m v m' e hf
  unfold callA at e
  split at e
  · rename_i g hgf
    exact hp self hg f g hgf args m v m' e hf
  · exact bodyA_ok hg f args m v m' e hf

/-- One operation, whatever comes behind it. -/
theorem doOp_ok {P : Program} {pr : Prim} {self : Self} (hg : Good P self) (hp : PrimOk P pr) {o : Oper} {s : St} {v : AV} {m' : M} (e : doOp P pr self o s = some (v, m')) (hf : Okm s.m) : Pure s.m m' ∧
    ∀ own lim σ a w, m'.nx ≤ lim → Sim own lim σ s.m w → Slots σ s.t a → ∀ (next : Act → World → Prop) (Q : Exit → Act → World → Prop),
      (∀ V σ' w', RelV σ' v V → Sim own lim σ' m' w' → Ext own σ σ' s.m m' w w' → next (a.put o.dst V) w') → o.wp P a w next Q := by
  unfold doOp at e
  split at e
  · cases e
  · rename_i v' m1 ho
    cases e
    have hp1 := opA_pure ho hf.fl
    refine ⟨hp1, fun own lim σ a w hlim hsim hsl next Q hn => ?_⟩
    obtain ⟨w', σ', V, h1, h2, h3, h4⟩ := opA_ok hsim hsl ho hlim
    unfold Oper.wp
    rcases h1 with h1 | ⟨rfl, h1⟩
    · rw [h1]; exact hn V σ' w' h2 h3 h4
    · rw [h1]; exact hn undef σ' w' h2 h3 h4
  · rename_i f args m1 ho
    have hm : m1 = s.m := opA_pure ho hf.fl
    obtain ⟨p, hc⟩ := callA_ok hg hp f args m1 v m' e (by rw [hm]; exact hf)
    rw [hm] at p hc
    refine ⟨p, fun own lim σ a w hlim hsim hsl next Q hn => ?_⟩
    obtain ⟨_, As, h1, h2⟩ := opA_ok (lim := lim) hsim hsl ho (by rw [show outNx (R.enter f args m1) = m1.nx from rfl, hm]; exact Nat.le_trans p.nx hlim)
    unfold Oper.wp
    rw [h1]
    show Calls P f As w _
    refine Calls.mono (hc own lim σ w As hlim hsim h2) ?_
    rintro e' w' ⟨V, σ', rfl, g1, g2, g3⟩
    exact hn V σ' w' g1 g2 g3

theorem runOp_ok {P : Program} {pr : Prim} {self : Self} (hg : Good P self) (hp : PrimOk P pr) {ops : Array Oper} {o : Oper} {s s' : St} (e : runOp P pr self ops o s = some s') (hf : Okm s.m) : Pure s.m s'.m ∧ s'.nt = s.nt ∧
    ∀ own lim σ a w, s'.m.nx ≤ lim → SimS own lim σ s a w → ∀ (i : Nat) (rest : List Nat) (Q : Exit → Act → World → Prop), ops[i]? = some o →
      (∀ a' σ' w', SimS own lim σ' s' a' w' → Ext own σ σ' s.m s'.m w w' → wpOps P ops Q rest a' w') → wpOps P ops Q (i :: rest) a w := by
  unfold runOp at e
  split at e
  · cases e
  · rename_i hw
    have hput : s'.m = s.m ∧ s'.nt = s.nt := by
      unfold putA at e
      split at e
      · cases e; exact ⟨rfl, rfl⟩
      · split at e
        · cases e; exact ⟨rfl, rfl⟩
        · cases e
    refine ⟨by rw [hput.1]; exact Pure.refl _, hput.2, fun own lim σ a w hlim h i rest Q ho hn => ?_⟩
    have hwn := wantedA_ok h.slots hw
    obtain ⟨h1, h2, h3⟩ := putA_ok h (show RelV σ (.lit undef) undef from rfl) e
    unfold wpOps
    simp only [ho, hwn, Bool.false_eq_true, if_false]
    exact hn _ σ w h1 (by rw [h2]; exact Ext.refl own σ s.m w)
  · rename_i hw
    split at e
    · cases e
    rename_i v m hd
    have hput : s'.m = m ∧ s'.nt = s.nt := by
      unfold putA at e
      split at e
      · cases e; exact ⟨rfl, rfl⟩
      · split at e
        · cases e; exact ⟨rfl, rfl⟩
        · cases e
    obtain ⟨p, hd'⟩ := doOp_ok hg hp hd hf
    refine ⟨by rw [hput.1]; exact p, hput.2, fun own lim σ a w hlim h i rest Q ho hn => ?_⟩
    have hwn := wantedA_ok h.slots hw
    unfold wpOps
    simp only [ho, hwn, if_true]
    refine .inl (hd' own lim σ a w (by rw [← hput.1]; exact hlim) h.sim h.slots _ Q ?_)
    intro V σ' w' g1 g2 g3
    have hS : SimS own lim σ' { s with m := m } a w' := ⟨g2, h.size, fun k x hk => (h.slots k x hk).mono g3.le, h.defers⟩
    obtain ⟨k1, k2, k3⟩ := putA_ok hS g1 e
    exact hn _ σ' w' k1 (by rw [hput.1]; exact g3)

theorem runOps_ok {P : Program} {pr : Prim} {self : Self} (hg : Good P self) (hp : PrimOk P pr) {ops : Array Oper} : ∀ (l : List Oper) {s s' : St} (i : Nat), ops.toList.drop i = l → runOps P pr self ops l s = some s' → Okm s.m → Pure s.m s'.m ∧ s'.nt = s.nt ∧
    ∀ own lim σ a w, s'.m.nx ≤ lim → SimS own lim σ s a w → ∀ (Q : Exit → Act → World → Prop),
      (∀ a' σ' w', SimS own lim σ' s' a' w' → Ext own σ σ' s.m s'.m w w' → Q .normal a' w') → wpOps P ops Q ((List.range ops.size).drop i) a w
  | [], s, s', i, hl, e, hf => by
    simp only [runOps, Option.some.injEq] at e
    subst e
    refine ⟨Pure.refl _, rfl, fun own lim σ a w hlim h Q hn => ?_⟩
    have : ops.size ≤ i := by have := congrArg List.length hl; simp at this; omega
    rw [List.drop_eq_nil_of_le (by simpa using this)]
    exact hn a σ w h (Ext.refl own σ s.m w)
  | o :: r, s, s', i, hl, e, hf => by
    simp only [runOps] at e
    split at e
    · cases e
    rename_i s1 h1
    have hi : i < ops.size := by
      have := congrArg List.length hl; simp at this; omega
    have hio : ops[i]? = some o := by
      have h2 := congrArg List.head? hl
      rw [List.head?_drop] at h2
      simpa using h2
    obtain ⟨p1, n1, w1⟩ := runOp_ok hg hp h1 hf
    obtain ⟨p2, n2, w2⟩ := runOps_ok hg hp r (i + 1) (by rw [← List.drop_drop, hl]; rfl) e (hf.next p1)
    refine ⟨p1.trans p2, n2.trans n1, fun own lim σ a w hlim h Q hn => ?_⟩
    rw [List.drop_eq_getElem_cons (by simpa using hi)]
    simp only [List.getElem_range]
    refine w1 own lim σ a w (Nat.le_trans p2.nx hlim) h i _ Q hio ?_
    intro a' σ' w' g1 g2
    exact w2 own lim σ' a' w' hlim g1 Q fun a'' σ'' w'' g3 g4 => hn a'' σ'' w'' g3 (g2.trans g4 p1 p2)
end Ev
end Go.Proofs.YtggfhklokfcplaaGreat
