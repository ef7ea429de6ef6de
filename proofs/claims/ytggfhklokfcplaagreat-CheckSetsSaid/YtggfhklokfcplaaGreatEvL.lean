/- Code: what the evaluator answers the model does. No program is named here. -/
import Derived.Test.YtggfhklokfcplaaGreatEvK
namespace Go.Proofs.YtggfhklokfcplaaGreat
open Go.RowKit
namespace Ev

theorem wp_loop_once {P : Program} {c : Code} {Q : Exit → Act → World → Prop} {a : Act} {w : World} (h : c.wp P (Exit.then (LoopWp P c Q) Q) a w) : (Code.loop c).wp P Q a w ∧ LoopWp P c Q a w := by
  have key : ∀ (x : Item), (∀ (b : Frame) (k : List Item) (cs : List Frame), step P (lone (b.at a (x :: k)) cs w) = .next (lone (b.at a (.code c :: .inLoop c :: k)) cs w)) → ∀ (b : Frame) (k : List Item) (cs : List Frame), ∃ e a' w', Q e a' w' ∧ Arrives P (lone (b.at a (x :: k)) cs w) b k cs e a' w' := by
    intro x hx b k cs
    obtain ⟨e, a₁, w₁, hq, harr⟩ := h b (.inLoop c :: k) cs
    have hs := hx b k cs
    cases e with
    | normal =>
      obtain ⟨e₂, a₂, w₂, hq₂, harr₂⟩ := hq b k cs
      exact ⟨e₂, a₂, w₂, hq₂, .of_steps (.head hs harr) harr₂⟩
    | exit id => exact ⟨_, a₁, w₁, hq, .of_steps (.one hs) (.pass (x := .inLoop c) rfl (fun _ _ => .inl (by simp)) harr)⟩
    | goto l => exact ⟨_, a₁, w₁, hq, .of_steps (.one hs) (.pass (x := .inLoop c) rfl (fun _ _ => .inl (by simp)) harr)⟩
    | ret => exact ⟨_, a₁, w₁, hq, .of_steps (.one hs) (.pass (x := .inLoop c) rfl (fun _ _ => .inl (by simp)) harr)⟩
    | panic ch => exact ⟨_, a₁, w₁, hq, .of_steps (.one hs) (.pass (x := .inLoop c) rfl (fun _ _ => .inl (by simp)) harr)⟩
    | outgrown => exact ⟨_, a₁, w₁, hq, .of_steps (.one hs) (.pass (x := .inLoop c) rfl (fun _ _ => .inl (by simp)) harr)⟩
  exact ⟨key _ fun b k cs => step_loop, key _ fun b k cs => step_inLoop⟩

/-- What lies in a scope, from some place on. -/
def ScopeWp (P : Program) (body c : Code) (Q : Exit → Act → World → Prop) (a : Act) (w : World) : Prop :=
  ∀ (b : Frame) (k : List Item) (cs : List Frame), ∃ e a' w', Q e a' w' ∧ Arrives P (lone (b.at a (.code c :: .inScope body :: k)) cs w) b k cs e a' w'

theorem scopeWp_of {P : Program} {body c : Code} {Q : Exit → Act → World → Prop} {a : Act} {w : World}
    (h : c.wp P (fun e a' w' => match e with
      | .goto l => match findLabel body l with
        | some rest => ScopeWp P body rest Q a' w'
        | none => Q (.goto l) a' w'
      | e => Q e a' w') a w) : ScopeWp P body c Q a w := by
  intro b k cs
  obtain ⟨e, a₁, w₁, hq, harr⟩ := h b (.inScope body :: k) cs
  cases e with
  | normal => exact ⟨.normal, a₁, w₁, hq, Steps.trans harr (.one step_inScope)⟩
  | exit id => exact ⟨.exit id, a₁, w₁, hq, fun k' hk => harr k' (by simp [exitTo, hk])⟩
  | goto l =>
    dsimp only at hq
    cases hf : findLabel body l with
    | none =>
      rw [hf] at hq
      exact ⟨.goto l, a₁, w₁, hq, fun k' hk => harr k' (by simp [gotoIn, hf, hk])⟩
    | some rest =>
      rw [hf] at hq
      obtain ⟨e₂, a₂, w₂, hq₂, harr₂⟩ := hq b k cs
      exact ⟨e₂, a₂, w₂, hq₂, .of_steps (harr _ (by simp [gotoIn, hf])) harr₂⟩
  | ret => exact ⟨_, a₁, w₁, hq, harr⟩
  | panic ch => exact ⟨_, a₁, w₁, hq, harr⟩
  | outgrown => exact ⟨_, a₁, w₁, hq, harr⟩

theorem wp_scope_of {P : Program} {body : Code} {Q : Exit → Act → World → Prop} {a : Act} {w : World} (h : ScopeWp P body body Q a w) : (Code.scope body).wp P Q a w := by
  intro b k cs
  obtain ⟨e, a', w', hq, harr⟩ := h b k cs
  exact ⟨e, a', w', hq, .of_steps (.one step_scope) harr⟩

theorem scopeA_ok {P : Program} {self : Self} (hg : Good P self) (body : Code) : ∀ (n : Nat) {c : Code} {s s' : St} {e : AE}, scopeA self body n c s = some (e, s') → Okm s.m → Pure s.m s'.m ∧ s'.nt = s.nt ∧
    ∀ own lim σ a w, s'.m.nx ≤ lim → SimS own lim σ s a w → ScopeWp P body c (Post own lim σ s.m w e s') a w
  | 0, c, s, s', e, h, _ => by simp [scopeA] at h
  | n + 1, c, s, s', e, h, hf => by
    simp only [scopeA] at h
    split at h
    · rename_i l s1 h1
      obtain ⟨p1, n1, w1⟩ := hg _ _ _ _ h1 hf
      split at h
      · rename_i rest hr
        obtain ⟨p2, n2, w2⟩ := scopeA_ok hg body n h (hf.next p1)
        refine ⟨p1.trans p2, n2.trans n1, fun own lim σ a w hlim hs => scopeWp_of (wp_mono (w1 own lim σ a w (Nat.le_trans p2.nx hlim) hs).1 ?_)⟩
        rintro E a' w' ⟨rfl, σ', g1, g2⟩
        simp only [AE.to, hr]
        have h3 := w2 own lim σ' a' w' hlim g1
        intro b k cs
        obtain ⟨e', a2, w2', hq, harr⟩ := h3 b k cs
        exact ⟨e', a2, w2', Post.after g2 p1 p2 _ _ _ hq, harr⟩
      · rename_i hr
        cases h
        refine ⟨p1, n1, fun own lim σ a w hlim hs => scopeWp_of (wp_mono (w1 own lim σ a w hlim hs).1 ?_)⟩
        rintro E a' w' ⟨rfl, σ', g1, g2⟩
        simp only [AE.to, hr]
        exact ⟨rfl, σ', g1, g2⟩
    · rename_i r hne
      obtain ⟨p1, n1, w1⟩ := hg _ _ _ _ h hf
      refine ⟨p1, n1, fun own lim σ a w hlim hs => scopeWp_of (wp_mono (w1 own lim σ a w hlim hs).1 ?_)⟩
      rintro E a' w' ⟨rfl, σ', g1, g2⟩
      cases e with
      | goto l => exact (hne l s' h).elim
      | normal => exact ⟨rfl, σ', g1, g2⟩
      | exit id => exact ⟨rfl, σ', g1, g2⟩
      | ret => exact ⟨rfl, σ', g1, g2⟩

theorem step1_good {P : Program} {pr : Prim} {dr : Draw} {self : Self} (hg : Good P self) (hp : PrimOk P pr) (hd : DrawOk P dr) : Good P (step1 P pr dr self) := by
  have here : ∀ {s : St} {e : AE} {c : Code}, (∀ {Q : Exit → Act → World → Prop} {a : Act} {w : World}, Q e.to a w → c.wp P Q a w) → (∀ body, c ≠ .loop body) → Pure s.m s.m ∧ s.nt = s.nt ∧
      ∀ own lim σ a w, s.m.nx ≤ lim → SimS own lim σ s a w → Code.wp P c (Post own lim σ s.m w e s) a w ∧ ∀ body, c = .loop body → LoopWp P body (Post own lim σ s.m w e s) a w := by
    intro s e c hc hl
    exact ⟨Pure.refl _, rfl, fun own lim σ a w _ hs => ⟨hc ⟨rfl, σ, hs, Ext.refl own σ s.m w⟩, fun body hb => absurd hb (hl body)⟩⟩
  intro c s e s' h hf
  unfold step1 at h
  split at h
  · cases h; exact here wp_skip (by simp)
  · cases h; exact here wp_label (by simp)
  · -- seq
    rename_i x y
    split at h
    · rename_i s1 h1
      obtain ⟨p1, n1, w1⟩ := hg _ _ _ _ h1 hf
      obtain ⟨p2, n2, w2⟩ := hg _ _ _ _ h (hf.next p1)
      refine ⟨p1.trans p2, n2.trans n1, fun own lim σ a w hlim hs => ⟨wp_seq (wp_mono (w1 own lim σ a w (Nat.le_trans p2.nx hlim) hs).1 ?_), fun _ hb => by cases hb⟩⟩
      rintro E a' w' ⟨rfl, σ', g1, g2⟩
      exact wp_mono (w2 own lim σ' a' w' hlim g1).1 (Post.after g2 p1 p2)
    · rename_i hne
      obtain ⟨p1, n1, w1⟩ := hg _ _ _ _ h hf
      refine ⟨p1, n1, fun own lim σ a w hlim hs => ⟨wp_seq (wp_mono (w1 own lim σ a w hlim hs).1 ?_), fun _ hb => by cases hb⟩⟩
      rintro E a' w' ⟨rfl, σ', g1, g2⟩
      cases e with
      | normal => exact (hne s' h).elim
      | goto l => exact ⟨rfl, σ', g1, g2⟩
      | exit id => exact ⟨rfl, σ', g1, g2⟩
      | ret => exact ⟨rfl, σ', g1, g2⟩
  · -- cond
    split at h
    · rename_i hc
      obtain ⟨p1, n1, w1⟩ := hg _ _ _ _ h hf
      exact ⟨p1, n1, fun own lim σ a w hlim hs => ⟨wp_cond_true (by have := hs.slots.opnd hc; simpa only [RelV] using this) (w1 own lim σ a w hlim hs).1, fun _ hb => by cases hb⟩⟩
    · rename_i hc
      obtain ⟨p1, n1, w1⟩ := hg _ _ _ _ h hf
      exact ⟨p1, n1, fun own lim σ a w hlim hs => ⟨wp_cond_false (by have := hs.slots.opnd hc; simpa only [RelV] using this) (w1 own lim σ a w hlim hs).1, fun _ hb => by cases hb⟩⟩
    · cases h
  · -- block
    rename_i id c
    split at h
    · rename_i id' s1 h1
      obtain ⟨p1, n1, w1⟩ := hg _ _ _ _ h1 hf
      split at h
      · rename_i hid
        cases h
        have hid := Nat.eq_of_beq_eq_true hid
        refine ⟨p1, n1, fun own lim σ a w hlim hs => ⟨wp_block (wp_mono (w1 own lim σ a w hlim hs).1 ?_), fun _ hb => by cases hb⟩⟩
        rintro E a' w' ⟨rfl, σ', g1, g2⟩
        simp only [AE.to, Exit.inBlock, hid, if_true]
        exact ⟨rfl, σ', g1, g2⟩
      · rename_i hid
        cases h
        have hid := Nat.ne_of_beq_eq_false hid
        refine ⟨p1, n1, fun own lim σ a w hlim hs => ⟨wp_block (wp_mono (w1 own lim σ a w hlim hs).1 ?_), fun _ hb => by cases hb⟩⟩
        rintro E a' w' ⟨rfl, σ', g1, g2⟩
        simp only [AE.to, Exit.inBlock, hid, if_false]
        exact ⟨rfl, σ', g1, g2⟩
    · rename_i hne
      obtain ⟨p1, n1, w1⟩ := hg _ _ _ _ h hf
      refine ⟨p1, n1, fun own lim σ a w hlim hs => ⟨wp_block (wp_mono (w1 own lim σ a w hlim hs).1 ?_), fun _ hb => by cases hb⟩⟩
      rintro E a' w' ⟨rfl, σ', g1, g2⟩
      cases e with
      | exit id' => exact (hne id' s' h).elim
      | goto l => exact ⟨rfl, σ', g1, g2⟩
      | normal => exact ⟨rfl, σ', g1, g2⟩
      | ret => exact ⟨rfl, σ', g1, g2⟩
  · -- loop
    rename_i c
    split at h
    · rename_i s1 h1
      obtain ⟨p1, n1, w1⟩ := hg _ _ _ _ h1 hf
      obtain ⟨p2, n2, w2⟩ := hg _ _ _ _ h (hf.next p1)
      refine ⟨p1.trans p2, n2.trans n1, fun own lim σ a w hlim hs => ?_⟩
      have := wp_loop_once (P := P) (c := c) (Q := Post own lim σ s.m w e s') (wp_mono (w1 own lim σ a w (Nat.le_trans p2.nx hlim) hs).1 (by
        rintro E a' w' ⟨rfl, σ', g1, g2⟩
        have h3 := (w2 own lim σ' a' w' hlim g1).2 c rfl
        intro b k cs
        obtain ⟨e', a2, w2', hq, harr⟩ := h3 b k cs
        exact ⟨e', a2, w2', Post.after g2 p1 p2 _ _ _ hq, harr⟩))
      exact ⟨this.1, fun body hb => by cases hb; exact this.2⟩
    · rename_i hne
      obtain ⟨p1, n1, w1⟩ := hg _ _ _ _ h hf
      refine ⟨p1, n1, fun own lim σ a w hlim hs => ?_⟩
      have := wp_loop_once (P := P) (c := c) (Q := Post own lim σ s.m w e s') (wp_mono (w1 own lim σ a w hlim hs).1 (by
        rintro E a' w' ⟨rfl, σ', g1, g2⟩
        cases e with
        | normal => exact (hne s' h).elim
        | goto l => exact ⟨rfl, σ', g1, g2⟩
        | exit id => exact ⟨rfl, σ', g1, g2⟩
        | ret => exact ⟨rfl, σ', g1, g2⟩))
      exact ⟨this.1, fun body hb => by cases hb; exact this.2⟩
  · cases h; exact here wp_exit (by simp)
  · cases h; exact here wp_goto (by simp)
  · cases h; exact here wp_ret (by simp)
  · -- scope
    obtain ⟨p, n, hw⟩ := scopeA_ok hg _ _ h hf
    exact ⟨p, n, fun own lim σ a w hlim hs => ⟨wp_scope_of (hw own lim σ a w hlim hs), fun _ hb => by cases hb⟩⟩
  · -- region
    rename_i id ops
    split at h
    · rename_i s1 h1
      cases h
      obtain ⟨p, n, hw⟩ := runOps_ok hg hp ops.toList 0 rfl h1 hf
      refine ⟨p, n, fun own lim σ a w hlim hs => ⟨wp_region ?_, fun _ hb => by cases hb⟩⟩
      have := hw own lim σ a w hlim hs (Post own lim σ s.m w .normal s') fun a' σ' w' g1 g2 => ⟨rfl, σ', g1, g2⟩
      simpa using this
    · cases h
  · -- a region that draws
    rename_i id ops
    split at h
    · rename_i s1 h1
      cases h
      obtain ⟨p, n, hw⟩ := hd self hg _ _ _ h1 hf
      exact ⟨p, n, fun own lim σ a w hlim hs => ⟨wp_region_draw (hw own lim σ a w hlim hs), fun _ hb => by cases hb⟩⟩
    · cases h
  · cases h

theorem ev_good {P : Program} {pr : Prim} {dr : Draw} (hp : PrimOk P pr) (hd : DrawOk P dr) : ∀ n, Good P (ev P pr dr n)
  | 0 => by intro c s e s' h; simp [ev] at h
  | n + 1 => step1_good (ev_good hp hd n) hp hd
end Ev
end Go.Proofs.YtggfhklokfcplaaGreat
