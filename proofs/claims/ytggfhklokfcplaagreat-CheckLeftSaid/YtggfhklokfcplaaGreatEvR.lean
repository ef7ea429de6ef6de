/- A region that draws its order: the step of the invariant, and the theorem. No program is named here. -/
import Derived.Test.YtggfhklokfcplaaGreatEvQ
namespace Go.Proofs.YtggfhklokfcplaaGreat
open Go.RowKit
namespace Ev
noncomputable section
open Classical

theorem wantedA_congr {ops : Array Oper} {t t' : T AV} {o : Oper} (h : ∀ k ∈ guardSlot ops o, T.get fuel k t = T.get fuel k t') : wantedA ops t o = wantedA ops t' o := by
  unfold wantedA
  unfold guardSlot at h
  cases hg : o.guard with
  | none => rfl
  | some g =>
    obtain ⟨j, want⟩ := g
    rw [hg] at h
    dsimp only at h ⊢
    cases hd : (ops[j]?).bind (·.dst) with
    | none => rfl
    | some d => rw [hd] at h; dsimp only; rw [h d (by simp)]

section
variable {P : Program} {pr : Prim} {slf : Self} {ops : Array Oper} {ms : T Nat} {s : St} {ds : Nat → DS} {X : Nat → SD} {own : Nat → Prop} {σ0 σ : Map} {a0 a : Act} {w0 w : World} {listed : Array Bool}

theorem DI.put {i : Nat} {o : Oper} {v : AV} {V : Value} {σ' : Map} (H : Stps P pr slf ops ms s ds X) (I : DI ops s ds X own σ0 a0 w0 σ listed a w) (ho : ops[i]? = some o) (hn : listed[i]? = some false) (hready : ∀ j ∈ depsOf o, listed.getD j false = true)
    (ht : (ds (i + 1)).t = setT (ds i).t o.dst v) (hv : RelV σ' v V) (hle : Le σ σ') :
    (listed.setIfInBounds i true).size = ops.size ∧
    (∀ (j : Nat) (o : Oper), (listed.setIfInBounds i true).getD j false = true → ops[j]? = some o → ∀ i' ∈ depsOf o, (listed.setIfInBounds i true).getD i' false = true) ∧
    (a.put o.dst V).tmps.size = s.nt ∧ (a.put o.dst V).defers = [] ∧
    (∀ k, (∀ l, dstAt ops l = some k → ¬ (listed.setIfInBounds i true).getD l false = true) → (a.put o.dst V).tmps.getD k undef = a0.tmps.getD k undef) ∧
    (∀ l, l < ops.size → (listed.setIfInBounds i true).getD l false = true → ∀ d, dstAt ops l = some d → ∀ v, T.get fuel d (ds (l + 1)).t = some v → RelV σ' v ((a.put o.dst V).tmps.getD d undef)) := by
  have hi : i < ops.size := (Array.getElem?_eq_some_iff.1 ho).1
  have hil : i < listed.size := by rw [I.size]; exact hi
  have hdo : dstAt ops i = o.dst := by simp [dstAt, ho]
  have hb : ∀ d, o.dst = some d → d < a.tmps.size := fun d hd => by rw [I.asz]; exact ((stOk_after H.st.st ho).2 d hd).1
  have hput : ∀ k, (a.put o.dst V).tmps.getD k undef = if o.dst = some k then V else a.tmps.getD k undef := by
    intro k
    cases hd : o.dst with
    | none => simp [Act.put]
    | some d =>
      rw [put_getD _ _ _ _ (hb d hd)]
      by_cases e : k = d
      · subst e; simp
      · rw [if_neg e, if_neg (by simpa using Ne.symm e)]
  refine ⟨by simp [I.size], ?_, by rw [put_size]; exact I.asz, by rw [put_defers]; exact I.adef, ?_, ?_⟩
  · intro j o' hj hoj x hx
    rw [listed_set hil] at hj ⊢
    rcases hj with hj | rfl
    · exact .inl (I.closed j o' hj hoj x hx)
    · rw [ho] at hoj; cases hoj; exact .inl (hready x hx)
  · intro k hk
    rw [hput, if_neg]
    · exact I.aout k fun l hl hc => hk l hl ((listed_set hil).2 (.inl hc))
    · intro hd
      exact hk i (hdo.trans hd) ((listed_set hil).2 (.inr rfl))
  · intro l hl hlD d hd x hx
    rw [hput]
    by_cases e : l = i
    · subst e
      rw [hdo] at hd
      rw [if_pos hd]
      rw [ht, setT_get, if_pos hd] at hx
      cases hx
      exact hv
    · have hlD := ((listed_set hil).1 hlD).resolve_right e
      rw [if_neg]
      · exact (I.vals l hl hlD d hd x hx).mono hle
      · intro hc
        exact e (stOk_apart H.st.st hd (hdo.trans hc))

theorem DI.step (hg : Good P slf) (hp : PrimOk P pr) (H : Stps P pr slf ops ms s ds X) {Q : Exit → Act → World → Prop} (hσ0 : Slots σ0 s.t a0) (I : DI ops s ds X own σ0 a0 w0 σ listed a w) {i : Nat} {o : Oper} (ho : ops[i]? = some o) (hn : listed[i]? = some false) (hready : ∀ j ∈ depsOf o, listed.getD j false = true) :
    wpOp P ops Q i (fun a' w' => ∃ σ', DI ops s ds X own σ0 a0 w0 σ' (listed.setIfInBounds i true) a' w') a w := by
  have hi : i < ops.size := (Array.getElem?_eq_some_iff.1 ho).1
  have hil : i < listed.size := by rw [I.size]; exact hi
  have hnD : ¬ listed.getD i false = true := by rw [Array.getD_eq_getD_getElem?, hn]; simp
  have hdo : dstAt ops i = o.dst := by simp [dstAt, ho]
  -- who is waited for is done
  have hreach : ∀ l, Reach ops i l → listed.getD l false = true := fun l hr => hr.closed (D := fun j => listed.getD j false = true) I.closed fun o' ho' j hj => by rw [ho] at ho'; cases ho'; exact hready j hj
  have hreach' : ∀ l, listed.getD l false = true → ¬ Reach ops l i := fun l hl hr => hnD (hr.closed (D := fun j => listed.getD j false = true) I.closed fun o' ho' j hj => I.closed l o' hl ho' j hj)
  -- the slots that are read
  have hpre : ∀ k, (∀ l, dstAt ops l = some k → i ≤ l) → (∀ l, dstAt ops l = some k → ¬ listed.getD l false = true) → ∀ v, T.get fuel k (ds i).t = some v → RelV σ v (a.tmps.getD k undef) := by
    intro k h1 h2 v hv
    rw [H.slot (i := 0) (Nat.zero_le _) (by omega) fun x _ hx hc => by have := h1 x hc; omega, H.d0] at hv
    rw [I.aout k h2]
    exact (hσ0 k v hv).mono I.le
  have hneed : ∀ k ∈ needs ops o, ∀ v, T.get fuel k (ds i).t = some v → RelV σ v (a.tmps.getD k undef) := by
    intro k hk v hv
    by_cases hw : ∃ j, dstAt ops j = some k
    · obtain ⟨j, hj⟩ := hw
      have huniq : ∀ l, dstAt ops l = some k → l = j := fun l hl => stOk_apart H.st.st hl hj
      rcases H.st.reads i o ho k hk j hj with hr | rfl | hr
      · have hjD := hreach j hr
        have hlt := hr.lt H.st.st
        rw [H.slot (i := j + 1) (by omega) (by omega) fun x h1 _ hc => by have := huniq x hc; omega] at hv
        exact I.vals j (by omega) hjD k hj v hv
      · exact hpre k (fun l hl => by rw [huniq l hl]; exact Nat.le_refl _) (fun l hl => by rw [huniq l hl]; exact hnD) v hv
      · have hlt := hr.lt H.st.st
        exact hpre k (fun l hl => by rw [huniq l hl]; omega) (fun l hl => by rw [huniq l hl]; exact fun hc => hreach' j hc hr) v hv
    · exact hpre k (fun l hl => absurd ⟨l, hl⟩ hw) (fun l hl => absurd ⟨l, hl⟩ hw) v hv
  -- a view of the slots
  let drops : List Nat := (ops.toList.filterMap (·.dst)).filter fun k => decide (k ∉ needs ops o)
  have hdrop : ∀ k, k ∈ needs ops o → k ∉ drops := by
    intro k hk hc
    have := (List.mem_filter.1 hc).2
    simp only [decide_eq_true_eq] at this
    exact this hk
  have hview : Slots σ (dropT (ds i).t drops) a := by
    intro k v hv
    rw [dropT_get] at hv
    split at hv
    · cases hv
    rename_i hkd
    by_cases hk : k ∈ needs ops o
    · exact hneed k hk v hv
    · have hno : ∀ l, dstAt ops l ≠ some k := by
        intro l hl
        refine hkd (List.mem_filter.2 ⟨?_, by simpa using hk⟩)
        obtain ⟨o', h1, h2⟩ := Option.bind_eq_some_iff.1 hl
        exact List.mem_filterMap.2 ⟨o', Array.mem_toList_iff.2 (Array.mem_of_getElem? h1), h2⟩
      exact hpre k (fun l hl => absurd hl (hno l)) (fun l hl => absurd hl (hno l)) v hv
  have hsame : ∀ k ∈ needs ops o, T.get fuel k (ds i).t = T.get fuel k (dropT (ds i).t drops) := by
    intro k hk
    rw [dropT_get, if_neg (hdrop k hk)]
  have hwc : wantedA ops (ds i).t o = wantedA ops (dropT (ds i).t drops) o := wantedA_congr fun k hk => hsame k (List.mem_append_left _ hk)
  unfold wpOp
  rw [ho]
  dsimp only
  rcases H.step i o ho with ⟨hnd, hw, hs⟩ | ⟨hdn, hw, hD⟩
  · -- it is passed by
    have hwn := wantedA_ok hview (hwc ▸ hw)
    rw [if_neg (by rw [hwn]; simp)]
    obtain ⟨g1, g2, g3, g4, g5, g6⟩ := I.put H ho hn hready hs.t (show RelV σ (.lit undef) undef from rfl) (Le.refl σ)
    have hHD : ∀ b, HD (MF ds) (Tch ops ds X) (fun l => (listed.setIfInBounds i true).getD l false = true) ops.size b = HD (MF ds) (Tch ops ds X) (fun l => listed.getD l false = true) ops.size b := by
      intro b
      refine HD_congr _ fun l hl ht => ?_
      rw [listed_set hil]
      refine ⟨fun h => h.elim id fun e => ?_, .inl⟩
      subst e
      exact absurd ht.2.1 hnd
    refine ⟨σ, g1, g2, g3, g4, g5, I.le, I.only, fun l hl hlD b h1 h2 => I.nosig l hl (fun hc => hlD ((listed_set hil).2 (.inl hc))) b h1 h2, fun b B h => I.blk b B (by rw [← hHD]; exact h), fun b b' B B' x x' h h' => I.inj b b' B B' x x' (by rw [← hHD]; exact h) (by rw [← hHD]; exact h'), I.news, g6, I.wsize, I.frame, I.os, I.tape, I.output⟩
  · -- it is done
    have hwn := wantedA_ok hview (hwc ▸ hw)
    rw [if_pos hwn]
    refine .inl ?_
    -- what it looks at is there
    have hK : ∀ b B, (X i).view.blk b = some B → HD (MF ds) (Tch ops ds X) (fun l => listed.getD l false = true) ops.size b = some B := by
      intro b B hb
      have hne : (X i).view.blk b ≠ none := by rw [hb]; simp
      rw [HD_none ops.size (Nat.le_of_lt hi) fun l h1 h2 ht hl => ?_]
      · rw [HD_congr (D' := fun _ => True) i fun l hl ht => ⟨fun _ => trivial, fun _ => hreach l (H.sees ho hdn hne hl ht)⟩]
        rw [HD_all (n := i) (fun l hl b hb => H.keptF (by omega) hb) _ b i (Nat.le_refl _) fun _ _ => trivial]
        exact hD.sub b B hb
      · by_cases e : l = i
        · subst e; exact hnD hl
        · exact hreach' l hl (H.turns ho hdn hne (by omega) ht)
    -- nobody behind it touches what it touches
    have hE : ∀ b, Tch ops ds X i b → ∀ l, i < l → l < ops.size → Tch ops ds X l b → ¬ (listed.setIfInBounds i true).getD l false = true := by
      intro b ht l h1 h2 htl hl
      rw [listed_set hil] at hl
      have hl : listed.getD l false = true := hl.resolve_right (by omega)
      have hol : ops[l]? = some ops[l] := Array.getElem?_eq_getElem h2
      have L := H.done hol htl.2.1
      rcases htl.2.2 with h | h
      · rcases L.pure.was b h with g | ⟨_, g⟩
        · rw [L.vlg] at g; cases g
        · exact hreach' l hl (H.sees hol htl.2.1 g h1 ht)
      · have h3 := (H.tchF ht).2
        have h4 := H.nx (i := i + 1) (j := l) (by omega) (by omega)
        omega
    have hHDt : ∀ b, Tch ops ds X i b → HD (MF ds) (Tch ops ds X) (fun l => (listed.setIfInBounds i true).getD l false = true) ops.size b = (X i).m.blk b := by
      intro b ht
      rw [HD_at hi ((listed_set hil).2 (.inr rfl)) ht (hE b ht)]
      exact (H.tchF ht).1
    have hHDn : ∀ b, ¬ Tch ops ds X i b → HD (MF ds) (Tch ops ds X) (fun l => (listed.setIfInBounds i true).getD l false = true) ops.size b = HD (MF ds) (Tch ops ds X) (fun l => listed.getD l false = true) ops.size b := by
      intro b ht
      refine HD_congr _ fun l hl htl => ?_
      rw [listed_set hil]
      exact ⟨fun h => h.elim id fun e => absurd (e ▸ htl) ht, .inl⟩
    have hkeep : ∀ b B, ¬ Tch ops ds X i b → (X i).view.blk b = some B → (X i).m.blk b = some B := by
      intro b B ht hb
      have hlt : b < (X i).view.fl := by
        rw [hD.vfl]
        exact Nat.lt_of_not_le fun hle => by rw [hD.vlow b hle] at hb; cases hb
      rw [hD.pure.kept b hlt fun hc => ht ⟨hi, hdn, .inl hc⟩]
      exact hb
    -- the simulation for it alone
    let owni : Nat → Prop := fun c => (∃ b B x, (X i).view.blk b = some B ∧ σ b = some x ∧ x.1 = c) ∨ w.heap.size ≤ c
    have hSim : Sim owni (X i).m.nx σ (X i).view w := by
      refine ⟨?_, ?_, ?_, ?_, fun c hc => .inr hc⟩
      · intro b B hb
        obtain ⟨k, sh, sz, h1, h2, h3⟩ := I.blk b B (hK b B hb)
        exact ⟨k, sh, sz, h1, .inl ⟨b, B, _, hb, h1, rfl⟩, h3⟩
      · intro b b' B B' x x' hb hb'
        exact I.inj b b' B B' x x' (hK b B hb) (hK b' B' hb')
      · intro b h1 h2
        rw [hD.vnx] at h1
        exact I.nosig i hi hnD b h1 (by rw [hD.nx]; exact h2)
      · intro b B hb
        rw [hD.vnx]
        exact Nat.lt_of_not_le fun hle => by rw [hD.vlow b hle] at hb; cases hb
    have hownle : ∀ c, owni c → own c := by
      rintro c (⟨b, B, x, h1, h2, rfl⟩ | h)
      · obtain ⟨k, sh, sz, g1, g2, _⟩ := I.blk b B (hK b B h1)
        rw [h2] at g1; cases g1; exact g2
      · exact I.news c h
    have hrun : doOp P pr slf o ⟨dropT (ds i).t drops, s.nt, (X i).view⟩ = some ((X i).v, (X i).m) := by
      rw [← hD.run]
      unfold doOp
      dsimp only
      rw [opA_congr P (t := dropT (ds i).t drops) (t' := (ds i).t)]
      intro x hx
      cases x with
      | tmp k => exact (hsame k (List.mem_append_right _ (tmpsOf_mem (Array.mem_toList_iff.2 hx)))).symm
      | const v => rfl
      | global g => rfl
      | func f => rfl
    obtain ⟨_, hdo'⟩ := doOp_ok hg hp hrun ⟨by rw [hD.vfl, hD.vnx]; exact Nat.le_refl _, fun b hb => hD.vlow b (by rw [← hD.vnx]; exact hb)⟩
    refine hdo' owni (X i).m.nx σ a w (Nat.le_refl _) hSim hview _ Q ?_
    intro V σ' w' hV hS hExt
    obtain ⟨g1, g2, g3, g4, g5, g6⟩ := I.put H ho hn hready hD.t hV hExt.le
    have hblkout : ∀ b B, ¬ Tch ops ds X i b → (X i).view.blk b = none → HD (MF ds) (Tch ops ds X) (fun l => listed.getD l false = true) ops.size b = some B → ∃ k sh sz, σ b = some (k, sh, sz) ∧ own k ∧ BRel σ B k sh sz w ∧ ¬ owni k := by
      intro b B ht hv hb
      obtain ⟨k, sh, sz, h1, h2, h3⟩ := I.blk b B hb
      refine ⟨k, sh, sz, h1, h2, h3, ?_⟩
      rintro (⟨b0, B0, x, k1, k2, k3⟩ | hc)
      · refine I.inj b0 b B0 B x (k, sh, sz) (hK b0 B0 k1) hb ?_ k2 h1 k3
        rintro rfl
        rw [hv] at k1; cases k1
      · obtain ⟨c, el, fr, k1, _⟩ := h3
        have := (Array.getElem?_eq_some_iff.1 k1).1
        omega
    -- each block is of it, or lies outside
    have hcase : ∀ b B, HD (MF ds) (Tch ops ds X) (fun l => (listed.setIfInBounds i true).getD l false = true) ops.size b = some B → (X i).m.blk b = some B ∨ (¬ Tch ops ds X i b ∧ (X i).view.blk b = none ∧ HD (MF ds) (Tch ops ds X) (fun l => listed.getD l false = true) ops.size b = some B) := by
      intro b B hb
      by_cases ht : Tch ops ds X i b
      · left; rw [← hHDt b ht]; exact hb
      · rw [hHDn b ht] at hb
        cases hv : (X i).view.blk b with
        | none => exact .inr ⟨ht, rfl, hb⟩
        | some B' =>
          left
          have := hK b B' hv
          rw [hb] at this; cases this
          exact hkeep b B ht hv
    refine ⟨σ', g1, g2, g3, g4, g5, I.le.trans hExt.le, ?_, ?_, ?_, ?_, fun c hc => I.news c (Nat.le_trans hExt.size hc), g6, Nat.le_trans I.wsize hExt.size, fun c hc => (hExt.frame c fun h => hc (hownle c h)).trans (I.frame c hc), hExt.os.trans I.os, hExt.tape.trans I.tape, hExt.output.trans I.output⟩
    · intro b hb
      rw [← I.only b hb]
      refine hExt.only b ?_
      rw [hD.vnx, ← hD.nx]
      have h1 := H.nx (i := 0) (j := i) (by omega) (by omega)
      have h2 := H.nx (i := i + 1) (j := ops.size) (by omega) (by omega)
      omega
    · intro l hl hlD b h1 h2
      rw [listed_set hil] at hlD
      have hlD' : ¬ listed.getD l false = true := fun h => hlD (.inl h)
      have hne : l ≠ i := fun h => hlD (.inr h)
      rw [← I.nosig l hl hlD' b h1 h2]
      refine hExt.only b ?_
      rw [hD.vnx, ← hD.nx]
      rcases Nat.lt_or_gt_of_ne hne with h | h
      · have := H.nx (i := l + 1) (j := i) (by omega) (by omega); omega
      · have := H.nx (i := i + 1) (j := l) (by omega) (by omega); omega
    · intro b B hb
      rcases hcase b B hb with hb | ⟨ht, hv, hb⟩
      · obtain ⟨k, sh, sz, h1, h2, h3⟩ := hS.blk b B hb
        exact ⟨k, sh, sz, h1, hownle k h2, h3⟩
      · obtain ⟨k, sh, sz, h1, h2, h3, h4⟩ := hblkout b B ht hv hb
        exact ⟨k, sh, sz, hExt.le _ _ h1, h2, h3.mono hExt.le (hExt.frame k h4)⟩
    · have hinout : ∀ b b' B B' x x', (X i).m.blk b = some B → (¬ Tch ops ds X i b' ∧ (X i).view.blk b' = none ∧ HD (MF ds) (Tch ops ds X) (fun l => listed.getD l false = true) ops.size b' = some B') → σ' b = some x → σ' b' = some x' → x.1 ≠ x'.1 := by
        intro b b' B B' x x' hb ⟨ht, hv, hb'⟩ hx hx'
        obtain ⟨k, sh, sz, h1, h2, h3⟩ := hS.blk b B hb
        obtain ⟨k', sh', sz', h1', h2', h3', h4'⟩ := hblkout b' B' ht hv hb'
        have e' := hExt.le _ _ h1'
        rw [hx] at h1; cases h1
        rw [hx'] at e'; cases e'
        rintro rfl
        exact h4' h2
      intro b b' B B' x x' hb hb' hne hx hx'
      rcases hcase b B hb with hb | hb <;> rcases hcase b' B' hb' with hb' | hb'
      · exact hS.inj b b' B B' x x' hb hb' hne hx hx'
      · exact hinout b b' B B' x x' hb hb' hx hx'
      · exact (hinout b' b B' B x' x hb' hb hx' hx).symm
      · obtain ⟨k, sh, sz, h1, _⟩ := hblkout b B hb.1 hb.2.1 hb.2.2
        obtain ⟨k', sh', sz', h1', _⟩ := hblkout b' B' hb'.1 hb'.2.1 hb'.2.2
        have e := hExt.le _ _ h1
        have e' := hExt.le _ _ h1'
        rw [hx] at e; cases e
        rw [hx'] at e'; cases e'
        exact I.inj b b' B B' _ _ hb.2.2 hb'.2.2 hne h1 h1'
end

theorem drawA_ok {P : Program} {pr : Prim} (hm : P.follows .mixedOrders = true) (hp : PrimOk P pr) : DrawOk P (drawA P pr) := by
  intro self hg ops s s' e hf
  unfold drawA at e
  split at e
  · cases e
  rename_i ms hst
  have S := static_ok hst
  split at e
  · cases e
  rename_i DN hN
  cases e
  obtain ⟨ds, d0, dn, hds⟩ := dsteps_ok ops.toList 0 _ _ hN
  have hds : ∀ i o, ops[i]? = some o → dstep P pr self ops ms s.nt i o (ds i) = some (ds (i + 1)) := by
    intro i o hi
    have := hds i o (by simpa using hi)
    simpa using this
  have hlen : (0 : Nat) + ops.toList.length = ops.size := by simp
  rw [hlen] at dn
  have hop : ∀ i, i < ops.size → ∃ o, ops[i]? = some o := fun i hi => ⟨_, Array.getElem?_eq_getElem hi⟩
  have hPI : ∀ i, i ≤ ops.size → PI i (ds i) := by
    intro i
    induction i with
    | zero => intro _; rw [d0]; exact ⟨hf.low, fun r h => (by cases h), fun j h => (by rw [bit_eq] at h; simp at h)⟩
    | succ i ih =>
      intro hi
      obtain ⟨o, ho⟩ := hop i (by omega)
      exact (dstep_ok hg hp (ih (by omega)) (hds i o ho)).1
  have hX : ∀ i, ∃ x : SD, ∀ o, ops[i]? = some o → (¬ x.dn ∧ wantedA ops (ds i).t o = some false ∧ Skip i o (ds i) (ds (i + 1))) ∨ (x.dn ∧ wantedA ops (ds i).t o = some true ∧ Done P pr self ms s.nt i o (ds i) (ds (i + 1)) x.view x.m x.v) := by
    intro i
    by_cases hi : i < ops.size
    · obtain ⟨o, ho⟩ := hop i hi
      rcases (dstep_ok hg hp (hPI i (by omega)) (hds i o ho)).2 with ⟨h1, h2⟩ | ⟨h1, view, m', v, h2⟩
      · refine ⟨⟨s.m, s.m, default, False⟩, fun o' ho' => .inl ⟨id, ?_⟩⟩
        rw [ho] at ho'; cases ho'; exact ⟨h1, h2⟩
      · refine ⟨⟨view, m', v, True⟩, fun o' ho' => .inr ⟨trivial, ?_⟩⟩
        rw [ho] at ho'; cases ho'; exact ⟨h1, h2⟩
    · exact ⟨⟨s.m, s.m, default, False⟩, fun o' ho' => absurd (Array.getElem?_eq_some_iff.1 ho').1 hi⟩
  obtain ⟨X, hX⟩ := Classical.axiomOfChoice hX
  have H : Stps P pr self ops ms s ds X := ⟨S, d0, hPI, hX⟩
  have h0nx : (ds 0).nx = s.m.nx := by rw [d0]
  have hblk0 : ∀ b, MF ds 0 b = s.m.blk b := fun b => by unfold MF; rw [d0]; rfl
  have hFn : ∀ b, (⟨DN.h, DN.nx, s.m.fl, below s.m.fl DN.lg s.m.lg⟩ : M).blk b = MF ds ops.size b := fun b => by unfold MF; rw [dn]; rfl
  refine ⟨⟨?_, rfl, fun b hb => below_mem.2 (.inr hb), ?_, ?_, ?_⟩, rfl, ?_⟩
  · show s.m.nx ≤ DN.nx
    rw [← dn, ← h0nx]; exact H.nx (Nat.zero_le _) (Nat.le_refl _)
  · -- what is below the mark and not written down is kept
    intro b hb hnl
    rw [hFn]
    have hnl : b ∉ DN.lg := fun hc => hnl (below_mem.2 (.inl ⟨hc, hb⟩))
    have : ∀ i, i ≤ ops.size → MF ds i b = s.m.blk b := by
      intro i
      induction i with
      | zero => intro _; exact hblk0 b
      | succ i ih =>
        intro hi
        rw [← ih (by omega)]
        refine H.keptF (by omega) fun ht => ?_
        rcases ht.2.2 with h | h
        · have D := H.done (Array.getElem?_eq_getElem ht.1) ht.2.1
          refine hnl ?_
          rw [← dn]
          exact H.lg (i := i + 1) (by omega) (Nat.le_refl _) (D.lg b h)
        · have h1 := H.nx (i := 0) (j := i) (by omega) (by omega)
          have h2 := hf.fl
          omega
    exact this _ (Nat.le_refl _)
  · intro _ b hb
    rw [hFn]
    exact (hPI ops.size (Nat.le_refl _)).low b (by rw [dn]; exact hb)
  · intro b hb
    rcases below_mem.1 hb with ⟨h1, h2⟩ | h
    · right
      refine ⟨h2, ?_⟩
      -- it was touched by some step first; so it was there
      have : ∀ i, i ≤ ops.size → b ∈ (ds i).lg → s.m.blk b ≠ none := by
        intro i
        induction i with
        | zero => intro _ h; rw [d0] at h; cases h
        | succ i ih =>
          intro hi h
          rcases hX i _ (Array.getElem?_eq_getElem (by omega : i < ops.size)) with ⟨_, _, hs⟩ | ⟨hd, _, hs⟩
          · rw [hs.lg] at h; exact ih (by omega) h
          · rcases hs.lgn b h with h | h
            · exact ih (by omega) h
            · rcases hs.pure.was b h with g | ⟨_, g⟩
              · rw [hs.vlg] at g; cases g
              · -- the block was in the memory ahead of it
                have hne : MF ds i b ≠ none := by
                  cases hv : (X i).view.blk b with
                  | none => exact absurd hv g
                  | some B => unfold MF; rw [hs.sub b B hv]; simp
                have hback : ∀ j, j ≤ i → MF ds j b ≠ none → s.m.blk b ≠ none ∨ ∃ k, k < j ∧ b ∈ (ds (k + 1)).lg := by
                  intro j
                  induction j with
                  | zero => intro _ h; left; rw [← hblk0]; exact h
                  | succ j ihj =>
                    intro hj h
                    by_cases ht : Tch ops ds X j b
                    · rcases ht.2.2 with h' | h'
                      · right
                        have D := H.done (Array.getElem?_eq_getElem ht.1) ht.2.1
                        exact ⟨j, by omega, D.lg b h'⟩
                      · have h3 := H.nx (i := 0) (j := j) (by omega) (by omega)
                        have h4 := hf.fl
                        omega
                    · rw [H.keptF (by omega) ht] at h
                      rcases ihj (by omega) h with g | ⟨k, hk, g⟩
                      · exact .inl g
                      · exact .inr ⟨k, by omega, g⟩
                rcases hback i (Nat.le_refl _) hne with g | ⟨k, hk, g⟩
                · exact g
                · exact ih (by omega) (H.lg (i := k + 1) (by omega) (by omega) g)
      exact this ops.size (Nat.le_refl _) (by rw [dn]; exact h1)
    · exact .inl h
  · intro own lim σ a w hlim hs t
    have hlim' : (ds ops.size).nx ≤ lim := by rw [dn]; exact hlim
    simp only [Region.schedule, hm, Bool.true_or, if_true]
    refine wpAny_sound ops.size t _ a _ ?_
    refine any_order S.st (fun listed a' w' => ∃ σ', DI ops s ds X own σ a w σ' listed a' w') (fun _ _ _ ⟨_, h⟩ => h.size) (fun listed a' w' i o ⟨σ', h⟩ ho hn hr => h.step hg hp H hs.slots ho hn hr) ?_ ops.size _ a _ ?_ ?_
    · rintro listed a' w' ⟨σ', I⟩ hall
      have hHD : ∀ b, HD (MF ds) (Tch ops ds X) (fun l => listed.getD l false = true) ops.size b = MF ds ops.size b := fun b => HD_all (n := ops.size) (fun i hi b hb => H.keptF hi hb) _ b ops.size (Nat.le_refl _) hall
      refine ⟨rfl, σ', ⟨⟨?_, ?_, ?_, ?_, I.news⟩, I.asz, ?_, I.adef⟩, ⟨I.le, fun b hb => I.only b (by rw [h0nx, dn]; exact hb), I.wsize, I.frame, I.os, I.tape, I.output⟩⟩
      · intro b B hb
        exact I.blk b B (by rw [hHD, ← hFn]; exact hb)
      · intro b b' B B' x x' hb hb'
        exact I.inj b b' B B' x x' (by rw [hHD, ← hFn]; exact hb) (by rw [hHD, ← hFn]; exact hb')
      · intro b h1 h2
        have h1 : DN.nx ≤ b := h1
        rw [I.only b (.inr (by rw [dn]; exact h1))]
        refine hs.sim.fresh b ?_ h2
        have := H.nx (i := 0) (j := ops.size) (by omega) (Nat.le_refl _)
        rw [h0nx, dn] at this
        omega
      · intro b B hb
        rw [hFn] at hb
        refine Nat.lt_of_not_le fun hle => ?_
        have : MF ds ops.size b = none := (hPI ops.size (Nat.le_refl _)).low b (by rw [dn]; exact hle)
        rw [this] at hb; cases hb
      · intro k v hk
        have hk : T.get fuel k (ds ops.size).t = some v := by rw [dn]; exact hk
        by_cases hw : ∃ j, dstAt ops j = some k
        · obtain ⟨j, hj⟩ := hw
          have hjlt : j < ops.size := by
            obtain ⟨o', g1, _⟩ := Option.bind_eq_some_iff.1 hj
            exact (Array.getElem?_eq_some_iff.1 g1).1
          have huniq : ∀ l, dstAt ops l = some k → l = j := fun l hl => stOk_apart S.st hl hj
          rw [H.slot (i := j + 1) (by omega) (Nat.le_refl _) fun x h1 _ hc => by have := huniq x hc; omega] at hk
          exact I.vals j hjlt (hall j hjlt) k hj v hk
        · rw [H.slot (i := 0) (Nat.zero_le _) (Nat.le_refl _) fun x _ _ hc => hw ⟨x, hc⟩, d0] at hk
          rw [I.aout k fun l hl => absurd ⟨l, hl⟩ hw]
          exact (hs.slots k v hk).mono I.le
    · simp [unlisted]
    · have hno : ∀ l, ¬ (Array.replicate ops.size false).getD l false = true := by intro l; simp [Array.getD]
      have hHD : ∀ b, HD (MF ds) (Tch ops ds X) (fun l => (Array.replicate ops.size false).getD l false = true) ops.size b = s.m.blk b := by
        intro b
        rw [HD_none (i := 0) ops.size (Nat.zero_le _) fun l _ _ _ => hno l]
        exact hblk0 b
      have hsim := hs.sim.world (w' := { w with drawn := w.drawn + 1 }) rfl
      refine ⟨σ, by simp, fun j o hj => absurd hj (hno j), hs.size, hs.defers, fun _ _ => rfl, Le.refl σ, fun _ _ => rfl, ?_, ?_, ?_, hsim.news, fun l _ hl => absurd hl (hno l), Nat.le_refl _, fun _ _ => rfl, rfl, rfl, rfl⟩
      · intro l hl _ b h1 h2
        refine hs.sim.fresh b ?_ ?_
        · have := H.nx (i := 0) (j := l) (by omega) (by omega); omega
        · have := H.nx (i := l + 1) (j := ops.size) (by omega) (Nat.le_refl _); omega
      · intro b B hb
        rw [hHD] at hb
        exact hsim.blk b B hb
      · intro b b' B B' x x' hb hb'
        rw [hHD] at hb hb'
        exact hsim.inj b b' B B' x x' hb hb'
end
end Ev
end Go.Proofs.YtggfhklokfcplaaGreat
