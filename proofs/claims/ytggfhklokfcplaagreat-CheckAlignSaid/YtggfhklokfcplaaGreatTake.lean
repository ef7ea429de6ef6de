/- check's take: a loop over slices.Backward whose rounds are evaluated. -/
import Derived.Test.YtggfhklokfcplaaGreatBack
import Derived.Test.YtggfhklokfcplaaGreatEvU
namespace Go.Proofs.YtggfhklokfcplaaGreat
open Go.RowKit Go.Shelf
attribute [local go_sem] Oper.semAt_some

noncomputable def takeOps : Array Oper := match Tryz.f52.body with
  | some (.seq _ (.seq _ (.block _ (.rangeFunc _ _ _ (.block _ (.region _ ops _)))))) => ops
  | _ => #[]

set_option maxRecDepth 100000 in
set_option maxHeartbeats 2000000 in
theorem takeW (n : Nat) (hn : 5 ≤ n) (C : Option Addr) (ao : Option Addr) (len cap N : Nat) (encs : Nat → Array Value) (Kp : World → World → Prop) (w w2 : World) (hw2 : w2 = (w.alloc (.cells #[.pointer C] 81)).alloc (.cells #[.slice ao len cap] 24))
    (hseq : ∀ (l : Nat) (J : Nat → World → Prop) (W : World), Below w2.heap.size w2 W → (∀ j W1, j < N → J j W1 → YieldAt Fence.wide (n - 1 - 1) Tryz.prog l (encs j) W1 fun e W' => e = .returned (.bool true) ∧ J (j + 1) W' ∧ Kp W1 W') → J 0 W →
      CallsIn Fence.wide (n - 1) Tryz.prog 143 (#[.func (.yield l) #[] #[]] ++ #[.pointer (some ⟨w.heap.size + 1, 0, none⟩)]) W fun e W' => (∃ v, e = .returned v) ∧ J N W')
    (hKt : ∀ {A B C : World}, Kp A B → Kp B C → Kp A C) (hKb : ∀ (W : World) (l : Nat) (o o' : Obj), W.heap[l]? = some o → o.isCells = false → Kp W (W.putObj l o')) (z : Nat → Int) (hz : ∀ j, ∃ u, encs j = #[u, .int .i64 (z j)])
    (I : Nat → World → Prop) (hI : OwnFrom w2.heap.size I) (h0 : I 0 w2)
    (hbody : ∀ (l j : Nat) (W : World) (a : Act), j < N → I j W → a.tmps.size = 16 → a.defers = [] → a.tmps.getD 2 undef = .pointer (some ⟨w.heap.size, 0, none⟩) → a.tmps.getD 5 undef = .int .i64 (z j) →
      (Code.region 3 takeOps true).wpIn (Fence.wide.inRound l) (n - 1 - 1) Tryz.prog (fun e _ W' => e = .normal ∧ KeepsFrom w2.heap.size W W' ∧ Kp W W' ∧ I (j + 1) W') a W) :
    CallsIn Fence.wide n Tryz.prog 52 #[.pointer C, .slice ao len cap] w fun e W' => e = .returned (.tuple #[]) ∧ ∃ W D, I N W ∧ w2.heap.size ≤ D ∧ W.heap[D]? = some (.deferred (some [])) ∧ W' = W.putObj D (.deferred none) := by
  refine callsIn_of_wp_marks Tryz.func52 rfl trivial ?_ rfl
  simp only [Tryz.ntmps52, List.size_toArray, List.length_cons, List.length_nil, Nat.reduceAdd, Nat.reduceSub, Array.replicate_succ, Array.replicate_zero, List.push_toArray, List.append_toArray, List.nil_append, List.cons_append]
  gi_wp2
  refine ⟨trivial, fun _ => by omega, (back_in Fence.wide (n - 1) trivial rfl _ _ _ _).mono ?_⟩
  rintro e w' ⟨rfl, rfl⟩
  gi_wp2
  subst hw2
  refine wpIn_rounds rfl (by omega) (gf := 143) (lb := #[.pointer (some ⟨w.heap.size + 1, 0, none⟩)]) rfl trivial (enters_of Tryz.func143 (by kernel_rfl) rfl) (N := N) (encs := encs) (Kp := Kp)
    hseq hKt hKb (fun j => by obtain ⟨u, hu⟩ := hz j; rw [hu]; rfl) I hI h0
    (fun j => { tmps := #[.pointer C, .slice ao len cap, .pointer (some ⟨w.heap.size, 0, none⟩), undef, undef, .int .i64 (z j), .slice ao len cap, .func (.func 143) #[] #[.pointer (some ⟨w.heap.size + 1, 0, none⟩)], (encs j).getD 0 undef, .int .i64 (z j), undef, undef, undef, undef, undef, undef], defers := [] }) ?assign ?body ?done
  case assign =>
    intro l j W K hK
    obtain ⟨u, hu⟩ := hz j
    rw [hu] at hK ⊢
    gi_wp2
    exact hK
  case body =>
    intro l j W hj hi
    refine wpIn_block (wpIn_mono (hbody l j W _ hj hi rfl rfl rfl rfl) ?_)
    rintro e a' W' ⟨rfl, h⟩
    exact ⟨rfl, h⟩
  case done =>
    intro D W hD hi hK
    gi_wp2
    refine ⟨by simp, .inl ⟨_, _, rfl, run_takeDeferred hK, ?_⟩⟩
    exact ⟨_, results_none rfl _ _ _, rfl, W, D, hi, hD, hK, rfl⟩

open Ev
noncomputable section

def takeRow (slf : Self) (c : AV) (b o n : Nat) (m : M) : Option (AV × M) := match Nat.beq n 0 with
  | true => some (.tup [], newBlk m [c])
  | false => match Nat.ble (Nat.mul n 8) 140737488351232 with
    | false => none
    | true => match m.blk b with
      | none => none
      | some B => match rowA B o n with
        | none => none
        | some l => match roundsA Tryz.prog noPrim slf takeOps 16 (.ptr m.nx 0) l (hideB (newBlk m [c]) b) with
          | none => none
          | some m' => some (.tup [], showB m' b B)

def takeA (slf : Self) (args : List AV) (m : M) : Option (AV × M) := match args with
  | [.ptr cb co, .sl b o n _] => takeRow slf (.ptr cb co) b o n m
  | [.ptr cb co, .su b o n _] => takeRow slf (.ptr cb co) b o n m
  | [.ptr cb co, .se] => some (.tup [], newBlk m [.ptr cb co])
  | [.ptr cb co, .lit (.slice _ n _)] => match Nat.beq n 0 with
    | true => some (.tup [], newBlk m [.ptr cb co])
    | false => none
  | _ => none

theorem take_nd : ∀ o, o ∈ takeOps → ∀ c, o.op ≠ .defer c := by
  intro o ho c h
  simp only [takeOps, Tryz.f52] at ho
  simp only [List.mem_toArray, List.mem_cons, List.not_mem_nil, or_false] at ho
  rcases ho with rfl | rfl | rfl | rfl | rfl | rfl <;> cases h

variable {own : Nat → Prop} {lim : Nat} {σ : Map} {w : World}

def Leaves (own : Nat → Prop) (lim : Nat) (σ : Map) (m m' : M) (w : World) (v : AV) : Ending → World → Prop :=
  fun e w' => ∃ V σ', e = .returned V ∧ RelV σ' v V ∧ Sim own lim σ' m' w' ∧ Ext own σ σ' m m' w w'

theorem take_empty {m : M} {cb co : Nat} {C : Value} (s : Sim own lim σ m w) (_hf : Okm m) (hl : m.nx < lim) (hC : RelV σ (.ptr cb co) C) (ao : Option Addr) (cap : Nat) :
    CallsIn Fence.wide 5 Tryz.prog 52 #[C, .slice ao 0 cap] w (Leaves own lim σ m (newBlk m [.ptr cb co]) w (.tup [])) := by
  have hC' := hC
  simp only [RelV] at hC
  obtain ⟨k, sh, sz, e1, rfl⟩ := hC
  obtain ⟨s1, x1⟩ := s.new (cs := [.ptr cb co]) (C := #[.pointer (some ⟨k, sh + co, none⟩)]) (el := 81) (fr := (0, 0)) hl (by
    intro i v hi
    cases i with
    | zero => simp at hi; subst hi; exact ⟨by simp, by simpa using hC'⟩
    | succ i => simp at hi) (.inl rfl) (w.alloc (.cells #[.pointer (some ⟨k, sh + co, none⟩)] 81)) rfl rfl rfl rfl
  have s2 := (s1.box (.cells #[.slice ao 0 cap] 24)).wider (own := own) fun _ h => h.1
  have x2 := x1.box s.news (.cells #[.slice ao 0 cap] 24)
  have hsz2 : ((w.alloc (.cells #[.pointer (some ⟨k, sh + co, none⟩)] 81)).alloc (.cells #[.slice ao 0 cap] 24)).heap.size = w.heap.size + 2 := by simp only [World.size_alloc]
  refine (takeW 5 (Nat.le_refl _) _ ao 0 cap 0 (fun _ => #[undef, .int .i64 0]) (fun _ _ => True) w _ rfl (fun l J W hb _ h0 => ?_) (fun _ _ => trivial) (fun _ _ _ _ _ _ => trivial) (fun _ => 0) (fun _ => ⟨undef, rfl⟩)
    (fun _ W => Sim own lim _ (newBlk m [.ptr cb co]) W ∧ Ext own σ _ m (newBlk m [.ptr cb co]) w W)
    (fun _ W W' row h hg hr => ⟨h.1.grown hg fun r e => (hr r e).2, h.2.grown s.news hg fun r e => by have := (hr r e).1; omega⟩) ⟨s2, x2⟩ (fun l j W a hj => absurd hj (by omega))).mono ?_
  · refine back1_nil_in Fence.wide 4 trivial rfl l (w.heap.size + 1) ao cap J W ?_ h0
    refine (World.cell?_of_block (hb.block _ (by show w.heap.size + 1 < _; omega))).trans ?_
    have := Boxed.new (w.alloc (.cells #[.pointer (some ⟨k, sh + co, none⟩)] 81)) 24 (.slice ao 0 cap)
    rw [World.size_alloc] at this
    exact this.cell
  · rintro e w' ⟨rfl, W, D, ⟨h1, h2⟩, hD, hd, rfl⟩
    refine ⟨_, _, rfl, ⟨#[], rfl, rfl⟩, h1.grown (grownBy_putObj' W D _) (fun r e => by cases e; exact ⟨_, hd, rfl⟩), h2.grown s.news (grownBy_putObj' W D _) (fun r e => by cases e; omega)⟩

theorem take_row {slf : Self} (hg : Ev.Good Tryz.prog slf) (hm : Tryz.prog.follows .mixedOrders = true) {m m1 : M} {cb co b o n : Nat} {C : Value} (s : Sim own lim σ m w) (hf : Okm m) (hlim : m1.nx ≤ lim) (hC : RelV σ (.ptr cb co) C) {k sh sz : Nat} (hb : σ b = some (k, sh, sz)) (cap : Nat)
    {B : Blk} {l : List Int} (hB : m.blk b = some B) (hl : rowA B o n = some l) (hr : n * 8 ≤ 140737488351232) (h : roundsA Tryz.prog noPrim slf takeOps 16 (.ptr m.nx 0) l (hideB (newBlk m [.ptr cb co]) b) = some m1) :
    CallsIn Fence.wide 5 Tryz.prog 52 #[C, .slice (some ⟨k, sh + o, none⟩) n cap] w (Leaves own lim σ m (showB m1 b B) w (.tup [])) := by
  have hC' := hC
  simp only [RelV] at hC
  obtain ⟨k0, sh0, sz0, e0, rfl⟩ := hC
  have hbn : b < m.nx := s.low b B hB
  have pA := newBlk_pure m [.ptr cb co] hf.fl
  have okA := hf.next pA
  have okH := hide_okm (b := b) okA
  have pH := roundsA_pure hm noPrim_ok hg h okH
  have hnx : m.nx + 1 ≤ m1.nx := pH.nx
  obtain ⟨s1, x1⟩ := s.new (cs := [.ptr cb co]) (C := #[.pointer (some ⟨k0, sh0 + co, none⟩)]) (el := 81) (fr := (0, 0)) (by omega) (by
    intro i v hi
    cases i with
    | zero => simp at hi; subst hi; exact ⟨by simp, by simpa using hC'⟩
    | succ i => simp at hi) (.inl rfl) (w.alloc (.cells #[.pointer (some ⟨k0, sh0 + co, none⟩)] 81)) rfl rfl rfl rfl
  generalize hσ1 : setσ σ m.nx (w.heap.size, 0, (#[Value.pointer (some ⟨k0, sh0 + co, none⟩)] : Array Value).size) = σ1 at s1 x1
  have hcell : σ1 m.nx = some (w.heap.size, 0, 1) := by rw [← hσ1]; simp [setσ]
  have s2 := s1.box (.cells #[.slice (some ⟨k, sh + o, none⟩) n cap] 24)
  have x2 := x1.box s.news (.cells #[.slice (some ⟨k, sh + o, none⟩) n cap] 24)
  generalize hw2 : (w.alloc (.cells #[.pointer (some ⟨k0, sh0 + co, none⟩)] 81)).alloc (.cells #[.slice (some ⟨k, sh + o, none⟩) n cap] 24) = w2 at s2 x2
  have hsz2 : w2.heap.size = w.heap.size + 2 := by rw [← hw2]; simp only [World.size_alloc]
  have hBA : (newBlk m [.ptr cb co]).blk b = some B := (T.get_upd_ne _ _ _ _ _ (by omega)).trans hB
  have hbox : w2.cell? ⟨w.heap.size + 1, 0, none⟩ = some (.slice (some ⟨k, sh + o, none⟩) n cap) := by
    have := Boxed.new (w.alloc (.cells #[.pointer (some ⟨k0, sh0 + co, none⟩)] 81)) 24 (.slice (some ⟨k, sh + o, none⟩) n cap)
    rw [World.size_alloc, hw2] at this
    exact this.cell
  have hrow : ∀ j, j < n → w2.cell? ⟨k, sh + o + j, none⟩ = some (.int .i64 (l.getD (n - 1 - j) 0)) := by
    intro j hj
    have hc : (newBlk m [.ptr cb co]).cell b (o + j) = some (.lit (.int .i64 (l.getD (n - 1 - j) 0))) := by
      unfold M.cell; rw [hBA]; exact (rowA_at hl).2 j hj
    obtain ⟨k', sh', sz', V, f1, f2, f3, f4, _⟩ := s2.cell hc
    rw [x1.le _ _ hb] at f1
    cases f1
    simp only [RelV] at f4
    rw [f3.symm.trans f3] at *
    rw [← f4, ← f3, Nat.add_assoc]
  obtain ⟨k', sh', sz', f1, f2, f3, f4, s3⟩ := s2.hide hBA
  rw [x1.le _ _ hb] at f1
  cases f1
  have hn3 : ∀ c, w2.heap.size ≤ c → (own c ∧ c ≠ (w.alloc (.cells #[.pointer (some ⟨k0, sh0 + co, none⟩)] 81)).heap.size) ∧ c ≠ k := s3.news
  have hBs : (w.alloc (.cells #[.pointer (some ⟨k0, sh0 + co, none⟩)] 81)).heap.size = w.heap.size + 1 := by simp only [World.size_alloc]
  rw [hBs] at s2 s3 hn3 f2
  have hlen := (rowA_at hl).1
  refine (takeW 5 (Nat.le_refl _) _ _ n cap n (fun j => #[.int .i64 ((n - 1 - j : Nat) : Int), .int .i64 (l.getD (n - 1 - (n - 1 - j)) 0)]) (KpC k (w.heap.size + 1)) w w2 hw2.symm (fun id J W hb hY h0 => ?_) (fun h h' => h.trans h') (fun W l o o' hl ho => KpC.putObj W l o o' hl ho)
    (fun j => l.getD (n - 1 - (n - 1 - j)) 0) (fun _ => ⟨_, rfl⟩)
    (fun j W => ∃ mj σ', Pure (hideB (newBlk m [.ptr cb co]) b) mj ∧ roundsA Tryz.prog noPrim slf takeOps 16 (.ptr m.nx 0) (l.drop j) mj = some m1 ∧ Sim (fun c => (own c ∧ c ≠ w.heap.size + 1) ∧ c ≠ k) lim σ' mj W ∧ Ext (fun c => (own c ∧ c ≠ w.heap.size + 1) ∧ c ≠ k) σ1 σ' (hideB (newBlk m [.ptr cb co]) b) mj w2 W)
    (fun j W W' row hI hg hr => by
      obtain ⟨mj, σ', h1, h2, h3, h4⟩ := hI
      exact ⟨mj, σ', h1, h2, h3.grown hg fun r e => (hr r e).2, h4.grown s3.news hg fun r e => (hr r e).1⟩)
    ⟨_, _, Pure.refl _, h, s3, Ext.refl _ _ _ _⟩ (fun id j W a hj hI hsz hd h2 h5 => ?_)).mono ?_
  · refine back1_in Fence.wide 4 trivial rfl (by omega) id (w.heap.size + 1) k (sh + o) n cap (fun j => l.getD (n - 1 - j) 0) hr J hY W ?_ ?_ h0
    · exact (World.cell?_of_block (hb.block _ (by show w.heap.size + 1 < _; omega))).trans hbox
    · intro j hj
      exact (World.cell?_of_block (hb.block _ (by show k < _; omega))).trans (hrow j hj)
  · obtain ⟨mj, σ', g1, g2, g3, g4⟩ := hI
    have hjl : j < l.length := by omega
    rw [List.drop_eq_getElem_cons hjl] at g2
    unfold roundsA at g2
    split at g2
    · rename_i mj1 hr1
      have okj := okH.next g1
      have p1 := roundA_pure hm noPrim_ok hg hr1 okj
      have pr := roundsA_pure hm noPrim_ok hg g2 (okj.next p1)
      refine wpIn_mono (round_in hm noPrim_ok hg take_nd hr1 okj (by have := pr.nx; omega) g3 hsz hd ?_ ?_ 3 id (5 - 1 - 1)) ?_
      · rw [h2]; exact ⟨w.heap.size, 0, 1, g4.le _ _ hcell, rfl⟩
      · rw [h5, show n - 1 - (n - 1 - j) = j by omega, List.getD_eq_getElem?_getD, List.getElem?_eq_getElem hjl]; rfl
      · rintro e a' W' ⟨rfl, q1, σ'', q2, q3⟩
        refine ⟨rfl, q1 _, fun ad v ha hv => ?_, mj1, σ'', g1.trans p1, g2, q2, g4.trans q3 g1 p1⟩
        refine (World.cell?_of_block (q3.frame _ fun hc => ?_)).trans hv
        rcases ha with ha | ha
        · exact hc.2 ha
        · exact hc.1.2 ha
    · cases g2
  · rintro e w' ⟨rfl, W, D, ⟨mj, σ', g1, g2, g3, g4⟩, hD, hd, rfl⟩
    rw [← hlen, List.drop_length] at g2
    cases g2
    have s5 := g3.grown (grownBy_putObj' W D (.deferred none)) (fun r e => by cases e; exact ⟨_, hd, rfl⟩)
    have x5 := g4.grown s3.news (grownBy_putObj' W D (.deferred none)) (fun r e => by cases e; exact hD)
    have s6 := Sim.show s5 (x5.le _ _ (x1.le _ _ hb)) f2 (f4.mono x5.le (x5.frame _ fun h => h.2 rfl)) (by have := pH.nx; have : (hideB (newBlk m [.ptr cb co]) b).nx = m.nx + 1 := rfl; omega)
    refine ⟨_, σ', rfl, ⟨#[], rfl, rfl⟩, s6.wider fun _ h => h.1, ?_⟩
    have x6 : Ext own σ1 σ' (newBlk m [.ptr cb co]) (showB m1 b B) w2 (W.putObj D (.deferred none)) :=
      ⟨x5.le, x5.only, x5.size, fun c hc => x5.frame c fun h => hc h.1.1, x5.os, x5.tape, x5.output⟩
    exact x2.trans x6 pA (hide_pure hBA okA pH)

theorem takeRow_ok {slf : Self} (hg : Ev.Good Tryz.prog slf) (hm : Tryz.prog.follows .mixedOrders = true) {cb co b o n : Nat} {m m' : M} {v : AV} (h : takeRow slf (.ptr cb co) b o n m = some (v, m')) (hf : Okm m) :
    Pure m m' ∧ ∀ own lim σ w C k sh sz cap, m'.nx ≤ lim → Sim own lim σ m w → RelV σ (.ptr cb co) C → σ b = some (k, sh, sz) → CallsIn Fence.wide 5 Tryz.prog 52 #[C, .slice (some ⟨k, sh + o, none⟩) n cap] w (Leaves own lim σ m m' w v) := by
  unfold takeRow at h
  split at h
  · rename_i h0
    cases h
    have : n = 0 := Nat.eq_of_beq_eq_true h0
    subst this
    refine ⟨newBlk_pure m _ hf.fl, fun own lim σ w C k sh sz cap hlim s hC hb => take_empty s hf hlim hC _ cap⟩
  · split at h
    · cases h
    · rename_i hr
      split at h
      · cases h
      · rename_i B hB
        split at h
        · cases h
        · rename_i l hl
          split at h
          · cases h
          · rename_i m1 h1
            cases h
            have pA := newBlk_pure m [.ptr cb co] hf.fl
            have okA := hf.next pA
            have hBA : (newBlk m [.ptr cb co]).blk b = some B := by
              refine (T.get_upd_ne _ _ _ _ _ ?_).trans hB
              intro e; rw [e, hf.low m.nx (Nat.le_refl _)] at hB; cases hB
            refine ⟨pA.trans (hide_pure hBA okA (roundsA_pure hm noPrim_ok hg h1 (hide_okm okA))), fun own lim σ w C k sh sz cap hlim s hC hb => ?_⟩
            exact take_row (m1 := m1) hg hm s hf hlim hC hb cap hB hl (Nat.le_of_ble_eq_true hr) h1

theorem takeA_ok {slf : Self} (hg : Ev.Good Tryz.prog slf) (hm : Tryz.prog.follows .mixedOrders = true) : CallGood Tryz.prog 52 (takeA slf) := by
  intro args m v m' h hf
  have key : ∀ {own lim σ w} {Args : Array Value} {c K : Value}, Args.toList = [c, K] → CallsIn Fence.wide 5 Tryz.prog 52 #[c, K] w (Leaves own lim σ m m' w v) → Calls Tryz.prog 52 Args w (Leaves own lim σ m m' w v) := by
    intro own lim σ w Args c K e h
    have : Args = #[c, K] := by rw [← Array.toArray_toList (xs := Args), e]
    rw [this]; exact callsIn_wide.1 h
  unfold takeA at h
  split at h
  · rename_i cb co b o n cap
    obtain ⟨p, q⟩ := takeRow_ok hg hm h hf
    refine ⟨p, fun own lim σ w Args hlim s hA => ?_⟩
    simp only [RelL] at hA
    obtain ⟨V, l1, e1, hV, V2, l2, rfl, hV2, rfl⟩ := hA
    simp only [RelV] at hV2
    obtain ⟨k, sh, sz, e2, rfl⟩ := hV2
    exact key e1 (q own lim σ w V k sh sz _ hlim s hV e2)
  · rename_i cb co b o n es
    obtain ⟨p, q⟩ := takeRow_ok hg hm h hf
    refine ⟨p, fun own lim σ w Args hlim s hA => ?_⟩
    simp only [RelL] at hA
    obtain ⟨V, l1, e1, hV, V2, l2, rfl, hV2, rfl⟩ := hA
    simp only [RelV] at hV2
    obtain ⟨k, sh, sz, c, e2, _, _, rfl⟩ := hV2
    exact key e1 (q own lim σ w V k sh sz _ hlim s hV e2)
  · cases h
    refine ⟨newBlk_pure m _ hf.fl, fun own lim σ w Args hlim s hA => ?_⟩
    simp only [RelL] at hA
    obtain ⟨V, l1, e1, hV, V2, l2, rfl, hV2, rfl⟩ := hA
    simp only [RelV] at hV2
    obtain ⟨k, o, c, rfl⟩ := hV2
    exact key e1 (take_empty s hf hlim hV _ _)
  · split at h
    · rename_i n _ _ h0
      cases h
      have : n = 0 := Nat.eq_of_beq_eq_true h0
      subst this
      refine ⟨newBlk_pure m _ hf.fl, fun own lim σ w Args hlim s hA => ?_⟩
      simp only [RelL] at hA
      obtain ⟨V, l1, e1, hV, V2, l2, rfl, hV2, rfl⟩ := hA
      simp only [RelV] at hV2
      subst hV2
      exact key e1 (take_empty s hf hlim hV _ _)
    · cases h
  · cases h

def takePrim : Prim := fun slf f => onB (Nat.beq f 52) (some (takeA slf)) none

theorem takePrim_ok (hm : Tryz.prog.follows .mixedOrders = true) : PrimOk Tryz.prog takePrim := by
  intro slf hg f g h
  unfold takePrim at h
  cases hb : Nat.beq f 52 with
  | true =>
    rw [hb] at h
    have : f = 52 := Nat.eq_of_beq_eq_true hb
    subst this
    cases h
    exact takeA_ok hg hm
  | false => rw [hb] at h; cases h
end
end Go.Proofs.YtggfhklokfcplaaGreat
