/- append answers as the model's. No program is named here. -/
import Derived.Test.YtggfhklokfcplaaGreatEvG
namespace Go.Proofs.YtggfhklokfcplaaGreat
open Go.RowKit
namespace Ev
noncomputable section

/-- What is appended, as the model reads it. -/
def appended (zs : Bool) (el : TypeId) (size n : Nat) (X : Value) : Sem (Array Value) :=
  if !zs then Builtin.firstCells size n X
  else if n * size = 0 then pure #[]
  else do pure (Builtin.zeroCells (← zeroValue el).cells n)

/-- The rest of the model's append, once it is known how many come. -/
def appRest (zs : Bool) (el : TypeId) (size n : Nat) (base : Option Addr) (sLen sCap : Nat) (S X : Value) : Sem Value := do
  let need := sLen + n
  if need ≤ sCap then
    let new ← appended zs el size n X
    if let some a := base then storeCells (a.add (sLen * size)) new.toList
    pure (.slice base need sCap)
  else
    if (need : Int) > IntKind.i64.max ∧ (zs ∨ (← typeInfo el).bytes = 0) then runtimePanic (.error "growslice: len out of range")
    if Builtin.nextslicecap need sCap * (← typeInfo el).bytes > 2 ^ 48 then (if zs then runtimePanic (.error "growslice: len out of range") else do
      if !(← Builtin.mayShare size sLen n base X) then mark .noRoom
      unsupported (.resourceLimit "append: a slice or a string whose bytes no memory bears"))
    let newCap ← choose (.appendCap need sCap el)
    askRoom (newCap * (← typeInfo el).bytes)
    let old ← Builtin.firstCells size sLen S
    let new ← appended zs el size n X
    let rest := Builtin.zeroCells (← zeroValue el).cells (newCap - need)
    pure (.slice (some (← newRow el (old ++ new ++ rest))) need newCap)

theorem append_run {P : Program} {w : World} {ts : Array TypeId} {t el ty : TypeId} {i : TypeInfo} {X : Value} {σ : Map} {x : AV} {n : Nat} {base : Option Addr} {sLen sCap : Nat}
    (h1 : ts[0]? = some t) (h2 : P.underlying t = some (.slice el)) (hi : P.info? el = some i) (ht : hasT P ts = true) (hx : RelV σ x X) (hn : appN (isIntT P ts) i.bytes x = some n) :
    (Builtin.append_ ts ty #[.slice base sLen sCap, X]).run P w = (appRest (isIntT P ts) el i.size n base sLen sCap (.slice base sLen sCap) X).run P w := by
  unfold Builtin.append_
  simp only [h1, List.size_toArray, List.length_cons, List.length_nil, Nat.reduceAdd, Nat.reduceLT, getElem?_pos, List.getElem_toArray, List.getElem_cons_zero, List.getElem_cons_succ, Sem.run_bind, run_und h2, Result.andThen_ok, run_size hi]
  have hint : ∀ {n : Nat}, appN true i.bytes x = some n → ∃ k v, X = .int k v ∧ n = (IntKind.i64.wrap v).toNat ∧ 0 ≤ IntKind.i64.wrap v ∧ IntKind.i64.wrap v * i.bytes ≤ 2 ^ 48 := by
    intro n hn
    unfold appN at hn
    dsimp only at hn
    split at hn
    · cases hn
    rename_i v hv
    split at hn
    · rename_i hc
      cases hn
      simp only [Bool.and_eq_true, decide_eq_true_eq] at hc
      obtain ⟨k, rfl⟩ := intA_ok hx hv
      exact ⟨k, v, rfl, rfl, hc.1, hc.2⟩
    · cases hn
  cases hT : ts[1]? with
  | none =>
    have hz : isIntT P ts = false := by unfold isIntT; rw [hT]
    rw [hz] at hn ⊢
    have hln := lenA_run (P := P) (w := w) hx hn
    simp only [Sem.run_bind, Sem.run_pure, Result.andThen_ok]
    rw [if_neg Bool.false_ne_true]
    simp only [Sem.run_bind, Result.andThen_ok, hln]
    rfl
  | some t1 =>
    cases hu : P.underlying t1 with
    | none => unfold hasT at ht; rw [hT] at ht; simp [hu] at ht
    | some d =>
      by_cases hd : ∃ k, d = .int k
      · obtain ⟨k, rfl⟩ := hd
        have hz : isIntT P ts = true := by unfold isIntT; rw [hT]; simp [hu]
        rw [hz] at hn ⊢
        obtain ⟨k', v, rfl, rfl, hv0, hv1⟩ := hint hn
        simp only [Sem.run_bind, run_und hu, Sem.run_pure, Result.andThen_ok]
        rw [if_pos trivial]
        simp only [asInt, asIntOf, Sem.run_bind, Sem.run_pure, Result.andThen_ok]
        rw [if_neg (by omega)]
        simp only [Sem.run_bind, run_info hi, Result.andThen_ok]
        rw [if_neg (by omega)]
        simp only [appRest, appended, Sem.run_bind, Sem.run_pure, Result.andThen_ok]
        rfl
      · have hz : isIntT P ts = false := by
          unfold isIntT; rw [hT]; simp only [hu]
          split
          · rename_i k hk; cases hk; exact absurd ⟨_, rfl⟩ hd
          · rfl
        rw [hz] at hn ⊢
        have hln := lenA_run (P := P) (w := w) hx hn
        simp only [Sem.run_bind, run_und hu, Result.andThen_ok]
        have hm : (match d with | .int _ => true | _ => false) = false := by
          cases d <;> first | rfl | exact absurd ⟨_, rfl⟩ hd
        cases d <;> first
          | exact absurd ⟨_, rfl⟩ hd
          | (simp only [Sem.run_pure, Result.andThen_ok]
             rw [if_neg Bool.false_ne_true]
             simp only [Sem.run_bind, Result.andThen_ok, hln]
             rfl)

theorem appended_run {P : Program} {own : Nat → Prop} {lim : Nat} {σ : Map} {m : M} {w : World} (h : Sim own lim σ m w) {zs : Bool} {el : TypeId} {i : TypeInfo} {z X : Value} {x : AV} {n : Nat} {new : List AV} (hi : P.info? el = some i) (hz : i.zero = some z) (hx : RelV σ x X)
    (e : appNew zs z.cells i.size n x m = some new) : ∃ L, (appended zs el i.size n X).run P w = .ok L w ∧ RelL σ new L.toList := by
  unfold appNew at e
  split at e
  · split at e
    · rename_i h0
      cases e
      refine ⟨#[], ?_, rfl⟩
      simp [appended, Nat.eq_of_beq_eq_true h0]
    · rename_i h0
      cases e
      refine ⟨Builtin.zeroCells z.cells n, ?_, by rw [zeroCells_eq]; exact cellsA_lit_rel σ _⟩
      simp only [appended, Bool.not_true, Bool.false_eq_true, if_false, if_neg (Nat.ne_of_beq_eq_false h0), Sem.run_bind, run_zero hi hz, Result.andThen_ok, Sem.run_pure]
  · exact firstA_run h hx e

theorem RelL.getD {σ : Map} {l : List AV} {L : List Value} (h : RelL σ l L) {i : Nat} {v : AV} (e : l[i]? = some v) : RelV σ v (L.getD i undef) := by
  obtain ⟨V, h1, h2⟩ := h.get e
  rw [List.getD_eq_getElem?_getD, h1]
  exact h2

theorem World.drawn_sim {own : Nat → Prop} {lim : Nat} {σ : Map} {m : M} {w : World} (h : Sim own lim σ m w) (d : Nat) : Sim own lim σ m { w with drawn := d } := h.world rfl

/-- A new row: what was there, what comes, noughts. -/
theorem regrow_ok {P : Program} {own : Nat → Prop} {lim : Nat} {σ : Map} {m0 m : M} {w : World} (h0 : Sim own lim σ m0 w) (h : Sim own lim σ m w) (hl : m.nx < lim) {zs : Bool} {el : TypeId} {i : TypeInfo} {z X S : Value} {x s : AV} {n sLen sCap : Nat} {base : Option Addr} {old new : List AV}
    (hi : P.info? el = some i) (hz : i.zero = some z) (hzs : z.cells.size = i.size) (hx : RelV σ x X) (hs : RelV σ s S) (hS : S = .slice base sLen sCap) (e : appNew zs z.cells i.size n x m0 = some new) (eo : firstA i.size sLen s m0 = some old)
    (hold : old.length = sLen * i.size) (hnew : new.length = n * i.size)
    (hgt : sCap < sLen + n) (h62 : sLen + n ≤ 2 ^ 62) (hcap : Builtin.nextslicecap (sLen + n) sCap * i.bytes ≤ 2 ^ 48) :
    ∃ w' σ' V, (appRest zs el i.size n base sLen sCap S X).run P w = .ok V w' ∧ RelV σ' (.su m.nx 0 (sLen + n) i.size) V ∧ Sim own lim σ' (newBlk m (old ++ new)) w' ∧ Ext own σ σ' m (newBlk m (old ++ new)) w w' := by
  let newCap := (Question.appendCap (sLen + n) sCap el).cut (w.tape w.drawn (.appendCap (sLen + n) sCap el))
  have hnc : sLen + n ≤ newCap := Nat.le_add_right _ _
  obtain ⟨L1, g1, g2⟩ := firstA_run (P := P) (h0.world (w' := { w with drawn := w.drawn + 1 }) rfl) hs eo
  obtain ⟨L2, g3, g4⟩ := appended_run (P := P) (h0.world (w' := { w with drawn := w.drawn + 1 }) rfl) (el := el) hi hz hx e
  have hlen1 : L1.size = sLen * i.size := by have := g2.length; simpa [hold] using this
  have hlen2 : L2.size = n * i.size := by have := g4.length; simpa [hnew] using this
  let C := L1 ++ L2 ++ Builtin.zeroCells z.cells (newCap - (sLen + n))
  have hCsize : C.size = newCap * i.size := by
    show (L1 ++ L2 ++ Builtin.zeroCells z.cells (newCap - (sLen + n))).size = _
    rw [Array.size_append, Array.size_append, zeroCells_size, hlen1, hlen2, hzs, ← Nat.add_mul, ← Nat.add_mul]
    congr 1; omega
  obtain ⟨k1, k2⟩ := h.new (el := el) (fr := (0, 0)) (C := C) (cs := old ++ new) hl (by
      intro j v hj
      have hr : RelL σ (old ++ new) (L1.toList ++ L2.toList) := g2.append g4
      have hjl : j < (old ++ new).length := (List.getElem?_eq_some_iff.1 hj).1
      rw [List.length_append, hold, hnew, ← Nat.add_mul] at hjl
      have hjc : j < C.size := by
        rw [hCsize]
        exact Nat.lt_of_lt_of_le hjl (Nat.mul_le_mul_right _ hnc)
      refine ⟨hjc, ?_⟩
      have hv := hr.getD hj
      have : C.getD j undef = (L1.toList ++ L2.toList).getD j undef := by
        have hj2 : j < (L1 ++ L2).size := by rw [Array.size_append, hlen1, hlen2, ← Nat.add_mul]; exact hjl
        rw [Array.getD_eq_getD_getElem?]
        show ((L1 ++ L2 ++ Builtin.zeroCells z.cells (newCap - (sLen + n)))[j]?).getD undef = _
        rw [Array.getElem?_append_left hj2, ← Array.toList_append, List.getD_eq_getElem?_getD, Array.getElem?_toList]
      rw [this]; exact hv) (.inl rfl) { w with drawn := w.drawn + 1, heap := w.heap.push (.cells C el) } rfl rfl rfl rfl
  refine ⟨_, _, .slice (some ⟨w.heap.size, 0, none⟩) (sLen + n) newCap, ?_, ⟨w.heap.size, 0, C.size, newCap, by simp [setσ], hnc, by omega, by simp⟩, k1, k2⟩
  subst hS
  unfold appRest
  simp only []
  rw [if_neg (by omega)]
  have hmax : ¬ ((sLen + n : Nat) : Int) > IntKind.i64.max := by
    have : IntKind.i64.max = 2 ^ 63 - 1 := by decide
    rw [this]; omega
  simp only [Sem.run_bind, run_info hi, Result.andThen_ok]
  rw [if_neg (by intro hc; exact hmax hc.1)]
  simp only [Sem.run_bind, run_info hi, Result.andThen_ok]
  rw [if_neg (by omega)]
  simp only [Sem.run_bind, run_choose, Question.forced, Bool.false_eq_true, if_false, Result.andThen_ok, run_info hi, run_askRoom, g1, g3, run_zero hi hz, newRow, run_newObj, Sem.run_pure]
  rfl

theorem appendA_ok {P : Program} {own : Nat → Prop} {lim : Nat} {σ : Map} {m : M} {w : World} (h : Sim own lim σ m w) {ts : Array TypeId} {s x : AV} {S X : Value} {ty : TypeId} (hs : RelV σ s S) (hx : RelV σ x X) {r : R} (e : appendA P ts s x m = some r) (hl : outNx r ≤ lim) :
    OpOk P own lim σ m w (do pure (.value (← Builtin.append_ ts ty #[S, X]))) r := by
  unfold appendA at e
  split at e
  · cases e
  rename_i el hel
  split at e
  · cases e
  rename_i i hi
  split at e
  · cases e
  rename_i z hz
  obtain ⟨t, h1, h2⟩ := isSliceT_ok hel
  split at e
  case h_2 => cases e
  rename_i n hT hn
  split at e
  · cases e
  rename_i new hnew
  have hfirst : ∀ (b o len c size : Nat) (old : List AV), firstA size len (.sl b o len c) m = some old → old.length = len * size := by
    intro b o len c size old ho
    unfold firstA at ho
    dsimp only at ho
    split at ho
    · cases ho
    · exact (loadCs_get _ _ ho).1
  have hfirst' : ∀ (b o len c size : Nat) (old : List AV), firstA size len (.su b o len c) m = some old → old.length = len * size := by
    intro b o len c size old ho
    unfold firstA at ho
    dsimp only at ho
    split at ho
    · cases ho
    · exact (loadCs_get _ _ ho).1
  split at e
  · rename_i hnl
    have hnl := Nat.eq_of_beq_eq_true hnl
    have hS : S = .slice none 0 0 := hs
    split at e
    · rename_i h0
      cases e
      have h0 := Nat.eq_of_beq_eq_true h0
      subst h0
      refine OpOk.val0 (V := .slice none 0 0) h ?_ rfl
      obtain ⟨L, g1, g2⟩ := appended_run (P := P) h (el := el) hi hz hx hnew
      rw [Sem.run_bind, hS, append_run h1 h2 hi hT hx hn]
      unfold appRest
      simp only [Nat.add_zero, Nat.le_refl, if_true, Sem.run_bind, g1, Result.andThen_ok, Sem.run_pure]
    · rename_i h0
      split at e
      · cases e
      rename_i hg
      cases e
      simp only [growA, Bool.and_eq_true, decide_eq_true_eq] at hg
      have h0 := Nat.ne_of_beq_eq_false h0
      obtain ⟨w', σ', V, k1, k2, k3, k4⟩ := regrow_ok (P := P) h h (show m.nx < lim from hl) (old := []) (s := .lit (.slice none 0 0)) (x := x) hi hz (Nat.eq_of_beq_eq_true hg.2) hx (show RelV σ (.lit (.slice none 0 0)) S from hs) hS hnew (by simp [firstA]) (by simp) hnl (by omega) (by omega) (by simpa using hg.1.2)
      refine ⟨w', σ', V, .inl ?_, by simpa using k2, by simpa using k3, by simpa using k4⟩
      rw [Sem.run_bind]
      conv => lhs; rw [hS, append_run h1 h2 hi hT hx hn]
      rw [← hS, k1]; rfl
  · rename_i b o len cap hnl
    have hnl := Nat.eq_of_beq_eq_true hnl
    have hs' := hs
    simp only [RelV] at hs
    obtain ⟨k, sh, sz, e1, hS⟩ := hs
    split at e
    · rename_i hle
      split at e
      · cases e
      rename_i m' hm
      cases e
      obtain ⟨L, g1, g2⟩ := appended_run (P := P) h (el := el) hi hz hx hnew
      obtain ⟨w', k1, k2, k3, _⟩ := Sim.store (P := P) e1 new L.toList (o + len * i.size) 0 h hm g2
      refine ⟨w', σ, .slice (some ⟨k, sh + o, none⟩) (len + n) cap, .inl ?_, ⟨k, sh, sz, e1, rfl⟩, k2, k3⟩
      rw [Sem.run_bind, hS, append_run h1 h2 hi hT hx hn]
      unfold appRest
      simp only []
      rw [if_pos (Nat.le_of_ble_eq_true hle)]
      simp only [Sem.run_bind, g1, Result.andThen_ok, add_none, Nat.add_assoc, k1, Sem.run_pure]
    · rename_i hle
      split at e
      · cases e
      rename_i hg
      split at e
      · cases e
      rename_i old ho
      cases e
      simp only [growA, Bool.and_eq_true, decide_eq_true_eq] at hg
      have hlt : cap < len + n := Nat.lt_of_not_le fun hc => by rw [Nat.ble_eq_true_of_le hc] at hle; cases hle
      obtain ⟨w', σ', V, k1, k2, k3, k4⟩ := regrow_ok (P := P) h h (show m.nx < lim from hl) (s := .sl b o len cap) (x := x) hi hz (Nat.eq_of_beq_eq_true hg.2) hx hs' hS hnew ho (hfirst _ _ _ _ _ _ ho) hnl hlt hg.1.1 hg.1.2
      refine ⟨w', σ', V, .inl ?_, k2, k3, k4⟩
      rw [Sem.run_bind]
      conv => lhs; rw [hS, append_run h1 h2 hi hT hx hn]
      rw [← hS, k1]; rfl
  · rename_i b o len es hnl
    have hnl := Nat.eq_of_beq_eq_true hnl
    have hs' := hs
    simp only [RelV] at hs
    obtain ⟨k, sh, sz, c, e1, hnc, hroom, hS⟩ := hs
    split at e
    · rename_i h0
      cases e
      have h0 := Nat.eq_of_beq_eq_true h0
      subst h0
      obtain ⟨L, g1, g2⟩ := appended_run (P := P) h (el := el) hi hz hx hnew
      have hL : L.toList = [] := by
        have := g2.length
        rw [hnl, Nat.zero_mul] at this
        exact List.length_eq_zero_iff.1 this
      refine OpOk.val0 (V := .slice (some ⟨k, sh + o, none⟩) len c) h ?_ ⟨k, sh, sz, c, e1, hnc, hroom, rfl⟩
      rw [Sem.run_bind, hS, append_run h1 h2 hi hT hx hn]
      unfold appRest
      simp only [Nat.add_zero]
      rw [if_pos hnc]
      simp only [Sem.run_bind, g1, Result.andThen_ok, hL, storeCells, Sem.run_pure]
    · rename_i h0
      split at e
      · cases e
      rename_i hg
      split at e
      · cases e
      rename_i old ho
      cases e
      simp only [Bool.and_eq_true, decide_eq_true_eq] at hg
      obtain ⟨⟨⟨⟨hes, hzs⟩, h62⟩, h48⟩, hflat⟩ := hg
      have hes := Nat.eq_of_beq_eq_true hes
      subst hes
      have hzs := Nat.eq_of_beq_eq_true hzs
      by_cases hle : len + n ≤ c
      · obtain ⟨L2, g1, g2⟩ := appended_run (P := P) h (el := el) hi hz hx hnew
        obtain ⟨B, hB⟩ : ∃ B, m.blk b = some B := by
          unfold firstA at ho
          dsimp only at ho
          split at ho
          · cases ho
          · rename_i B hB; exact ⟨B, hB⟩
        have ho' : loadCs B o (len * i.size) = some old := by
          unfold firstA at ho
          dsimp only at ho
          rw [hB] at ho
          exact ho
        obtain ⟨k', sh', sz', e1', e2', c0, el0, fr0, e3, e4, e5, e6⟩ := h.blk b B hB
        rw [e1] at e1'; cases e1'
        have hlen2 : L2.toList.length = n * i.size := by have := g2.length; rw [hnl] at this; exact this
        have hmul : (len + n) * i.size ≤ c * i.size := Nat.mul_le_mul_right _ hle
        rw [Nat.add_mul] at hmul
        obtain ⟨w', c', k1, k2, k3, k4, k5, k6, k7, k8, k9, k10⟩ := storeRow (P := P) (sh + o + len * i.size) L2.toList 0 c0 w e3 e6 (by omega) (by
          intro v hv
          obtain ⟨j, hj, rfl⟩ := List.getElem_of_mem hv
          have hj' : j < new.length := by rw [hnl, ← hlen2]; exact hj
          have hr := g2.getD (List.getElem?_eq_getElem hj')
          rw [List.getD_eq_getElem?_getD, List.getElem?_eq_getElem hj] at hr
          exact flat_one hr (List.all_eq_true.1 hflat _ (List.getElem_mem hj')))
        obtain ⟨q1, q2⟩ := loadCs_get _ _ ho'
        obtain ⟨r1, r2⟩ := h.inPlace (o := o) (cs := old ++ new) (show m.nx < lim from hl) hB e1 e3 k2 k3 k6 k7 k8 k9 k10 (by omega) (by
          intro j v hj
          have hjl := (List.getElem?_eq_some_iff.1 hj).1
          rw [List.length_append, q1, hnl] at hjl
          refine ⟨by omega, ?_⟩
          by_cases hjo : j < old.length
          · rw [List.getElem?_append_left hjo] at hj
            rw [k4 _ (by omega)]
            have := (e5 _ _ (q2 j v hj)).2
            rwa [show sh + (o + j) = sh + o + j by omega] at this
          · rw [List.getElem?_append_right (by omega)] at hj
            have hk5 := k5 (j - old.length) (by omega)
            rw [show sh + o + len * i.size + 0 + (j - old.length) = sh + o + j by omega] at hk5
            rw [hk5]
            exact g2.getD hj)
        refine ⟨w', _, .slice (some ⟨k, sh + o, none⟩) (len + n) c, .inl ?_, ⟨k, sh + o, sz - o, c, by simp [setσ], hle, by omega, by simp⟩, r1, r2⟩
        rw [Sem.run_bind, hS, append_run h1 h2 hi hT hx hn]
        unfold appRest
        simp only []
        rw [if_pos hle]
        simp only [Sem.run_bind, g1, Result.andThen_ok, add_none, k1, Sem.run_pure]
      · obtain ⟨w', σ', V, k1, k2, k3, k4⟩ := regrow_ok (P := P) h (h.erase b (match Nat.blt b m.fl with | true => b :: m.lg | false => m.lg)) (show m.nx < lim from hl) (s := .su b o len i.size) (x := x) hi hz hzs hx hs' hS hnew ho (hfirst' _ _ _ _ _ _ ho) hnl (by omega) h62 (by
          have := nextslicecap_le (len + n) c (by omega)
          exact Nat.le_trans (Nat.mul_le_mul_right _ this) h48)
        refine ⟨w', σ', V, .inl ?_, k2, k3, ⟨k4.le, k4.only, k4.size, k4.frame, k4.os, k4.tape, k4.output⟩⟩
        rw [Sem.run_bind]
        conv => lhs; rw [hS, append_run h1 h2 hi hT hx hn]
        rw [← hS, k1]; rfl
  · cases e
end
end Ev
end Go.Proofs.YtggfhklokfcplaaGreat
