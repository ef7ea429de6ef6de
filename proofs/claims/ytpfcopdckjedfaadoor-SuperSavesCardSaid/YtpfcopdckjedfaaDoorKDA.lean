/- DyA, DyB, DyC, DyE: one text. -/
import Derived.Test.YtpfcopdckjedfaaDoorDyW
import Derived.Deep.MidRow
/- dev: Len, Dead, Calls, has, Read, Fuse, count. -/
namespace Go.Proofs.YtpfcopdckjedfaaDoor
open Go.RowKit Go.Maps
set_option linter.unusedVariables false
abbrev atp (p : Nat) : Value := .pointer (some ⟨p, 0, none⟩)

theorem len_to {w : World} {M : Dv} {p bs cap bm : Nat} (h : DvL w M p bs cap bm) : Calls Tryd.prog 31 #[atp p] w fun e w' => e = .returned (.int .i64 (M.now.length : Int)) ∧ w = w' := by
  obtain ⟨c0, c1, c2, c3, c4⟩ := h.cells
  clear h
  go_enter Tryd.func31, Tryd.ntmps31
  go_wp2_with fail
  go_ret
  exact ⟨rfl, rfl⟩
theorem len_nil (w : World) : Calls Tryd.prog 31 #[.pointer none] w fun e w' => e = .returned (.int .i64 0) ∧ w = w' := by
  go_enter Tryd.func31, Tryd.ntmps31
  go_wp2_with fail
  go_ret
  exact ⟨rfl, rfl⟩
theorem dead_to {w : World} {M : Dv} {p bs cap bm : Nat} (h : DvL w M p bs cap bm) : Calls Tryd.prog 28 #[atp p] w fun e w' => e = .returned (.bool (decide (M.fuse = 0))) ∧ w = w' := by
  obtain ⟨c0, c1, c2, c3, c4⟩ := h.cells
  obtain ⟨d, hd⟩ : ∃ d, decide (M.fuse = 0) = d := ⟨_, rfl⟩
  rw [hd] at c4 ⊢
  clear h hd
  go_enter Tryd.func28, Tryd.ntmps28
  go_wp2_with fail
  go_ret
  exact ⟨rfl, rfl⟩
theorem dead_nil (w : World) : Calls Tryd.prog 28 #[.pointer none] w fun e w' => e = .returned (.bool true) ∧ w = w' := by
  go_enter Tryd.func28, Tryd.ntmps28
  go_wp2_with fail
  go_ret
  exact ⟨rfl, rfl⟩
theorem has_to {w : World} {M : Dv} {p bs cap bm : Nat} (h : DvL w M p bs cap bm) (i : Int) : Calls Tryd.prog 29 #[atp p, .int .i64 i] w fun e w' => e = .returned (.bool (decide (0 ≤ i ∧ i < (M.now.length : Int)))) ∧ w = w' := by
  have hl := len_to h
  clear h
  by_cases h0 : 0 ≤ i
  · have e1 : decide (0 ≤ i ∧ i < (M.now.length : Int)) = decide (i < (M.now.length : Int)) := by simp [h0]
    rw [e1]
    obtain ⟨d, hd⟩ : ∃ d, decide (i < (M.now.length : Int)) = d := ⟨_, rfl⟩
    have e2 : decide (i ≥ 0) = true := by simpa using h0
    rw [hd]
    go_enter Tryd.func29, Tryd.ntmps29
    go_wp2_with fail
    refine hl.mono ?_
    rintro e w' ⟨rfl, rfl⟩
    go_wp2_with fail
    go_ret
    exact ⟨rfl, rfl⟩
  · have e1 : decide (0 ≤ i ∧ i < (M.now.length : Int)) = false := by simp [h0]
    rw [e1]
    go_enter Tryd.func29, Tryd.ntmps29
    go_wp2_with fail
    go_ret
    exact ⟨rfl, rfl⟩
end Go.Proofs.YtpfcopdckjedfaaDoor

/- dev: count, Fuse, Flush, Read. -/
namespace Go.Proofs.YtpfcopdckjedfaaDoor
open Go.RowKit Go.Maps
set_option linter.unusedVariables false
set_option maxRecDepth 100000

theorem count_to {w : World} {M : Dv} {p bs cap bm : Nat} (h : DvL w M p bs cap bm) (hc : M.calls < 1000000000) (hf : M.fuse ≠ 0) :
    Calls Tryd.prog 30 #[atp p] w fun e w' => e = .returned (.tuple #[]) ∧ DvL w' M.next p bs cap bm ∧ Wr p w w' := by
  obtain ⟨c0, c1, c2, c3, c4⟩ := h.cells
  obtain ⟨q, hq⟩ : ∃ q, decide (M.fuse = 0) = q := ⟨_, rfl⟩
  rw [hq] at c4
  clear hq
  have hlt := h.lt.1
  have f2 := h.fz 2
  have f3 := h.fz 3
  have f4 := h.fz 4
  have hf1 := h.ok.f1
  have HH := hid h
  by_cases hp : 0 < M.fuse
  · have e0 : max M.fuse 0 = M.fuse := by omega
    rw [e0] at c3
    have key : ∀ w', Hid (w' = ((w.setCell ⟨p, 2, none⟩ (.int .i64 ((M.calls : Int) + 1))).setCell ⟨p, 3, none⟩ (.int .i64 (M.fuse - 1))).setCell ⟨p, 4, none⟩ (.bool (M.fuse - 1 == 0))) → DvL w' M.next p bs cap bm ∧ Wr p w w' := by
      intro w' hw'
      have hw' := hw'.out
      subst hw'
      have hW : Wr p w _ := (((Wr.refl p w).set 2 (.int .i64 ((M.calls : Int) + 1))).set 3 (.int .i64 (M.fuse - 1))).set 4 (.bool (M.fuse - 1 == 0))
      refine ⟨h.turn (Dv.next_ok h.ok) rfl rfl rfl hW ?_, hW⟩
      have := ((h.blk.set 2 (.int .i64 ((M.calls : Int) + 1))).set 3 (.int .i64 (M.fuse - 1))).set 4 (.bool (M.fuse - 1 == 0))
      have e1 : (M.next).fuse = M.fuse - 1 := by simp [Dv.next, hp]
      have e2 : ((M.next).calls : Int) = (M.calls : Int) + 1 := by simp [Dv.next]
      have e3 : max (M.fuse - 1) 0 = M.fuse - 1 := by omega
      have e4 : decide (M.fuse - 1 = 0) = (M.fuse - 1 == 0) := rfl
      rw [e1, e2, e3, e4]
      exact this
    obtain ⟨c, hc'⟩ : ∃ c, (M.calls : Int) = c := ⟨_, rfl⟩
    obtain ⟨f, hf'⟩ : ∃ f, M.fuse = f := ⟨_, rfl⟩
    have hcb : 0 ≤ c ∧ c < 1000000000 := by omega
    rw [hc'] at c2 key
    rw [hf'] at c3 key hp hf1
    have d1 : decide (f > 0) = true := by simpa using hp
    have HK := hid key
    clear h hc hf c0 c1 e0 hc' hf' key
    go_enter Tryd.func30, Tryd.ntmps30
    go_wp2_with fail
    go_end0
    exact ⟨rfl, HK.out _ (hid rfl)⟩
  · have e0 : max M.fuse 0 = 0 := by omega
    rw [e0] at c3
    have key : ∀ w', Hid (w' = w.setCell ⟨p, 2, none⟩ (.int .i64 ((M.calls : Int) + 1))) → DvL w' M.next p bs cap bm ∧ Wr p w w' := by
      intro w' hw'
      have hw' := hw'.out
      subst hw'
      have hW : Wr p w _ := (Wr.refl p w).set 2 (.int .i64 ((M.calls : Int) + 1))
      refine ⟨h.turn (Dv.next_ok h.ok) rfl rfl rfl hW ?_, hW⟩
      have := h.blk.set 2 (.int .i64 ((M.calls : Int) + 1))
      have e1 : (M.next).fuse = M.fuse := by simp [Dv.next, hp]
      have e2 : ((M.next).calls : Int) = (M.calls : Int) + 1 := by simp [Dv.next]
      rw [e1, e2]
      exact this
    obtain ⟨c, hc'⟩ : ∃ c, (M.calls : Int) = c := ⟨_, rfl⟩
    have hcb : 0 ≤ c ∧ c < 1000000000 := by omega
    rw [hc'] at c2 key
    have HK := hid key
    clear h hc hf c0 c1 c4 hc' key hp hf1 f3 f4 e0
    go_enter Tryd.func30, Tryd.ntmps30
    go_wp2_with fail
    go_end0
    exact ⟨rfl, HK.out _ (hid rfl)⟩

theorem fuse_to {w : World} {M : Dv} {p bs cap bm : Nat} (h : DvL w M p bs cap bm) (n : Int) (hn : (Lit.int .i64 n).wf = true) :
    Calls Tryd.prog 17 #[atp p, .int .i64 n] w fun e w' => e = .returned (.tuple #[]) ∧ DvL w' (M.fuseTo n) p bs cap bm ∧ Wr p w w' := by
  have hd := dead_to h
  by_cases hf : M.fuse = 0
  · have e1 : M.fuseTo n = M := by unfold Dv.fuseTo; rw [if_pos hf]
    have e2 : decide (M.fuse = 0) = true := by simpa using hf
    rw [e1]
    rw [e2] at hd
    have HH := hid h
    clear h hf e1 e2 hn
    go_enter Tryd.func17, Tryd.ntmps17
    go_wp2_with fail
    refine hd.mono ?_
    rintro e w' ⟨rfl, rfl⟩
    go_wp2_with fail
    exact bodyPost_ret (results_none rfl _ _ _) rfl ⟨rfl, HH.out, Wr.refl _ _⟩
  · have e1 : (M.fuseTo n).fuse = max (-1) n := by unfold Dv.fuseTo; rw [if_neg hf]
    have e1' : M.fuseTo n = { M with fuse := max (-1) n } := by unfold Dv.fuseTo; rw [if_neg hf]
    have e2 : decide (M.fuse = 0) = false := by simpa using hf
    rw [e2] at hd
    have hb := bounds_i64 hn
    have key : ∀ w', Hid (w' = (w.setCell ⟨p, 3, none⟩ (.int .i64 (max n 0))).setCell ⟨p, 4, none⟩ (.bool (n == 0))) → DvL w' (M.fuseTo n) p bs cap bm ∧ Wr p w w' := by
      intro w' hw'
      have hw' := hw'.out
      subst hw'
      have hW : Wr p w _ := ((Wr.refl p w).set 3 (.int .i64 (max n 0))).set 4 (.bool (n == 0))
      have hok : (M.fuseTo n).ok := by rw [e1']; exact ⟨h.ok.n1, h.ok.n2, h.ok.s, h.ok.l, h.ok.now, h.ok.safe, by show -1 ≤ max (-1) n; omega, by show max (-1) n ≤ _; omega⟩
      refine ⟨h.turn hok (by rw [e1']) (by rw [e1']) (by rw [e1']) hW ?_, hW⟩
      have := (h.blk.set 3 (.int .i64 (max n 0))).set 4 (.bool (n == 0))
      have e3 : max (max (-1) n) 0 = max n 0 := by omega
      have e4 : decide (max (-1) n = 0) = (n == 0) := by
        by_cases h0 : n = 0
        · subst h0; decide
        · rw [decide_eq_false (by omega)]; symm; simpa using h0
      have e5 : (M.fuseTo n).calls = M.calls := by rw [e1']
      rw [e1, e3, e4, e5]
      exact this
    have f3 := h.fz 3
    have f4 := h.fz 4
    obtain ⟨c0, c1, c2, c3, c4⟩ := h.cells
    rw [e2] at c4
    have HK := hid key
    clear h hf e1 e1' e2 key hn
    go_enter Tryd.func17, Tryd.ntmps17
    go_wp2_with fail
    refine hd.mono ?_
    rintro e w' ⟨rfl, rfl⟩
    go_wp2_with fail
    go_end0
    exact ⟨rfl, HK.out _ (hid rfl)⟩
theorem fuse_nil (n : Int) (w : World) : Calls Tryd.prog 17 #[.pointer none, .int .i64 n] w fun e w' => e = .returned (.tuple #[]) ∧ w = w' := by
  have hd := fun w => dead_nil w
  go_enter Tryd.func17, Tryd.ntmps17
  go_wp2_with fail
  refine (hd _).mono ?_
  rintro e w' ⟨rfl, rfl⟩
  go_wp2_with fail
  exact bodyPost_ret (results_none rfl _ _ _) rfl ⟨rfl, rfl⟩

/-- 'clear(m)', at the operation. -/
theorem wpList_clear {H : Type} {P : Program} {w : World} {ops : Array Oper} {rest : List Oper} {o : Oper} {a : Act} {Q : Exit → Act → World → Prop} (hgd : o.guard = none) (x : Operand) (t : TypeId) (ho : o.op = .call { callee := .builtin .clear, args := #[x], argTypes := #[t] })
    (k e : TypeId) (ht : P.underlying t = some (.map k e)) (R : Value → Option (DataW H × List MemPlace)) (b n : Nat) (D : DataW H) (hx : a.eval x = .map (some b)) (h : w.ownsMap P k R b n D)
    (hK : ∀ w', w'.ownsMap P k R b 0 (.map []) → w.mapTurned w' b → wpList P ops Q rest (a.put o.dst (.tuple #[])) w') : wpList P ops Q (o :: rest) a w := by
  refine wpList_plain hgd fun K hK' => ?_
  obtain ⟨w', hrun, h1, h2⟩ := ownsMap_clear (ty := o.type) h ht
  unfold Oper.wp
  simp [execOp, ho, resolve, invoke, builtin, hx, hrun, Result.andThen]
  exact hK' _ _ (hK w' h1 h2)
theorem Loo.flushed {M : Dv} (h : M.ok) : Loo (.map []) { M with safe := M.now, loose := List.replicate M.now.length false } :=
  ⟨fun _ _ => rfl, fun j hj => by simp [List.getD, List.getElem?_replicate, Maps.has]; split <;> rfl, fun j hj hl => by simp [List.getD, List.getElem?_replicate] at hl; split at hl <;> simp at hl, fun j _ _ => rfl⟩
theorem flush_to {w : World} {M : Dv} {p bs cap bm : Nat} (h : DvL w M p bs cap bm) (hc : M.calls < 1000000000) :
    Calls Tryd.prog 33 #[atp p] w fun e w' => e = .returned (.int .i64 M.flushE) ∧ DvL w' M.flush p bs cap bm ∧ Wrs (fun b => b = p ∨ b = bs ∨ b = bm) w w' := by
  have hd := dead_to h
  by_cases hf : M.fuse = 0
  · obtain ⟨e1, e2⟩ := Dv.flush_dead hf
    rw [show decide (M.fuse = 0) = true by simpa using hf] at hd
    rw [e1, e2]
    have HH := hid h
    clear h hf e1 e2 hc
    go_enter Tryd.func33, Tryd.ntmps33
    go_wp2_with fail
    refine hd.mono ?_
    rintro e w' ⟨rfl, rfl⟩
    go_wp2_with fail
    go_ret
    exact ⟨rfl, HH.out, Wrs.refl _ _⟩
  · have e1 : M.flushE = 0 := (Dv.flush_live hf).1
    have e2 : M.flush = Dv.next { M with safe := M.now, loose := List.replicate M.now.length false } := by unfold Dv.flush; rw [if_neg hf]
    rw [show decide (M.fuse = 0) = false by simpa using hf] at hd
    rw [e1, e2]
    obtain ⟨c0, c1, c2, c3, c4⟩ := h.cells
    obtain ⟨D, hm, hD⟩ := h.map
    obtain ⟨n1, n2, n3⟩ := h.ne
    have key : ∀ w', Hid (w'.ownsMap Tryd.prog 3 RV bm 0 (.map []) ∧ w.mapTurned w' bm) → DvL w' { M with safe := M.now, loose := List.replicate M.now.length false } p bs cap bm ∧ Wr bm w w' := by
      intro w' hw'
      obtain ⟨h1, h2⟩ := hw'.out
      have hg := h2.grown
      refine ⟨⟨⟨h.ok.n1, h.ok.n2, rfl, by simp, h.ok.now, h.ok.now, h.ok.f0, h.ok.f1⟩, h.blk.grown hg (fun e => n2 (by cases e; rfl)), h.sec.grown hg (fun g hg' e => by cases hg'; cases e; exact n3 rfl), ⟨_, ?_, Loo.flushed h.ok⟩⟩, hg⟩
      simpa [List.count_replicate] using h1
    have HK := hid (And.intro key (And.intro hc hf))
    clear h hf e1 e2 hc key hD n1 n2 n3 c0 c2 c3 c4
    go_enter Tryd.func33, Tryd.ntmps33
    go_wp2_with fail
    refine hd.mono ?_
    rintro e w' ⟨rfl, rfl⟩
    go_wp2_with (refine wpList_clear rfl _ 61 rfl 3 60 Tryd.underlying61 RV bm _ D rfl hm ?_; intro w1 h1 h2)
    obtain ⟨h3, h4⟩ := HK.out.1 w1 (hid ⟨h1, h2⟩)
    have HW := hid h4
    have hcn := count_to h3 HK.out.2.1 HK.out.2.2
    clear h1 h2 h3 h4 hd hm c1
    refine hcn.mono ?_
    rintro e w2 ⟨rfl, h5, h6⟩
    have HX := hid (And.intro h5 h6)
    clear h5 h6 hcn
    go_wp2_with fail
    go_ret
    refine ⟨rfl, HX.out.1, ?_⟩
    have a1 := HW.out
    have a2 := HX.out.2
    exact ⟨a2.os.trans a1.os, a2.tape.trans a1.tape, a2.output.trans a1.output, Nat.le_trans a1.size a2.size, fun b hb hn => (a2.block b (Nat.lt_of_lt_of_le hb a1.size) (fun e => hn (.inl (by cases e; rfl)))).trans (a1.block b hb (fun e => hn (.inr (.inr (by cases e; rfl)))))⟩
theorem flush_nil (w : World) : Calls Tryd.prog 33 #[.pointer none] w fun e w' => e = .returned (.int .i64 10) ∧ w = w' := by
  have hd := fun w => dead_nil w
  go_enter Tryd.func33, Tryd.ntmps33
  go_wp2_with fail
  refine (hd _).mono ?_
  rintro e w' ⟨rfl, rfl⟩
  go_wp2_with fail
  go_ret
  exact ⟨rfl, rfl⟩
end Go.Proofs.YtpfcopdckjedfaaDoor

/- dev: Read. -/
namespace Go.Proofs.YtpfcopdckjedfaaDoor
open Go.RowKit Go.Maps
set_option linter.unusedVariables false
set_option maxRecDepth 100000

/-- 'var s sector' and the like. -/
theorem wpList_var {P : Program} {w : World} {ops : Array Oper} {rest : List Oper} {o : Oper} {a : Act} {Q : Exit → Act → World → Prop} (hgd : o.guard = none) (t : TypeId) (ho : o.op = .alloc t) (cs : List Value)
    (hr : (Instr.alloc t true (.tuple #[])).run P w = .ok (.pointer (some ⟨w.heap.size, 0, none⟩)) (w.alloc (.cells cs.toArray t)))
    (h : ∀ w', Hid (Blk w' w.heap.size t cs ∧ Below w.heap.size w w') → w'.heap.size = w.heap.size + 1 → wpList P ops Q rest (a.put o.dst (.pointer (some ⟨w.heap.size, 0, none⟩))) w') : wpList P ops Q (o :: rest) a w := by
  refine wpList_plain hgd fun K hK => ?_
  unfold Oper.wp execOp
  simp only [ho, hr, Sem.run_bind, Sem.run_pure, Result.andThen_ok]
  exact hK _ _ (h _ ⟨Blk.new _ _ _, Bl.alloc (Bl.refl _) _⟩ (by simp))
theorem alloc46 (w : World) : (Instr.alloc 60 true (.tuple #[])).run Tryd.prog w = .ok (.pointer (some ⟨w.heap.size, 0, none⟩)) (w.alloc (.cells (cs8 zSec).toArray 60)) := by kernel_rfl
theorem size_setCells (g : Nat) : ∀ (vs : List Value) (w : World) (o : Nat), (w.setCells g o vs).heap.size = w.heap.size
  | [], _, _ => rfl
  | v :: vs, w, o => by
    show ((w.setCell ⟨g, o, none⟩ v).setCells g (o + 1) vs).heap.size = _
    rw [size_setCells g vs]
    simp [World.setCell]
/-- A value of a sector's is stored into a block that is known whole. -/
theorem wpList_store_blk {P : Program} {w : World} {ops : Array Oper} {rest : List Oper} {o : Oper} {a : Act} {Q : Exit → Act → World → Prop} (hgd : o.guard = none) (ty : TypeId) (x y : Operand) (ho : o.op = .store ty x y)
    (g : Nat) (cs vs : List Value) (t : TypeId) (hx : a.eval x = .pointer (some ⟨g, 0, none⟩)) (hy : a.eval y = .agg vs.toArray) (hb : Blk w g t cs) (hl : cs.length = vs.length) (hi : (P.info? ty).map (·.size) = some vs.length) (h1 : ∀ v ∈ vs, v.oneCell' = true)
    (h : ∀ w', Hid (Blk w' g t vs ∧ Wr g w w') → w'.heap.size = w.heap.size → wpList P ops Q rest (a.put o.dst undef) w') : wpList P ops Q (o :: rest) a w := by
  refine wpList_store_mid hgd ty x y ho g 0 vs.toArray hx hy (fun j hj => hb.there 0 cs.length (by omega) j (by simp only [List.size_toArray] at hj; omega)) (by simpa using hi) (by simpa using h1) ?_
  refine h _ ⟨?_, Wr.setCells (Wr.refl g w) _ _⟩ ?_
  · have := Blk.setCells vs hb 0 (by omega)
    rwa [show splice cs 0 vs = vs by simp [splice, hl]] at this
  · exact size_setCells _ _ _ _

theorem Blk.own {w : World} {g B : Nat} {t : TypeId} {k : IntKind} {xs : List Int} (h : Blk w g t (xs.map (Value.int k))) (hB : B ≤ g) (hw : ∀ x ∈ xs, (Lit.int k x).wf = true) (hm : xs.length ≤ maxLen) : Own t k B w (.slice (some ⟨g, 0, none⟩) xs.length xs.length) xs :=
  ⟨⟨by simp, .inr ⟨g, xs.length, (xs.map (Value.int k)).toArray, rfl, hB, h, Nat.le_refl _, hm, by simp, by simp; exact List.take_of_length_le (by simp)⟩⟩, hw⟩
theorem read_to {w : World} {M : Dv} {p bs cap bm : Nat} (h : DvL w M p bs cap bm) (i : Int) (hwi : (Lit.int .i64 i).wf = true) :
    Calls Tryd.prog 19 #[atp p, .int .i64 i] w fun e w' => ∃ v, e = .returned (.tuple #[v, .int .i64 (M.readE i)]) ∧ Own 60 .u8 w.heap.size w' v (M.read i) ∧ Below w.heap.size w w' := by
  have hh := has_to h i
  obtain ⟨c0, c1, c2, c3, c4⟩ := h.cells
  by_cases hi : 0 ≤ i ∧ i < (M.now.length : Int)
  · have e1 : M.readE i = 0 := by unfold Dv.readE; rw [if_neg (by omega)]
    have e2 : M.read i = M.now.getD i.toNat [] := by unfold Dv.read; rw [if_neg (by omega)]
    rw [e1, e2]
    rw [decide_eq_true hi] at hh
    obtain ⟨k, rfl⟩ : ∃ k : Nat, i = k := ⟨i.toNat, by omega⟩
    have hk : k < M.now.length := by omega
    have hr := h.rng hk
    have hn2 := h.ok.n2
    have hcap := h.capb
    obtain ⟨S, hS⟩ : ∃ S, M.now.getD k [] = S := ⟨_, rfl⟩
    have hok : secOk S := by rw [← hS]; refine h.ok.now _ ?_; simp [List.getD, hk]
    rw [Int.toNat_natCast, hS]
    rw [hS] at hr
    have hlen := cs8_len hok
    have hone := cs8_one S
    have HO := hid hok
    have hz := size46
    rw [← hlen] at hz
    obtain ⟨n, hn⟩ : ∃ n, M.now.length = n := ⟨_, rfl⟩
    rw [hn] at hk hn2 hcap c0
    clear h hi e1 e2 c1 c2 c3 c4 hS hok hn hwi
    go_enter Tryd.func19, Tryd.ntmps19
    go_wp2_with fail
    refine hh.mono ?_
    rintro e w' ⟨rfl, rfl⟩
    clear hh
    go_wp2_with (first
      | (refine wpList_load_mid rfl 60 (.tmp 18) rfl bs (k * 64) rfl (cs8 S) _ hr Tryd.underlying60 rfl hz ?_)
      | (refine wpList_var rfl 60 rfl (cs8 zSec) (alloc46 _) ?_; intro w1 H1 hs1)
      | (refine wpList_store_blk rfl 60 (.tmp 6) (.tmp 19) rfl w.heap.size (cs8 zSec) (cs8 S) 60 rfl rfl H1.out.1 (by rw [hlen]; rfl) hz hone ?_; intro w2 H2 hs2))
    go_ret2
    have hb := Blk.own H2.out.1 (Nat.le_refl _) HO.out.2 (by rw [HO.out.1]; unfold maxLen; omega)
    rw [HO.out.1] at hb
    refine ⟨_, rfl, hb, ?_⟩
    exact (H1.out.2.trans (H2.out.2.below (by omega) (Nat.le_refl _)))
  · have e1 : M.readE i = 3 := by unfold Dv.readE; rw [if_pos (by omega)]
    have e2 : M.read i = [] := by
      unfold Dv.read
      by_cases h0 : i < 0
      · rw [if_pos h0]
      · rw [if_neg h0, List.getD_eq_getElem?_getD, List.getElem?_eq_none (by omega)]; rfl
    rw [e1, e2]
    rw [decide_eq_false hi] at hh
    clear h hi e1 e2 c0 c1 c2 c3 c4 hwi
    go_enter Tryd.func19, Tryd.ntmps19
    go_wp2_with fail
    refine hh.mono ?_
    rintro e w' ⟨rfl, rfl⟩
    go_wp2_with fail
    go_ret2
    exact ⟨_, rfl, Own.nil _ _ _ _, Below.refl _ _⟩
theorem read_nil (i : Int) (w : World) : Calls Tryd.prog 19 #[.pointer none, .int .i64 i] w fun e w' => e = .returned (.tuple #[.slice none 0 0, .int .i64 10]) ∧ w = w' := by
  go_enter Tryd.func19, Tryd.ntmps19
  go_wp2_with fail
  go_ret2
  exact ⟨rfl, rfl⟩
end Go.Proofs.YtpfcopdckjedfaaDoor

/- dev: what a write leaves, plainly. -/
namespace Go.Proofs.YtpfcopdckjedfaaDoor
open Go.RowKit Go.Maps
set_option linter.unusedVariables false

/-- The device with a sector written, ahead of its count. -/
def Dv.mid (M : Dv) (i : Nat) (b : List Int) : Dv := { M with now := M.now.set i (b ++ (M.now.getD i []).drop b.length), loose := M.loose.set i true }
theorem Dv.mid_next (M : Dv) (i : Nat) (b : List Int) : (M.mid i b).next = M.put i b := rfl
theorem Dv.mid_ok {M : Dv} (h : M.ok) {i : Nat} (hi : i < M.now.length) {b : List Int} (hb : b.length ≤ 64) (hw : ∀ x ∈ b, (Lit.int .u8 x).wf = true) : (M.mid i b).ok := by
  refine ⟨by simpa [Dv.mid] using h.n1, by simpa [Dv.mid] using h.n2, by simpa [Dv.mid] using h.s, by simpa [Dv.mid] using h.l, fun s hs => ?_, h.safe, h.f0, h.f1⟩
  rcases List.mem_or_eq_of_mem_set hs with hs | rfl
  · exact h.now s hs
  · refine secOk.over (h.now _ ?_) hb hw
    simp [List.getD, hi]
theorem getD_set' {α : Type} (L : List α) (i j : Nat) (x z : α) (hi : i < L.length) : (L.set i x).getD j z = if i = j then x else L.getD j z := by
  simp only [List.getD, List.getElem?_set]
  by_cases e : i = j
  · subst e; simp [hi]
  · simp [e]
theorem Loo.loose {D : DataW Value} {M : Dv} (h : Loo D M) (hM : M.ok) {i : Nat} (hi : i < M.now.length) (hl : M.loose.getD i false = true) (b : List Int) : Loo D (M.mid i b) := by
  have hL := hM.l
  have e0 : M.loose.set i true = M.loose := by
    apply List.ext_getElem?
    intro j
    rw [List.getElem?_set]
    by_cases e : i = j
    · subst e
      rw [if_pos rfl, if_pos (by omega)]
      rw [List.getD_eq_getElem?_getD, List.getElem?_eq_getElem (by omega)] at hl
      rw [List.getElem?_eq_getElem (by omega)]
      simpa using hl.symm
    · rw [if_neg e]
  refine ⟨fun n hn => h.out n (by simpa [Dv.mid] using hn), fun j hj => ?_, fun j hj hl' z => ?_, fun j hj hl' => ?_⟩
  · have := h.has j (by simpa [Dv.mid] using hj)
    simpa [Dv.mid, e0] using this
  · exact h.at' j (by simpa [Dv.mid] using hj) (by simpa [Dv.mid, e0] using hl') z
  · have hl2 : M.loose.getD j false = false := by simpa [Dv.mid, e0] using hl'
    have hne : i ≠ j := fun e => by subst e; rw [hl] at hl2; cases hl2
    show M.safe.getD j [] = (M.now.set i _).getD j []
    rw [getD_set' _ _ _ _ _ hi, if_neg hne]
    exact h.same j (by simpa [Dv.mid] using hj) hl2
theorem Loo.firm {D : DataW Value} {M : Dv} (h : Loo D M) (hm : IsMap D) (hM : M.ok) {i : Nat} (hi : i < M.now.length) (hl : M.loose.getD i false = false) (b : List Int) : Loo (D.put (key i) (.held (secV (M.now.getD i [])))) (M.mid i b) := by
  have hL := hM.l
  have hlen : (M.mid i b).now.length = M.now.length := by simp [Dv.mid]
  have elo : ∀ j, (M.mid i b).loose.getD j false = if i = j then true else M.loose.getD j false := fun j => getD_set' _ _ _ _ _ (by omega)
  refine ⟨fun n hn => ?_, fun j hj => ?_, fun j hj hl' z => ?_, fun j hj hl' => ?_⟩
  · rw [hlen] at hn
    rw [has_put_other (key_ne (by omega))]
    exact h.out n hn
  · rw [hlen] at hj
    rw [elo]
    by_cases e : i = j
    · subst e; rw [if_pos rfl, has_put_same hm (key_is _)]
    · rw [if_neg e, has_put_other (key_ne (by omega))]
      exact h.has j hj
  · rw [hlen] at hj
    rw [elo] at hl'
    show _ = DataW.held (secV (M.safe.getD j []))
    by_cases e : i = j
    · subst e
      rw [atKey_put_same hm (key_is _), h.same i hj hl]
    · rw [if_neg e] at hl'
      rw [atKey_put_other (key_ne (by omega))]
      exact h.at' j hj hl' z
  · rw [hlen] at hj
    rw [elo] at hl'
    by_cases e : i = j
    · rw [if_pos e] at hl'; cases hl'
    · rw [if_neg e] at hl'
      show M.safe.getD j [] = (M.now.set i _).getD j []
      rw [getD_set' _ _ _ _ _ hi, if_neg e]
      exact h.same j hj hl'
theorem count_set_true : ∀ (L : List Bool) (i : Nat), i < L.length → (L.set i true).count true = L.count true + if L.getD i false then 0 else 1
  | x :: L, 0, _ => by cases x <;> simp
  | x :: L, i + 1, h => by
    have := count_set_true L i (by simpa using h)
    simp only [List.set_cons_succ, List.count_cons, this, List.getD_cons_succ]
    omega
end Go.Proofs.YtpfcopdckjedfaaDoor
