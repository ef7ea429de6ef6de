/- dev: count, Fuse, Flush, Read. -/
import Derived.Test.YtinmkcbmnikpfaaDyA
namespace Go.Proofs.Ytinmkcbmnikpfaa
open Go.RowKit Go.Maps
set_option linter.unusedVariables false

theorem count_to {w : World} {M : Dv} {p bs cap bm : Nat} (h : DvL w M p bs cap bm) (hc : M.calls < 1000000000) (hf : M.fuse ≠ 0) :
    Calls Try.prog 22 #[atp p] w fun e w' => e = .returned (.tuple #[]) ∧ DvL w' M.next p bs cap bm ∧ Wr p w w' := by
  obtain ⟨c0, c1, c2, c3, c4⟩ := h.cells
  obtain ⟨q, hq⟩ : ∃ q, decide (M.fuse = 0) = q := ⟨_, rfl⟩
  rw [hq] at c4
  clear hq
  have hlt := h.lt.1
  have f2 := h.fz 2
  have f3 := h.fz 3
  have f4 := h.fz 4
  have hf1 := h.ok.f1
  have HH := hid h
  by_cases hp : 0 < M.fuse
  · have e0 : max M.fuse 0 = M.fuse := by omega
    rw [e0] at c3
    have key : ∀ w', Hid (w' = ((w.setCell ⟨p, 2, none⟩ (.int .i64 ((M.calls : Int) + 1))).setCell ⟨p, 3, none⟩ (.int .i64 (M.fuse - 1))).setCell ⟨p, 4, none⟩ (.bool (M.fuse - 1 == 0))) → DvL w' M.next p bs cap bm ∧ Wr p w w' := by
      intro w' hw'
      have hw' := hw'.out
      subst hw'
      have hW : Wr p w _ := (((Wr.refl p w).set 2 (.int .i64 ((M.calls : Int) + 1))).set 3 (.int .i64 (M.fuse - 1))).set 4 (.bool (M.fuse - 1 == 0))
      refine ⟨h.turn (Dv.next_ok h.ok) rfl rfl rfl hW ?_, hW⟩
      have := ((h.blk.set 2 (.int .i64 ((M.calls : Int) + 1))).set 3 (.int .i64 (M.fuse - 1))).set 4 (.bool (M.fuse - 1 == 0))
      have e1 : (M.next).fuse = M.fuse - 1 := by simp [Dv.next, hp]
      have e2 : ((M.next).calls : Int) = (M.calls : Int) + 1 := by simp [Dv.next]
      have e3 : max (M.fuse - 1) 0 = M.fuse - 1 := by omega
      have e4 : decide (M.fuse - 1 = 0) = (M.fuse - 1 == 0) := rfl
      rw [e1, e2, e3, e4]
      exact this
    obtain ⟨c, hc'⟩ : ∃ c, (M.calls : Int) = c := ⟨_, rfl⟩
    obtain ⟨f, hf'⟩ : ∃ f, M.fuse = f := ⟨_, rfl⟩
    have hcb : 0 ≤ c ∧ c < 1000000000 := by omega
    rw [hc'] at c2 key
    rw [hf'] at c3 key hp hf1
    have d1 : decide (f > 0) = true := by simpa using hp
    have HK := hid key
    clear h hc hf c0 c1 e0 hc' hf' key
    go_enter Try.func22, Try.ntmps22
    go_wp2_with fail
    go_end0
    exact ⟨rfl, HK.out _ (hid rfl)⟩
  · have e0 : max M.fuse 0 = 0 := by omega
    rw [e0] at c3
    have key : ∀ w', Hid (w' = w.setCell ⟨p, 2, none⟩ (.int .i64 ((M.calls : Int) + 1))) → DvL w' M.next p bs cap bm ∧ Wr p w w' := by
      intro w' hw'
      have hw' := hw'.out
      subst hw'
      have hW : Wr p w _ := (Wr.refl p w).set 2 (.int .i64 ((M.calls : Int) + 1))
      refine ⟨h.turn (Dv.next_ok h.ok) rfl rfl rfl hW ?_, hW⟩
      have := h.blk.set 2 (.int .i64 ((M.calls : Int) + 1))
      have e1 : (M.next).fuse = M.fuse := by simp [Dv.next, hp]
      have e2 : ((M.next).calls : Int) = (M.calls : Int) + 1 := by simp [Dv.next]
      rw [e1, e2]
      exact this
    obtain ⟨c, hc'⟩ : ∃ c, (M.calls : Int) = c := ⟨_, rfl⟩
    have hcb : 0 ≤ c ∧ c < 1000000000 := by omega
    rw [hc'] at c2 key
    have HK := hid key
    clear h hc hf c0 c1 c4 hc' key hp hf1 f3 f4 e0
    go_enter Try.func22, Try.ntmps22
    go_wp2_with fail
    go_end0
    exact ⟨rfl, HK.out _ (hid rfl)⟩

theorem fuse_to {w : World} {M : Dv} {p bs cap bm : Nat} (h : DvL w M p bs cap bm) (n : Int) (hn : (Lit.int .i64 n).wf = true) :
    Calls Try.prog 15 #[atp p, .int .i64 n] w fun e w' => e = .returned (.tuple #[]) ∧ DvL w' (M.fuseTo n) p bs cap bm ∧ Wr p w w' := by
  have hd := dead_to h
  by_cases hf : M.fuse = 0
  · have e1 : M.fuseTo n = M := by unfold Dv.fuseTo; rw [if_pos hf]
    have e2 : decide (M.fuse = 0) = true := by simpa using hf
    rw [e1]
    rw [e2] at hd
    have HH := hid h
    clear h hf e1 e2 hn
    go_enter Try.func15, Try.ntmps15
    go_wp2_with fail
    refine hd.mono ?_
    rintro e w' ⟨rfl, rfl⟩
    go_wp2_with fail
    exact bodyPost_ret (results_none rfl _ _ _) rfl ⟨rfl, HH.out, Wr.refl _ _⟩
  · have e1 : (M.fuseTo n).fuse = max (-1) n := by unfold Dv.fuseTo; rw [if_neg hf]
    have e1' : M.fuseTo n = { M with fuse := max (-1) n } := by unfold Dv.fuseTo; rw [if_neg hf]
    have e2 : decide (M.fuse = 0) = false := by simpa using hf
    rw [e2] at hd
    have hb := bounds_i64 hn
    have key : ∀ w', Hid (w' = (w.setCell ⟨p, 3, none⟩ (.int .i64 (max n 0))).setCell ⟨p, 4, none⟩ (.bool (n == 0))) → DvL w' (M.fuseTo n) p bs cap bm ∧ Wr p w w' := by
      intro w' hw'
      have hw' := hw'.out
      subst hw'
      have hW : Wr p w _ := ((Wr.refl p w).set 3 (.int .i64 (max n 0))).set 4 (.bool (n == 0))
      have hok : (M.fuseTo n).ok := by rw [e1']; exact ⟨h.ok.n1, h.ok.n2, h.ok.s, h.ok.l, h.ok.now, h.ok.safe, by show -1 ≤ max (-1) n; omega, by show max (-1) n ≤ _; omega⟩
      refine ⟨h.turn hok (by rw [e1']) (by rw [e1']) (by rw [e1']) hW ?_, hW⟩
      have := (h.blk.set 3 (.int .i64 (max n 0))).set 4 (.bool (n == 0))
      have e3 : max (max (-1) n) 0 = max n 0 := by omega
      have e4 : decide (max (-1) n = 0) = (n == 0) := by
        by_cases h0 : n = 0
        · subst h0; decide
        · rw [decide_eq_false (by omega)]; symm; simpa using h0
      have e5 : (M.fuseTo n).calls = M.calls := by rw [e1']
      rw [e1, e3, e4, e5]
      exact this
    have f3 := h.fz 3
    have f4 := h.fz 4
    obtain ⟨c0, c1, c2, c3, c4⟩ := h.cells
    rw [e2] at c4
    have HK := hid key
    clear h hf e1 e1' e2 key hn
    go_enter Try.func15, Try.ntmps15
    go_wp2_with fail
    refine hd.mono ?_
    rintro e w' ⟨rfl, rfl⟩
    go_wp2_with fail
    go_end0
    exact ⟨rfl, HK.out _ (hid rfl)⟩
theorem fuse_nil (n : Int) (w : World) : Calls Try.prog 15 #[.pointer none, .int .i64 n] w fun e w' => e = .returned (.tuple #[]) ∧ w = w' := by
  have hd := fun w => dead_nil w
  go_enter Try.func15, Try.ntmps15
  go_wp2_with fail
  refine (hd _).mono ?_
  rintro e w' ⟨rfl, rfl⟩
  go_wp2_with fail
  exact bodyPost_ret (results_none rfl _ _ _) rfl ⟨rfl, rfl⟩

/-- 'clear(m)', at the operation. -/
theorem wpList_clear {H : Type} {P : Program} {w : World} {ops : Array Oper} {rest : List Oper} {o : Oper} {a : Act} {Q : Exit → Act → World → Prop} (hgd : o.guard = none) (x : Operand) (t : TypeId) (ho : o.op = .call { callee := .builtin .clear, args := #[x], argTypes := #[t] })
    (k e : TypeId) (ht : P.underlying t = some (.map k e)) (R : Value → Option (DataW H × List MemPlace)) (b n : Nat) (D : DataW H) (hx : a.eval x = .map (some b)) (h : w.ownsMap P k R b n D)
    (hK : ∀ w', w'.ownsMap P k R b 0 (.map []) → w.mapTurned w' b → wpList P ops Q rest (a.put o.dst (.tuple #[])) w') : wpList P ops Q (o :: rest) a w := by
  refine wpList_plain hgd fun K hK' => ?_
  obtain ⟨w', hrun, h1, h2⟩ := ownsMap_clear (ty := o.type) h ht
  unfold Oper.wp
  simp [execOp, ho, resolve, invoke, builtin, hx, hrun, Result.andThen]
  exact hK' _ _ (hK w' h1 h2)
theorem Loo.flushed {M : Dv} (h : M.ok) : Loo (.map []) { M with safe := M.now, loose := List.replicate M.now.length false } :=
  ⟨fun _ _ => rfl, fun j hj => by simp [List.getD, List.getElem?_replicate, Maps.has]; split <;> rfl, fun j hj hl => by simp [List.getD, List.getElem?_replicate] at hl; split at hl <;> simp at hl, fun j _ _ => rfl⟩
theorem flush_to {w : World} {M : Dv} {p bs cap bm : Nat} (h : DvL w M p bs cap bm) (hc : M.calls < 1000000000) :
    Calls Try.prog 17 #[atp p] w fun e w' => e = .returned (.int .i64 M.flushE) ∧ DvL w' M.flush p bs cap bm ∧ Wrs (fun b => b = p ∨ b = bs ∨ b = bm) w w' := by
  have hd := dead_to h
  by_cases hf : M.fuse = 0
  · obtain ⟨e1, e2⟩ := Dv.flush_dead hf
    rw [show decide (M.fuse = 0) = true by simpa using hf] at hd
    rw [e1, e2]
    have HH := hid h
    clear h hf e1 e2 hc
    go_enter Try.func17, Try.ntmps17
    go_wp2_with fail
    refine hd.mono ?_
    rintro e w' ⟨rfl, rfl⟩
    go_wp2_with fail
    go_ret
    exact ⟨rfl, HH.out, Wrs.refl _ _⟩
  · have e1 : M.flushE = 0 := (Dv.flush_live hf).1
    have e2 : M.flush = Dv.next { M with safe := M.now, loose := List.replicate M.now.length false } := by unfold Dv.flush; rw [if_neg hf]
    rw [show decide (M.fuse = 0) = false by simpa using hf] at hd
    rw [e1, e2]
    obtain ⟨c0, c1, c2, c3, c4⟩ := h.cells
    obtain ⟨D, hm, hD⟩ := h.map
    obtain ⟨n1, n2, n3⟩ := h.ne
    have key : ∀ w', Hid (w'.ownsMap Try.prog 3 RV bm 0 (.map []) ∧ w.mapTurned w' bm) → DvL w' { M with safe := M.now, loose := List.replicate M.now.length false } p bs cap bm ∧ Wr bm w w' := by
      intro w' hw'
      obtain ⟨h1, h2⟩ := hw'.out
      have hg := h2.grown
      refine ⟨⟨⟨h.ok.n1, h.ok.n2, rfl, by simp, h.ok.now, h.ok.now, h.ok.f0, h.ok.f1⟩, h.blk.grown hg (fun e => n2 (by cases e; rfl)), h.sec.grown hg (fun g hg' e => by cases hg'; cases e; exact n3 rfl), ⟨_, ?_, Loo.flushed h.ok⟩⟩, hg⟩
      simpa [List.count_replicate] using h1
    have HK := hid (And.intro key (And.intro hc hf))
    clear h hf e1 e2 hc key hD n1 n2 n3 c0 c2 c3 c4
    go_enter Try.func17, Try.ntmps17
    go_wp2_with fail
    refine hd.mono ?_
    rintro e w' ⟨rfl, rfl⟩
    go_wp2_with (refine wpList_clear rfl _ 48 rfl 3 46 Try.underlying48 RV bm _ D rfl hm ?_; intro w1 h1 h2)
    obtain ⟨h3, h4⟩ := HK.out.1 w1 (hid ⟨h1, h2⟩)
    have HW := hid h4
    have hcn := count_to h3 HK.out.2.1 HK.out.2.2
    clear h1 h2 h3 h4 hd hm c1
    refine hcn.mono ?_
    rintro e w2 ⟨rfl, h5, h6⟩
    have HX := hid (And.intro h5 h6)
    clear h5 h6 hcn
    go_wp2_with fail
    go_ret
    refine ⟨rfl, HX.out.1, ?_⟩
    have a1 := HW.out
    have a2 := HX.out.2
    exact ⟨a2.os.trans a1.os, a2.tape.trans a1.tape, a2.output.trans a1.output, Nat.le_trans a1.size a2.size, fun b hb hn => (a2.block b (Nat.lt_of_lt_of_le hb a1.size) (fun e => hn (.inl (by cases e; rfl)))).trans (a1.block b hb (fun e => hn (.inr (.inr (by cases e; rfl)))))⟩
theorem flush_nil (w : World) : Calls Try.prog 17 #[.pointer none] w fun e w' => e = .returned (.int .i64 10) ∧ w = w' := by
  have hd := fun w => dead_nil w
  go_enter Try.func17, Try.ntmps17
  go_wp2_with fail
  refine (hd _).mono ?_
  rintro e w' ⟨rfl, rfl⟩
  go_wp2_with fail
  go_ret
  exact ⟨rfl, rfl⟩
end Go.Proofs.Ytinmkcbmnikpfaa
