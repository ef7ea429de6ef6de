/- state's laws: StateAll's walk, over StSpec. Written by gen_stall.py. -/
import Derived.Test.YtnbegmlbkjjggaaStY
namespace Go.Proofs.Ytnbegmlbkjjggaa
open Go.RowKit
set_option linter.unusedVariables false

set_option maxRecDepth 100000 in
set_option maxHeartbeats 8000000 in
theorem stateAll_walk (X : StSpec) (V V' : SV) (S S' : St) (w : World) (hst : StR V S w) (hst' : StR V' S' w) :
    Calls Try.prog 3 #[.agg (V.cells S).toArray, .agg (V'.cells S').toArray] w fun e w' => e = .returned (.bool true) ∧ Below w.heap.size w w' := by
  obtain ⟨vo, vn, vc, fo, fn, fc⟩ := V
  obtain ⟨vs, fs, sa⟩ := S
  obtain ⟨vo', vn', vc', fo', fn', fc'⟩ := V'
  obtain ⟨vs', fs', sa'⟩ := S'
  simp only [SV.cells]
  obtain ⟨w0, hw0⟩ : ∃ w0, (w.alloc (.cells #[.slice vo vn vc, .slice fo fn fc, .int .i64 sa] 25)).alloc (.cells #[.slice vo' vn' vc', .slice fo' fn' fc', .int .i64 sa'] 25) = w0 := ⟨_, rfl⟩
  obtain ⟨p, hp⟩ : ∃ p, w.heap.size = p := ⟨_, rfl⟩
  have hb0 : Below w.heap.size w w0 := by rw [← hw0]; exact Bl.alloc (Bl.alloc (Bl.refl _) _) _
  have hx0 : Cel w0 p [.slice vo vn vc, .slice fo fn fc, .int .i64 sa] := by rw [← hw0, ← hp]; exact (Cel.new w [.slice vo vn vc, .slice fo fn fc, .int .i64 sa] 25).al (Nat.succ_pos _) _
  have hz1 : (w.alloc (.cells #[.slice vo vn vc, .slice fo fn fc, .int .i64 sa] 25)).heap.size = p + 1 := by simp [hp]
  have hx0' : Cel w0 (p + 1) [.slice vo' vn' vc', .slice fo' fn' fc', .int .i64 sa'] := by
    have := Cel.new (w.alloc (.cells #[.slice vo vn vc, .slice fo fn fc, .int .i64 sa] 25)) [.slice vo' vn' vc', .slice fo' fn' fc', .int .i64 sa'] 25
    rw [hz1] at this
    rw [← hw0]; exact this
  have hz0 : w0.heap.size = p + 2 := by rw [← hw0]; simp [hp]
  have hs0 := hst.below hb0
  have hs0' := hst'.below hb0
  have HX0 := hid hx0; have HX0' := hid hx0'; have HZ0 := hid hz0; have HW0 := hid hw0; have HP := hid hp; have HBB := hid hb0; have HS0 := hid hs0; have HS0' := hid hs0'
  have HPP : Hid (w.heap.size ≤ p) := hid (Nat.le_of_eq hp)
  clear hst hst' hb0 hx0 hx0' hz0 hz1 hs0 hs0' hw0 hp
  go_enter Try.func3, Try.ntmps3
  go_wp2_with fail
  rw [HW0.out]
  refine (begun_to X w0).mono ?_
  rintro e wb ⟨rfl, hb⟩
  have HCS := hid (HX0.out.below (Nat.succ_pos _) hb)
  have HCS' := hid (HX0'.out.below (Nat.succ_pos _) hb)
  have HST := hid (HS0.out.below hb)
  have HST' := hid (HS0'.out.below hb)
  have HB0 := hid (Bl.step HBB.out hb)
  have HPW : Hid (p + 2 ≤ wb.heap.size) := hid (by have := hb.size; rw [HZ0.out] at this; exact this)
  clear hb HX0 HX0' HS0 HS0' HBB HW0 HZ0
  go_wp2_with fail
  try rw [HP.out]
  refine wp_region_below_tail 4 (by kernel_rfl) [Is (.agg #[.slice vo vn vc, .slice fo fn fc, .int .i64 sa]), IsStB (p + 2) (cutS ⟨vs, fs, sa⟩), Is (.agg #[.slice vo' vn' vc', .slice fo' fn' fc', .int .i64 sa']), IsStB (p + 2) (cutS ⟨vs', fs', sa'⟩)] _ rfl (by kernel_rfl) rfl (by kernel_rfl) ?hopA ?hstA ?hendA
  case hopA =>
    refine ⟨rq _ _ _ [(2, .pointer (some ⟨p, 0, none⟩))] ⟨⟨by kernel_rfl, rfl⟩, trivial⟩ ?_, ?_⟩
    · intro a w1 hC e2
      refine Or.inl ⟨.agg #[.slice vo vn vc, .slice fo fn fc, .int .i64 sa], ?_, rfl⟩
      have f0 := (HCS.out.below (Nat.succ_pos _) hC).cell 0 _ rfl
      have f1 := (HCS.out.below (Nat.succ_pos _) hC).cell 1 _ rfl
      have f2 := (HCS.out.below (Nat.succ_pos _) hC).cell 2 _ rfl
      go_simp
    refine ⟨rq _ _ _ [] trivial ?_, ?_⟩
    · intro a w1 hC  (h0 : a.tmps.getD 12 undef = _)
      refine Or.inr (Or.inl ⟨9, #[.agg #[.slice vo vn vc, .slice fo fn fc, .int .i64 sa]], ?_, ?_⟩)
      · go_simp
      · refine (cut_to ⟨vo, vn, vc, fo, fn, fc⟩ ⟨vs, fs, sa⟩ w1 (HST.out.below hC)).mono ?_
        rintro e w2 ⟨V', rfl, hbx, hbel⟩
        exact ⟨_, rfl, ⟨V', rfl, hbx.more fun b hb => ⟨by have := hC.size; have := HPW.out; omega, hb.2⟩⟩, hbel⟩
    refine ⟨rq _ _ _ [(3, .pointer (some ⟨p + 1, 0, none⟩))] ⟨⟨by kernel_rfl, rfl⟩, trivial⟩ ?_, ?_⟩
    · intro a w1 hC e3
      refine Or.inl ⟨.agg #[.slice vo' vn' vc', .slice fo' fn' fc', .int .i64 sa'], ?_, rfl⟩
      have f0 := (HCS'.out.below (Nat.succ_pos _) hC).cell 0 _ rfl
      have f1 := (HCS'.out.below (Nat.succ_pos _) hC).cell 1 _ rfl
      have f2 := (HCS'.out.below (Nat.succ_pos _) hC).cell 2 _ rfl
      go_simp
    refine ⟨rq _ _ _ [] trivial ?_, ?_⟩
    · intro a w1 hC  (h2 : a.tmps.getD 14 undef = _) h1
      refine Or.inr (Or.inl ⟨9, #[.agg #[.slice vo' vn' vc', .slice fo' fn' fc', .int .i64 sa']], ?_, ?_⟩)
      · go_simp
      · refine (cut_to ⟨vo', vn', vc', fo', fn', fc'⟩ ⟨vs', fs', sa'⟩ w1 (HST'.out.below hC)).mono ?_
        rintro e w2 ⟨V', rfl, hbx, hbel⟩
        exact ⟨_, rfl, ⟨V', rfl, hbx.more fun b hb => ⟨by have := hC.size; have := HPW.out; omega, hb.2⟩⟩, hbel⟩
    exact trivial
  case hstA => repeat (first | exact trivial | refine ⟨Stays.is _, ?_⟩ | refine ⟨Stays.stb _ _, ?_⟩)
  case hendA =>
    intro w1 hC
    rintro _ rfl
    intro x1 h1
    rintro _ rfl
    intro x3 h3
    obtain ⟨⟨xo, xn, xc, yo, yn, yc⟩, rfl, hbx⟩ := h1
    obtain ⟨⟨xo', xn', xc', yo', yn', yc'⟩, rfl, hbx'⟩ := h3
    simp only [SV.cells]
    have hp1 : p + 1 < w1.heap.size := by have := hC.size; have := HPW.out; omega
    have hp2 : p < w1.heap.size := by omega
    have hcs := HCS.out.below (Nat.succ_pos _) hC
    have hcs' := HCS'.out.below (Nat.succ_pos _) hC
    obtain ⟨w2, hw2⟩ : ∃ w2, ((((((w1.setCell ⟨p, 0, none⟩ (.slice xo xn xc)).setCell ⟨p, 1, none⟩ (.slice yo yn yc)).setCell ⟨p, 2, none⟩ (.int .i64 (cutS ⟨vs, fs, sa⟩).asks)).setCell ⟨p + 1, 0, none⟩ (.slice xo' xn' xc')).setCell ⟨p + 1, 1, none⟩ (.slice yo' yn' yc')).setCell ⟨p + 1, 2, none⟩ (.int .i64 (cutS ⟨vs', fs', sa'⟩).asks)) = w2 := ⟨_, rfl⟩
    obtain ⟨wm, hwm⟩ : ∃ wm, (((w1.setCell ⟨p, 0, none⟩ (.slice xo xn xc)).setCell ⟨p, 1, none⟩ (.slice yo yn yc)).setCell ⟨p, 2, none⟩ (.int .i64 (cutS ⟨vs, fs, sa⟩).asks)) = wm := ⟨_, rfl⟩
    have hg1 : w1.grownBy wm (some p) := by rw [← hwm]; exact (gr_set (gr_set (gr_set (gr_refl _ _) 0 _) 1 _) 2 _)
    have hg2 : wm.grownBy w2 (some (p + 1)) := by rw [← hw2, hwm]; exact (gr_set (gr_set (gr_set (gr_refl _ _) 0 _) 1 _) 2 _)
    have hb1 : wm.heap[p + 1]? = w1.heap[p + 1]? := hg1.block _ hp1 (by simp)
    have hb2 : w2.heap[p]? = wm.heap[p]? := hg2.block _ (Nat.lt_of_lt_of_le hp2 hg1.size) (by simp)
    have hca : Cel w2 p [.slice xo xn xc, .slice yo yn yc, .int .i64 (cutS ⟨vs, fs, sa⟩).asks] := (hwm ▸ (((hcs.set 0 (.slice xo xn xc) (by simp)).set 1 (.slice yo yn yc) (by simp)).set 2 (.int .i64 (cutS ⟨vs, fs, sa⟩).asks) (by simp)) : Cel wm p [.slice xo xn xc, .slice yo yn yc, .int .i64 (cutS ⟨vs, fs, sa⟩).asks]).same hb2
    have hcb : Cel w2 (p + 1) [.slice xo' xn' xc', .slice yo' yn' yc', .int .i64 (cutS ⟨vs', fs', sa'⟩).asks] := by
      have h := ((((hcs'.same hb1).set 0 (.slice xo' xn' xc') (by simp)).set 1 (.slice yo' yn' yc') (by simp)).set 2 (.int .i64 (cutS ⟨vs', fs', sa'⟩).asks) (by simp))
      rw [← hw2, hwm]
      exact h
    have hkeep : ∀ b, p + 2 ≤ b → b < w1.heap.size → w2.heap[b]? = w1.heap[b]? := fun b h1 h2 => (hg2.block b (Nat.lt_of_lt_of_le h2 hg1.size) (fun e => by have e2 : b = p + 1 := (by simpa using e); omega)).trans (hg1.block b h2 (fun e => by have e2 : b = p := (by simpa using e); omega))
    have hxa : StR ⟨xo, xn, xc, yo, yn, yc⟩ (cutS ⟨vs, fs, sa⟩) w2 := hbx w2 fun b hb => hkeep b hb.1 hb.2
    have hxb : StR ⟨xo', xn', xc', yo', yn', yc'⟩ (cutS ⟨vs', fs', sa'⟩) w2 := hbx' w2 fun b hb => hkeep b hb.1 hb.2
    have HBL : Hid (Below w.heap.size w w2) := hid (gr_blK (gr_blK (HB0.out.trans (hC.mono HB0.out.size)) hg1 (Nat.le_trans HB0.out.size hC.size) HPP.out) hg2 (Nat.le_trans (Nat.le_trans HB0.out.size hC.size) hg1.size) (Nat.le_trans HPP.out (Nat.le_succ _)))
    have HW2 := hid hw2
    have HCA := hid hca; have HCB := hid hcb; have HSA := hid hxa; have HSB := hid hxb
    have a0 := hcs.cell 0 _ rfl
    have fa0 := hcs.fro 0 _ rfl
    have b0 := hcs'.cell 0 _ rfl
    have fb0 := hcs'.fro 0 _ rfl
    have a1 := hcs.cell 1 _ rfl
    have fa1 := hcs.fro 1 _ rfl
    have b1 := hcs'.cell 1 _ rfl
    have fb1 := hcs'.fro 1 _ rfl
    have a2 := hcs.cell 2 _ rfl
    have fa2 := hcs.fro 2 _ rfl
    have b2 := hcs'.cell 2 _ rfl
    have fb2 := hcs'.fro 2 _ rfl
    clear hbx hbx' hcs hcs' hw2 hwm hg1 hg2 hb1 hb2 hca hcb hkeep hxa hxb hC
    simp only [Ends, Act.put, List.setIfInBounds_toArray, List.set_cons_succ, List.set_cons_zero, List.drop_succ_cons, List.drop_zero]
    go_upto_region 5 with fail
    clear a0 a1 a2 fa0 fa1 fa2 b0 b1 b2 fb0 fb1 fb2 hp1 hp2
    rw [HW2.out]
    clear HW2
    obtain ⟨S1, hS1⟩ : ∃ S1, cutS ⟨vs, fs, sa⟩ = S1 := ⟨_, rfl⟩
    obtain ⟨S2, hS2⟩ : ∃ S2, cutS ⟨vs', fs', sa'⟩ = S2 := ⟨_, rfl⟩
    rw [hS1] at HCA HSA ⊢
    rw [hS2] at HCB HSB ⊢
    clear hS1 hS2
    have a0 := HCA.out.cell 0 _ rfl
    have a1 := HCA.out.cell 1 _ rfl
    have a2 := HCA.out.cell 2 _ rfl
    go_wp2_with fail
    refine (X.enc_to ⟨xo, xn, xc, yo, yn, yc⟩ S1 w2 HSA.out).mono ?_
    rintro e w3 ⟨v, rfl, hown, hb⟩
    have hlen := X.len S1 HSA.out.wf
    obtain ⟨eo, ec, rfl, hrd⟩ := hown.rd
    obtain ⟨es, hes⟩ : ∃ es, X.enc S1 = es := ⟨_, rfl⟩
    obtain ⟨el, hel⟩ : ∃ el, es.length = el := ⟨_, rfl⟩
    rw [hes] at hrd hlen ⊢
    rw [hel] at hrd hlen ⊢
    have hp3 : p + 1 < w2.heap.size := HCB.out.lt (Nat.succ_pos _)
    have HRE := hid hrd
    have HES := hid hes
    have HEL := hid hel
    replace HSA := hid (HSA.out.below hb)
    replace HSB := hid (HSB.out.below hb)
    replace HCA := hid (HCA.out.below (Nat.succ_pos _) hb)
    replace HCB := hid (HCB.out.below (Nat.succ_pos _) hb)
    replace HBL := hid (Bl.step HBL.out hb)
    have hp3 : p + 1 < w3.heap.size := Nat.lt_of_lt_of_le hp3 hb.size
    have hp4 : p < w3.heap.size := Nat.lt_of_succ_lt hp3
    clear a0 a1 a2 hown hb hrd hes hel
    obtain ⟨t1, ht1⟩ : ∃ t, mayS S1 = t := ⟨_, rfl⟩
    obtain ⟨u, hu⟩ : ∃ u : Bool, (u = true ↔ S1 = S2) := ⟨open Classical in decide (S1 = S2), by simp⟩
    have HT1 := hid ht1; have HU := hid hu
    clear ht1 hu
    have a0 := HCA.out.cell 0 _ rfl
    have a1 := HCA.out.cell 1 _ rfl
    have a2 := HCA.out.cell 2 _ rfl
    have b0 := HCB.out.cell 0 _ rfl
    have b1 := HCB.out.cell 1 _ rfl
    have b2 := HCB.out.cell 2 _ rfl
    have hn1 : (t1 != t1) = false := by simp
    have hn2 : (u != u) = false := by simp
    have HM1 : Hid (∀ w', Below w3.heap.size w3 w' → Calls Try.prog 11 #[.agg #[.slice xo xn xc, .slice yo yn yc, .int .i64 S1.asks]] w' fun e w2 => e = .returned (.bool t1) ∧ Below w'.heap.size w' w2) := hid fun w' h => by rw [← HT1.out]; exact X.may_to ⟨xo, xn, xc, yo, yn, yc⟩ S1 w' (HSA.out.below h)
    have HM1' : Hid (∀ w', Below w3.heap.size w3 w' → Calls Try.prog 12 #[.agg #[.slice xo xn xc, .slice yo yn yc, .int .i64 S1.asks]] w' fun e w2 => e = .returned (.bool t1) ∧ Below w'.heap.size w' w2) := hid fun w' h => may_to ⟨xo, xn, xc, yo, yn, yc⟩ S1 t1 HT1.out w' (HSA.out.below h)
    have HQ1 : Hid (∀ w', Below w3.heap.size w3 w' → Calls Try.prog 13 #[.agg #[.slice xo xn xc, .slice yo yn yc, .int .i64 S1.asks], .agg #[.slice xo' xn' xc', .slice yo' yn' yc', .int .i64 S2.asks]] w' fun e w2 => e = .returned (.bool u) ∧ Below w'.heap.size w' w2) := hid fun w' h => X.eq_to ⟨xo, xn, xc, yo, yn, yc⟩ ⟨xo', xn', xc', yo', yn', yc'⟩ S1 S2 u w' HU.out (HSA.out.below h) (HSB.out.below h)
    have HQ1' : Hid (∀ w', Below w3.heap.size w3 w' → Calls Try.prog 14 #[.agg #[.slice xo xn xc, .slice yo yn yc, .int .i64 S1.asks], .agg #[.slice xo' xn' xc', .slice yo' yn' yc', .int .i64 S2.asks]] w' fun e w2 => e = .returned (.bool u) ∧ Below w'.heap.size w' w2) := hid fun w' h => eq_to ⟨xo, xn, xc, yo, yn, yc⟩ ⟨xo', xn', xc', yo', yn', yc'⟩ S1 S2 u HU.out w' (HSA.out.below h) (HSB.out.below h)
    go_wp2_with fail
    refine wp_region_quiet_below (by kernel_rfl) (by kernel_rfl) ?_
    have hbc := fun x => @Bw.cell w3 x
    repeat (go_big_quiet_step ((first | (go_at_call 11; exact Calls.bw (HM1.out _ (Bw.h _))) | (go_at_call 12; exact Calls.bw (HM1'.out _ (Bw.h _))) | (go_at_call 13; exact Calls.bw (HQ1.out _ (Bw.h _))) | (go_at_call 14; exact Calls.bw (HQ1'.out _ (Bw.h _))))))
    refine wpQuiet_nil ?_
    rintro _ ⟨x, rfl⟩
    obtain ⟨w4, hw4⟩ : ∃ w4, x.w = w4 := ⟨_, rfl⟩
    have hb : Below w3.heap.size w3 w4 := hw4 ▸ x.h
    rw [hw4]
    have HMY := hid (HM1'.out w4 hb)
    have HX4 := hid hb
    clear hw4 hbc HM1 HM1' HQ1 HQ1' a0 a1 a2 b0 b1 b2
    have a0 := (hb.cell (p := ⟨p, 0, none⟩) hp4).trans (HCA.out.cell 0 _ rfl)
    have a1 := (hb.cell (p := ⟨p, 1, none⟩) hp4).trans (HCA.out.cell 1 _ rfl)
    have a2 := (hb.cell (p := ⟨p, 2, none⟩) hp4).trans (HCA.out.cell 2 _ rfl)
    clear hb
    go_wp2_with fail
    refine HMY.out.mono ?_
    rintro e w5 ⟨rfl, hb⟩
    replace HX4 := hid (Bl.step HX4.out hb)
    clear hb HMY a0 a1 a2
    replace HBL := hid (Bl.step HBL.out HX4.out)
    cases t1 with
    | false =>
      have he0 : el = 0 := by rw [← HEL.out, ← HES.out, X.bad S1 HT1.out]; rfl
      subst he0
      go_wp2_with fail
      go_ret
      exact ⟨rfl, HBL.out⟩
    | true =>
      go_wp2_with fail
      refine (X.dec_to eo el ec es w5 (HRE.out.below HX4.out) (by omega)).mono ?_
      rintro e w6 ⟨⟨zo, zn, zc, uo, un, uc⟩, Sx, c, rfl, hd, hsx, hb⟩
      obtain ⟨rfl, rfl⟩ : S1 = Sx ∧ c = 0 := by
        have h1 := (X.good S1 HSA.out.wf HT1.out).2
        rw [HES.out] at h1
        rcases hd with ⟨h2, h3⟩ | ⟨h2, _⟩
        · rw [h1] at h2; exact ⟨Option.some.inj h2, h3⟩
        · rw [h1] at h2; cases h2
      simp only [SV.cells]
      obtain ⟨q, hq⟩ : ∃ q, w6.heap.size = q := ⟨_, rfl⟩
      obtain ⟨w7, hw7⟩ : ∃ w7, w6.alloc (.cells #[.slice zo zn zc, .slice uo un uc, .int .i64 S1.asks] 25) = w7 := ⟨_, rfl⟩
      have hcx : Cel w7 q [.slice zo zn zc, .slice uo un uc, .int .i64 S1.asks] := by rw [← hw7, ← hq]; exact Cel.new _ _ _
      have ha : Below w6.heap.size w6 w7 := by rw [← hw7]; exact Bl.alloc (Bl.refl _) _
      have h57 := Bl.step hb ha
      have h37 := Bl.step HX4.out h57
      replace HBL := hid (Bl.step HBL.out h57)
      have HSX := hid (hsx.below ha)
      have HCX := hid hcx
      replace HSA := hid (HSA.out.below h37)
      replace HSB := hid (HSB.out.below h37)
      replace HCA := hid (HCA.out.below (Nat.succ_pos _) h37)
      replace HCB := hid (HCB.out.below (Nat.succ_pos _) h37)
      replace HRE := hid (HRE.out.below h37)
      have HTX := hid (X.text HU.out HSA.out.wf HSB.out.wf HT1.out)
      have HW7 := hid hw7
      have HQ := hid hq
      obtain ⟨t2, ht2⟩ : ∃ t, mayS S2 = t := ⟨_, rfl⟩
      obtain ⟨es2, hes2⟩ : ∃ es2, X.enc S2 = es2 := ⟨_, rfl⟩
      rw [HES.out, hes2] at HTX
      have HM2 := hid ht2
      have HE2 := hid hes2
      clear hd hsx hb hw7 hq hcx ha h57 h37 HX4 ht2 hes2 hp3 hp4
      go_upto_region 11 with fail
      rw [HW7.out, HQ.out]
      clear HW7 HQ
      cases t2 with
      | false =>
          refine wp_region_below (by kernel_rfl) (Is (.int .i64 0) :: Is (.bool true) :: Is (.bool true) :: Is (.agg #[.slice zo zn zc, .slice uo un uc, .int .i64 S1.asks]) :: Is (.agg #[.slice xo xn xc, .slice yo yn yc, .int .i64 S1.asks]) :: Is (.bool true) :: Is (.bool true) :: Is (.bool true) :: Is (.agg #[.slice xo' xn' xc', .slice yo' yn' yc', .int .i64 S2.asks]) :: Is (.bool false) :: Is (.bool true) :: Is (.bool true) :: Is ?vBfu12 :: Is ?vBfu13 :: Is ?vBfu14 :: Is ?vBfu15 :: Is ?vBfu16 :: Is ?vBfu17 :: Is ?vBfu18 :: Is ?vBfu19 :: Is ?vBfu20 :: Is ?vBfu21 :: Is (.bool true) :: Is (.bool true) :: Is (.bool true) :: []) _ rfl (by kernel_rfl) rfl ?hopBfu ?hstBfu ?hendBfu
          case hopBfu =>
            refine ⟨rq _ _ _ [(8, .int .i64 0)] ⟨⟨by kernel_rfl, rfl⟩, trivial⟩ ?_, ?_⟩
            · intro a w1 hC e8
              refine Or.inl ⟨.int .i64 0, ?_, rfl⟩
              go_simp
            refine ⟨rq _ _ _ [] trivial ?_, ?_⟩
            · intro a w1 hC  (h0 : a.tmps.getD 43 undef = _)
              refine Or.inl ⟨.bool true, ?_, rfl⟩
              go_simp
            refine ⟨rq _ _ _ [] trivial ?_, ?_⟩
            · intro a w1 hC  (h1 : a.tmps.getD 44 undef = _)
              refine Or.inl ⟨.bool true, ?_, rfl⟩
              go_simp
            refine ⟨rq _ _ _ [(7, .pointer (some ⟨q, 0, none⟩))] ⟨⟨by kernel_rfl, rfl⟩, trivial⟩ ?_, ?_⟩
            · intro a w1 hC e7 (h2 : a.tmps.getD 45 undef = _)
              refine Or.inl ⟨h2, ?_⟩
              refine Or.inl ⟨.agg #[.slice zo zn zc, .slice uo un uc, .int .i64 S1.asks], ?_, rfl⟩
              have f0 := (HCX.out.below (Nat.succ_pos _) hC).cell 0 _ rfl
              have f1 := (HCX.out.below (Nat.succ_pos _) hC).cell 1 _ rfl
              have f2 := (HCX.out.below (Nat.succ_pos _) hC).cell 2 _ rfl
              go_simp
            refine ⟨rq _ _ _ [(2, .pointer (some ⟨p, 0, none⟩))] ⟨⟨by kernel_rfl, rfl⟩, trivial⟩ ?_, ?_⟩
            · intro a w1 hC e2 (h2 : a.tmps.getD 45 undef = _)
              refine Or.inl ⟨h2, ?_⟩
              refine Or.inl ⟨.agg #[.slice xo xn xc, .slice yo yn yc, .int .i64 S1.asks], ?_, rfl⟩
              have f0 := (HCA.out.below (Nat.succ_pos _) hC).cell 0 _ rfl
              have f1 := (HCA.out.below (Nat.succ_pos _) hC).cell 1 _ rfl
              have f2 := (HCA.out.below (Nat.succ_pos _) hC).cell 2 _ rfl
              go_simp
            refine ⟨rq _ _ _ [] trivial ?_, ?_⟩
            · intro a w1 hC  (h3 : a.tmps.getD 46 undef = _) (h4 : a.tmps.getD 47 undef = _) (h2 : a.tmps.getD 45 undef = _) _
              refine Or.inl ⟨h2, ?_⟩
              refine Or.inr (Or.inl ⟨14, #[.agg #[.slice zo zn zc, .slice uo un uc, .int .i64 S1.asks], .agg #[.slice xo xn xc, .slice yo yn yc, .int .i64 S1.asks]], ?_, ?_⟩)
              · go_simp
              · refine (eq_to ⟨zo, zn, zc, uo, un, uc⟩ ⟨xo, xn, xc, yo, yn, yc⟩ S1 S1 true (by simp) w1 (HSX.out.below hC) (HSA.out.below hC)).mono ?_
                rintro e w2 ⟨rfl, hbel⟩
                exact ⟨_, rfl, rfl, hbel⟩
            refine ⟨rq _ _ _ [] trivial ?_, ?_⟩
            · intro a w1 hC  (h2 : a.tmps.getD 45 undef = _) (h5 : a.tmps.getD 48 undef = _)
              refine Or.inl ⟨.bool true, ?_, rfl⟩
              go_simp
            refine ⟨rq _ _ _ [] trivial ?_, ?_⟩
            · intro a w1 hC  (h6 : a.tmps.getD 49 undef = _) (h5 : a.tmps.getD 48 undef = _)
              refine Or.inl ⟨.bool true, ?_, rfl⟩
              go_simp
            refine ⟨rq _ _ _ [(3, .pointer (some ⟨p + 1, 0, none⟩))] ⟨⟨by kernel_rfl, rfl⟩, trivial⟩ ?_, ?_⟩
            · intro a w1 hC e3 (h7 : a.tmps.getD 50 undef = _)
              refine Or.inl ⟨h7, ?_⟩
              refine Or.inl ⟨.agg #[.slice xo' xn' xc', .slice yo' yn' yc', .int .i64 S2.asks], ?_, rfl⟩
              have f0 := (HCB.out.below (Nat.succ_pos _) hC).cell 0 _ rfl
              have f1 := (HCB.out.below (Nat.succ_pos _) hC).cell 1 _ rfl
              have f2 := (HCB.out.below (Nat.succ_pos _) hC).cell 2 _ rfl
              go_simp
            refine ⟨rq _ _ _ [] trivial ?_, ?_⟩
            · intro a w1 hC  (h8 : a.tmps.getD 51 undef = _) (h7 : a.tmps.getD 50 undef = _) _
              refine Or.inl ⟨h7, ?_⟩
              refine Or.inr (Or.inl ⟨12, #[.agg #[.slice xo' xn' xc', .slice yo' yn' yc', .int .i64 S2.asks]], ?_, ?_⟩)
              · go_simp
              · refine (may_to ⟨xo', xn', xc', yo', yn', yc'⟩ S2 false HM2.out w1 (HSB.out.below hC)).mono ?_
                rintro e w2 ⟨rfl, hbel⟩
                exact ⟨_, rfl, rfl, hbel⟩
            refine ⟨rq _ _ _ [] trivial ?_, ?_⟩
            · intro a w1 hC  (h9 : a.tmps.getD 52 undef = _) (h7 : a.tmps.getD 50 undef = _)
              refine Or.inl ⟨h7, ?_⟩
              refine Or.inl ⟨.bool true, ?_, rfl⟩
              go_simp
            refine ⟨rq _ _ _ [] trivial ?_, ?_⟩
            · intro a w1 hC  (h10 : a.tmps.getD 53 undef = _) (h9 : a.tmps.getD 52 undef = _) (h7 : a.tmps.getD 50 undef = _)
              refine Or.inl ⟨h7, ?_⟩
              refine Or.inl ⟨.bool true, ?_, rfl⟩
              go_simp
            refine ⟨rq _ _ _ [(3, .pointer (some ⟨p + 1, 0, none⟩))] ⟨⟨by kernel_rfl, rfl⟩, trivial⟩ ?_, ?_⟩
            · intro a w1 hC e3 (h11 : a.tmps.getD 54 undef = _)
              refine Or.inr ⟨fun hh => ?_, ?_⟩
              · have := h11.symm.trans hh; cases this
              · rfl
            refine ⟨rq _ _ _ [] trivial ?_, ?_⟩
            · intro a w1 hC  (h12 : a.tmps.getD 55 undef = _) (h11 : a.tmps.getD 54 undef = _) _
              refine Or.inr ⟨fun hh => ?_, ?_⟩
              · have := h11.symm.trans hh; cases this
              · rfl
            refine ⟨rq _ _ _ [] trivial ?_, ?_⟩
            · intro a w1 hC  (h13 : a.tmps.getD 56 undef = _) (h11 : a.tmps.getD 54 undef = _)
              refine Or.inr ⟨fun hh => ?_, ?_⟩
              · have := h11.symm.trans hh; cases this
              · rfl
            refine ⟨rq _ _ _ [(6, .slice eo el ec)] ⟨⟨by kernel_rfl, rfl⟩, trivial⟩ ?_, ?_⟩
            · intro a w1 hC e6 (h11 : a.tmps.getD 54 undef = _)
              refine Or.inr ⟨fun hh => ?_, ?_⟩
              · have := h11.symm.trans hh; cases this
              · rfl
            refine ⟨rq _ _ _ [] trivial ?_, ?_⟩
            · intro a w1 hC  (h15 : a.tmps.getD 58 undef = _) (h11 : a.tmps.getD 54 undef = _)
              refine Or.inr ⟨fun hh => ?_, ?_⟩
              · have := h11.symm.trans hh; cases this
              · rfl
            refine ⟨rq _ _ _ [] trivial ?_, ?_⟩
            · intro a w1 hC  (h14 : a.tmps.getD 57 undef = _) (h16 : a.tmps.getD 59 undef = _) (h11 : a.tmps.getD 54 undef = _)
              refine Or.inr ⟨fun hh => ?_, ?_⟩
              · have := h11.symm.trans hh; cases this
              · rfl
            refine ⟨rq _ _ _ [(2, .pointer (some ⟨p, 0, none⟩))] ⟨⟨by kernel_rfl, rfl⟩, trivial⟩ ?_, ?_⟩
            · intro a w1 hC e2 (h11 : a.tmps.getD 54 undef = _)
              refine Or.inr ⟨fun hh => ?_, ?_⟩
              · have := h11.symm.trans hh; cases this
              · rfl
            refine ⟨rq _ _ _ [(3, .pointer (some ⟨p + 1, 0, none⟩))] ⟨⟨by kernel_rfl, rfl⟩, trivial⟩ ?_, ?_⟩
            · intro a w1 hC e3 (h11 : a.tmps.getD 54 undef = _)
              refine Or.inr ⟨fun hh => ?_, ?_⟩
              · have := h11.symm.trans hh; cases this
              · rfl
            refine ⟨rq _ _ _ [] trivial ?_, ?_⟩
            · intro a w1 hC  (h18 : a.tmps.getD 61 undef = _) (h19 : a.tmps.getD 62 undef = _) (h13 : a.tmps.getD 56 undef = _) (h11 : a.tmps.getD 54 undef = _)
              refine Or.inr ⟨fun hh => ?_, ?_⟩
              · have := h11.symm.trans hh; cases this
              · rfl
            refine ⟨rq _ _ _ [] trivial ?_, ?_⟩
            · intro a w1 hC  (h17 : a.tmps.getD 60 undef = _) (h20 : a.tmps.getD 63 undef = _) (h11 : a.tmps.getD 54 undef = _)
              refine Or.inr ⟨fun hh => ?_, ?_⟩
              · have := h11.symm.trans hh; cases this
              · rfl
            refine ⟨rq _ _ _ [] trivial ?_, ?_⟩
            · intro a w1 hC  (h11 : a.tmps.getD 54 undef = _) (h21 : a.tmps.getD 64 undef = _) (h7 : a.tmps.getD 50 undef = _)
              refine Or.inl ⟨h7, ?_⟩
              refine Or.inl ⟨.bool true, ?_, rfl⟩
              go_simp
            refine ⟨rq _ _ _ [] trivial ?_, ?_⟩
            · intro a w1 hC  (h7 : a.tmps.getD 50 undef = _) (h22 : a.tmps.getD 65 undef = _)
              refine Or.inl ⟨.bool true, ?_, rfl⟩
              go_simp
            refine ⟨rq _ _ _ [] trivial ?_, ?_⟩
            · intro a w1 hC  (h23 : a.tmps.getD 66 undef = _) (h20 : a.tmps.getD 63 undef = _) (h0 : a.tmps.getD 43 undef = _) (h1 : a.tmps.getD 44 undef = _) (h2 : a.tmps.getD 45 undef = _) (h3 : a.tmps.getD 46 undef = _) (h4 : a.tmps.getD 47 undef = _) (h5 : a.tmps.getD 48 undef = _) (h6 : a.tmps.getD 49 undef = _) (h7 : a.tmps.getD 50 undef = _) (h8 : a.tmps.getD 51 undef = _) (h9 : a.tmps.getD 52 undef = _) (h10 : a.tmps.getD 53 undef = _) (h11 : a.tmps.getD 54 undef = _) (h12 : a.tmps.getD 55 undef = _) (h13 : a.tmps.getD 56 undef = _) (h14 : a.tmps.getD 57 undef = _) (h15 : a.tmps.getD 58 undef = _) (h16 : a.tmps.getD 59 undef = _) (h17 : a.tmps.getD 60 undef = _) (h18 : a.tmps.getD 61 undef = _) (h19 : a.tmps.getD 62 undef = _) _ (h21 : a.tmps.getD 64 undef = _) (h22 : a.tmps.getD 65 undef = _) _
              refine Or.inl ⟨.bool true, ?_, rfl⟩
              go_simp
            exact trivial
          case hstBfu => repeat (first | exact trivial | refine ⟨Stays.is _, ?_⟩)
          case hendBfu =>
            intro w1 hC
            rintro _ rfl _ rfl _ rfl _ rfl _ rfl _ rfl _ rfl _ rfl _ rfl _ rfl _ rfl _ rfl _ rfl _ rfl _ rfl _ rfl _ rfl _ rfl _ rfl _ rfl _ rfl _ rfl _ rfl _ rfl _ rfl
            simp only [Ends, Act.put, List.setIfInBounds_toArray, List.set_cons_succ, List.set_cons_zero]
            go_wp2_with fail
            go_ret
            exact ⟨rfl, Bl.step HBL.out hC⟩
      | true =>
        have HSE := HTX
        have HSE2 : Hid True := hid trivial
        cases u with
        | true =>
          refine wp_region_below (by kernel_rfl) (Is (.int .i64 0) :: Is (.bool true) :: Is (.bool true) :: Is (.agg #[.slice zo zn zc, .slice uo un uc, .int .i64 S1.asks]) :: Is (.agg #[.slice xo xn xc, .slice yo yn yc, .int .i64 S1.asks]) :: Is (.bool true) :: Is (.bool true) :: Is (.bool true) :: Is (.agg #[.slice xo' xn' xc', .slice yo' yn' yc', .int .i64 S2.asks]) :: Is (.bool true) :: Is (.bool false) :: Is (.bool false) :: Is (.agg #[.slice xo' xn' xc', .slice yo' yn' yc', .int .i64 S2.asks]) :: IsRd .u8 es2 :: Is (.string (strOfNums es2)) :: Is (.slice eo el ec) :: Is (.string (strOfNums es)) :: Is (.bool true) :: Is (.agg #[.slice xo xn xc, .slice yo yn yc, .int .i64 S1.asks]) :: Is (.agg #[.slice xo' xn' xc', .slice yo' yn' yc', .int .i64 S2.asks]) :: Is (.bool true) :: Is (.bool true) :: Is (.bool true) :: Is (.bool true) :: Is (.bool true) :: []) _ rfl (by kernel_rfl) rfl ?hopBtt ?hstBtt ?hendBtt
          case hopBtt =>
            refine ⟨rq _ _ _ [(8, .int .i64 0)] ⟨⟨by kernel_rfl, rfl⟩, trivial⟩ ?_, ?_⟩
            · intro a w1 hC e8
              refine Or.inl ⟨.int .i64 0, ?_, rfl⟩
              go_simp
            refine ⟨rq _ _ _ [] trivial ?_, ?_⟩
            · intro a w1 hC  (h0 : a.tmps.getD 43 undef = _)
              refine Or.inl ⟨.bool true, ?_, rfl⟩
              go_simp
            refine ⟨rq _ _ _ [] trivial ?_, ?_⟩
            · intro a w1 hC  (h1 : a.tmps.getD 44 undef = _)
              refine Or.inl ⟨.bool true, ?_, rfl⟩
              go_simp
            refine ⟨rq _ _ _ [(7, .pointer (some ⟨q, 0, none⟩))] ⟨⟨by kernel_rfl, rfl⟩, trivial⟩ ?_, ?_⟩
            · intro a w1 hC e7 (h2 : a.tmps.getD 45 undef = _)
              refine Or.inl ⟨h2, ?_⟩
              refine Or.inl ⟨.agg #[.slice zo zn zc, .slice uo un uc, .int .i64 S1.asks], ?_, rfl⟩
              have f0 := (HCX.out.below (Nat.succ_pos _) hC).cell 0 _ rfl
              have f1 := (HCX.out.below (Nat.succ_pos _) hC).cell 1 _ rfl
              have f2 := (HCX.out.below (Nat.succ_pos _) hC).cell 2 _ rfl
              go_simp
            refine ⟨rq _ _ _ [(2, .pointer (some ⟨p, 0, none⟩))] ⟨⟨by kernel_rfl, rfl⟩, trivial⟩ ?_, ?_⟩
            · intro a w1 hC e2 (h2 : a.tmps.getD 45 undef = _)
              refine Or.inl ⟨h2, ?_⟩
              refine Or.inl ⟨.agg #[.slice xo xn xc, .slice yo yn yc, .int .i64 S1.asks], ?_, rfl⟩
              have f0 := (HCA.out.below (Nat.succ_pos _) hC).cell 0 _ rfl
              have f1 := (HCA.out.below (Nat.succ_pos _) hC).cell 1 _ rfl
              have f2 := (HCA.out.below (Nat.succ_pos _) hC).cell 2 _ rfl
              go_simp
            refine ⟨rq _ _ _ [] trivial ?_, ?_⟩
            · intro a w1 hC  (h3 : a.tmps.getD 46 undef = _) (h4 : a.tmps.getD 47 undef = _) (h2 : a.tmps.getD 45 undef = _) _
              refine Or.inl ⟨h2, ?_⟩
              refine Or.inr (Or.inl ⟨14, #[.agg #[.slice zo zn zc, .slice uo un uc, .int .i64 S1.asks], .agg #[.slice xo xn xc, .slice yo yn yc, .int .i64 S1.asks]], ?_, ?_⟩)
              · go_simp
              · refine (eq_to ⟨zo, zn, zc, uo, un, uc⟩ ⟨xo, xn, xc, yo, yn, yc⟩ S1 S1 true (by simp) w1 (HSX.out.below hC) (HSA.out.below hC)).mono ?_
                rintro e w2 ⟨rfl, hbel⟩
                exact ⟨_, rfl, rfl, hbel⟩
            refine ⟨rq _ _ _ [] trivial ?_, ?_⟩
            · intro a w1 hC  (h2 : a.tmps.getD 45 undef = _) (h5 : a.tmps.getD 48 undef = _)
              refine Or.inl ⟨.bool true, ?_, rfl⟩
              go_simp
            refine ⟨rq _ _ _ [] trivial ?_, ?_⟩
            · intro a w1 hC  (h6 : a.tmps.getD 49 undef = _) (h5 : a.tmps.getD 48 undef = _)
              refine Or.inl ⟨.bool true, ?_, rfl⟩
              go_simp
            refine ⟨rq _ _ _ [(3, .pointer (some ⟨p + 1, 0, none⟩))] ⟨⟨by kernel_rfl, rfl⟩, trivial⟩ ?_, ?_⟩
            · intro a w1 hC e3 (h7 : a.tmps.getD 50 undef = _)
              refine Or.inl ⟨h7, ?_⟩
              refine Or.inl ⟨.agg #[.slice xo' xn' xc', .slice yo' yn' yc', .int .i64 S2.asks], ?_, rfl⟩
              have f0 := (HCB.out.below (Nat.succ_pos _) hC).cell 0 _ rfl
              have f1 := (HCB.out.below (Nat.succ_pos _) hC).cell 1 _ rfl
              have f2 := (HCB.out.below (Nat.succ_pos _) hC).cell 2 _ rfl
              go_simp
            refine ⟨rq _ _ _ [] trivial ?_, ?_⟩
            · intro a w1 hC  (h8 : a.tmps.getD 51 undef = _) (h7 : a.tmps.getD 50 undef = _) _
              refine Or.inl ⟨h7, ?_⟩
              refine Or.inr (Or.inl ⟨12, #[.agg #[.slice xo' xn' xc', .slice yo' yn' yc', .int .i64 S2.asks]], ?_, ?_⟩)
              · go_simp
              · refine (may_to ⟨xo', xn', xc', yo', yn', yc'⟩ S2 true HM2.out w1 (HSB.out.below hC)).mono ?_
                rintro e w2 ⟨rfl, hbel⟩
                exact ⟨_, rfl, rfl, hbel⟩
            refine ⟨rq _ _ _ [] trivial ?_, ?_⟩
            · intro a w1 hC  (h9 : a.tmps.getD 52 undef = _) (h7 : a.tmps.getD 50 undef = _)
              refine Or.inl ⟨h7, ?_⟩
              refine Or.inl ⟨.bool false, ?_, rfl⟩
              go_simp
            refine ⟨rq _ _ _ [] trivial ?_, ?_⟩
            · intro a w1 hC  (h10 : a.tmps.getD 53 undef = _) (h9 : a.tmps.getD 52 undef = _) (h7 : a.tmps.getD 50 undef = _)
              refine Or.inl ⟨h7, ?_⟩
              refine Or.inl ⟨.bool false, ?_, rfl⟩
              go_simp
            refine ⟨rq _ _ _ [(3, .pointer (some ⟨p + 1, 0, none⟩))] ⟨⟨by kernel_rfl, rfl⟩, trivial⟩ ?_, ?_⟩
            · intro a w1 hC e3 (h11 : a.tmps.getD 54 undef = _)
              refine Or.inl ⟨h11, ?_⟩
              refine Or.inl ⟨.agg #[.slice xo' xn' xc', .slice yo' yn' yc', .int .i64 S2.asks], ?_, rfl⟩
              have f0 := (HCB.out.below (Nat.succ_pos _) hC).cell 0 _ rfl
              have f1 := (HCB.out.below (Nat.succ_pos _) hC).cell 1 _ rfl
              have f2 := (HCB.out.below (Nat.succ_pos _) hC).cell 2 _ rfl
              go_simp
            refine ⟨rq _ _ _ [] trivial ?_, ?_⟩
            · intro a w1 hC  (h12 : a.tmps.getD 55 undef = _) (h11 : a.tmps.getD 54 undef = _) _
              refine Or.inl ⟨h11, ?_⟩
              refine Or.inr (Or.inl ⟨10, #[.agg #[.slice xo' xn' xc', .slice yo' yn' yc', .int .i64 S2.asks]], ?_, ?_⟩)
              · go_simp
              · refine (X.enc_to ⟨xo', xn', xc', yo', yn', yc'⟩ S2 w1 (HSB.out.below hC)).mono ?_
                rintro e w2 ⟨vv, rfl, hown, hbel⟩
                rw [HE2.out] at hown
                obtain ⟨ao1, cap1, rfl, hrd⟩ := hown.rd
                exact ⟨_, rfl, ⟨ao1, cap1, rfl, hrd⟩, hbel⟩
            refine ⟨rq _ _ _ [] trivial ?_, ?_⟩
            · intro a w1 hC  h13 (h11 : a.tmps.getD 54 undef = _)
              refine Or.inl ⟨h11, ?_⟩
              obtain ⟨ao1, cap1, e5, hrd⟩ := h13
              have e5 : a.tmps.getD 56 undef = _ := e5
              refine Or.inl ⟨.string (strOfNums es2), ?_, rfl⟩
              have hcv := conv_str (P := Try.prog) hrd 28 9 5 Try.underlying28 Try.underlying5 Try.underlying9
              go_simp
            refine ⟨rq _ _ _ [(6, .slice eo el ec)] ⟨⟨by kernel_rfl, rfl⟩, trivial⟩ ?_, ?_⟩
            · intro a w1 hC e6 (h11 : a.tmps.getD 54 undef = _)
              refine Or.inl ⟨h11, ?_⟩
              refine Or.inl ⟨.slice eo el ec, ?_, rfl⟩
              go_simp
            refine ⟨rq _ _ _ [] trivial ?_, ?_⟩
            · intro a w1 hC  (h15 : a.tmps.getD 58 undef = _) (h11 : a.tmps.getD 54 undef = _)
              refine Or.inl ⟨h11, ?_⟩
              refine Or.inl ⟨.string (strOfNums es), ?_, rfl⟩
              have hcv := conv_str (P := Try.prog) (HRE.out.below hC) 28 9 5 Try.underlying28 Try.underlying5 Try.underlying9
              go_simp
            refine ⟨rq _ _ _ [] trivial ?_, ?_⟩
            · intro a w1 hC  (h14 : a.tmps.getD 57 undef = _) (h16 : a.tmps.getD 59 undef = _) (h11 : a.tmps.getD 54 undef = _)
              refine Or.inl ⟨h11, ?_⟩
              refine Or.inl ⟨.bool true, ?_, rfl⟩
              have hs1 := HSE.out
              have hs2 := HSE2.out
              go_simp
            refine ⟨rq _ _ _ [(2, .pointer (some ⟨p, 0, none⟩))] ⟨⟨by kernel_rfl, rfl⟩, trivial⟩ ?_, ?_⟩
            · intro a w1 hC e2 (h11 : a.tmps.getD 54 undef = _)
              refine Or.inl ⟨h11, ?_⟩
              refine Or.inl ⟨.agg #[.slice xo xn xc, .slice yo yn yc, .int .i64 S1.asks], ?_, rfl⟩
              have f0 := (HCA.out.below (Nat.succ_pos _) hC).cell 0 _ rfl
              have f1 := (HCA.out.below (Nat.succ_pos _) hC).cell 1 _ rfl
              have f2 := (HCA.out.below (Nat.succ_pos _) hC).cell 2 _ rfl
              go_simp
            refine ⟨rq _ _ _ [(3, .pointer (some ⟨p + 1, 0, none⟩))] ⟨⟨by kernel_rfl, rfl⟩, trivial⟩ ?_, ?_⟩
            · intro a w1 hC e3 (h11 : a.tmps.getD 54 undef = _)
              refine Or.inl ⟨h11, ?_⟩
              refine Or.inl ⟨.agg #[.slice xo' xn' xc', .slice yo' yn' yc', .int .i64 S2.asks], ?_, rfl⟩
              have f0 := (HCB.out.below (Nat.succ_pos _) hC).cell 0 _ rfl
              have f1 := (HCB.out.below (Nat.succ_pos _) hC).cell 1 _ rfl
              have f2 := (HCB.out.below (Nat.succ_pos _) hC).cell 2 _ rfl
              go_simp
            refine ⟨rq _ _ _ [] trivial ?_, ?_⟩
            · intro a w1 hC  (h18 : a.tmps.getD 61 undef = _) (h19 : a.tmps.getD 62 undef = _) h13 (h11 : a.tmps.getD 54 undef = _)
              refine Or.inl ⟨h11, ?_⟩
              refine Or.inr (Or.inl ⟨14, #[.agg #[.slice xo xn xc, .slice yo yn yc, .int .i64 S1.asks], .agg #[.slice xo' xn' xc', .slice yo' yn' yc', .int .i64 S2.asks]], ?_, ?_⟩)
              · go_simp
              · refine (eq_to ⟨xo, xn, xc, yo, yn, yc⟩ ⟨xo', xn', xc', yo', yn', yc'⟩ S1 S2 true HU.out w1 (HSA.out.below hC) (HSB.out.below hC)).mono ?_
                rintro e w2 ⟨rfl, hbel⟩
                exact ⟨_, rfl, rfl, hbel⟩
            refine ⟨rq _ _ _ [] trivial ?_, ?_⟩
            · intro a w1 hC  (h17 : a.tmps.getD 60 undef = _) (h20 : a.tmps.getD 63 undef = _) (h11 : a.tmps.getD 54 undef = _)
              refine Or.inl ⟨h11, ?_⟩
              refine Or.inl ⟨.bool true, ?_, rfl⟩
              go_simp
            refine ⟨rq _ _ _ [] trivial ?_, ?_⟩
            · intro a w1 hC  (h11 : a.tmps.getD 54 undef = _) (h21 : a.tmps.getD 64 undef = _) (h7 : a.tmps.getD 50 undef = _)
              refine Or.inl ⟨h7, ?_⟩
              refine Or.inl ⟨.bool true, ?_, rfl⟩
              go_simp
            refine ⟨rq _ _ _ [] trivial ?_, ?_⟩
            · intro a w1 hC  (h7 : a.tmps.getD 50 undef = _) (h22 : a.tmps.getD 65 undef = _)
              refine Or.inl ⟨.bool true, ?_, rfl⟩
              go_simp
            refine ⟨rq _ _ _ [] trivial ?_, ?_⟩
            · intro a w1 hC  (h23 : a.tmps.getD 66 undef = _) (h20 : a.tmps.getD 63 undef = _) (h0 : a.tmps.getD 43 undef = _) (h1 : a.tmps.getD 44 undef = _) (h2 : a.tmps.getD 45 undef = _) (h3 : a.tmps.getD 46 undef = _) (h4 : a.tmps.getD 47 undef = _) (h5 : a.tmps.getD 48 undef = _) (h6 : a.tmps.getD 49 undef = _) (h7 : a.tmps.getD 50 undef = _) (h8 : a.tmps.getD 51 undef = _) (h9 : a.tmps.getD 52 undef = _) (h10 : a.tmps.getD 53 undef = _) (h11 : a.tmps.getD 54 undef = _) (h12 : a.tmps.getD 55 undef = _) h13 (h14 : a.tmps.getD 57 undef = _) (h15 : a.tmps.getD 58 undef = _) (h16 : a.tmps.getD 59 undef = _) (h17 : a.tmps.getD 60 undef = _) (h18 : a.tmps.getD 61 undef = _) (h19 : a.tmps.getD 62 undef = _) _ (h21 : a.tmps.getD 64 undef = _) (h22 : a.tmps.getD 65 undef = _) _
              refine Or.inl ⟨.bool true, ?_, rfl⟩
              go_simp
            exact trivial
          case hstBtt => repeat (first | exact trivial | refine ⟨Stays.is _, ?_⟩ | refine ⟨Stays.rd _ _, ?_⟩)
          case hendBtt =>
            intro w1 hC
            rintro _ rfl _ rfl _ rfl _ rfl _ rfl _ rfl _ rfl _ rfl _ rfl _ rfl _ rfl _ rfl _ rfl
            intro x13 h13
            rintro _ rfl _ rfl _ rfl _ rfl _ rfl _ rfl _ rfl _ rfl _ rfl _ rfl _ rfl
            simp only [Ends, Act.put, List.setIfInBounds_toArray, List.set_cons_succ, List.set_cons_zero]
            go_wp2_with fail
            go_ret
            exact ⟨rfl, Bl.step HBL.out hC⟩
        | false =>
          refine wp_region_below (by kernel_rfl) (Is (.int .i64 0) :: Is (.bool true) :: Is (.bool true) :: Is (.agg #[.slice zo zn zc, .slice uo un uc, .int .i64 S1.asks]) :: Is (.agg #[.slice xo xn xc, .slice yo yn yc, .int .i64 S1.asks]) :: Is (.bool true) :: Is (.bool true) :: Is (.bool true) :: Is (.agg #[.slice xo' xn' xc', .slice yo' yn' yc', .int .i64 S2.asks]) :: Is (.bool true) :: Is (.bool false) :: Is (.bool false) :: Is (.agg #[.slice xo' xn' xc', .slice yo' yn' yc', .int .i64 S2.asks]) :: IsRd .u8 es2 :: Is (.string (strOfNums es2)) :: Is (.slice eo el ec) :: Is (.string (strOfNums es)) :: Is (.bool false) :: Is (.agg #[.slice xo xn xc, .slice yo yn yc, .int .i64 S1.asks]) :: Is (.agg #[.slice xo' xn' xc', .slice yo' yn' yc', .int .i64 S2.asks]) :: Is (.bool false) :: Is (.bool true) :: Is (.bool true) :: Is (.bool true) :: Is (.bool true) :: []) _ rfl (by kernel_rfl) rfl ?hopBtf ?hstBtf ?hendBtf
          case hopBtf =>
            refine ⟨rq _ _ _ [(8, .int .i64 0)] ⟨⟨by kernel_rfl, rfl⟩, trivial⟩ ?_, ?_⟩
            · intro a w1 hC e8
              refine Or.inl ⟨.int .i64 0, ?_, rfl⟩
              go_simp
            refine ⟨rq _ _ _ [] trivial ?_, ?_⟩
            · intro a w1 hC  (h0 : a.tmps.getD 43 undef = _)
              refine Or.inl ⟨.bool true, ?_, rfl⟩
              go_simp
            refine ⟨rq _ _ _ [] trivial ?_, ?_⟩
            · intro a w1 hC  (h1 : a.tmps.getD 44 undef = _)
              refine Or.inl ⟨.bool true, ?_, rfl⟩
              go_simp
            refine ⟨rq _ _ _ [(7, .pointer (some ⟨q, 0, none⟩))] ⟨⟨by kernel_rfl, rfl⟩, trivial⟩ ?_, ?_⟩
            · intro a w1 hC e7 (h2 : a.tmps.getD 45 undef = _)
              refine Or.inl ⟨h2, ?_⟩
              refine Or.inl ⟨.agg #[.slice zo zn zc, .slice uo un uc, .int .i64 S1.asks], ?_, rfl⟩
              have f0 := (HCX.out.below (Nat.succ_pos _) hC).cell 0 _ rfl
              have f1 := (HCX.out.below (Nat.succ_pos _) hC).cell 1 _ rfl
              have f2 := (HCX.out.below (Nat.succ_pos _) hC).cell 2 _ rfl
              go_simp
            refine ⟨rq _ _ _ [(2, .pointer (some ⟨p, 0, none⟩))] ⟨⟨by kernel_rfl, rfl⟩, trivial⟩ ?_, ?_⟩
            · intro a w1 hC e2 (h2 : a.tmps.getD 45 undef = _)
              refine Or.inl ⟨h2, ?_⟩
              refine Or.inl ⟨.agg #[.slice xo xn xc, .slice yo yn yc, .int .i64 S1.asks], ?_, rfl⟩
              have f0 := (HCA.out.below (Nat.succ_pos _) hC).cell 0 _ rfl
              have f1 := (HCA.out.below (Nat.succ_pos _) hC).cell 1 _ rfl
              have f2 := (HCA.out.below (Nat.succ_pos _) hC).cell 2 _ rfl
              go_simp
            refine ⟨rq _ _ _ [] trivial ?_, ?_⟩
            · intro a w1 hC  (h3 : a.tmps.getD 46 undef = _) (h4 : a.tmps.getD 47 undef = _) (h2 : a.tmps.getD 45 undef = _) _
              refine Or.inl ⟨h2, ?_⟩
              refine Or.inr (Or.inl ⟨14, #[.agg #[.slice zo zn zc, .slice uo un uc, .int .i64 S1.asks], .agg #[.slice xo xn xc, .slice yo yn yc, .int .i64 S1.asks]], ?_, ?_⟩)
              · go_simp
              · refine (eq_to ⟨zo, zn, zc, uo, un, uc⟩ ⟨xo, xn, xc, yo, yn, yc⟩ S1 S1 true (by simp) w1 (HSX.out.below hC) (HSA.out.below hC)).mono ?_
                rintro e w2 ⟨rfl, hbel⟩
                exact ⟨_, rfl, rfl, hbel⟩
            refine ⟨rq _ _ _ [] trivial ?_, ?_⟩
            · intro a w1 hC  (h2 : a.tmps.getD 45 undef = _) (h5 : a.tmps.getD 48 undef = _)
              refine Or.inl ⟨.bool true, ?_, rfl⟩
              go_simp
            refine ⟨rq _ _ _ [] trivial ?_, ?_⟩
            · intro a w1 hC  (h6 : a.tmps.getD 49 undef = _) (h5 : a.tmps.getD 48 undef = _)
              refine Or.inl ⟨.bool true, ?_, rfl⟩
              go_simp
            refine ⟨rq _ _ _ [(3, .pointer (some ⟨p + 1, 0, none⟩))] ⟨⟨by kernel_rfl, rfl⟩, trivial⟩ ?_, ?_⟩
            · intro a w1 hC e3 (h7 : a.tmps.getD 50 undef = _)
              refine Or.inl ⟨h7, ?_⟩
              refine Or.inl ⟨.agg #[.slice xo' xn' xc', .slice yo' yn' yc', .int .i64 S2.asks], ?_, rfl⟩
              have f0 := (HCB.out.below (Nat.succ_pos _) hC).cell 0 _ rfl
              have f1 := (HCB.out.below (Nat.succ_pos _) hC).cell 1 _ rfl
              have f2 := (HCB.out.below (Nat.succ_pos _) hC).cell 2 _ rfl
              go_simp
            refine ⟨rq _ _ _ [] trivial ?_, ?_⟩
            · intro a w1 hC  (h8 : a.tmps.getD 51 undef = _) (h7 : a.tmps.getD 50 undef = _) _
              refine Or.inl ⟨h7, ?_⟩
              refine Or.inr (Or.inl ⟨12, #[.agg #[.slice xo' xn' xc', .slice yo' yn' yc', .int .i64 S2.asks]], ?_, ?_⟩)
              · go_simp
              · refine (may_to ⟨xo', xn', xc', yo', yn', yc'⟩ S2 true HM2.out w1 (HSB.out.below hC)).mono ?_
                rintro e w2 ⟨rfl, hbel⟩
                exact ⟨_, rfl, rfl, hbel⟩
            refine ⟨rq _ _ _ [] trivial ?_, ?_⟩
            · intro a w1 hC  (h9 : a.tmps.getD 52 undef = _) (h7 : a.tmps.getD 50 undef = _)
              refine Or.inl ⟨h7, ?_⟩
              refine Or.inl ⟨.bool false, ?_, rfl⟩
              go_simp
            refine ⟨rq _ _ _ [] trivial ?_, ?_⟩
            · intro a w1 hC  (h10 : a.tmps.getD 53 undef = _) (h9 : a.tmps.getD 52 undef = _) (h7 : a.tmps.getD 50 undef = _)
              refine Or.inl ⟨h7, ?_⟩
              refine Or.inl ⟨.bool false, ?_, rfl⟩
              go_simp
            refine ⟨rq _ _ _ [(3, .pointer (some ⟨p + 1, 0, none⟩))] ⟨⟨by kernel_rfl, rfl⟩, trivial⟩ ?_, ?_⟩
            · intro a w1 hC e3 (h11 : a.tmps.getD 54 undef = _)
              refine Or.inl ⟨h11, ?_⟩
              refine Or.inl ⟨.agg #[.slice xo' xn' xc', .slice yo' yn' yc', .int .i64 S2.asks], ?_, rfl⟩
              have f0 := (HCB.out.below (Nat.succ_pos _) hC).cell 0 _ rfl
              have f1 := (HCB.out.below (Nat.succ_pos _) hC).cell 1 _ rfl
              have f2 := (HCB.out.below (Nat.succ_pos _) hC).cell 2 _ rfl
              go_simp
            refine ⟨rq _ _ _ [] trivial ?_, ?_⟩
            · intro a w1 hC  (h12 : a.tmps.getD 55 undef = _) (h11 : a.tmps.getD 54 undef = _) _
              refine Or.inl ⟨h11, ?_⟩
              refine Or.inr (Or.inl ⟨10, #[.agg #[.slice xo' xn' xc', .slice yo' yn' yc', .int .i64 S2.asks]], ?_, ?_⟩)
              · go_simp
              · refine (X.enc_to ⟨xo', xn', xc', yo', yn', yc'⟩ S2 w1 (HSB.out.below hC)).mono ?_
                rintro e w2 ⟨vv, rfl, hown, hbel⟩
                rw [HE2.out] at hown
                obtain ⟨ao1, cap1, rfl, hrd⟩ := hown.rd
                exact ⟨_, rfl, ⟨ao1, cap1, rfl, hrd⟩, hbel⟩
            refine ⟨rq _ _ _ [] trivial ?_, ?_⟩
            · intro a w1 hC  h13 (h11 : a.tmps.getD 54 undef = _)
              refine Or.inl ⟨h11, ?_⟩
              obtain ⟨ao1, cap1, e5, hrd⟩ := h13
              have e5 : a.tmps.getD 56 undef = _ := e5
              refine Or.inl ⟨.string (strOfNums es2), ?_, rfl⟩
              have hcv := conv_str (P := Try.prog) hrd 28 9 5 Try.underlying28 Try.underlying5 Try.underlying9
              go_simp
            refine ⟨rq _ _ _ [(6, .slice eo el ec)] ⟨⟨by kernel_rfl, rfl⟩, trivial⟩ ?_, ?_⟩
            · intro a w1 hC e6 (h11 : a.tmps.getD 54 undef = _)
              refine Or.inl ⟨h11, ?_⟩
              refine Or.inl ⟨.slice eo el ec, ?_, rfl⟩
              go_simp
            refine ⟨rq _ _ _ [] trivial ?_, ?_⟩
            · intro a w1 hC  (h15 : a.tmps.getD 58 undef = _) (h11 : a.tmps.getD 54 undef = _)
              refine Or.inl ⟨h11, ?_⟩
              refine Or.inl ⟨.string (strOfNums es), ?_, rfl⟩
              have hcv := conv_str (P := Try.prog) (HRE.out.below hC) 28 9 5 Try.underlying28 Try.underlying5 Try.underlying9
              go_simp
            refine ⟨rq _ _ _ [] trivial ?_, ?_⟩
            · intro a w1 hC  (h14 : a.tmps.getD 57 undef = _) (h16 : a.tmps.getD 59 undef = _) (h11 : a.tmps.getD 54 undef = _)
              refine Or.inl ⟨h11, ?_⟩
              refine Or.inl ⟨.bool false, ?_, rfl⟩
              have hs1 := HSE.out
              have hs2 := HSE2.out
              go_simp
            refine ⟨rq _ _ _ [(2, .pointer (some ⟨p, 0, none⟩))] ⟨⟨by kernel_rfl, rfl⟩, trivial⟩ ?_, ?_⟩
            · intro a w1 hC e2 (h11 : a.tmps.getD 54 undef = _)
              refine Or.inl ⟨h11, ?_⟩
              refine Or.inl ⟨.agg #[.slice xo xn xc, .slice yo yn yc, .int .i64 S1.asks], ?_, rfl⟩
              have f0 := (HCA.out.below (Nat.succ_pos _) hC).cell 0 _ rfl
              have f1 := (HCA.out.below (Nat.succ_pos _) hC).cell 1 _ rfl
              have f2 := (HCA.out.below (Nat.succ_pos _) hC).cell 2 _ rfl
              go_simp
            refine ⟨rq _ _ _ [(3, .pointer (some ⟨p + 1, 0, none⟩))] ⟨⟨by kernel_rfl, rfl⟩, trivial⟩ ?_, ?_⟩
            · intro a w1 hC e3 (h11 : a.tmps.getD 54 undef = _)
              refine Or.inl ⟨h11, ?_⟩
              refine Or.inl ⟨.agg #[.slice xo' xn' xc', .slice yo' yn' yc', .int .i64 S2.asks], ?_, rfl⟩
              have f0 := (HCB.out.below (Nat.succ_pos _) hC).cell 0 _ rfl
              have f1 := (HCB.out.below (Nat.succ_pos _) hC).cell 1 _ rfl
              have f2 := (HCB.out.below (Nat.succ_pos _) hC).cell 2 _ rfl
              go_simp
            refine ⟨rq _ _ _ [] trivial ?_, ?_⟩
            · intro a w1 hC  (h18 : a.tmps.getD 61 undef = _) (h19 : a.tmps.getD 62 undef = _) h13 (h11 : a.tmps.getD 54 undef = _)
              refine Or.inl ⟨h11, ?_⟩
              refine Or.inr (Or.inl ⟨14, #[.agg #[.slice xo xn xc, .slice yo yn yc, .int .i64 S1.asks], .agg #[.slice xo' xn' xc', .slice yo' yn' yc', .int .i64 S2.asks]], ?_, ?_⟩)
              · go_simp
              · refine (eq_to ⟨xo, xn, xc, yo, yn, yc⟩ ⟨xo', xn', xc', yo', yn', yc'⟩ S1 S2 false HU.out w1 (HSA.out.below hC) (HSB.out.below hC)).mono ?_
                rintro e w2 ⟨rfl, hbel⟩
                exact ⟨_, rfl, rfl, hbel⟩
            refine ⟨rq _ _ _ [] trivial ?_, ?_⟩
            · intro a w1 hC  (h17 : a.tmps.getD 60 undef = _) (h20 : a.tmps.getD 63 undef = _) (h11 : a.tmps.getD 54 undef = _)
              refine Or.inl ⟨h11, ?_⟩
              refine Or.inl ⟨.bool true, ?_, rfl⟩
              go_simp
            refine ⟨rq _ _ _ [] trivial ?_, ?_⟩
            · intro a w1 hC  (h11 : a.tmps.getD 54 undef = _) (h21 : a.tmps.getD 64 undef = _) (h7 : a.tmps.getD 50 undef = _)
              refine Or.inl ⟨h7, ?_⟩
              refine Or.inl ⟨.bool true, ?_, rfl⟩
              go_simp
            refine ⟨rq _ _ _ [] trivial ?_, ?_⟩
            · intro a w1 hC  (h7 : a.tmps.getD 50 undef = _) (h22 : a.tmps.getD 65 undef = _)
              refine Or.inl ⟨.bool true, ?_, rfl⟩
              go_simp
            refine ⟨rq _ _ _ [] trivial ?_, ?_⟩
            · intro a w1 hC  (h23 : a.tmps.getD 66 undef = _) (h20 : a.tmps.getD 63 undef = _) (h0 : a.tmps.getD 43 undef = _) (h1 : a.tmps.getD 44 undef = _) (h2 : a.tmps.getD 45 undef = _) (h3 : a.tmps.getD 46 undef = _) (h4 : a.tmps.getD 47 undef = _) (h5 : a.tmps.getD 48 undef = _) (h6 : a.tmps.getD 49 undef = _) (h7 : a.tmps.getD 50 undef = _) (h8 : a.tmps.getD 51 undef = _) (h9 : a.tmps.getD 52 undef = _) (h10 : a.tmps.getD 53 undef = _) (h11 : a.tmps.getD 54 undef = _) (h12 : a.tmps.getD 55 undef = _) h13 (h14 : a.tmps.getD 57 undef = _) (h15 : a.tmps.getD 58 undef = _) (h16 : a.tmps.getD 59 undef = _) (h17 : a.tmps.getD 60 undef = _) (h18 : a.tmps.getD 61 undef = _) (h19 : a.tmps.getD 62 undef = _) _ (h21 : a.tmps.getD 64 undef = _) (h22 : a.tmps.getD 65 undef = _) _
              refine Or.inl ⟨.bool true, ?_, rfl⟩
              go_simp
            exact trivial
          case hstBtf => repeat (first | exact trivial | refine ⟨Stays.is _, ?_⟩ | refine ⟨Stays.rd _ _, ?_⟩)
          case hendBtf =>
            intro w1 hC
            rintro _ rfl _ rfl _ rfl _ rfl _ rfl _ rfl _ rfl _ rfl _ rfl _ rfl _ rfl _ rfl _ rfl
            intro x13 h13
            rintro _ rfl _ rfl _ rfl _ rfl _ rfl _ rfl _ rfl _ rfl _ rfl _ rfl _ rfl
            simp only [Ends, Act.put, List.setIfInBounds_toArray, List.set_cons_succ, List.set_cons_zero]
            go_wp2_with fail
            go_ret
            exact ⟨rfl, Bl.step HBL.out hC⟩
end Go.Proofs.Ytnbegmlbkjjggaa
