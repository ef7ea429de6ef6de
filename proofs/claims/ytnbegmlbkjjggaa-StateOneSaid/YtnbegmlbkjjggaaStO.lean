/- state's laws: StateOne's walk, over StSpec. Written by gen_stone.py. -/
import Derived.Test.YtnbegmlbkjjggaaStY
import Derived.BigRegion
namespace Go.Proofs.Ytnbegmlbkjjggaa
open Go.RowKit
set_option linter.unusedVariables false

theorem refWrap_in (k n : Int) (hk : k = 1 ∨ k = 2) (hn : 0 ≤ n ∧ n ≤ 9999) (w : World) : Calls Try.prog 19 #[.int .i64 k, .int .i64 n] w fun e w' => e = .returned (av k n) ∧ Below w.heap.size w w' := by
  have hb : bits BinOp.and IntKind.i64 n 4294967295 = n := by
    rw [show (4294967295 : Int) = 2 ^ 32 - 1 from by decide, bits_and_mask .i64 32 (by decide) (fun n h0 h1 => IntWalk.i64_in n (by rw [show (2 : Int) ^ 32 = 4294967296 from by decide] at h1; omega))]
    rw [show (2 : Int) ^ 32 = 4294967296 from by decide]
    omega
  rcases hk with rfl | rfl
  all_goals
    go_enter Try.func19, Try.ntmps19
    go_wp2
    go_returns
    exact ⟨rfl, Bl.alloc (Bl.refl _) _⟩
theorem and_one (n : Int) : bits BinOp.and IntKind.i64 n 1 = 0 ∨ bits BinOp.and IntKind.i64 n 1 = 1 := by
  rw [show (1 : Int) = 2 ^ 1 - 1 from by decide, bits_and_mask .i64 1 (by decide) (fun n h0 h1 => IntWalk.i64_in n (by rw [show (2 : Int) ^ 1 = 2 from by decide] at h1; omega))]
  rw [show (2 : Int) ^ 1 = 2 from by decide]
  omega
theorem wf_small (n : Int) (h0 : -10000 ≤ n) (h1 : n ≤ 10000) : (Lit.int .i64 n).wf = true := WalkArith.wf_i64 (by omega)
/-- A frame that may be written: its cells. -/
theorem StU.fr {V : SV} {S : St} {w : World} (h : StU V S w) {j : Nat} (hj : j < V.fn) : ∃ b off, V.fo = some ⟨b, off, none⟩ ∧ (∃ x, w.cell? ⟨b, off + j * 5 + 1, none⟩ = some (.int .i64 x)) ∧ (∃ y, w.cell? ⟨b, off + j * 5 + 3, none⟩ = some (.int .i64 y)) ∧ w.frozen? ⟨b, off + j * 5 + 1, none⟩ = false ∧ w.frozen? ⟨b, off + j * 5 + 3, none⟩ = false := by
  have hl : j < S.fs.length := by rw [h.f.len]; exact hj
  obtain ⟨b, off, cs, e, hl5, ⟨a1, n1, c1, a2, n2, c2, rfl, _⟩, hc⟩ := h.f.cell j _ (List.getElem?_eq_getElem hl)
  refine ⟨b, off, e, ⟨_, hc 1 _ rfl⟩, ⟨_, hc 3 _ rfl⟩, ?_, ?_⟩
  · have := h.uf b off e (j * 5 + 1) (by omega)
    rwa [← Nat.add_assoc] at this
  · have := h.uf b off e (j * 5 + 3) (by omega)
    rwa [← Nat.add_assoc] at this
theorem StU.va {V : SV} {S : St} {w : World} (h : StU V S w) {j : Nat} (hj : j < V.vn) : ∃ b off, V.vo = some ⟨b, off, none⟩ ∧ (∃ x, w.cell? ⟨b, off + j * 2, none⟩ = some (.int .i64 x)) ∧ (∃ y, w.cell? ⟨b, off + j * 2 + 1, none⟩ = some (.int .i64 y)) ∧ w.frozen? ⟨b, off + j * 2, none⟩ = false ∧ w.frozen? ⟨b, off + j * 2 + 1, none⟩ = false := by
  obtain ⟨b, off, x, y, e, _, h1, h2, _⟩ := h.v.at2 hj
  refine ⟨b, off, e, ⟨x, h1⟩, ⟨y, h2⟩, h.uv b off e (j * 2) (by omega), ?_⟩
  have := h.uv b off e (j * 2 + 1) (by omega)
  rwa [← Nat.add_assoc] at this

set_option maxRecDepth 100000 in
set_option maxHeartbeats 8000000 in
theorem stateOne_walk (X : StSpec) (V : SV) (S : St) (wh at' n : Int) (w : World) (hst : StR V S w) (hat : -9223372036854775808 ≤ at' ∧ at' ≤ 9223372036854775807) (hn : -9223372036854775808 ≤ n ∧ n ≤ 9223372036854775807) :
    Calls Try.prog 7 #[.agg (V.cells S).toArray, .int .i64 wh, .int .i64 at', .int .i64 n] w fun e w' => e = .returned (.bool true) ∧ Below w.heap.size w w' := by
  obtain ⟨vo, vn, vc, fo, fn, fc⟩ := V
  obtain ⟨vs, fs, sa⟩ := S
  simp only [SV.cells]
  obtain ⟨r, hr⟩ : ∃ r, n.tmod 10000 = r := ⟨_, rfl⟩
  have hr0 : -9999 ≤ r ∧ r ≤ 9999 := by
    rcases Int.le_total 0 n with h | h
    · rw [Int.tmod_eq_emod_of_nonneg h] at hr
      omega
    · have e : n.tmod 10000 = -((-n).tmod 10000) := by rw [← Int.neg_tmod, Int.neg_neg]
      rw [e, Int.tmod_eq_emod_of_nonneg (by omega)] at hr
      omega
  obtain ⟨n2, hn2⟩ : ∃ n2, (r + 10000).tmod 10000 = n2 := ⟨_, rfl⟩
  have hn3 : (r + 10000) % 10000 = n2 := by rw [← hn2, Int.tmod_eq_emod_of_nonneg (by omega)]
  have hn0 : 0 ≤ n2 ∧ n2 ≤ 9999 := by omega
  obtain ⟨w0, hw0⟩ : ∃ w0, w.alloc (.cells #[.slice vo vn vc, .slice fo fn fc, .int .i64 sa] 25) = w0 := ⟨_, rfl⟩
  obtain ⟨p, hp⟩ : ∃ p, w.heap.size = p := ⟨_, rfl⟩
  have hb0 : Below w.heap.size w w0 := by rw [← hw0]; exact Bl.alloc (Bl.refl _) _
  have hx0 : Cel w0 p [.slice vo vn vc, .slice fo fn fc, .int .i64 sa] := by rw [← hw0, ← hp]; exact Cel.new w [.slice vo vn vc, .slice fo fn fc, .int .i64 sa] 25
  have hz0 : w0.heap.size = p + 1 := by rw [← hw0]; simp [hp]
  have hs0 := hst.below hb0
  have HX0 := hid hx0; have HZ0 := hid hz0; have HW0 := hid hw0; have HP := hid hp; have HBB := hid hb0; have HS0 := hid hs0
  have HPP : Hid (w.heap.size ≤ p) := hid (Nat.le_of_eq hp)
  clear hst hb0 hx0 hz0 hs0 hw0 hp
  go_enter Try.func7, Try.ntmps7
  go_wp2_with fail
  rw [HW0.out]
  refine (begun_to X w0).mono ?_
  rintro e wb ⟨rfl, hb⟩
  have HCS := hid (HX0.out.below (Nat.succ_pos _) hb)
  have HST := hid (HS0.out.below hb)
  have HB0 := hid (Bl.step HBB.out hb)
  have HPW : Hid (p + 1 ≤ wb.heap.size) := hid (by have := hb.size; rw [HZ0.out] at this; exact this)
  clear hb HX0 HS0 HBB HW0 HZ0
  have a0 := HCS.out.cell 0 _ rfl
  have a1 := HCS.out.cell 1 _ rfl
  have a2 := HCS.out.cell 2 _ rfl
  try rw [HP.out]
  go_wp2_with fail
  refine (cut_to ⟨vo, vn, vc, fo, fn, fc⟩ ⟨vs, fs, sa⟩ wb HST.out).mono ?_
  rintro e w1 ⟨⟨xo, xn, xc, yo, yn, yc⟩, rfl, hbx, hb1⟩
  simp only [SV.cells]
  have hp1 : p < w1.heap.size := Nat.lt_of_lt_of_le HPW.out hb1.size
  have hcs := HCS.out.below (Nat.succ_pos _) hb1
  obtain ⟨w2, hw2⟩ : ∃ w2, (((w1.setCell ⟨p, 0, none⟩ (.slice xo xn xc)).setCell ⟨p, 1, none⟩ (.slice yo yn yc)).setCell ⟨p, 2, none⟩ (.int .i64 (cutS ⟨vs, fs, sa⟩).asks)) = w2 := ⟨_, rfl⟩
  have hg : w1.grownBy w2 (some p) := by rw [← hw2]; exact gr_set (gr_set (gr_set (gr_refl _ _) 0 _) 1 _) 2 _
  have HCA : Hid (Cel w2 p [.slice xo xn xc, .slice yo yn yc, .int .i64 (cutS ⟨vs, fs, sa⟩).asks]) := hid (hw2 ▸ (((hcs.set 0 (.slice xo xn xc) (by simp)).set 1 (.slice yo yn yc) (by simp)).set 2 (.int .i64 (cutS ⟨vs, fs, sa⟩).asks) (by simp)))
  have HSA : Hid (StR ⟨xo, xn, xc, yo, yn, yc⟩ (cutS ⟨vs, fs, sa⟩) w2) := hid (hbx w2 fun b hb => hg.block b hb.2 (fun e => by have e2 : b = p := (by simpa using e); have := HPW.out; omega))
  have HBL : Hid (Below w.heap.size w w2) := hid (gr_blK (Bl.step HB0.out hb1) hg (Nat.le_trans HB0.out.size hb1.size) HPP.out)
  have HW2 := hid hw2
  clear a0 a1 a2
  have a0 := hcs.cell 0 _ rfl
  have a1 := hcs.cell 1 _ rfl
  have a2 := hcs.cell 2 _ rfl
  have fa0 := hcs.fro 0 _ rfl
  have fa1 := hcs.fro 1 _ rfl
  have fa2 := hcs.fro 2 _ rfl
  clear hbx hcs hw2 hg hb1
  go_upto_region 5 with fail
  clear a0 a1 a2 fa0 fa1 fa2
  rw [HW2.out]
  clear HW2
  have hp2 : p < w2.heap.size := HCA.out.lt (Nat.succ_pos _)
  obtain ⟨S1, hS1⟩ : ∃ S1, cutS ⟨vs, fs, sa⟩ = S1 := ⟨_, rfl⟩
  rw [hS1] at HCA HSA ⊢
  have HTM : Hid (tameS S1) := hid (by rw [← hS1]; exact tame_cut _)
  clear hS1 hp1
  have a0 := HCA.out.cell 0 _ rfl
  have a1 := HCA.out.cell 1 _ rfl
  have a2 := HCA.out.cell 2 _ rfl
  obtain ⟨t1, ht1⟩ : ∃ t, mayS S1 = t := ⟨_, rfl⟩
  have HT1 := hid ht1
  clear ht1
  go_wp2_with fail
  refine (may_to ⟨xo, xn, xc, yo, yn, yc⟩ S1 t1 HT1.out w2 HSA.out).mono ?_
  rintro e w3 ⟨rfl, hb⟩
  replace HSA := hid (HSA.out.below hb)
  replace HCA := hid (HCA.out.below (Nat.succ_pos _) hb)
  replace HBL := hid (Bl.step HBL.out hb)
  have hp3 : p < w3.heap.size := Nat.lt_of_lt_of_le hp2 hb.size
  clear a0 a1 a2 hb hp2
  cases t1 with
  | false =>
    go_wp2_with fail
    go_ret
    exact ⟨rfl, by first | exact HBL.out | (rw [← HP.out]; exact HBL.out)⟩
  | true =>
  by_cases hneg : at' < 0
  · go_wp2_with fail
    go_ret
    exact ⟨rfl, by first | exact HBL.out | (rw [← HP.out]; exact HBL.out)⟩
  obtain ⟨kk, rfl⟩ : ∃ kk : Nat, at' = kk := ⟨at'.toNat, by omega⟩
  have a0 := HCA.out.cell 0 _ rfl
  have a1 := HCA.out.cell 1 _ rfl
  have a2 := HCA.out.cell 2 _ rfl
  go_wp2_with fail
  refine (X.copy_to ⟨xo, xn, xc, yo, yn, yc⟩ S1 w3 HTM.out HSA.out).mono ?_
  rintro e w4 ⟨⟨co, cn, cc, eo, en, ec⟩, rfl, hbx, hb⟩
  simp only [SV.cells]
  obtain ⟨q, hq⟩ : ∃ q, w4.heap.size = q := ⟨_, rfl⟩
  obtain ⟨w5, hw5⟩ : ∃ w5, w4.alloc (.cells #[.slice co cn cc, .slice eo en ec, .int .i64 S1.asks] 25) = w5 := ⟨_, rfl⟩
  have hcq : Cel w5 q [.slice co cn cc, .slice eo en ec, .int .i64 S1.asks] := by rw [← hw5, ← hq]; exact Cel.new _ _ _
  have ha : Below w4.heap.size w4 w5 := by rw [← hw5]; exact Bl.alloc (Bl.refl _) _
  have HSU := hid (hbx.now.below ha)
  have HW5 := hid hw5
  have HQ := hid hq
  have hbz := hbx.to (fun b hb => ha.block b hb.2) (C' := fun b => w3.heap.size ≤ b ∧ b < q) (fun b hb => by rw [← hq]; exact hb)
  have HBX := hid hbz
  have hqz : w5.heap.size = q + 1 := by rw [← hw5]; simp [hq]
  have hqs : q < w5.heap.size := by omega
  have h35 := Bl.step hb ha
  have h3q : w3.heap.size ≤ q := by rw [← hq]; exact hb.size
  have HB35 := hid h35
  have HCQ := hid hcq
  have HSA5 := hid (HSA.out.below h35)
  have HCA5 := hid (HCA.out.below (Nat.succ_pos _) h35)
  have hp5 : p < q := by omega
  clear hbx hb hq hw5 hcq ha h35 hbz a0 a1 a2 HCS HST HB0
  obtain ⟨k3, hk3⟩ : ∃ k, bits BinOp.and IntKind.i64 wh 3 = k := ⟨_, rfl⟩
  obtain ⟨b1, hb1⟩ : ∃ k, bits BinOp.and IntKind.i64 n2 1 = k := ⟨_, rfl⟩
  have hb2 : b1 = 0 ∨ b1 = 1 := by rw [← hb1]; exact and_one n2
  go_upto_block 0 with fail
  rw [HW5.out, HQ.out]
  clear HW5
  go_cut [3] from 29 (fun u wc => u = .int .i64 n2 ∧ ∃ (zo : Option Addr) (zn zc : Nat) (uo : Option Addr) (un uc : Nat) (S2 : St), Hid (Cel wc q [.slice zo zn zc, .slice uo un uc, .int .i64 S2.asks]) ∧ Hid (StR ⟨zo, zn, zc, uo, un, uc⟩ S2 wc) ∧ Hid (StR ⟨xo, xn, xc, yo, yn, yc⟩ S1 wc) ∧ Hid (Cel wc p [.slice xo xn xc, .slice yo yn yc, .int .i64 S1.asks]) ∧ Hid (Below w.heap.size w wc) ∧ q < wc.heap.size)
  case first =>
    have c0 := HCQ.out.cell 0 _ rfl
    have c1 := HCQ.out.cell 1 _ rfl
    have c2 := HCQ.out.cell 2 _ rfl
    have fc2 := HCQ.out.fro 2 _ rfl
    have HKEEP : Hid (∀ w6, Below w3.heap.size w3 w6 → StR ⟨xo, xn, xc, yo, yn, yc⟩ S1 w6 ∧ Cel w6 p [.slice xo xn xc, .slice yo yn yc, .int .i64 S1.asks] ∧ Below w.heap.size w w6) := hid fun w6 h => ⟨HSA.out.below h, HCA.out.keep hp3 h, HBL.out.trans (h.mono HBL.out.size)⟩
    have hen63 := HSU.out.f.cap63.1
    have hcn63 := HSU.out.v.cap63.1
    simp only at hen63 hcn63
    by_cases cA : k3 = 0 ∨ (en = 0 ∧ 1 < k3)
    ·
      have hend : ∀ w6, w5.setCell ⟨q, 2, none⟩ (.int .i64 (n2 - 1)) = w6 → Cel w6 q [.slice co cn cc, .slice eo en ec, .int .i64 (n2 - 1)] ∧ StR ⟨co, cn, cc, eo, en, ec⟩ ⟨S1.vs, S1.fs, n2 - 1⟩ w6 ∧ Below w3.heap.size w3 w6 ∧ q < w6.heap.size := by
        rintro w6 rfl
        have hx := HBX.out (w5.setCell ⟨q, 2, none⟩ (.int .i64 (n2 - 1))) fun b hb => Below.heap_setCell w5 _ _ b (fun e => by have e2 : q = b := (by simpa using e.symm); omega)
        exact ⟨HCQ.out.set 2 _ (by simp), ⟨hx.r.v, hx.r.f, wf_small _ (by show -10000 ≤ n2 - 1; omega) (by show n2 - 1 ≤ 10000; omega)⟩, HB35.out.setCell (p := ⟨q, 2, none⟩) h3q _, by simpa using hqs⟩
      rcases cA with cA | ⟨cA, cB⟩
      · subst cA
        go_wp2_with fail
        go_meet
        case rel =>
          obtain ⟨h1, h2, h3, h4⟩ := hend _ rfl
          obtain ⟨h5, h6, h7⟩ := HKEEP.out _ h3
          exact ⟨rfl, co, cn, cc, eo, en, ec, _, hid h1, hid h2, hid h5, hid h6, hid h7, h4⟩
      · subst cA
        have ck : (k3 == 0) = false := by simp; omega
        go_wp2_with fail
        go_meet
        case rel =>
          obtain ⟨h1, h2, h3, h4⟩ := hend _ rfl
          obtain ⟨h5, h6, h7⟩ := HKEEP.out _ h3
          exact ⟨rfl, co, cn, cc, eo, 0, ec, _, hid h1, hid h2, hid h5, hid h6, hid h7, h4⟩
    have ck : (k3 == 0) = false := by simp; intro h; exact cA (.inl h)
    have ck2 : (decide (en = 0) && decide (1 < k3)) = false := by simp; intro h; have := fun h2 => cA (.inr ⟨h, h2⟩); omega
    by_cases cB : k3 = 1 ∧ 0 < cn
    · obtain ⟨cB, hpos⟩ := cB
      subst cB
      obtain ⟨j, hj⟩ : ∃ j, j = kk % cn := ⟨_, rfl⟩
      have hjl : j < cn := by rw [hj]; exact Nat.mod_lt _ hpos
      have q1 : (kk : Int) % (cn : Int) = (j : Int) := by rw [hj]; simp
      have q2 : ((cn : Int) == 0) = false := by simp; omega
      clear hj
      obtain ⟨b, off, he, _⟩ := HSU.out.va hjl
      simp only at he
      subst he
      have hbk : w3.heap.size ≤ b ∧ b < q := Bx.block (a := ⟨b, off + j * 2, none⟩) HBX.out fun w' h => by
        obtain ⟨b1, o1, e1, h1, _⟩ := h.va hjl
        simp only at e1
        cases e1
        exact h1
      have hw1 : IntKind.i64.wrap (1 + b1) = 1 + b1 := IntWalk.i64_in _ (by omega)
      have hcn0 : ¬ cn = 0 := by omega
      have q1t : (kk : Int).tmod (cn : Int) = (j : Int) := by rw [Int.tmod_eq_emod_of_nonneg (by omega)]; exact q1
      rcases Nat.eq_zero_or_pos en with he0 | he0
      · subst he0
        go_wp2_with fail
        clear c0 c1 c2 fc2
        refine wp_region_below_tail 13 (by kernel_rfl) [Is ?vB00, Is (.slice (some ⟨b, off, none⟩) cn cc), Is (.int .i64 kk), Is ?vB03, Is (.slice (some ⟨b, off, none⟩) cn cc), Is (.int .i64 cn), Is (.int .i64 j), Is (.int .i64 n2), Is (.int .i64 b1), Is (.int .i64 (1 + b1)), Is (.int .i64 n2), Is (av (1 + b1) n2), Is ?vB012] _ rfl (by kernel_rfl) rfl (by kernel_rfl) ?hopB0 ?hstB0 ?hendB0
        case hopB0 =>
          refine ⟨rq _ _ _ [(10, .pointer (some ⟨q, 0, none⟩))] ⟨⟨by kernel_rfl, rfl⟩, trivial⟩ ?_, ?_⟩
          · intro a w1 hC e10
            refine Or.inl ⟨_, ?_, rfl⟩
            go_simp
            rfl
          refine ⟨rq _ _ _ [] trivial ?_, ?_⟩
          · intro a w1 hC  (h0 : a.tmps.getD 57 undef = _)
            refine Or.inl ⟨.slice (some ⟨b, off, none⟩) cn cc, ?_, rfl⟩
            have f0 := (HCQ.out.below (Nat.succ_pos _) hC).cell 0 _ rfl
            go_simp
          refine ⟨rq _ _ _ [(2, .int .i64 kk)] ⟨⟨by kernel_rfl, rfl⟩, trivial⟩ ?_, ?_⟩
          · intro a w1 hC e2
            refine Or.inl ⟨.int .i64 kk, ?_, rfl⟩
            go_simp
          refine ⟨rq _ _ _ [(10, .pointer (some ⟨q, 0, none⟩))] ⟨⟨by kernel_rfl, rfl⟩, trivial⟩ ?_, ?_⟩
          · intro a w1 hC e10
            refine Or.inl ⟨_, ?_, rfl⟩
            go_simp
            rfl
          refine ⟨rq _ _ _ [] trivial ?_, ?_⟩
          · intro a w1 hC  (h3 : a.tmps.getD 60 undef = _)
            refine Or.inl ⟨.slice (some ⟨b, off, none⟩) cn cc, ?_, rfl⟩
            have f0 := (HCQ.out.below (Nat.succ_pos _) hC).cell 0 _ rfl
            go_simp
          refine ⟨rq _ _ _ [] trivial ?_, ?_⟩
          · intro a w1 hC  (h4 : a.tmps.getD 61 undef = _)
            refine Or.inl ⟨.int .i64 cn, ?_, rfl⟩
            go_simp
          refine ⟨rq _ _ _ [] trivial ?_, ?_⟩
          · intro a w1 hC  (h2 : a.tmps.getD 59 undef = _) (h5 : a.tmps.getD 62 undef = _)
            refine Or.inl ⟨.int .i64 j, ?_, rfl⟩
            go_simp
            try rw [if_neg hcn0, q1t]
          refine ⟨rq _ _ _ [(3, .int .i64 n2)] ⟨⟨by kernel_rfl, rfl⟩, trivial⟩ ?_, ?_⟩
          · intro a w1 hC e3
            refine Or.inl ⟨.int .i64 n2, ?_, rfl⟩
            go_simp
          refine ⟨rq _ _ _ [] trivial ?_, ?_⟩
          · intro a w1 hC  (h7 : a.tmps.getD 64 undef = _)
            refine Or.inl ⟨.int .i64 b1, ?_, rfl⟩
            go_simp
          refine ⟨rq _ _ _ [] trivial ?_, ?_⟩
          · intro a w1 hC  (h8 : a.tmps.getD 65 undef = _)
            refine Or.inl ⟨.int .i64 (1 + b1), ?_, rfl⟩
            go_simp
          refine ⟨rq _ _ _ [(3, .int .i64 n2)] ⟨⟨by kernel_rfl, rfl⟩, trivial⟩ ?_, ?_⟩
          · intro a w1 hC e3
            refine Or.inl ⟨.int .i64 n2, ?_, rfl⟩
            go_simp
          refine ⟨rq _ _ _ [] trivial ?_, ?_⟩
          · intro a w1 hC  (h9 : a.tmps.getD 66 undef = _) (h10 : a.tmps.getD 67 undef = _)
            refine Or.inr (Or.inl ⟨19, #[.int .i64 (1 + b1), .int .i64 n2], ?_, ?_⟩)
            · go_simp
            · refine (refWrap_in (1 + b1) n2 (by omega) hn0 w1).mono ?_
              rintro e w2 ⟨rfl, hbel⟩
              exact ⟨_, rfl, rfl, hbel⟩
          refine ⟨rq _ _ _ [] trivial ?_, ?_⟩
          · intro a w1 hC  (h1 : a.tmps.getD 58 undef = _) (h6 : a.tmps.getD 63 undef = _) (h0 : a.tmps.getD 57 undef = _) _ (h2 : a.tmps.getD 59 undef = _) (h3 : a.tmps.getD 60 undef = _) (h4 : a.tmps.getD 61 undef = _) (h5 : a.tmps.getD 62 undef = _) _ (h7 : a.tmps.getD 64 undef = _) (h8 : a.tmps.getD 65 undef = _) (h9 : a.tmps.getD 66 undef = _) (h10 : a.tmps.getD 67 undef = _) (h11 : a.tmps.getD 68 undef = _)
            refine Or.inl ⟨_, ?_, rfl⟩
            go_simp
            first | (go_bits; rfl) | rfl | (rw [if_pos (by omega)])
          exact trivial
        case hstB0 => repeat (first | exact trivial | refine ⟨Stays.is _, ?_⟩)
        case hendB0 =>
          intro w1 hC
          rintro _ rfl _ rfl _ rfl _ rfl _ rfl _ rfl _ rfl _ rfl _ rfl _ rfl _ rfl _ rfl _ rfl
          have hsu := HSU.out.below hC
          obtain ⟨b', off', he', ⟨x1, h1⟩, ⟨x2, h2⟩, z1, z2⟩ := hsu.va hjl
          simp only at he'
          cases he'
          obtain ⟨Sa, hSa, hAa⟩ := hsu.poke h1 (wf_small (1 + b1) (by omega) (by omega))
          have h3 : (w1.setCell ⟨b, off + j * 2, none⟩ (.int .i64 (1 + b1))).cell? ⟨b, off + j * 2 + 1, none⟩ = some (.int .i64 x2) := (World.cell?_setCell_other _ _ _ _ (by intro h; injection h with _ h; omega)).trans h2
          obtain ⟨Sb, hSb, hAb⟩ := hSa.poke h3 (wf_small n2 (by omega) (by omega))
          have hq1 : q < w1.heap.size := Nat.lt_of_lt_of_le hqs hC.size
          have hcq := (((HCQ.out.below (Nat.succ_pos _) hC).other (show q ≠ b by omega) (off + j * 2) (.int .i64 (1 + b1))).other (show q ≠ b by omega) (off + j * 2 + 1) (.int .i64 n2))
          have hb6 := ((HB35.out.trans (hC.mono HB35.out.size)).setCell (p := ⟨b, off + j * 2, none⟩) hbk.1 (.int .i64 (1 + b1))).setCell (p := ⟨b, off + j * 2 + 1, none⟩) hbk.1 (.int .i64 n2)
          have hq6 : q < ((w1.setCell ⟨b, off + j * 2, none⟩ (.int .i64 (1 + b1))).setCell ⟨b, off + j * 2 + 1, none⟩ (.int .i64 n2)).heap.size := by simpa using hq1
          rw [← hAa, ← hAb] at hcq
          have HEND := hid (And.intro hcq (And.intro hSb.r (And.intro hb6 hq6)))
          have b6 : b < w1.heap.size := by have := hC.size; omega
          clear hsu hSa hSb hcq hb6 hq6 hC
          simp only [Ends, Act.put, List.setIfInBounds_toArray, List.set_cons_succ, List.set_cons_zero, List.drop_succ_cons, List.drop_zero]
          go_wp2_with fail
          go_meet
          case rel =>
            obtain ⟨h1, h2, h3, h4⟩ := HEND.out
            obtain ⟨h5, h6, h7⟩ := HKEEP.out _ h3
            exact ⟨rfl, some ⟨b, off, none⟩, cn, cc, eo, 0, ec, Sb, hid h1, hid h2, hid h5, hid h6, hid h7, h4⟩
      · have ce : ((en : Int) == 0) = false := by simp; omega
        go_wp2_with fail
        clear c0 c1 c2 fc2
        refine wp_region_below_tail 13 (by kernel_rfl) [Is ?vBe0, Is (.slice (some ⟨b, off, none⟩) cn cc), Is (.int .i64 kk), Is ?vBe3, Is (.slice (some ⟨b, off, none⟩) cn cc), Is (.int .i64 cn), Is (.int .i64 j), Is (.int .i64 n2), Is (.int .i64 b1), Is (.int .i64 (1 + b1)), Is (.int .i64 n2), Is (av (1 + b1) n2), Is ?vBe12] _ rfl (by kernel_rfl) rfl (by kernel_rfl) ?hopBe ?hstBe ?hendBe
        case hopBe =>
          refine ⟨rq _ _ _ [(10, .pointer (some ⟨q, 0, none⟩))] ⟨⟨by kernel_rfl, rfl⟩, trivial⟩ ?_, ?_⟩
          · intro a w1 hC e10
            refine Or.inl ⟨_, ?_, rfl⟩
            go_simp
            rfl
          refine ⟨rq _ _ _ [] trivial ?_, ?_⟩
          · intro a w1 hC  (h0 : a.tmps.getD 57 undef = _)
            refine Or.inl ⟨.slice (some ⟨b, off, none⟩) cn cc, ?_, rfl⟩
            have f0 := (HCQ.out.below (Nat.succ_pos _) hC).cell 0 _ rfl
            go_simp
          refine ⟨rq _ _ _ [(2, .int .i64 kk)] ⟨⟨by kernel_rfl, rfl⟩, trivial⟩ ?_, ?_⟩
          · intro a w1 hC e2
            refine Or.inl ⟨.int .i64 kk, ?_, rfl⟩
            go_simp
          refine ⟨rq _ _ _ [(10, .pointer (some ⟨q, 0, none⟩))] ⟨⟨by kernel_rfl, rfl⟩, trivial⟩ ?_, ?_⟩
          · intro a w1 hC e10
            refine Or.inl ⟨_, ?_, rfl⟩
            go_simp
            rfl
          refine ⟨rq _ _ _ [] trivial ?_, ?_⟩
          · intro a w1 hC  (h3 : a.tmps.getD 60 undef = _)
            refine Or.inl ⟨.slice (some ⟨b, off, none⟩) cn cc, ?_, rfl⟩
            have f0 := (HCQ.out.below (Nat.succ_pos _) hC).cell 0 _ rfl
            go_simp
          refine ⟨rq _ _ _ [] trivial ?_, ?_⟩
          · intro a w1 hC  (h4 : a.tmps.getD 61 undef = _)
            refine Or.inl ⟨.int .i64 cn, ?_, rfl⟩
            go_simp
          refine ⟨rq _ _ _ [] trivial ?_, ?_⟩
          · intro a w1 hC  (h2 : a.tmps.getD 59 undef = _) (h5 : a.tmps.getD 62 undef = _)
            refine Or.inl ⟨.int .i64 j, ?_, rfl⟩
            go_simp
            try rw [if_neg hcn0, q1t]
          refine ⟨rq _ _ _ [(3, .int .i64 n2)] ⟨⟨by kernel_rfl, rfl⟩, trivial⟩ ?_, ?_⟩
          · intro a w1 hC e3
            refine Or.inl ⟨.int .i64 n2, ?_, rfl⟩
            go_simp
          refine ⟨rq _ _ _ [] trivial ?_, ?_⟩
          · intro a w1 hC  (h7 : a.tmps.getD 64 undef = _)
            refine Or.inl ⟨.int .i64 b1, ?_, rfl⟩
            go_simp
          refine ⟨rq _ _ _ [] trivial ?_, ?_⟩
          · intro a w1 hC  (h8 : a.tmps.getD 65 undef = _)
            refine Or.inl ⟨.int .i64 (1 + b1), ?_, rfl⟩
            go_simp
          refine ⟨rq _ _ _ [(3, .int .i64 n2)] ⟨⟨by kernel_rfl, rfl⟩, trivial⟩ ?_, ?_⟩
          · intro a w1 hC e3
            refine Or.inl ⟨.int .i64 n2, ?_, rfl⟩
            go_simp
          refine ⟨rq _ _ _ [] trivial ?_, ?_⟩
          · intro a w1 hC  (h9 : a.tmps.getD 66 undef = _) (h10 : a.tmps.getD 67 undef = _)
            refine Or.inr (Or.inl ⟨19, #[.int .i64 (1 + b1), .int .i64 n2], ?_, ?_⟩)
            · go_simp
            · refine (refWrap_in (1 + b1) n2 (by omega) hn0 w1).mono ?_
              rintro e w2 ⟨rfl, hbel⟩
              exact ⟨_, rfl, rfl, hbel⟩
          refine ⟨rq _ _ _ [] trivial ?_, ?_⟩
          · intro a w1 hC  (h1 : a.tmps.getD 58 undef = _) (h6 : a.tmps.getD 63 undef = _) (h0 : a.tmps.getD 57 undef = _) _ (h2 : a.tmps.getD 59 undef = _) (h3 : a.tmps.getD 60 undef = _) (h4 : a.tmps.getD 61 undef = _) (h5 : a.tmps.getD 62 undef = _) _ (h7 : a.tmps.getD 64 undef = _) (h8 : a.tmps.getD 65 undef = _) (h9 : a.tmps.getD 66 undef = _) (h10 : a.tmps.getD 67 undef = _) (h11 : a.tmps.getD 68 undef = _)
            refine Or.inl ⟨_, ?_, rfl⟩
            go_simp
            first | (go_bits; rfl) | rfl | (rw [if_pos (by omega)])
          exact trivial
        case hstBe => repeat (first | exact trivial | refine ⟨Stays.is _, ?_⟩)
        case hendBe =>
          intro w1 hC
          rintro _ rfl _ rfl _ rfl _ rfl _ rfl _ rfl _ rfl _ rfl _ rfl _ rfl _ rfl _ rfl _ rfl
          have hsu := HSU.out.below hC
          obtain ⟨b', off', he', ⟨x1, h1⟩, ⟨x2, h2⟩, z1, z2⟩ := hsu.va hjl
          simp only at he'
          cases he'
          obtain ⟨Sa, hSa, hAa⟩ := hsu.poke h1 (wf_small (1 + b1) (by omega) (by omega))
          have h3 : (w1.setCell ⟨b, off + j * 2, none⟩ (.int .i64 (1 + b1))).cell? ⟨b, off + j * 2 + 1, none⟩ = some (.int .i64 x2) := (World.cell?_setCell_other _ _ _ _ (by intro h; injection h with _ h; omega)).trans h2
          obtain ⟨Sb, hSb, hAb⟩ := hSa.poke h3 (wf_small n2 (by omega) (by omega))
          have hq1 : q < w1.heap.size := Nat.lt_of_lt_of_le hqs hC.size
          have hcq := (((HCQ.out.below (Nat.succ_pos _) hC).other (show q ≠ b by omega) (off + j * 2) (.int .i64 (1 + b1))).other (show q ≠ b by omega) (off + j * 2 + 1) (.int .i64 n2))
          have hb6 := ((HB35.out.trans (hC.mono HB35.out.size)).setCell (p := ⟨b, off + j * 2, none⟩) hbk.1 (.int .i64 (1 + b1))).setCell (p := ⟨b, off + j * 2 + 1, none⟩) hbk.1 (.int .i64 n2)
          have hq6 : q < ((w1.setCell ⟨b, off + j * 2, none⟩ (.int .i64 (1 + b1))).setCell ⟨b, off + j * 2 + 1, none⟩ (.int .i64 n2)).heap.size := by simpa using hq1
          rw [← hAa, ← hAb] at hcq
          have HEND := hid (And.intro hcq (And.intro hSb.r (And.intro hb6 hq6)))
          have b6 : b < w1.heap.size := by have := hC.size; omega
          clear hsu hSa hSb hcq hb6 hq6 hC
          simp only [Ends, Act.put, List.setIfInBounds_toArray, List.set_cons_succ, List.set_cons_zero, List.drop_succ_cons, List.drop_zero]
          go_wp2_with fail
          go_meet
          case rel =>
            obtain ⟨h1, h2, h3, h4⟩ := HEND.out
            obtain ⟨h5, h6, h7⟩ := HKEEP.out _ h3
            exact ⟨rfl, some ⟨b, off, none⟩, cn, cc, eo, en, ec, Sb, hid h1, hid h2, hid h5, hid h6, hid h7, h4⟩
    by_cases cC : k3 = 2
    · subst cC
      have hpos : 0 < en := by
        rcases Nat.eq_zero_or_pos en with h | h
        · exact absurd (.inr ⟨h, by decide⟩) cA
        · exact h
      have ce : ((en : Int) == 0) = false := by simp; omega
      obtain ⟨j, hj⟩ : ∃ j, j = kk % en := ⟨_, rfl⟩
      have hjl : j < en := by rw [hj]; exact Nat.mod_lt _ hpos
      have q1 : (kk : Int) % (en : Int) = (j : Int) := by rw [hj]; simp
      have q2 : ((en : Int) == 0) = false := by simp; omega
      clear hj
      obtain ⟨b, off, he, ⟨x1, h1⟩, ⟨x3, h3⟩, z1, z3⟩ := HSU.out.fr hjl
      simp only at he
      subst he
      have hbk : w3.heap.size ≤ b ∧ b < q := Bx.block (a := ⟨b, off + j * 5 + 1, none⟩) HBX.out fun w' h => by
        obtain ⟨b1, o1, e1, h1, h3, _⟩ := h.fr hjl
        simp only at e1
        cases e1
        exact h1
      have hb5 : b < w5.heap.size := by omega
      obtain ⟨S2, hS2, hA2⟩ := HSU.out.poke (a := ⟨b, off + j * 5 + 1, none⟩) (x := n2) h1 (wf_small _ (by omega) (by omega))
      have hend : ∀ w6, Below w5.heap.size (w5.setCell ⟨b, off + j * 5 + 1, none⟩ (.int .i64 n2)) w6 → Cel w6 q [.slice co cn cc, .slice (some ⟨b, off, none⟩) en ec, .int .i64 S2.asks] ∧ StR ⟨co, cn, cc, some ⟨b, off, none⟩, en, ec⟩ S2 w6 ∧ Below w3.heap.size w3 w6 ∧ q < w6.heap.size := by
        intro w6 hw
        have hz : (w5.setCell ⟨b, off + j * 5 + 1, none⟩ (.int .i64 n2)).heap.size = w5.heap.size := by simp
        have h1 := hS2.r.below (by rw [hz]; exact hw)
        have h2 := (HCQ.out.other (show q ≠ b by omega) (off + j * 5 + 1) (.int .i64 n2)).keep hqs hw
        have h3 := (HB35.out.setCell (p := ⟨b, off + j * 5 + 1, none⟩) hbk.1 (.int .i64 n2)).trans (hw.mono HB35.out.size)
        exact ⟨by rw [hA2]; exact h2, h1, h3, by have := hw.size; rw [hz] at this; omega⟩
      have HEND := hid hend
      clear hend hS2
      go_wp2_with fail
      go_region
      go_wp2_with fail
      go_meet
      case rel =>
        obtain ⟨h1, h2, h3, h4⟩ := HEND.out _ (Below.refl _ _).drew
        obtain ⟨h5, h6, h7⟩ := HKEEP.out _ h3
        exact ⟨rfl, co, cn, cc, some ⟨b, off, none⟩, en, ec, S2, hid h1, hid h2, hid h5, hid h6, hid h7, h4⟩
    by_cases cD : k3 = 3
    · subst cD
      have hpos : 0 < en := by
        rcases Nat.eq_zero_or_pos en with h | h
        · exact absurd (.inr ⟨h, by decide⟩) cA
        · exact h
      have ce : ((en : Int) == 0) = false := by simp; omega
      obtain ⟨j, hj⟩ : ∃ j, j = kk % en := ⟨_, rfl⟩
      have hjl : j < en := by rw [hj]; exact Nat.mod_lt _ hpos
      have q1 : (kk : Int) % (en : Int) = (j : Int) := by rw [hj]; simp
      have q2 : ((en : Int) == 0) = false := by simp; omega
      clear hj
      obtain ⟨b, off, he, ⟨x1, h1⟩, ⟨x3, h3⟩, z1, z3⟩ := HSU.out.fr hjl
      simp only at he
      subst he
      have hbk : w3.heap.size ≤ b ∧ b < q := Bx.block (a := ⟨b, off + j * 5 + 3, none⟩) HBX.out fun w' h => by
        obtain ⟨b1, o1, e1, h1, h3, _⟩ := h.fr hjl
        simp only at e1
        cases e1
        exact h3
      have hb5 : b < w5.heap.size := by omega
      obtain ⟨S2, hS2, hA2⟩ := HSU.out.poke (a := ⟨b, off + j * 5 + 3, none⟩) (x := n2) h3 (wf_small _ (by omega) (by omega))
      have hend : ∀ w6, Below w5.heap.size (w5.setCell ⟨b, off + j * 5 + 3, none⟩ (.int .i64 n2)) w6 → Cel w6 q [.slice co cn cc, .slice (some ⟨b, off, none⟩) en ec, .int .i64 S2.asks] ∧ StR ⟨co, cn, cc, some ⟨b, off, none⟩, en, ec⟩ S2 w6 ∧ Below w3.heap.size w3 w6 ∧ q < w6.heap.size := by
        intro w6 hw
        have hz : (w5.setCell ⟨b, off + j * 5 + 3, none⟩ (.int .i64 n2)).heap.size = w5.heap.size := by simp
        have h1 := hS2.r.below (by rw [hz]; exact hw)
        have h2 := (HCQ.out.other (show q ≠ b by omega) (off + j * 5 + 3) (.int .i64 n2)).keep hqs hw
        have h3 := (HB35.out.setCell (p := ⟨b, off + j * 5 + 3, none⟩) hbk.1 (.int .i64 n2)).trans (hw.mono HB35.out.size)
        exact ⟨by rw [hA2]; exact h2, h1, h3, by have := hw.size; rw [hz] at this; omega⟩
      have HEND := hid hend
      clear hend hS2
      go_wp2_with fail
      go_region
      go_wp2_with fail
      go_meet
      case rel =>
        obtain ⟨h1, h2, h3, h4⟩ := HEND.out _ (Below.refl _ _).drew
        obtain ⟨h5, h6, h7⟩ := HKEEP.out _ h3
        exact ⟨rfl, co, cn, cc, some ⟨b, off, none⟩, en, ec, S2, hid h1, hid h2, hid h5, hid h6, hid h7, h4⟩
    have cE : ∀ w6, Below w5.heap.size w5 w6 → Cel w6 q [.slice co cn cc, .slice eo en ec, .int .i64 S1.asks] ∧ StR ⟨co, cn, cc, eo, en, ec⟩ S1 w6 ∧ Below w3.heap.size w3 w6 ∧ q < w6.heap.size := fun w6 h => ⟨HCQ.out.keep hqs h, HSU.out.r.below h, HB35.out.trans (h.mono HB35.out.size), Nat.lt_of_lt_of_le hqs h.size⟩
    have HEND := hid cE
    clear cE
    have kC : (k3 == 2) = false := by simp [cC]
    have kD : (k3 == 3) = false := by simp [cD]
    by_cases cF : k3 = 1
    · subst cF
      have hc0 : cn = 0 := by
        rcases Nat.eq_zero_or_pos cn with h | h
        · exact h
        · exact absurd ⟨rfl, h⟩ cB
      subst hc0
      rcases Nat.eq_zero_or_pos en with he | he
      · subst he
        go_wp2_with fail
        go_meet
        case rel =>
          obtain ⟨h1, h2, h3, h4⟩ := HEND.out _ (Below.refl _ _)
          obtain ⟨h5, h6, h7⟩ := HKEEP.out _ h3
          exact ⟨rfl, co, 0, cc, eo, 0, ec, S1, hid h1, hid h2, hid h5, hid h6, hid h7, h4⟩
      · have ce : ((en : Int) == 0) = false := by simp; omega
        go_wp2_with fail
        go_meet
        case rel =>
          obtain ⟨h1, h2, h3, h4⟩ := HEND.out _ (Below.refl _ _)
          obtain ⟨h5, h6, h7⟩ := HKEEP.out _ h3
          exact ⟨rfl, co, 0, cc, eo, en, ec, S1, hid h1, hid h2, hid h5, hid h6, hid h7, h4⟩
    have kF : (k3 == 1) = false := by simp [cF]
    rcases Nat.eq_zero_or_pos en with he | he
    · subst he
      have kG : ¬ 1 < k3 := fun h => cA (.inr ⟨rfl, h⟩)
      go_wp2_with fail
      go_meet
      case rel =>
        obtain ⟨h1, h2, h3, h4⟩ := HEND.out _ (Below.refl _ _)
        obtain ⟨h5, h6, h7⟩ := HKEEP.out _ h3
        exact ⟨rfl, co, cn, cc, eo, 0, ec, S1, hid h1, hid h2, hid h5, hid h6, hid h7, h4⟩
    · have ce : ((en : Int) == 0) = false := by simp; omega
      go_wp2_with fail
      go_meet
      case rel =>
        obtain ⟨h1, h2, h3, h4⟩ := HEND.out _ (Below.refl _ _)
        obtain ⟨h5, h6, h7⟩ := HKEEP.out _ h3
        exact ⟨rfl, co, cn, cc, eo, en, ec, S1, hid h1, hid h2, hid h5, hid h6, hid h7, h4⟩
  case rest =>
    clear HSA HCA HSU HBX HCQ HSA5 HCA5 HB35 HBL
    obtain ⟨rfl, zo, zn, zc, uo, un, uc, S2, HC2, HR2, HR1, HC1, HBL, hqc⟩ := hcut
    have hpc : p < wc.heap.size := HC1.out.lt (Nat.succ_pos _)
    obtain ⟨u, hu⟩ : ∃ u : Bool, (u = true ↔ S2 = S1) := ⟨open Classical in decide (S2 = S1), by simp⟩
    have HU := hid hu
    have htx := X.text (show u = true ↔ S1 = S2 from hu.trans eq_comm) HR1.out.wf HR2.out.wf HT1.out
    obtain ⟨es, hes⟩ : ∃ es, X.enc S1 = es := ⟨_, rfl⟩
    obtain ⟨es2, hes2⟩ : ∃ es, X.enc S2 = es := ⟨_, rfl⟩
    rw [hes, hes2] at htx
    have HTX := hid htx
    have HE1 := hid hes
    have HE2 := hid hes2
    clear htx hes hes2 hu
    have c0 := HC2.out.cell 0 _ rfl
    have c1 := HC2.out.cell 1 _ rfl
    have c2 := HC2.out.cell 2 _ rfl
    go_wp2_with fail
    clear c0 c1 c2
    refine wp_region_below (by kernel_rfl) [Is (.agg #[.slice zo zn zc, .slice uo un uc, .int .i64 S2.asks]), IsRd .u8 es2, Is (.string (strOfNums es2)), Is (.agg #[.slice xo xn xc, .slice yo yn yc, .int .i64 S1.asks]), IsRd .u8 es, Is (.string (strOfNums es)), Is (.bool u), Is (.agg #[.slice zo zn zc, .slice uo un uc, .int .i64 S2.asks]), Is (.agg #[.slice xo xn xc, .slice yo yn yc, .int .i64 S1.asks]), Is (.bool u), Is (.bool true), Is (.bool true), Is (.agg #[.slice zo zn zc, .slice uo un uc, .int .i64 S2.asks]), Is (.agg #[.slice xo xn xc, .slice yo yn yc, .int .i64 S1.asks]), Is (.bool u), Is (.agg #[.slice zo zn zc, .slice uo un uc, .int .i64 S2.asks]), Is (.agg #[.slice xo xn xc, .slice yo yn yc, .int .i64 S1.asks]), Is (.bool u), Is (.bool true), Is (.bool true), Is (.bool true)] _ rfl (by kernel_rfl) rfl ?hopZ ?hstZ ?hendZ
    case hopZ =>
      refine ⟨rq _ _ _ [(10, .pointer (some ⟨q, 0, none⟩))] ⟨⟨by kernel_rfl, rfl⟩, trivial⟩ ?_, ?_⟩
      · intro a w1 hC e10
        refine Or.inl ⟨.agg #[.slice zo zn zc, .slice uo un uc, .int .i64 S2.asks], ?_, rfl⟩
        have f0 := (HC2.out.below (Nat.succ_pos _) hC).cell 0 _ rfl
        have f1 := (HC2.out.below (Nat.succ_pos _) hC).cell 1 _ rfl
        have f2 := (HC2.out.below (Nat.succ_pos _) hC).cell 2 _ rfl
        go_simp
      refine ⟨rq _ _ _ [] trivial ?_, ?_⟩
      · intro a w1 hC  (h0 : a.tmps.getD 98 undef = _)
        refine Or.inr (Or.inl ⟨10, #[.agg #[.slice zo zn zc, .slice uo un uc, .int .i64 S2.asks]], ?_, ?_⟩)
        · go_simp
        · refine (X.enc_to ⟨zo, zn, zc, uo, un, uc⟩ S2 w1 (HR2.out.below hC)).mono ?_
          rintro e w2 ⟨vv, rfl, hown, hbel⟩
          rw [HE2.out] at hown
          obtain ⟨ao1, cap1, rfl, hrd⟩ := hown.rd
          exact ⟨_, rfl, ⟨ao1, cap1, rfl, hrd⟩, hbel⟩
      refine ⟨rq _ _ _ [] trivial ?_, ?_⟩
      · intro a w1 hC  h1
        obtain ⟨ao1, cap1, e5, hrd⟩ := h1
        have e5 : a.tmps.getD 99 undef = _ := e5
        refine Or.inl ⟨.string (strOfNums es2), ?_, rfl⟩
        have hcv := conv_str (P := Try.prog) hrd 28 9 5 Try.underlying28 Try.underlying5 Try.underlying9
        go_simp
      refine ⟨rq _ _ _ [(4, .pointer (some ⟨p, 0, none⟩))] ⟨⟨by kernel_rfl, rfl⟩, trivial⟩ ?_, ?_⟩
      · intro a w1 hC e4
        refine Or.inl ⟨.agg #[.slice xo xn xc, .slice yo yn yc, .int .i64 S1.asks], ?_, rfl⟩
        have f0 := (HC1.out.below (Nat.succ_pos _) hC).cell 0 _ rfl
        have f1 := (HC1.out.below (Nat.succ_pos _) hC).cell 1 _ rfl
        have f2 := (HC1.out.below (Nat.succ_pos _) hC).cell 2 _ rfl
        go_simp
      refine ⟨rq _ _ _ [] trivial ?_, ?_⟩
      · intro a w1 hC  (h3 : a.tmps.getD 101 undef = _) h1
        refine Or.inr (Or.inl ⟨10, #[.agg #[.slice xo xn xc, .slice yo yn yc, .int .i64 S1.asks]], ?_, ?_⟩)
        · go_simp
        · refine (X.enc_to ⟨xo, xn, xc, yo, yn, yc⟩ S1 w1 (HR1.out.below hC)).mono ?_
          rintro e w2 ⟨vv, rfl, hown, hbel⟩
          rw [HE1.out] at hown
          obtain ⟨ao1, cap1, rfl, hrd⟩ := hown.rd
          exact ⟨_, rfl, ⟨ao1, cap1, rfl, hrd⟩, hbel⟩
      refine ⟨rq _ _ _ [] trivial ?_, ?_⟩
      · intro a w1 hC  h4
        obtain ⟨ao1, cap1, e5, hrd⟩ := h4
        have e5 : a.tmps.getD 102 undef = _ := e5
        refine Or.inl ⟨.string (strOfNums es), ?_, rfl⟩
        have hcv := conv_str (P := Try.prog) hrd 28 9 5 Try.underlying28 Try.underlying5 Try.underlying9
        go_simp
      refine ⟨rq _ _ _ [] trivial ?_, ?_⟩
      · intro a w1 hC  (h2 : a.tmps.getD 100 undef = _) (h5 : a.tmps.getD 103 undef = _)
        refine Or.inl ⟨.bool u, ?_, rfl⟩
        have hs1 := HTX.out
        go_simp
      refine ⟨rq _ _ _ [(10, .pointer (some ⟨q, 0, none⟩))] ⟨⟨by kernel_rfl, rfl⟩, trivial⟩ ?_, ?_⟩
      · intro a w1 hC e10
        refine Or.inl ⟨.agg #[.slice zo zn zc, .slice uo un uc, .int .i64 S2.asks], ?_, rfl⟩
        have f0 := (HC2.out.below (Nat.succ_pos _) hC).cell 0 _ rfl
        have f1 := (HC2.out.below (Nat.succ_pos _) hC).cell 1 _ rfl
        have f2 := (HC2.out.below (Nat.succ_pos _) hC).cell 2 _ rfl
        go_simp
      refine ⟨rq _ _ _ [(4, .pointer (some ⟨p, 0, none⟩))] ⟨⟨by kernel_rfl, rfl⟩, trivial⟩ ?_, ?_⟩
      · intro a w1 hC e4
        refine Or.inl ⟨.agg #[.slice xo xn xc, .slice yo yn yc, .int .i64 S1.asks], ?_, rfl⟩
        have f0 := (HC1.out.below (Nat.succ_pos _) hC).cell 0 _ rfl
        have f1 := (HC1.out.below (Nat.succ_pos _) hC).cell 1 _ rfl
        have f2 := (HC1.out.below (Nat.succ_pos _) hC).cell 2 _ rfl
        go_simp
      refine ⟨rq _ _ _ [] trivial ?_, ?_⟩
      · intro a w1 hC  (h7 : a.tmps.getD 105 undef = _) (h8 : a.tmps.getD 106 undef = _) h4
        refine Or.inr (Or.inl ⟨14, #[.agg #[.slice zo zn zc, .slice uo un uc, .int .i64 S2.asks], .agg #[.slice xo xn xc, .slice yo yn yc, .int .i64 S1.asks]], ?_, ?_⟩)
        · go_simp
        · refine (eq_to ⟨zo, zn, zc, uo, un, uc⟩ ⟨xo, xn, xc, yo, yn, yc⟩ S2 S1 u HU.out w1 (HR2.out.below hC) (HR1.out.below hC)).mono ?_
          rintro e w2 ⟨rfl, hbel⟩
          exact ⟨_, rfl, rfl, hbel⟩
      refine ⟨rq _ _ _ [] trivial ?_, ?_⟩
      · intro a w1 hC  (h6 : a.tmps.getD 104 undef = _) (h9 : a.tmps.getD 107 undef = _)
        refine Or.inl ⟨.bool true, ?_, rfl⟩
        go_simp
      refine ⟨rq _ _ _ [] trivial ?_, ?_⟩
      · intro a w1 hC  (h10 : a.tmps.getD 108 undef = _) (h9 : a.tmps.getD 107 undef = _)
        refine Or.inl ⟨.bool true, ?_, rfl⟩
        go_simp
      refine ⟨rq _ _ _ [(10, .pointer (some ⟨q, 0, none⟩))] ⟨⟨by kernel_rfl, rfl⟩, trivial⟩ ?_, ?_⟩
      · intro a w1 hC e10 (h11 : a.tmps.getD 109 undef = _)
        refine Or.inl ⟨h11, ?_⟩
        refine Or.inl ⟨.agg #[.slice zo zn zc, .slice uo un uc, .int .i64 S2.asks], ?_, rfl⟩
        have f0 := (HC2.out.below (Nat.succ_pos _) hC).cell 0 _ rfl
        have f1 := (HC2.out.below (Nat.succ_pos _) hC).cell 1 _ rfl
        have f2 := (HC2.out.below (Nat.succ_pos _) hC).cell 2 _ rfl
        go_simp
      refine ⟨rq _ _ _ [(4, .pointer (some ⟨p, 0, none⟩))] ⟨⟨by kernel_rfl, rfl⟩, trivial⟩ ?_, ?_⟩
      · intro a w1 hC e4 (h11 : a.tmps.getD 109 undef = _)
        refine Or.inl ⟨h11, ?_⟩
        refine Or.inl ⟨.agg #[.slice xo xn xc, .slice yo yn yc, .int .i64 S1.asks], ?_, rfl⟩
        have f0 := (HC1.out.below (Nat.succ_pos _) hC).cell 0 _ rfl
        have f1 := (HC1.out.below (Nat.succ_pos _) hC).cell 1 _ rfl
        have f2 := (HC1.out.below (Nat.succ_pos _) hC).cell 2 _ rfl
        go_simp
      refine ⟨rq _ _ _ [] trivial ?_, ?_⟩
      · intro a w1 hC  (h12 : a.tmps.getD 110 undef = _) (h13 : a.tmps.getD 111 undef = _) (h11 : a.tmps.getD 109 undef = _) _
        refine Or.inl ⟨h11, ?_⟩
        refine Or.inr (Or.inl ⟨13, #[.agg #[.slice zo zn zc, .slice uo un uc, .int .i64 S2.asks], .agg #[.slice xo xn xc, .slice yo yn yc, .int .i64 S1.asks]], ?_, ?_⟩)
        · go_simp
        · refine (X.eq_to ⟨zo, zn, zc, uo, un, uc⟩ ⟨xo, xn, xc, yo, yn, yc⟩ S2 S1 u w1 HU.out (HR2.out.below hC) (HR1.out.below hC)).mono ?_
          rintro e w2 ⟨rfl, hbel⟩
          exact ⟨_, rfl, rfl, hbel⟩
      refine ⟨rq _ _ _ [(10, .pointer (some ⟨q, 0, none⟩))] ⟨⟨by kernel_rfl, rfl⟩, trivial⟩ ?_, ?_⟩
      · intro a w1 hC e10 (h11 : a.tmps.getD 109 undef = _)
        refine Or.inl ⟨h11, ?_⟩
        refine Or.inl ⟨.agg #[.slice zo zn zc, .slice uo un uc, .int .i64 S2.asks], ?_, rfl⟩
        have f0 := (HC2.out.below (Nat.succ_pos _) hC).cell 0 _ rfl
        have f1 := (HC2.out.below (Nat.succ_pos _) hC).cell 1 _ rfl
        have f2 := (HC2.out.below (Nat.succ_pos _) hC).cell 2 _ rfl
        go_simp
      refine ⟨rq _ _ _ [(4, .pointer (some ⟨p, 0, none⟩))] ⟨⟨by kernel_rfl, rfl⟩, trivial⟩ ?_, ?_⟩
      · intro a w1 hC e4 (h11 : a.tmps.getD 109 undef = _)
        refine Or.inl ⟨h11, ?_⟩
        refine Or.inl ⟨.agg #[.slice xo xn xc, .slice yo yn yc, .int .i64 S1.asks], ?_, rfl⟩
        have f0 := (HC1.out.below (Nat.succ_pos _) hC).cell 0 _ rfl
        have f1 := (HC1.out.below (Nat.succ_pos _) hC).cell 1 _ rfl
        have f2 := (HC1.out.below (Nat.succ_pos _) hC).cell 2 _ rfl
        go_simp
      refine ⟨rq _ _ _ [] trivial ?_, ?_⟩
      · intro a w1 hC  (h15 : a.tmps.getD 113 undef = _) (h16 : a.tmps.getD 114 undef = _) (h14 : a.tmps.getD 112 undef = _) (h11 : a.tmps.getD 109 undef = _)
        refine Or.inl ⟨h11, ?_⟩
        refine Or.inr (Or.inl ⟨14, #[.agg #[.slice zo zn zc, .slice uo un uc, .int .i64 S2.asks], .agg #[.slice xo xn xc, .slice yo yn yc, .int .i64 S1.asks]], ?_, ?_⟩)
        · go_simp
        · refine (eq_to ⟨zo, zn, zc, uo, un, uc⟩ ⟨xo, xn, xc, yo, yn, yc⟩ S2 S1 u HU.out w1 (HR2.out.below hC) (HR1.out.below hC)).mono ?_
          rintro e w2 ⟨rfl, hbel⟩
          exact ⟨_, rfl, rfl, hbel⟩
      refine ⟨rq _ _ _ [] trivial ?_, ?_⟩
      · intro a w1 hC  (h14 : a.tmps.getD 112 undef = _) (h17 : a.tmps.getD 115 undef = _) (h11 : a.tmps.getD 109 undef = _)
        refine Or.inl ⟨h11, ?_⟩
        refine Or.inl ⟨.bool true, ?_, rfl⟩
        go_simp
      refine ⟨rq _ _ _ [] trivial ?_, ?_⟩
      · intro a w1 hC  (h11 : a.tmps.getD 109 undef = _) (h18 : a.tmps.getD 116 undef = _)
        refine Or.inl ⟨.bool true, ?_, rfl⟩
        go_simp
      refine ⟨rq _ _ _ [] trivial ?_, ?_⟩
      · intro a w1 hC  (h19 : a.tmps.getD 117 undef = _) (h17 : a.tmps.getD 115 undef = _) (h0 : a.tmps.getD 98 undef = _) h1 (h2 : a.tmps.getD 100 undef = _) (h3 : a.tmps.getD 101 undef = _) h4 (h5 : a.tmps.getD 103 undef = _) (h6 : a.tmps.getD 104 undef = _) (h7 : a.tmps.getD 105 undef = _) (h8 : a.tmps.getD 106 undef = _) (h9 : a.tmps.getD 107 undef = _) (h10 : a.tmps.getD 108 undef = _) (h11 : a.tmps.getD 109 undef = _) (h12 : a.tmps.getD 110 undef = _) (h13 : a.tmps.getD 111 undef = _) (h14 : a.tmps.getD 112 undef = _) (h15 : a.tmps.getD 113 undef = _) (h16 : a.tmps.getD 114 undef = _) _ (h18 : a.tmps.getD 116 undef = _) _
        refine Or.inl ⟨.bool true, ?_, rfl⟩
        go_simp
      exact trivial
    case hstZ => repeat (first | exact trivial | refine ⟨Stays.is _, ?_⟩ | refine ⟨Stays.rd _ _, ?_⟩)
    case hendZ =>
      intro w1 hC
      rintro _ rfl
      intro x1 h1
      rintro _ rfl _ rfl
      intro x4 h4
      rintro _ rfl _ rfl _ rfl _ rfl _ rfl _ rfl _ rfl _ rfl _ rfl _ rfl _ rfl _ rfl _ rfl _ rfl _ rfl _ rfl
      simp only [Ends, Act.put, List.setIfInBounds_toArray, List.set_cons_succ, List.set_cons_zero]
      go_wp2_with fail
      go_ret
      exact ⟨rfl, by first | exact Bl.step HBL.out hC | (rw [← HP.out]; exact Bl.step HBL.out hC)⟩
end Go.Proofs.Ytnbegmlbkjjggaa
