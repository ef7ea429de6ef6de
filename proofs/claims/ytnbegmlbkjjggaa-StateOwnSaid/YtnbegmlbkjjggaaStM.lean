/- state's laws: diapauselaw13.may. -/
import Derived.Test.YtnbegmlbkjjggaaStW
import Derived.Deep.Cut
import Derived.Deep.CutBlock
namespace Go.Proofs.Ytnbegmlbkjjggaa
open Go.RowKit
set_option linter.unusedVariables false

def okL (l : Int × Int) : Bool := okN l.1 && okN l.2
def mayF (f : Fm) : Bool := decide (f.ls.length ≤ 32) && decide (f.lb.length ≤ 40) && f.ls.all okV && okN f.fn && okN f.pc && okN f.base && f.lb.all okL
def mayS (S : St) : Bool := decide (S.vs.length ≤ 1000) && decide (S.fs.length ≤ 32) && S.vs.all okV && decide (-1 ≤ S.asks) && decide (S.asks ≤ 10000) && S.fs.all mayF

theorem RdG.below5 {w w' : World} {ao : Option Addr} {n cap : Nat} {xs : List Fm} (h : RdG 5 FrR w ao n cap xs) (hb : Below w.heap.size w w') : RdG 5 FrR w' ao n cap xs := (RdG.frrx h).below hb |>.now
theorem RdG.at5 {w : World} {ao : Option Addr} {n cap : Nat} {xs : List Fm} (h : RdG 5 FrR w ao n cap xs) {i : Nat} (hi : i < n) :
    ∃ b off f lo ln lc bo bn bc, ao = some ⟨b, off, none⟩ ∧ xs[i]? = some f ∧ w.cell? ⟨b, off + i * 5, none⟩ = some (.int .i64 f.fn) ∧ w.cell? ⟨b, off + i * 5 + 1, none⟩ = some (.int .i64 f.pc) ∧ w.cell? ⟨b, off + i * 5 + 2, none⟩ = some (.slice lo ln lc) ∧ w.cell? ⟨b, off + i * 5 + 3, none⟩ = some (.int .i64 f.base) ∧ w.cell? ⟨b, off + i * 5 + 4, none⟩ = some (.slice bo bn bc) ∧
      RdG 2 PaR w lo ln lc f.ls ∧ RdG 2 PaR w bo bn bc f.lb ∧ (Lit.int .i64 f.fn).wf = true ∧ (Lit.int .i64 f.pc).wf = true ∧ (Lit.int .i64 f.base).wf = true := by
  have hl : i < xs.length := by rw [h.len]; exact hi
  obtain ⟨f, hx⟩ : ∃ x, xs[i]? = some x := ⟨xs[i], List.getElem?_eq_getElem hl⟩
  obtain ⟨b, off, cs, e, _, ⟨lo, ln, lc, bo, bn, bc, rfl, h1, h2, h3, h4, h5⟩, hc⟩ := h.cell i _ hx
  exact ⟨b, off, f, lo, ln, lc, bo, bn, bc, e, hx, by simpa using hc 0 _ rfl, hc 1 _ rfl, hc 2 _ rfl, hc 3 _ rfl, hc 4 _ rfl, h1, h2, h3, h4, h5⟩

set_option maxRecDepth 10000 in
set_option maxHeartbeats 2000000 in
theorem may_to (V : SV) (S : St) (t : Bool) (h : mayS S = t) (w : World) (hr : StR V S w) :
    Calls Try.prog 12 #[.agg (V.cells S).toArray] w fun e w' => e = .returned (.bool t) ∧ Below w.heap.size w w' := by
  obtain ⟨vo, vn, vc, fo, fn, fc⟩ := V
  obtain ⟨vs, fs, asks⟩ := S
  simp only [SV.cells]
  have hv := hr.v
  have hf := hr.f
  simp only at hv hf
  have hv63 := hv.cap63.1
  have hf63 := hf.cap63.1
  have hb0 : Below w.heap.size w (w.alloc (.cells #[.slice vo vn vc, .slice fo fn fc, .int .i64 asks] 25)) := Bl.alloc (Bl.refl _) _
  obtain ⟨p, hp⟩ : ∃ p, w.heap.size = p := ⟨_, rfl⟩
  have hx0 := Cel.new w [.slice vo vn vc, .slice fo fn fc, .int .i64 asks] 25
  rw [hp] at hx0
  obtain ⟨w0, hw0⟩ : ∃ w0, (w.alloc (.cells #[.slice vo vn vc, .slice fo fn fc, .int .i64 asks] 25)) = w0 := ⟨_, rfl⟩
  have hz0 : w0.heap.size = p + 1 := by rw [← hw0]; simp [hp]
  rw [hw0, hp] at hb0
  have hx1 : Cel w0 p [.slice vo vn vc, .slice fo fn fc, .int .i64 asks] := by rw [← hw0]; exact hx0
  have HB0 := hid hb0; have HX0 := hid hx1; have HZ0 := hid hz0; have HW0 := hid hw0; have HP := hid hp
  have HV := hid hv; have HF := hid hf
  have HLV := hid hv.len; have HLF := hid hf.len
  have H := hid h
  clear h hb0 hx0 hx1 hz0 hw0 hp hv hf hr
  have hvl : vs.length = vn := HLV.out
  have hfl : fs.length = fn := HLF.out
  have g0 := HX0.out.cell 0 _ rfl
  have g1 := HX0.out.cell 1 _ rfl
  have g2 := HX0.out.cell 2 _ rfl
  by_cases c1 : 1000 < vn
  ·
    --DEV{
    go_enter Try.func12, Try.ntmps12
    go_wp2_with fail
    rw [HW0.out, HP.out]
    go_wp2_with fail
    go_ret
    exact ⟨bool_leaf H.out (by simp [mayS]; omega), HB0.out⟩
    --DEV}
  by_cases c2 : 32 < fn
  ·
    --DEV{
    go_enter Try.func12, Try.ntmps12
    go_wp2_with fail
    rw [HW0.out, HP.out]
    go_wp2_with fail
    go_ret
    exact ⟨bool_leaf H.out (by simp [mayS]; omega), HB0.out⟩
    --DEV}
  have HA : ∀ b, Hid (vs.all okV = b) → ∀ w', Below p w0 w' → Calls Try.prog 27 #[.slice vo vn vc] w' fun e w2 => e = .returned (.bool b) ∧ Below w'.heap.size w' w2 := fun b hb w' hw' =>
    all_to vo vn vc vs b hb.out w' (HV.out.below2 (by rw [HP.out]; exact HB0.out.trans hw'))
  cases c3 : vs.all okV
  ·
    --DEV{
    have HA1 := hid (HA false (hid c3))
    clear HA
    go_enter Try.func12, Try.ntmps12
    go_wp2_with fail
    rw [HW0.out, HP.out]
    go_wp2_with (go_at_call 27; refine (HA1.out _ (Below.refl _ _)).mono ?_; rintro e w1 ⟨rfl, hb1⟩; have hb1 := hid hb1)
    go_ret
    exact ⟨bool_leaf H.out (by simp [mayS, c3]), (by first | exact HB0.out.trans (hb1.out.mono (by rw [HZ0.out]; omega)) | (rw [HP.out]; exact HB0.out.trans (hb1.out.mono (by rw [HZ0.out]; omega))))⟩
    --DEV}
  have HA1 := hid (HA true (hid c3))
  clear HA
  by_cases c4 : asks < -1
  ·
    --DEV{
    go_enter Try.func12, Try.ntmps12
    go_wp2_with fail
    rw [HW0.out, HP.out]
    go_wp2_with (go_at_call 27; refine (HA1.out _ (Below.refl _ _)).mono ?_; rintro e w1 ⟨rfl, hb1⟩; have g2 := (hb1.cell (p := ⟨p, 2, none⟩) (by rw [HZ0.out]; exact Nat.lt_succ_self _)).trans g2; have hb1 := hid hb1)
    go_ret
    exact ⟨bool_leaf H.out (by simp [mayS, c3]; omega), (by first | exact HB0.out.trans (hb1.out.mono (by rw [HZ0.out]; omega)) | (rw [HP.out]; exact HB0.out.trans (hb1.out.mono (by rw [HZ0.out]; omega))))⟩
    --DEV}
  by_cases c5 : 10000 < asks
  ·
    --DEV{
    go_enter Try.func12, Try.ntmps12
    go_wp2_with fail
    rw [HW0.out, HP.out]
    go_wp2_with (go_at_call 27; refine (HA1.out _ (Below.refl _ _)).mono ?_; rintro e w1 ⟨rfl, hb1⟩; have g2 := (hb1.cell (p := ⟨p, 2, none⟩) (by rw [HZ0.out]; exact Nat.lt_succ_self _)).trans g2; have hb1 := hid hb1)
    go_ret
    exact ⟨bool_leaf H.out (by simp [mayS, c3]; omega), (by first | exact HB0.out.trans (hb1.out.mono (by rw [HZ0.out]; omega)) | (rw [HP.out]; exact HB0.out.trans (hb1.out.mono (by rw [HZ0.out]; omega))))⟩
    --DEV}
  have d1 : decide ((1000 : Int) < (vn : Int)) = false := by simp; omega
  have d2 : decide ((32 : Int) < (fn : Int)) = false := by simp; omega
  have d4 : decide (asks < -1) = false := by simp; omega
  have d5 : decide (10000 < asks) = false := by simp; omega
  go_enter Try.func12, Try.ntmps12
  go_wp2_with fail
  rw [HW0.out, HP.out]
  go_wp2_with (go_at_call 27; refine (HA1.out _ (Below.refl _ _)).mono ?_; rintro e w1 ⟨rfl, hb1⟩; have g2 := (hb1.cell (p := ⟨p, 2, none⟩) (by rw [HZ0.out]; exact Nat.lt_succ_self _)).trans g2; have hb1 := hid hb1)
  have HBS : Hid (Below (p + 1) w0 w1) := hid (hb1.out.mono (by rw [HZ0.out]; omega))
  have HZ1 : Hid (p + 1 ≤ w1.heap.size) := hid (by have := hb1.out.size; rw [HZ0.out] at this; exact this)
  clear hb1 g0 g1 g2 HA1
  go_loopw [3] (fun i wr => ∃ k : Nat, k ≤ fn ∧ i = .int .i64 k ∧ Hid ((fs.take k).all mayF = true) ∧ Hid (Below (p + 1) w1 wr)) (fun i _ => fn - (intOf i).toNat)
  case atStart => exact ⟨0, Nat.zero_le _, rfl, hid rfl, hid (Below.refl _ _)⟩
  case round =>
    obtain ⟨k, hkn, rfl, Hall, hbr⟩ := hrel
    have HZr : Hid (p + 1 ≤ wr.heap.size) := hid (Nat.le_trans HZ1.out hbr.out.size)
    have hpr : p < wr.heap.size := HZr.out
    have HBR : Hid (Below (p + 1) w0 wr) := hid (HBS.out.trans hbr.out)
    have HXr := hid (HX0.out.keep (show p < p + 1 by omega) HBR.out)
    have HBW : Hid (Below p w wr) := hid (HB0.out.trans (HBR.out.mono (by omega)))
    have g1 := HXr.out.cell 1 _ rfl
    by_cases hk : k < fn
    · obtain ⟨b, off, f, lo, ln, lc, bo, bn, bc, rfl, hfk, h0, h1, h2, h3, h4, hl, hB, _, _, _⟩ := (HF.out.below5 (by rw [HP.out]; exact HBW.out)).at5 hk
      have HFK := hid hfk
      have HL := hid hl
      have HBl := hid hB
      clear hfk hl hB
      have HNO : Hid (mayF f = false → false = mayS ⟨vs, fs, asks⟩) := hid (by
        intro h
        have : fs.all mayF = false := List.all_eq_false.2 ⟨f, List.mem_of_getElem? HFK.out, by rw [h]; decide⟩
        simp [mayS, this])
      have HYE : Hid (mayF f = true → (fs.take (k + 1)).all mayF = true) := hid (by
        intro h
        rw [List.take_add_one, HFK.out, List.all_append, Hall.out]
        simp [h])
      go_upto_region 7 with fail
      obtain ⟨ws, hws⟩ : ∃ ws, wr.alloc (.cells #[.int .i64 f.fn, .int .i64 f.pc, .slice lo ln lc, .int .i64 f.base, .slice bo bn bc] 42) = ws := ⟨_, rfl⟩
      have hcq : Cel ws wr.heap.size [.int .i64 f.fn, .int .i64 f.pc, .slice lo ln lc, .int .i64 f.base, .slice bo bn bc] := by rw [← hws]; exact Cel.new wr _ _
      have HSW : Hid (Below wr.heap.size wr ws) := hid (by rw [← hws]; exact Bl.alloc (Bl.refl _) _)
      have hzs : ws.heap.size = wr.heap.size + 1 := by rw [← hws]; simp
      rw [hws]
      obtain ⟨q, hq⟩ : ∃ q, wr.heap.size = q := ⟨_, rfl⟩
      rw [hq] at hcq hzs HZr hpr
      rw [hq]
      have HQ := hid hq
      have HZS := hid hzs
      have HCQ := hid hcq
      have HBS2 : Hid (Below p w ws) := hid (HBW.out.trans (HSW.out.mono (by rw [HQ.out]; have := HZr.out; omega)))
      have HLs : Hid (RdG 2 PaR ws lo ln lc f.ls) := hid (HL.out.below2 HSW.out)
      have HBs : Hid (RdG 2 PaR ws bo bn bc f.lb) := hid (HBl.out.below2 HSW.out)
      have hqs : q < ws.heap.size := by omega
      have hl63 := HLs.out.cap63.1
      have hb63 := HBs.out.cap63.1
      have hll : f.ls.length = ln := HLs.out.len
      have hbl : f.lb.length = bn := HBs.out.len
      clear h0 h1 h2 h3 h4 hws hq hzs g1 hcq HL HBl
      have e0 := HCQ.out.cell 0 _ rfl
      have e1 := HCQ.out.cell 1 _ rfl
      have e2 := HCQ.out.cell 2 _ rfl
      have e3 := HCQ.out.cell 3 _ rfl
      have e4 := HCQ.out.cell 4 _ rfl
      by_cases n1 : 32 < ln
      · go_wp2_with fail
        go_ret
        exact ⟨bool_leaf H.out (HNO.out (by simp [mayF]; omega)), by first | exact HBS2.out | (rw [HP.out]; exact HBS2.out)⟩
      by_cases n2 : 40 < bn
      · go_wp2_with fail
        go_ret
        exact ⟨bool_leaf H.out (HNO.out (by simp [mayF]; omega)), by first | exact HBS2.out | (rw [HP.out]; exact HBS2.out)⟩
      have HB3 : ∀ {w2}, Below ws.heap.size ws w2 → Below p w w2 := fun {w2} h => HBS2.out.trans (h.mono (by have := HZS.out; have := HZr.out; omega))
      have d6 : decide ((32 : Int) < (ln : Int)) = false := by simp; omega
      have d7 : decide ((40 : Int) < (bn : Int)) = false := by simp; omega
      cases n3 : f.ls.all okV
      · have HA2 : Hid (∀ _ : Unit, Calls Try.prog 27 #[.slice lo ln lc] ws fun e w2 => e = .returned (.bool false) ∧ Below ws.heap.size ws w2) := hid fun _ => all_to lo ln lc f.ls false n3 ws HLs.out
        go_wp2_with (go_at_call 27; refine (HA2.out ()).mono ?_; rintro e w2 ⟨rfl, hb2⟩; have e0 := (hb2.cell (p := ⟨q, 0, none⟩) hqs).trans e0; have e1 := (hb2.cell (p := ⟨q, 1, none⟩) hqs).trans e1; have e3 := (hb2.cell (p := ⟨q, 3, none⟩) hqs).trans e3; have e4 := (hb2.cell (p := ⟨q, 4, none⟩) hqs).trans e4; have hb2 := hid hb2)
        go_ret
        exact ⟨bool_leaf H.out (HNO.out (by simp [mayF, n3])), by first | exact HB3 hb2.out | (rw [HP.out]; exact HB3 hb2.out)⟩
      have HA2 : Hid (∀ _ : Unit, Calls Try.prog 27 #[.slice lo ln lc] ws fun e w2 => e = .returned (.bool true) ∧ Below ws.heap.size ws w2) := hid fun _ => all_to lo ln lc f.ls true n3 ws HLs.out
      have hm0 := number_to f.fn
      cases n4 : okN f.fn
      · rw [n4] at hm0
        go_wp2_with (first | (go_at_call 28; (first | (with_reducible refine (hm0 _).mono ?_)); rintro e w9 ⟨rfl, rfl⟩) | (go_at_call 27; refine (HA2.out ()).mono ?_; rintro e w2 ⟨rfl, hb2⟩; have e0 := (hb2.cell (p := ⟨q, 0, none⟩) hqs).trans e0; have e1 := (hb2.cell (p := ⟨q, 1, none⟩) hqs).trans e1; have e3 := (hb2.cell (p := ⟨q, 3, none⟩) hqs).trans e3; have e4 := (hb2.cell (p := ⟨q, 4, none⟩) hqs).trans e4; have hb2 := hid hb2))
        go_ret
        exact ⟨bool_leaf H.out (HNO.out (by simp [mayF, n4])), by first | exact HB3 hb2.out | (rw [HP.out]; exact HB3 hb2.out)⟩
      rw [n4] at hm0
      have hm1 := number_to f.pc
      cases n5 : okN f.pc
      · rw [n5] at hm1
        go_wp2_with (first | (go_at_call 28; (first | (with_reducible refine (hm0 _).mono ?_) | (with_reducible refine (hm1 _).mono ?_)); rintro e w9 ⟨rfl, rfl⟩) | (go_at_call 27; refine (HA2.out ()).mono ?_; rintro e w2 ⟨rfl, hb2⟩; have e0 := (hb2.cell (p := ⟨q, 0, none⟩) hqs).trans e0; have e1 := (hb2.cell (p := ⟨q, 1, none⟩) hqs).trans e1; have e3 := (hb2.cell (p := ⟨q, 3, none⟩) hqs).trans e3; have e4 := (hb2.cell (p := ⟨q, 4, none⟩) hqs).trans e4; have hb2 := hid hb2))
        go_ret
        exact ⟨bool_leaf H.out (HNO.out (by simp [mayF, n5])), by first | exact HB3 hb2.out | (rw [HP.out]; exact HB3 hb2.out)⟩
      rw [n5] at hm1
      have hm2 := number_to f.base
      cases n6 : okN f.base
      · rw [n6] at hm2
        go_wp2_with (first | (go_at_call 28; (first | (with_reducible refine (hm0 _).mono ?_) | (with_reducible refine (hm1 _).mono ?_) | (with_reducible refine (hm2 _).mono ?_)); rintro e w9 ⟨rfl, rfl⟩) | (go_at_call 27; refine (HA2.out ()).mono ?_; rintro e w2 ⟨rfl, hb2⟩; have e0 := (hb2.cell (p := ⟨q, 0, none⟩) hqs).trans e0; have e1 := (hb2.cell (p := ⟨q, 1, none⟩) hqs).trans e1; have e3 := (hb2.cell (p := ⟨q, 3, none⟩) hqs).trans e3; have e4 := (hb2.cell (p := ⟨q, 4, none⟩) hqs).trans e4; have hb2 := hid hb2))
        go_ret
        exact ⟨bool_leaf H.out (HNO.out (by simp [mayF, n6])), by first | exact HB3 hb2.out | (rw [HP.out]; exact HB3 hb2.out)⟩
      rw [n6] at hm2
      go_wp2_with (first | (go_at_call 28; (first | (with_reducible refine (hm0 _).mono ?_) | (with_reducible refine (hm1 _).mono ?_) | (with_reducible refine (hm2 _).mono ?_)); rintro e w9 ⟨rfl, rfl⟩) | (go_at_call 27; refine (HA2.out ()).mono ?_; rintro e w2 ⟨rfl, hb2⟩; have e0 := (hb2.cell (p := ⟨q, 0, none⟩) hqs).trans e0; have e1 := (hb2.cell (p := ⟨q, 1, none⟩) hqs).trans e1; have e3 := (hb2.cell (p := ⟨q, 3, none⟩) hqs).trans e3; have e4 := (hb2.cell (p := ⟨q, 4, none⟩) hqs).trans e4; have hb2 := hid hb2))
      have hs2 := hb2.out.size
      have HBo : Hid (RdG 2 PaR w2 bo bn bc f.lb) := hid (HBs.out.below2 hb2.out)
      have HB2 : Hid (Below p w w2) := hid (HB3 hb2.out)
      have HB4 : Hid (Below (p + 1) w1 w2) := hid ((hbr.out.trans (HSW.out.mono (by have := HQ.out; have := HZr.out; omega))).trans (hb2.out.mono (by have := HZS.out; have := HZr.out; omega)))
      clear hb2 HB3 hm0 hm1 hm2 HA2 HCQ HLs HBs HSW
      obtain ⟨wo, hwo⟩ : ∃ wo : World, wo = wr := ⟨_, rfl⟩
      subst hwo
      go_loopw [5] (fun i wr => ∃ j : Nat, j ≤ bn ∧ i = .int .i64 j ∧ Hid ((f.lb.take j).all okL = true) ∧ wr = w2) (fun i _ => bn - (intOf i).toNat)
      case atStart => exact ⟨0, Nat.zero_le _, rfl, hid rfl, rfl⟩
      case round =>
        obtain ⟨j, hjn, rfl, Hal, rfl⟩ := hrel
        by_cases hj : j < bn
        · obtain ⟨bb, boff, x, y, rfl, hxy, h5, h6, _, _⟩ := HBo.out.at2 hj
          have HXY := hid hxy
          clear hxy
          have hm0 := number_to x
          have HNL : Hid (okL (x, y) = false → mayF f = false) := hid (by
            intro h
            have : f.lb.all okL = false := List.all_eq_false.2 ⟨(x, y), List.mem_of_getElem? HXY.out, by rw [h]; decide⟩
            simp [mayF, this])
          cases n7 : okN x
          · rw [n7] at hm0
            go_wp2_with (first | (go_at_call 28; (first | (with_reducible refine (hm0 _).mono ?_)); rintro e w9 ⟨rfl, rfl⟩))
            go_ret
            exact ⟨bool_leaf H.out (HNO.out (HNL.out (by simp [okL, n7]))), by first | exact HB2.out | (rw [HP.out]; exact HB2.out)⟩
          rw [n7] at hm0
          have hm1 := number_to y
          cases n8 : okN y
          · rw [n8] at hm1
            go_wp2_with (first | (go_at_call 28; (first | (with_reducible refine (hm0 _).mono ?_) | (with_reducible refine (hm1 _).mono ?_)); rintro e w9 ⟨rfl, rfl⟩))
            go_ret
            exact ⟨bool_leaf H.out (HNO.out (HNL.out (by simp [okL, n8]))), by first | exact HB2.out | (rw [HP.out]; exact HB2.out)⟩
          rw [n8] at hm1
          go_wp2_with (first | (go_at_call 28; (first | (with_reducible refine (hm0 _).mono ?_) | (with_reducible refine (hm1 _).mono ?_)); rintro e w9 ⟨rfl, rfl⟩))
          go_roundw
          case rel =>
            refine ⟨j + 1, by omega, by go_num, ?_, by first | rfl | trivial⟩
            rw [List.take_add_one, HXY.out, List.all_append, Hal.out]
            exact hid (by simp [okL, n7, n8])
          case measure => simp [intOf]; omega
        · have ej : j = bn := by omega
          subst ej
          have HALL : Hid (mayF f = true) := hid (by
            have := Hal.out
            rw [List.take_of_length_le (by rw [hbl]; exact Nat.le_refl _)] at this
            simp [mayF, this, n3, n4, n5, n6]
            omega)
          go_wp2_with fail
          go_roundw
          case rel => exact ⟨k + 1, by omega, by go_num, hid (HYE.out HALL.out), HB4⟩
          case measure => simp [intOf]; omega
    · have e0 : k = fn := by omega
      subst e0
      go_wp2_with fail
      go_ret
      refine ⟨bool_leaf H.out ?_, by first | exact HBW.out | (rw [HP.out]; exact HBW.out)⟩
      have := Hall.out
      rw [List.take_of_length_le (by rw [hfl]; exact Nat.le_refl _)] at this
      simp [mayS, this, c3]
      omega
end Go.Proofs.Ytnbegmlbkjjggaa
