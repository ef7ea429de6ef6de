/- state's laws: diapauselaw13.eq. -/
import Derived.Test.YtnbegmlbkjjggaaStM
import Derived.BigRegion
namespace Go.Proofs.Ytnbegmlbkjjggaa
open Go.RowKit
set_option linter.unusedVariables false

theorem eqV_at (ao ao' : Option Addr) (n n' cap cap' : Nat) (l l' : List (Int × Int)) (w : World) (hr : RdG 2 PaR w ao n cap l) (hr' : RdG 2 PaR w ao' n' cap' l') :
    ∃ t, (t = true ↔ l = l') ∧ ∀ w', Below w.heap.size w w' → Calls Try.prog 32 #[.slice ao n cap, .slice ao' n' cap'] w' fun e w2 => e = .returned (.bool t) ∧ Below w'.heap.size w' w2 :=
  ⟨l == l', beq_iff_eq, fun w' h => eqVals_to ao ao' n n' cap cap' l l' _ rfl w' (hr.below2 h) (hr'.below2 h)⟩

set_option maxRecDepth 10000 in
set_option maxHeartbeats 2000000 in
theorem eq_to (V V' : SV) (S S' : St) (t : Bool) (h : t = true ↔ S = S') (w : World) (hr : StR V S w) (hr' : StR V' S' w) :
    Calls Try.prog 14 #[.agg (V.cells S).toArray, .agg (V'.cells S').toArray] w fun e w' => e = .returned (.bool t) ∧ Below w.heap.size w w' := by
  obtain ⟨vo, vn, vc, fo, fn, fc⟩ := V
  obtain ⟨vs, fs, asks⟩ := S
  obtain ⟨vo', vn', vc', fo', fn', fc'⟩ := V'
  obtain ⟨vs', fs', asks'⟩ := S'
  simp only [SV.cells]
  have hv := hr.v
  have hf := hr.f
  have hv' := hr'.v
  have hf' := hr'.f
  simp only at hv hf hv' hf'
  have hv63 := hv.cap63.1
  have hf63 := hf.cap63.1
  have hv63' := hv'.cap63.1
  have hf63' := hf'.cap63.1
  have HNO : Hid (∀ p : (⟨vs, fs, asks⟩ : St) ≠ ⟨vs', fs', asks'⟩, false = t) := hid (fun p => by
    cases t
    · rfl
    · exact absurd (h.1 rfl) p)
  have HYE : Hid (∀ p : (⟨vs, fs, asks⟩ : St) = ⟨vs', fs', asks'⟩, true = t) := hid (fun p => (h.2 p).symm)
  obtain ⟨w0, hw0⟩ : ∃ w0, ((w.alloc (.cells #[.slice vo vn vc, .slice fo fn fc, .int .i64 asks] 25)).alloc (.cells #[.slice vo' vn' vc', .slice fo' fn' fc', .int .i64 asks'] 25)) = w0 := ⟨_, rfl⟩
  obtain ⟨p, hp⟩ : ∃ p, w.heap.size = p := ⟨_, rfl⟩
  have hb0 : Below p w w0 := by rw [← hw0, ← hp]; exact Bl.alloc (Bl.alloc (Bl.refl _) _) _
  have hx0 : Cel w0 p [.slice vo vn vc, .slice fo fn fc, .int .i64 asks] := by
    rw [← hw0, ← hp]; exact (Cel.new w [.slice vo vn vc, .slice fo fn fc, .int .i64 asks] 25).below (Nat.succ_pos _) (Bl.alloc (Bl.refl _) _)
  have hz1 : (w.alloc (.cells #[.slice vo vn vc, .slice fo fn fc, .int .i64 asks] 25)).heap.size = p + 1 := by simp [hp]
  have hx0' : Cel w0 (p + 1) [.slice vo' vn' vc', .slice fo' fn' fc', .int .i64 asks'] := by
    have := Cel.new (w.alloc (.cells #[.slice vo vn vc, .slice fo fn fc, .int .i64 asks] 25)) [.slice vo' vn' vc', .slice fo' fn' fc', .int .i64 asks'] 25
    rw [hz1] at this
    rw [← hw0]; exact this
  have hz0 : w0.heap.size = p + 2 := by rw [← hw0]; simp [hp]
  have HB0 := hid hb0; have HX0 := hid hx0; have HX0' := hid hx0'; have HZ0 := hid hz0; have HW0 := hid hw0; have HP := hid hp; have HZ1 := hid hz1
  have HV := hid hv; have HF := hid hf
  have HV' := hid hv'; have HF' := hid hf'
  have hvl := hv.len
  have hfl := hf.len
  have hvl' := hv'.len
  have hfl' := hf'.len
  obtain ⟨tv, htv, hcv⟩ := eqV_at vo vo' vn vn' vc vc' vs vs' w hv hv'
  have HCV : Hid (∀ _ : Unit, Calls Try.prog 32 #[.slice vo vn vc, .slice vo' vn' vc'] w0 fun e w2 => e = .returned (.bool tv) ∧ Below w0.heap.size w0 w2) := hid fun _ => hcv w0 (by rw [HP.out]; exact HB0.out)
  clear h hb0 hx0 hx0' hz0 hz1 hw0 hp hv hf hr hv' hf' hr' hcv
  have g0 := HX0.out.cell 0 _ rfl
  have g1 := HX0.out.cell 1 _ rfl
  have g2 := HX0.out.cell 2 _ rfl
  have g0' := HX0'.out.cell 0 _ rfl
  have g1' := HX0'.out.cell 1 _ rfl
  have g2' := HX0'.out.cell 2 _ rfl
  have HBF : ∀ {w2}, Below w0.heap.size w0 w2 → Below p w w2 := fun {w2} h => HB0.out.trans (h.mono (by rw [HZ0.out]; omega))
  cases tv
  ·
    --DEV{
    have ne : vs ≠ vs' := fun e => by have := htv.2 e; cases this
    go_enter Try.func14, Try.ntmps14
    go_wp2_with fail
    rw [HW0.out, HP.out]
    go_wp2_with (go_at_call 32; refine (HCV.out ()).mono ?_; rintro e w2 ⟨rfl, hb2⟩; have g1 := (hb2.cell (p := ⟨p, 1, none⟩) (by rw [HZ0.out]; exact Nat.lt_add_of_pos_right (by decide))).trans g1; have g2 := (hb2.cell (p := ⟨p, 2, none⟩) (by rw [HZ0.out]; exact Nat.lt_add_of_pos_right (by decide))).trans g2; have g1' := (hb2.cell (p := ⟨p + 1, 1, none⟩) (by rw [HZ0.out]; exact Nat.lt_succ_self _)).trans g1'; have g2' := (hb2.cell (p := ⟨p + 1, 2, none⟩) (by rw [HZ0.out]; exact Nat.lt_succ_self _)).trans g2'; have hb2 := hid hb2)
    go_ret
    exact ⟨bool_leaf rfl (HNO.out (by simp [ne])), by first | exact HBF hb2.out | (rw [HP.out]; exact HBF hb2.out)⟩
    --DEV}
  have EV : Hid (vs = vs') := hid (htv.1 rfl)
  clear htv hvl hvl'
  by_cases cf : fn = fn'
  rotate_left
  ·
    --DEV{
    have ne : fs ≠ fs' := fun e => cf (by rw [← hfl, ← hfl', e])
    have dn : ((fn : Int) != (fn' : Int)) = true := by simp; omega
    go_enter Try.func14, Try.ntmps14
    go_wp2_with fail
    rw [HW0.out, HP.out]
    go_wp2_with (go_at_call 32; refine (HCV.out ()).mono ?_; rintro e w2 ⟨rfl, hb2⟩; have g1 := (hb2.cell (p := ⟨p, 1, none⟩) (by rw [HZ0.out]; exact Nat.lt_add_of_pos_right (by decide))).trans g1; have g2 := (hb2.cell (p := ⟨p, 2, none⟩) (by rw [HZ0.out]; exact Nat.lt_add_of_pos_right (by decide))).trans g2; have g1' := (hb2.cell (p := ⟨p + 1, 1, none⟩) (by rw [HZ0.out]; exact Nat.lt_succ_self _)).trans g1'; have g2' := (hb2.cell (p := ⟨p + 1, 2, none⟩) (by rw [HZ0.out]; exact Nat.lt_succ_self _)).trans g2'; have hb2 := hid hb2)
    go_ret
    exact ⟨bool_leaf rfl (HNO.out (by simp [ne])), by first | exact HBF hb2.out | (rw [HP.out]; exact HBF hb2.out)⟩
    --DEV}
  subst cf
  by_cases ca : asks = asks'
  rotate_left
  ·
    --DEV{
    have dn : (asks != asks') = true := by simp [ca]
    go_enter Try.func14, Try.ntmps14
    go_wp2_with fail
    rw [HW0.out, HP.out]
    go_wp2_with (go_at_call 32; refine (HCV.out ()).mono ?_; rintro e w2 ⟨rfl, hb2⟩; have g1 := (hb2.cell (p := ⟨p, 1, none⟩) (by rw [HZ0.out]; exact Nat.lt_add_of_pos_right (by decide))).trans g1; have g2 := (hb2.cell (p := ⟨p, 2, none⟩) (by rw [HZ0.out]; exact Nat.lt_add_of_pos_right (by decide))).trans g2; have g1' := (hb2.cell (p := ⟨p + 1, 1, none⟩) (by rw [HZ0.out]; exact Nat.lt_succ_self _)).trans g1'; have g2' := (hb2.cell (p := ⟨p + 1, 2, none⟩) (by rw [HZ0.out]; exact Nat.lt_succ_self _)).trans g2'; have hb2 := hid hb2)
    go_ret
    exact ⟨bool_leaf rfl (HNO.out (by simp [ca])), by first | exact HBF hb2.out | (rw [HP.out]; exact HBF hb2.out)⟩
    --DEV}
  subst ca
  go_enter Try.func14, Try.ntmps14
  go_wp2_with fail
  rw [HW0.out, HP.out]
  go_wp2_with (go_at_call 32; refine (HCV.out ()).mono ?_; rintro e w2 ⟨rfl, hb2⟩; have g1 := (hb2.cell (p := ⟨p, 1, none⟩) (by rw [HZ0.out]; exact Nat.lt_add_of_pos_right (by decide))).trans g1; have g2 := (hb2.cell (p := ⟨p, 2, none⟩) (by rw [HZ0.out]; exact Nat.lt_add_of_pos_right (by decide))).trans g2; have g1' := (hb2.cell (p := ⟨p + 1, 1, none⟩) (by rw [HZ0.out]; exact Nat.lt_succ_self _)).trans g1'; have g2' := (hb2.cell (p := ⟨p + 1, 2, none⟩) (by rw [HZ0.out]; exact Nat.lt_succ_self _)).trans g2'; have hb2 := hid hb2)
  have HB2 : Hid (Below (p + 2) w0 w2) := hid (by have := hb2.out; rw [HZ0.out] at this; exact this)
  have HZ2 : Hid (p + 2 ≤ w2.heap.size) := hid (by have := hb2.out.size; rw [HZ0.out] at this; exact this)
  clear hb2 g0 g1 g2 g0' g1' g2' HCV HBF
  go_loopw [5] (fun i wr => ∃ k : Nat, k ≤ fn ∧ i = .int .i64 k ∧ Hid (fs.take k = fs'.take k) ∧ Hid (Below (p + 2) w2 wr)) (fun i _ => fn - (intOf i).toNat)
  case atStart => exact ⟨0, Nat.zero_le _, rfl, hid rfl, hid (Below.refl _ _)⟩
  case round =>
    obtain ⟨k, hkn, rfl, Hall, hbr⟩ := hrel
    have HZr : Hid (p + 2 ≤ wr.heap.size) := hid (Nat.le_trans HZ2.out hbr.out.size)
    have hpr : p < wr.heap.size := Nat.lt_of_lt_of_le (by omega) HZr.out
    have hpr' : p + 1 < wr.heap.size := Nat.lt_of_lt_of_le (by omega) HZr.out
    have HBR : Hid (Below (p + 2) w0 wr) := hid (HB2.out.trans hbr.out)
    have HXr := hid (HX0.out.keep (show p < p + 2 by omega) HBR.out)
    have HXr' := hid (HX0'.out.keep (show p + 1 < p + 2 by omega) HBR.out)
    have HBW : Hid (Below p w wr) := hid (HB0.out.trans (HBR.out.mono (by omega)))
    have g1 := HXr.out.cell 1 _ rfl
    have g1' := HXr'.out.cell 1 _ rfl
    by_cases hk : k < fn
    · obtain ⟨b, off, f, lo, ln, lc, bo, bn, bc, rfl, hfk, h0, h1, h2, h3, h4, hl, hB, _, _, _⟩ := (HF.out.below5 (by rw [HP.out]; exact HBW.out)).at5 hk
      obtain ⟨b', off', f', lo', ln', lc', bo', bn', bc', rfl, hfk', h0', h1', h2', h3', h4', hl', hB', _, _, _⟩ := (HF'.out.below5 (by rw [HP.out]; exact HBW.out)).at5 hk
      obtain ⟨F1, F2, F3, F4, F5⟩ := f
      obtain ⟨G1, G2, G3, G4, G5⟩ := f'
      simp only at h0 h1 h2 h3 h4 hl hB h0' h1' h2' h3' h4' hl' hB'
      have HFK := hid hfk
      have HL := hid hl
      have HBl := hid hB
      have HFK' := hid hfk'
      have HL' := hid hl'
      have HBl' := hid hB'
      clear hfk hl hB hfk' hl' hB'
      have hbw := World.block_lt_of_cell? _ _ h0
      have hbw' := World.block_lt_of_cell? _ _ h0'
      simp only at hbw hbw'
      have HNF : Hid ((⟨F1, F2, F3, F4, F5⟩ : Fm) ≠ ⟨G1, G2, G3, G4, G5⟩ → false = t) := hid (fun h => HNO.out (fun e => by
        have e2 : fs = fs' := by injection e
        have h1 := HFK.out
        rw [e2, HFK'.out] at h1
        exact h (Option.some.inj h1).symm))
      have HYF : Hid ((⟨F1, F2, F3, F4, F5⟩ : Fm) = ⟨G1, G2, G3, G4, G5⟩ → fs.take (k + 1) = fs'.take (k + 1)) := hid (fun h => by
        rw [List.take_add_one, List.take_add_one, HFK.out, HFK'.out, Hall.out, h])
      go_wp2_with fail
      go_cut [6, 7] from 38 to 47 (fun u v wc => ∃ q q' : Nat, u = .pointer (some ⟨q, 0, none⟩) ∧ v = .pointer (some ⟨q', 0, none⟩) ∧ Hid (Cel wc q [.int .i64 F1, .int .i64 F2, .slice lo ln lc, .int .i64 F4, .slice bo bn bc]) ∧ Hid (Cel wc q' [.int .i64 G1, .int .i64 G2, .slice lo' ln' lc', .int .i64 G4, .slice bo' bn' bc']) ∧ Hid (Below wr.heap.size wr wc) ∧ q < wc.heap.size ∧ q' < wc.heap.size)
      case first =>
        have hA : ∀ X : List Value, Cel ((wr.alloc (.cells #[.int .i64 F1, .int .i64 F2, .slice lo ln lc, .int .i64 F4, .slice bo bn bc] 42)).alloc (.cells X.toArray 42)).drew wr.heap.size [.int .i64 F1, .int .i64 F2, .slice lo ln lc, .int .i64 F4, .slice bo bn bc] := fun X => ((Cel.new wr [.int .i64 F1, .int .i64 F2, .slice lo ln lc, .int .i64 F4, .slice bo bn bc] 42).below (Nat.succ_pos _) (Bl.alloc (Bl.refl _) _)).below (Nat.succ_pos _) (Below.refl _ _).drew
        have hB : ∀ X : List Value, Cel ((wr.alloc (.cells #[.int .i64 G1, .int .i64 G2, .slice lo' ln' lc', .int .i64 G4, .slice bo' bn' bc'] 42)).alloc (.cells X.toArray 42)).drew wr.heap.size [.int .i64 G1, .int .i64 G2, .slice lo' ln' lc', .int .i64 G4, .slice bo' bn' bc'] := fun X => ((Cel.new wr [.int .i64 G1, .int .i64 G2, .slice lo' ln' lc', .int .i64 G4, .slice bo' bn' bc'] 42).below (Nat.succ_pos _) (Bl.alloc (Bl.refl _) _)).below (Nat.succ_pos _) (Below.refl _ _).drew
        have hz : ∀ X : List Value, (wr.alloc (.cells X.toArray 42)).heap.size = wr.heap.size + 1 := fun X => by simp
        have hA' : ∀ X : List Value, Cel ((wr.alloc (.cells X.toArray 42)).alloc (.cells #[.int .i64 F1, .int .i64 F2, .slice lo ln lc, .int .i64 F4, .slice bo bn bc] 42)).drew (wr.heap.size + 1) [.int .i64 F1, .int .i64 F2, .slice lo ln lc, .int .i64 F4, .slice bo bn bc] := fun X => (hz X) ▸ (Cel.new (wr.alloc (.cells X.toArray 42)) [.int .i64 F1, .int .i64 F2, .slice lo ln lc, .int .i64 F4, .slice bo bn bc] 42).below (Nat.succ_pos _) (Below.refl _ _).drew
        have hB' : ∀ X : List Value, Cel ((wr.alloc (.cells X.toArray 42)).alloc (.cells #[.int .i64 G1, .int .i64 G2, .slice lo' ln' lc', .int .i64 G4, .slice bo' bn' bc'] 42)).drew (wr.heap.size + 1) [.int .i64 G1, .int .i64 G2, .slice lo' ln' lc', .int .i64 G4, .slice bo' bn' bc'] := fun X => (hz X) ▸ (Cel.new (wr.alloc (.cells X.toArray 42)) [.int .i64 G1, .int .i64 G2, .slice lo' ln' lc', .int .i64 G4, .slice bo' bn' bc'] 42).below (Nat.succ_pos _) (Below.refl _ _).drew
        have hW : ∀ X Y : List Value, Below wr.heap.size wr ((wr.alloc (.cells X.toArray 42)).alloc (.cells Y.toArray 42)).drew := fun X Y => (Bl.alloc (Bl.alloc (Bl.refl _) _) _).drew
        have HA := hid hA; have HB := hid hB; have HA' := hid hA'; have HB' := hid hB'; have HW := hid hW
        clear hA hB hA' hB' hW hz
        go_region
        · go_wp2_with fail
          go_meet
          case rel => exact ⟨_, _, rfl, rfl, hid (HA.out _), hid (HB'.out _), hid (HW.out _ _), by first | (simp; done) | (simp; omega), by first | (simp; done) | (simp; omega)⟩
        · go_wp2_with fail
          go_meet
          case rel => exact ⟨_, _, rfl, rfl, hid (HA'.out _), hid (HB.out _), hid (HW.out _ _), by first | (simp; done) | (simp; omega), by first | (simp; done) | (simp; omega)⟩
      case rest =>
      obtain ⟨q, q', rfl, rfl, HCQ, HCQ', HSW, hqs, hqs'⟩ := hcut
      obtain ⟨ws, rfl⟩ : ∃ ws, ws = wc := ⟨_, rfl⟩
      have HZS : Hid (wr.heap.size ≤ ws.heap.size) := hid HSW.out.size
      have HBS2 : Hid (Below p w ws) := hid (HBW.out.trans (HSW.out.mono (by have := HZr.out; omega)))
      have HLs : Hid (RdG 2 PaR ws lo ln lc F3) := hid (HL.out.below2 HSW.out)
      have HBs : Hid (RdG 2 PaR ws bo bn bc F5) := hid (HBl.out.below2 HSW.out)
      have HLs' : Hid (RdG 2 PaR ws lo' ln' lc' G3) := hid (HL'.out.below2 HSW.out)
      have HBs' : Hid (RdG 2 PaR ws bo' bn' bc' G5) := hid (HBl'.out.below2 HSW.out)
      have HB3 : Hid (∀ w3, Below ws.heap.size ws w3 → Below p w w3) := hid fun w3 h => HBS2.out.trans (h.mono (by have := HZS.out; have := HZr.out; omega))
      have hl63 := HLs.out.cap63.1
      have hb63 := HBs.out.cap63.1
      have hl63' := HLs'.out.cap63.1
      have hb63' := HBs'.out.cap63.1
      have HLL := hid HLs.out.len
      have HBL := hid HBs.out.len
      have HLL' := hid HLs'.out.len
      have HBL' := hid HBs'.out.len
      clear h0 h1 h2 h3 h4 h0' h1' h2' h3' h4' g1 g1' HL HBl HL' HBl' hbw hbw' hpr hpr'
      have e0 := HCQ.out.cell 0 _ rfl
      have e1 := HCQ.out.cell 1 _ rfl
      have e2 := HCQ.out.cell 2 _ rfl
      have e3 := HCQ.out.cell 3 _ rfl
      have e4 := HCQ.out.cell 4 _ rfl
      have e0' := HCQ'.out.cell 0 _ rfl
      have e1' := HCQ'.out.cell 1 _ rfl
      have e2' := HCQ'.out.cell 2 _ rfl
      have e3' := HCQ'.out.cell 3 _ rfl
      have e4' := HCQ'.out.cell 4 _ rfl
      by_cases n1 : F1 = G1
      case neg =>
        have dn : (F1 != G1) = true := by simp [n1]
        go_wp2_with fail
        go_ret
        exact ⟨bool_leaf rfl (HNF.out (by simp [n1])), by first | exact HBS2.out | (rw [HP.out]; exact HBS2.out)⟩
      subst n1
      by_cases n2 : F2 = G2
      case neg =>
        have dn : (F2 != G2) = true := by simp [n2]
        go_wp2_with fail
        go_ret
        exact ⟨bool_leaf rfl (HNF.out (by simp [n2])), by first | exact HBS2.out | (rw [HP.out]; exact HBS2.out)⟩
      subst n2
      by_cases n3 : F4 = G4
      case neg =>
        have dn : (F4 != G4) = true := by simp [n3]
        go_wp2_with fail
        go_ret
        exact ⟨bool_leaf rfl (HNF.out (by simp [n3])), by first | exact HBS2.out | (rw [HP.out]; exact HBS2.out)⟩
      subst n3
      obtain ⟨tl, htl, hcl⟩ := eqV_at lo lo' ln ln' lc lc' F3 G3 ws HLs.out HLs'.out
      have HC2 : Hid (∀ _ : Unit, Calls Try.prog 32 #[.slice lo ln lc, .slice lo' ln' lc'] ws fun e w3 => e = .returned (.bool tl) ∧ Below ws.heap.size ws w3) := hid fun _ => hcl ws (Below.refl _ _)
      have HTL := hid htl
      clear htl hcl
      cases tl
      · have n4 : F3 ≠ G3 := fun e => by have := HTL.out.2 e; cases this
        go_wp2_with (go_at_call 32; refine (HC2.out ()).mono ?_; rintro e w3 ⟨rfl, hb3⟩; have e4 := (hb3.cell (p := ⟨q, 4, none⟩) hqs).trans e4; have e4' := (hb3.cell (p := ⟨q', 4, none⟩) hqs').trans e4'; have hb3 := hid hb3)
        go_ret
        exact ⟨bool_leaf rfl (HNF.out (by simp [n4])), by first | exact HB3.out _ hb3.out | (rw [HP.out]; exact HB3.out _ hb3.out)⟩
      have EL : Hid (F3 = G3) := hid (HTL.out.1 rfl)
      by_cases n5 : bn = bn'
      case neg =>
        have dn : ((bn : Int) != (bn' : Int)) = true := by simp; omega
        have n6 : F5 ≠ G5 := fun e => n5 (by rw [← HBL.out, ← HBL'.out, e])
        go_wp2_with (go_at_call 32; refine (HC2.out ()).mono ?_; rintro e w3 ⟨rfl, hb3⟩; have e4 := (hb3.cell (p := ⟨q, 4, none⟩) hqs).trans e4; have e4' := (hb3.cell (p := ⟨q', 4, none⟩) hqs').trans e4'; have hb3 := hid hb3)
        go_ret
        exact ⟨bool_leaf rfl (HNF.out (by simp [n6])), by first | exact HB3.out _ hb3.out | (rw [HP.out]; exact HB3.out _ hb3.out)⟩
      subst n5
      go_wp2_with (go_at_call 32; refine (HC2.out ()).mono ?_; rintro e w3 ⟨rfl, hb3⟩; have e4 := (hb3.cell (p := ⟨q, 4, none⟩) hqs).trans e4; have e4' := (hb3.cell (p := ⟨q', 4, none⟩) hqs').trans e4'; have hb3 := hid hb3)
      have hs3 := hb3.out.size
      have HBo : Hid (RdG 2 PaR w3 bo bn bc F5) := hid (HBs.out.below2 hb3.out)
      have HBo' : Hid (RdG 2 PaR w3 bo' bn bc' G5) := hid (HBs'.out.below2 hb3.out)
      have HB5 : Hid (Below p w w3) := hid (HB3.out _ hb3.out)
      have HB4 : Hid (Below (p + 2) w2 w3) := hid ((hbr.out.trans (HSW.out.mono HZr.out)).trans (hb3.out.mono (by have := HZS.out; have := HZr.out; omega)))
      have HE4 := hid e4
      have HE4' := hid e4'
      have hq3 : q < w3.heap.size := by omega
      have hq3' : q' < w3.heap.size := by omega
      have HZ3 : Hid (p + 2 ≤ w3.heap.size) := hid (by have := HZr.out; have := HZS.out; omega)
      clear hb3 HC2 HCQ HLs HBs HSW HCQ' HLs' HBs' e0 e1 e2 e3 e4 e0' e1' e2' e3' e4' HB3
      obtain ⟨wo, hwo⟩ : ∃ wo : World, wo = wr := ⟨_, rfl⟩
      subst hwo
      go_loopw [8] (fun i wr => ∃ j : Nat, j ≤ bn ∧ i = .int .i64 j ∧ Hid (F5.take j = G5.take j) ∧ Hid (Below w3.heap.size w3 wr)) (fun i _ => bn - (intOf i).toNat)
      case atStart => exact ⟨0, Nat.zero_le _, rfl, hid rfl, hid (Below.refl _ _)⟩
      case round =>
        obtain ⟨j, hjn, rfl, Hal, hbi⟩ := hrel
        have HB6 : Hid (Below p w wr) := hid (HB5.out.trans (hbi.out.mono (by have := HZ3.out; omega)))
        have HB7 : Hid (Below (p + 2) w2 wr) := hid (HB4.out.trans (hbi.out.mono HZ3.out))
        have e4 := (hbi.out.cell (p := ⟨q, 4, none⟩) hq3).trans HE4.out
        have e4' := (hbi.out.cell (p := ⟨q', 4, none⟩) hq3').trans HE4'.out
        by_cases hj : j < bn
        · obtain ⟨bb, boff, x, y, rfl, hxy, h5, h6, _, _⟩ := (HBo.out.below2 hbi.out).at2 hj
          obtain ⟨bb', boff', x', y', rfl, hxy', h5', h6', _, _⟩ := (HBo'.out.below2 hbi.out).at2 hj
          have HXY := hid hxy
          have HXY' := hid hxy'
          clear hxy hxy'
          have HNL : Hid ((x, y) ≠ (x', y') → F5 ≠ G5) := hid (fun h e => by
            have h1 := HXY.out
            rw [e, HXY'.out] at h1
            exact h (Option.some.inj h1).symm)
          by_cases n7 : x = x'
          case neg =>
            have dn : (x != x') = true := by simp [n7]
            have n8 : F5 ≠ G5 := HNL.out (by simp [n7])
            go_wp2_with fail
            go_quiet (fail)
            go_wp2_with fail
            go_ret
            exact ⟨bool_leaf rfl (HNF.out (by simp [n8])), by first | exact HB6.out.trans (below_drewN _ _ _) | (rw [HP.out]; exact HB6.out.trans (below_drewN _ _ _))⟩
          subst n7
          by_cases n9 : y = y'
          case neg =>
            have dn : (y != y') = true := by simp [n9]
            have n8 : F5 ≠ G5 := HNL.out (by simp [n9])
            go_wp2_with fail
            go_quiet (fail)
            go_wp2_with fail
            go_ret
            exact ⟨bool_leaf rfl (HNF.out (by simp [n8])), by first | exact HB6.out.trans (below_drewN _ _ _) | (rw [HP.out]; exact HB6.out.trans (below_drewN _ _ _))⟩
          subst n9
          go_wp2_with fail
          go_quiet (fail)
          go_wp2_with fail
          go_roundw
          case rel =>
            refine ⟨j + 1, by omega, by go_num, ?_, hid (hbi.out.trans (below_drewN _ _ _))⟩
            rw [List.take_add_one, List.take_add_one, HXY.out, HXY'.out, Hal.out]
            exact hid rfl
          case measure => simp [intOf]; omega
        · have ej : j = bn := by omega
          subst ej
          have HALL : Hid (F5 = G5) := hid (by
            have := Hal.out
            rwa [List.take_of_length_le (by rw [HBL.out]; exact Nat.le_refl _), List.take_of_length_le (by rw [HBL'.out]; exact Nat.le_refl _)] at this)
          go_wp2_with fail
          go_roundw
          case rel => exact ⟨k + 1, by omega, by go_num, hid (HYF.out (by rw [EL.out, HALL.out])), HB7⟩
          case measure => simp [intOf]; omega
    · have e0 : k = fn := by omega
      subst e0
      go_wp2_with fail
      go_ret
      refine ⟨bool_leaf rfl (HYE.out ?_), by first | exact HBW.out | (rw [HP.out]; exact HBW.out)⟩
      have := Hall.out
      rw [List.take_of_length_le (by rw [hfl]; exact Nat.le_refl _), List.take_of_length_le (by rw [hfl']; exact Nat.le_refl _)] at this
      rw [EV.out, this]
end Go.Proofs.Ytnbegmlbkjjggaa
