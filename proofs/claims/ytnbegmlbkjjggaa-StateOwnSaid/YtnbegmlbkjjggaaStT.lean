/- state's laws: diapauselaw13.tells. Written by gen_sttells.py. -/
import Derived.Test.YtnbegmlbkjjggaaStB
namespace Go.Proofs.Ytnbegmlbkjjggaa
open Go.RowKit
set_option linter.unusedVariables false

set_option maxRecDepth 100000 in
set_option maxHeartbeats 4000000 in
theorem tells_to (X : StSpec) (bo : Option Addr) (m bc : Nat) (es : List Int) (w : World) (hr : Rd .u8 w bo m bc es) (hm : m ≤ 1000002) :
    Calls Try.prog 17 #[.slice bo m bc] w fun e w' => e = .returned (.bool true) ∧ Below w.heap.size w w' := by
  have hbs : ∀ x ∈ es, 0 ≤ x ∧ x ≤ 255 := fun x hx => bounds_u8 (hr.wf x hx)
  have hmc := hr.le
  have hc63 := hr.cap63
  have HR := hid hr
  have HBS := hid hbs
  clear hr hbs
  go_enter Try.func17, Try.ntmps17
  go_wp2_with fail
  refine (X.dec_to bo m bc es w HR.out hm).mono ?_
  rintro e w1 ⟨⟨vo, vn, vc, fo, fn, fc⟩, ⟨vs, fs, sa⟩, c, rfl, hd, hst, hb1⟩
  simp only [SV.cells]
  obtain ⟨q, hq⟩ : ∃ q, w1.heap.size = q := ⟨_, rfl⟩
  obtain ⟨w2, hw2⟩ : ∃ w2, w1.alloc (.cells #[.slice vo vn vc, .slice fo fn fc, .int .i64 sa] 25) = w2 := ⟨_, rfl⟩
  have hcs : Cel w2 q [.slice vo vn vc, .slice fo fn fc, .int .i64 sa] := by rw [← hw2, ← hq]; exact Cel.new _ _ _
  have ha : Below w1.heap.size w1 w2 := by rw [← hw2]; exact Bl.alloc (Bl.refl _) _
  have HSR := hid (hst.below ha)
  have hq2 : q < w2.heap.size := by rw [← hw2]; simp [hq]
  obtain ⟨k, hk⟩ : ∃ k, w.heap.size = k := ⟨_, rfl⟩
  have HPW : Hid (w.heap.size = w.heap.size) := hid rfl
  have HBW : Hid (Below w.heap.size w w2) := hid (hb1.trans (ha.mono hb1.size))
  have HRB := hid (HR.out.below HBW.out)
  have HCS := hid hcs
  have HW2 := hid hw2
  have HQ := hid hq
  have HD := hid hd
  clear hw2 hq hcs ha hst hb1 hd hk
  rcases HD.out with ⟨hd, rfl⟩ | ⟨hd, hz, rfl⟩
  · obtain ⟨hmy, hen, _⟩ := X.back es _ HBS.out hd
    have HMY := hid hmy
    have HEN := hid hen
    clear hmy hen hd
    go_wp2_with fail
    rw [HW2.out, HQ.out]
    refine wp_region_below (by kernel_rfl) [Is (.agg #[.slice vo vn vc, .slice fo fn fc, .int .i64 sa]), Is (.bool true), Is (.bool true), Is (.agg #[.slice vo vn vc, .slice fo fn fc, .int .i64 sa]), IsRd .u8 es, Is (.string (strOfNums es)), Is (.slice bo m bc), Is (.string (strOfNums es)), Is (.bool true), Is (.bool true), Is (.bool true)] _ rfl (by kernel_rfl) rfl ?hopA ?hstA ?hendA
    case hopA =>
      refine ⟨rq _ _ _ [(3, .pointer (some ⟨q, 0, none⟩))] ⟨⟨by kernel_rfl, rfl⟩, trivial⟩ ?_, ?_⟩
      · intro a w1 hC e3
        refine Or.inl ⟨.agg #[.slice vo vn vc, .slice fo fn fc, .int .i64 sa], ?_, rfl⟩
        have f0 := (HCS.out.below (Nat.succ_pos _) hC).cell 0 _ rfl
        have f1 := (HCS.out.below (Nat.succ_pos _) hC).cell 1 _ rfl
        have f2 := (HCS.out.below (Nat.succ_pos _) hC).cell 2 _ rfl
        go_simp
      refine ⟨rq _ _ _ [] trivial ?_, ?_⟩
      · intro a w1 hC  (h0 : a.tmps.getD 19 undef = _)
        refine Or.inr (Or.inl ⟨12, #[.agg #[.slice vo vn vc, .slice fo fn fc, .int .i64 sa]], ?_, ?_⟩)
        · go_simp
        · refine (may_to ⟨vo, vn, vc, fo, fn, fc⟩ ⟨vs, fs, sa⟩ true HMY.out w1 (HSR.out.below hC)).mono ?_
          rintro e w2 ⟨rfl, hbel⟩
          exact ⟨_, rfl, rfl, hbel⟩
      refine ⟨rq _ _ _ [] trivial ?_, ?_⟩
      · intro a w1 hC  (h1 : a.tmps.getD 20 undef = _) _
        refine Or.inl ⟨.bool true, ?_, rfl⟩
        go_simp
      refine ⟨rq _ _ _ [(3, .pointer (some ⟨q, 0, none⟩))] ⟨⟨by kernel_rfl, rfl⟩, trivial⟩ ?_, ?_⟩
      · intro a w1 hC e3 (h2 : a.tmps.getD 21 undef = _)
        refine Or.inl ⟨h2, ?_⟩
        refine Or.inl ⟨.agg #[.slice vo vn vc, .slice fo fn fc, .int .i64 sa], ?_, rfl⟩
        have f0 := (HCS.out.below (Nat.succ_pos _) hC).cell 0 _ rfl
        have f1 := (HCS.out.below (Nat.succ_pos _) hC).cell 1 _ rfl
        have f2 := (HCS.out.below (Nat.succ_pos _) hC).cell 2 _ rfl
        go_simp
      refine ⟨rq _ _ _ [] trivial ?_, ?_⟩
      · intro a w1 hC  (h3 : a.tmps.getD 22 undef = _) (h2 : a.tmps.getD 21 undef = _) _
        refine Or.inl ⟨h2, ?_⟩
        refine Or.inr (Or.inl ⟨10, #[.agg #[.slice vo vn vc, .slice fo fn fc, .int .i64 sa]], ?_, ?_⟩)
        · go_simp
        · refine (X.enc_to ⟨vo, vn, vc, fo, fn, fc⟩ ⟨vs, fs, sa⟩ w1 (HSR.out.below hC)).mono ?_
          rintro e w2 ⟨vv, rfl, hown, hbel⟩
          rw [HEN.out] at hown
          obtain ⟨ao1, cap1, rfl, hrd⟩ := hown.rd
          exact ⟨_, rfl, ⟨ao1, cap1, rfl, hrd⟩, hbel⟩
      refine ⟨rq _ _ _ [] trivial ?_, ?_⟩
      · intro a w1 hC  h4 (h2 : a.tmps.getD 21 undef = _)
        refine Or.inl ⟨h2, ?_⟩
        obtain ⟨ao1, cap1, e5, hrd⟩ := h4
        have e5 : a.tmps.getD 23 undef = _ := e5
        refine Or.inl ⟨.string (strOfNums es), ?_, rfl⟩
        have hcv := conv_str (P := Try.prog) hrd 28 9 5 Try.underlying28 Try.underlying5 Try.underlying9
        go_simp
      refine ⟨rq _ _ _ [(0, .slice bo m bc)] ⟨⟨by kernel_rfl, rfl⟩, trivial⟩ ?_, ?_⟩
      · intro a w1 hC e0 (h2 : a.tmps.getD 21 undef = _)
        refine Or.inl ⟨h2, ?_⟩
        refine Or.inl ⟨.slice bo m bc, ?_, rfl⟩
        go_simp
      refine ⟨rq _ _ _ [] trivial ?_, ?_⟩
      · intro a w1 hC  (h6 : a.tmps.getD 25 undef = _) (h2 : a.tmps.getD 21 undef = _)
        refine Or.inl ⟨h2, ?_⟩
        refine Or.inl ⟨.string (strOfNums es), ?_, rfl⟩
        have hcv := conv_str (P := Try.prog) (HRB.out.below hC) 28 9 5 Try.underlying28 Try.underlying5 Try.underlying9
        go_simp
      refine ⟨rq _ _ _ [] trivial ?_, ?_⟩
      · intro a w1 hC  (h5 : a.tmps.getD 24 undef = _) (h7 : a.tmps.getD 26 undef = _) (h2 : a.tmps.getD 21 undef = _)
        refine Or.inl ⟨h2, ?_⟩
        refine Or.inl ⟨.bool true, ?_, rfl⟩
        go_simp
      refine ⟨rq _ _ _ [] trivial ?_, ?_⟩
      · intro a w1 hC  (h2 : a.tmps.getD 21 undef = _) (h8 : a.tmps.getD 27 undef = _)
        refine Or.inl ⟨.bool true, ?_, rfl⟩
        go_simp
      refine ⟨rq _ _ _ [] trivial ?_, ?_⟩
      · intro a w1 hC  (h9 : a.tmps.getD 28 undef = _) h4 (h0 : a.tmps.getD 19 undef = _) (h1 : a.tmps.getD 20 undef = _) (h2 : a.tmps.getD 21 undef = _) (h3 : a.tmps.getD 22 undef = _) _ (h5 : a.tmps.getD 24 undef = _) (h6 : a.tmps.getD 25 undef = _) (h7 : a.tmps.getD 26 undef = _) (h8 : a.tmps.getD 27 undef = _) _
        refine Or.inl ⟨.bool true, ?_, rfl⟩
        go_simp
      exact trivial
    case hstA => repeat (first | exact trivial | refine ⟨Stays.is _, ?_⟩ | refine ⟨Stays.rd _ _, ?_⟩)
    case hendA =>
      intro w1 hC
      rintro _ rfl _ rfl _ rfl _ rfl
      intro x4 h4
      rintro _ rfl _ rfl _ rfl _ rfl _ rfl _ rfl
      simp only [Ends, Act.put, List.setIfInBounds_toArray, List.set_cons_succ, List.set_cons_zero]
      go_wp2_with fail
      go_ret
      exact ⟨rfl, HBW.out.trans (hC.mono HBW.out.size)⟩
  · obtain ⟨rfl, rfl, rfl⟩ : vs = [] ∧ fs = [] ∧ sa = 0 := by simpa using hz
    have s0 := HCS.out.cell 0 _ rfl
    have s1 := HCS.out.cell 1 _ rfl
    have s2 := HCS.out.cell 2 _ rfl
    go_upto_region 2 with fail
    rw [HW2.out, HQ.out]
    go_wp2_with fail
    refine (eq_to ⟨vo, vn, vc, fo, fn, fc⟩ ⟨none, 0, 0, none, 0, 0⟩ ⟨[], [], 0⟩ ⟨[], [], 0⟩ true (by simp) w2 HSR.out ⟨RdG.empty _, RdG.empty _, by decide⟩).mono ?_
    rintro e w3 ⟨rfl, hb3⟩
    clear s0 s1 s2
    go_wp2_with fail
    go_ret
    exact ⟨rfl, HBW.out.trans (hb3.mono HBW.out.size)⟩
end Go.Proofs.Ytnbegmlbkjjggaa
