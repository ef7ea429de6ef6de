/- super's laws: SuperCrash; over SuSpec. -/
import Derived.Test.YtpfcopdckjedfaaDoorSuS
import Derived.Test.YtpfcopdckjedfaaDoorShort
import Derived.Test.YtpfcopdckjedfaaDoorRegionTail
namespace Go.Proofs.YtpfcopdckjedfaaDoor
open Go.RowKit
set_option linter.unusedVariables false

theorem Rd.lt {k : IntKind} {w : World} {ao : Option Addr} {n cap : Nat} {xs : List Int} (h : Rd k w ao n cap xs) {ad : Addr} (e : ao = some ad) (h0 : 0 < n) : ad.block < w.heap.size := by
  have hlt := World.block_lt_of_cell? w _ (h.cell ad e 0 h0)
  have hbk : (ad.add 0).block = ad.block := by unfold Addr.add; split <;> rfl
  rwa [hbk] at hlt

set_option maxRecDepth 100000 in
set_option maxHeartbeats 4000000 in
theorem superCrash_walk (X : SuSpec) (hbeg : ∀ w, X.L w → Calls Tryd.prog 7 #[] w fun e w' => e = .returned (.bool true) ∧ Below w.heap.size w w')
    (ao : Option Addr) (an ac : Nat) (a : List Int) (bo : Option Addr) (bn bc : Nat) (b : List Int) (co : Option Addr) (cn cc : Nat) (c : List Int) (fu : Int) (ko : Option Addr) (kn kc : Nat) (ks : List Bool) (w : World)
    (ha : Rd .u8 w ao an ac a) (hb : Rd .u8 w bo bn bc b) (hc : Rd .u8 w co cn cc c) (hf : (Lit.int .i64 fu).wf = true) (hk : RdB w ko kn kc ks) (hl0 : X.L w) :
    Calls Tryd.prog 4 #[.slice ao an ac, .slice bo bn bc, .slice co cn cc, .int .i64 fu, .slice ko kn kc] w fun e w' => e = .returned (.bool true) ∧ Below w.heap.size w w' := by
  have HA0 := hid (ha.short 40); have HB0 := hid (hb.short 40); have HC0 := hid (hc.short 40); have HK := hid hk; have HF := hid hf
  have HL0 := hid hl0
  clear hl0
  have la := ha.le; have lb := hb.le; have lc := hc.le
  have ma := ha.cap63; have mb := hb.cap63; have mc := hc.cap63
  have xa : min an 40 ≤ 40 := Nat.min_le_right _ _
  have xb : min bn 40 ≤ 40 := Nat.min_le_right _ _
  have xc : min cn 40 ≤ 40 := Nat.min_le_right _ _
  obtain ⟨pa, hpa⟩ : ∃ p, min an 40 = p := ⟨_, rfl⟩
  obtain ⟨pb, hpb⟩ : ∃ p, min bn 40 = p := ⟨_, rfl⟩
  obtain ⟨pc, hpc⟩ : ∃ p, min cn 40 = p := ⟨_, rfl⟩
  obtain ⟨A0, hA0⟩ : ∃ l, a.take (min an 40) = l := ⟨_, rfl⟩
  obtain ⟨B0, hB0⟩ : ∃ l, b.take (min bn 40) = l := ⟨_, rfl⟩
  obtain ⟨C0, hC0⟩ : ∃ l, c.take (min cn 40) = l := ⟨_, rfl⟩
  rw [hA0] at HA0; rw [hB0] at HB0; rw [hC0] at HC0
  rw [hpa] at HA0 xa; rw [hpb] at HB0 xb; rw [hpc] at HC0 xc
  have sa := short_any ao an ac 40; have sb := short_any bo bn bc 40; have sc := short_any co cn cc 40
  rw [hpa] at sa; rw [hpb] at sb; rw [hpc] at sc
  replace sa := hid sa; replace sb := hid sb; replace sc := hid sc
  clear ha hb hc hk hf hA0 hB0 hC0 hpa hpb hpc
  go_enter Tryd.func4, Tryd.ntmps4
  go_wp2_with fail
  refine (hbeg w HL0.out).mono ?_
  rintro e w1 ⟨rfl, hb⟩
  have HB := hid hb
  clear hb
  go_wp2_with fail
  refine (sa.out w1 la ma (by decide)).mono ?_
  rintro e _ ⟨rfl, rfl⟩
  go_wp2_with fail
  refine (sb.out w1 lb mb (by decide)).mono ?_
  rintro e _ ⟨rfl, rfl⟩
  go_wp2_with fail
  refine (sc.out w1 lc mc (by decide)).mono ?_
  rintro e _ ⟨rfl, rfl⟩
  clear sa sb sc la lb lc ma mb mc
  by_cases hr : fu < 0 ∨ 5 < fu
  · rcases hr with h | h
    all_goals
      go_wp2_with fail
      all_goals
        go_ret
        exact ⟨rfl, HB.out⟩
  have h1 : ¬ fu < 0 := by omega
  have h2 : ¬ 5 < fu := by omega
  clear hr
  go_wp2_with fail
  refine (X.new_to 2 w1 (by decide)).mono ?_
  rintro e w2 ⟨p, A, rfl, hA, hat, hb⟩
  have HA : Hid (∀ b, A b → w.heap.size ≤ b) := hid fun b hb => Nat.le_trans HB.out.size (hA b hb)
  have HT := hid hat
  replace HB := hid (Bl.step HB.out hb)
  clear hA hat hb
  go_wp2_with fail
  refine (X.make_to A (Dv.new 2) p w2 0 ao pa ac A0 HT.out (HA0.out.below HB.out) (fun ad e h0 h => by have := HA0.out.lt e h0; have := HA.out _ h; omega) rfl (by decide) xa (by decide) (X.lb HL0.out HB.out)).mono ?_
  rintro e w3 ⟨q, A3, B3, M3, rfl, hA3, hB3, hAB, hat, hsu, hw, hhas, hst, hfu, hca, hlen, _⟩
  have HA3 : Hid (∀ b, A3 b → w.heap.size ≤ b) := hid fun b hb => by rcases hA3 b hb with h | h; exact HA.out b h; have := HB.out.size; omega
  have HB3 : Hid (∀ b, B3 b → w.heap.size ≤ b) := hid fun b hb => Nat.le_trans HB.out.size (hB3 b hb)
  have HD : Hid (∀ b, A3 b → ¬ B3 b) := hid hAB
  have HS := hid hsu; have HH := hid hhas; have HST := hid hst
  have HQ : Hid (M3.fuse = -1 ∧ M3.calls ≤ 10 ∧ M3.now.length = 2) := hid ⟨hfu, by have e : (Dv.new 2).calls = 0 := rfl; omega, hlen.trans (by decide)⟩
  replace HB := hid (HB.out.trans (hw.below HA.out HB.out.size))
  replace HT := hid hat
  clear hA3 hB3 hAB hsu hhas hst hfu hca hlen hw hat HA
  go_wp2_with fail
  refine (X.fuse_to A3 M3 p w3 fu HT.out HF.out).mono ?_
  rintro e w4 ⟨A4, rfl, hA4, hat, hw⟩
  have HA4 : Hid (∀ b, A4 b → w.heap.size ≤ b) := hid fun b hb => by rcases hA4 b hb with h | h; exact HA3.out b h; have := HB.out.size; omega
  have HS4 : Hid (X.Su B3 ⟨p, 0, A0, 1⟩ q w4) := hid (X.swrs HS.out hw fun b hb ha => HD.out b ha hb)
  have HD4 : Hid (∀ b, A4 b → ¬ B3 b) := hid fun b hb h3 => by rcases hA4 b hb with h | h; exact HD.out b h h3; have := X.slt HS.out b h3; omega
  replace HB := hid (HB.out.trans (hw.below HA3.out HB.out.size))
  replace HT := hid hat
  obtain ⟨M4, hM4⟩ : ∃ M, M3.fuseTo fu = M := ⟨_, rfl⟩
  rw [hM4] at HT
  have e4 : M4 = { M3 with fuse := max (-1) fu } := by rw [← hM4]; unfold Dv.fuseTo; rw [if_neg (by rw [HQ.out.1]; decide)]
  have HST4 : Hid M4.still := hid (by rw [e4]; exact HST.out)
  have HH4 : Hid (X.Has M4.now 0 A0 1) := hid (by rw [e4]; exact HH.out)
  have HQ4 : Hid (M4.calls ≤ 10 ∧ M4.now.length = 2) := hid (by rw [e4]; exact HQ.out.2)
  clear hA4 hw hat hM4 e4 HA3 HD HS HST HH HQ
  go_wp2_with fail
  refine (X.save_to A4 B3 M4 ⟨p, 0, A0, 1⟩ q w4 bo pb bc B0 HT.out HS4.out HD4.out (HB0.out.below HB.out) (fun ad e h0 => ⟨fun h => by have := HB0.out.lt e h0; have := HA4.out _ h; omega, fun h => by have := HB0.out.lt e h0; have := HB3.out _ h; omega⟩) HST4.out HH4.out (show (0 : Int) < 1 by decide) (by show (1 : Int) < 1000000000; decide) (by have := HQ4.out.1; omega) xb (by rw [HQ4.out.2]; show 0 + 2 ≤ 2; decide) (X.lb HL0.out HB.out)).mono ?_
  rintro e w5 ⟨A5, B5, M5, E, s5, rfl, hA5, hB5, hAB, hat, hsu, hw, hsv, _, _, hlen⟩
  have HA5 : Hid (∀ b, A5 b → w.heap.size ≤ b) := hid fun b hb => by rcases hA5 b hb with h | h; exact HA4.out b h; have := HB.out.size; omega
  have HB5 : Hid (∀ b, B5 b → w.heap.size ≤ b) := hid fun b hb => by rcases hB5 b hb with h | h; exact HB3.out b h; have := HB.out.size; omega
  have HS := hid hsu
  replace HB := hid (HB.out.trans (hw.below (B := w.heap.size) (fun b hb => by rcases hb with h | h; exact HA4.out b h; exact HB3.out b h) HB.out.size))
  replace HT := hid hat
  have HL : Hid (M5.now.length = 2) := hid (hlen.trans HQ4.out.2)
  obtain ⟨x, t, HX, HC⟩ : ∃ x t, X.Has (M5.crash ks).now 0 x t ∧ Hid ((E = 0 ∧ s5.turn = 2 ∧ x = B0 ∧ t = 2) ∨ (E ≠ 0 ∧ s5.turn = 1 ∧ x = A0 ∧ t = 1) ∨ (E ≠ 0 ∧ s5.turn = 1 ∧ x = B0 ∧ t = 2)) := by
    cases hsv with
    | good h hs ho => exact ⟨B0, 2, by rw [hs.crash]; exact h, hid (.inl ⟨rfl, rfl, rfl, rfl⟩)⟩
    | bad E hE hwf hf h =>
      rcases h ks with h | h
      · exact ⟨A0, 1, h, hid (.inr (.inl ⟨hE, rfl, rfl, rfl⟩))⟩
      · exact ⟨B0, 2, h, hid (.inr (.inr ⟨hE, rfl, rfl, rfl⟩))⟩
  replace HX := hid HX
  clear hA5 hB5 hAB hat hsu hw hsv hlen HA4 HB3 HS4 HD4 HST4 HH4 HQ4 HF
  go_wp2_with fail
  refine (X.turn_to B5 s5 q w5 HS.out).mono ?_
  rintro e w6 ⟨rfl, hb⟩
  replace HT := hid (X.bel HT.out hb); replace HB := hid (Bl.step HB.out hb)
  clear hb HS HB5
  go_wp2_with fail
  refine (X.crash_to A5 M5 p w6 ko kn kc ks HT.out (HK.out.below HB.out)).mono ?_
  rintro e w7 ⟨r, A7, rfl, hA7, hat, hb⟩
  have HA7 : Hid (∀ b, A7 b → w.heap.size ≤ b) := hid fun b hb => Nat.le_trans HB.out.size (hA7 b hb)
  have HN : Hid ((M5.crash ks).now.length = 2) := hid ((Dv.crash_len (X.ok HT.out) ks).trans HL.out)
  have HST : Hid (M5.crash ks).still := hid (Dv.crash_still _ _ (Dv.crash_len (X.ok HT.out) ks))
  replace HB := hid (Bl.step HB.out hb)
  replace HT := hid hat
  obtain ⟨M7, hM7⟩ : ∃ M, M5.crash ks = M := ⟨_, rfl⟩
  have HF7 : Hid (M7.fuse = -1 ∧ M7.calls = 0) := hid (by rw [← hM7]; exact ⟨rfl, rfl⟩)
  rw [hM7] at HT HN HST HX
  clear hA7 hat hb hM7 HL HA5 HK
  go_wp2_with fail
  refine (X.open_to A7 M7 r w7 0 x t HT.out HX.out (by rw [HN.out]; decide) (X.lb HL0.out HB.out)).mono ?_
  rintro e w8 ⟨u, B8, rfl, hB8, hsu, hb⟩
  have HB8 : Hid (∀ b, B8 b → w.heap.size ≤ b) := hid fun b hb => Nat.le_trans HB.out.size (hB8 b hb)
  have HD : Hid (∀ b, A7 b → ¬ B8 b) := hid fun b h7 h8 => by have := X.lt HT.out b h7; have := hB8 b h8; omega
  have HS := hid hsu
  replace HT := hid (X.bel HT.out hb); replace HB := hid (Bl.step HB.out hb)
  clear hB8 hsu hb
  rcases HC.out with ⟨hE, e5, rfl, rfl⟩ | ⟨hE, e5, rfl, rfl⟩ | ⟨hE, e5, rfl, rfl⟩
  · subst hE
    rw [e5]
    clear HC
    go_wp2_with fail
    refine wp_region_below (by kernel_rfl) [Is (.pointer (some u)), Is (.int .i64 2), Is (.bool false), Is (.bool false), Is ?va14, Is ?va15, Is ?va16, Is ?va17, Is ?va18, Is ?va19, Is (.bool false), Is (.bool false)] _ rfl (by kernel_rfl) rfl ?hopa1 ?hsta1 ?henda1
    case hopa1 =>
      refine ⟨rq _ _ _ [(17, .pointer (some u))] ⟨⟨by kernel_rfl, rfl⟩, trivial⟩ ?_, ?_⟩
      · intro a w1 hC e17
        refine Or.inl ⟨.pointer (some u), ?_, rfl⟩
        go_simp
      refine ⟨rq _ _ _ [] trivial ?_, ?_⟩
      · intro a w1 hC  (h0 : a.tmps.getD 73 undef = _)
        refine Or.inr (Or.inl ⟨15, #[.pointer (some u)], ?_, ?_⟩)
        · go_simp
        · refine (X.turn_at (X.sbel HS.out hC)).mono ?_
          rintro e w2 ⟨rfl, hbel⟩
          exact ⟨_, rfl, rfl, hbel⟩
      refine ⟨rq _ _ _ [] trivial ?_, ?_⟩
      · intro a w1 hC  (h1 : a.tmps.getD 74 undef = _)
        refine Or.inl ⟨.bool false, ?_, rfl⟩
        go_simp
      refine ⟨rq _ _ _ [] trivial ?_, ?_⟩
      · intro a w1 hC  (h2 : a.tmps.getD 75 undef = _) (h1 : a.tmps.getD 74 undef = _)
        refine Or.inl ⟨.bool false, ?_, rfl⟩
        go_simp
      refine ⟨rq _ _ _ [(17, .pointer (some u))] ⟨⟨by kernel_rfl, rfl⟩, trivial⟩ ?_, ?_⟩
      · intro a w1 hC e17 (h3 : a.tmps.getD 76 undef = _)
        refine Or.inr ⟨fun hh => ?_, ?_⟩
        · have := h3.symm.trans hh; cases this
        · rfl
      refine ⟨rq _ _ _ [] trivial ?_, ?_⟩
      · intro a w1 hC  (h4 : a.tmps.getD 77 undef = _) (h3 : a.tmps.getD 76 undef = _) _
        refine Or.inr ⟨fun hh => ?_, ?_⟩
        · have := h3.symm.trans hh; cases this
        · rfl
      refine ⟨rq _ _ _ [] trivial ?_, ?_⟩
      · intro a w1 hC  (h5 : a.tmps.getD 78 undef = _) (h3 : a.tmps.getD 76 undef = _)
        refine Or.inr ⟨fun hh => ?_, ?_⟩
        · have := h3.symm.trans hh; cases this
        · rfl
      refine ⟨rq _ _ _ [(0, .slice ao pa ac)] ⟨⟨by kernel_rfl, rfl⟩, trivial⟩ ?_, ?_⟩
      · intro a w1 hC e0 (h3 : a.tmps.getD 76 undef = _)
        refine Or.inr ⟨fun hh => ?_, ?_⟩
        · have := h3.symm.trans hh; cases this
        · rfl
      refine ⟨rq _ _ _ [] trivial ?_, ?_⟩
      · intro a w1 hC  (h7 : a.tmps.getD 80 undef = _) (h3 : a.tmps.getD 76 undef = _)
        refine Or.inr ⟨fun hh => ?_, ?_⟩
        · have := h3.symm.trans hh; cases this
        · rfl
      refine ⟨rq _ _ _ [] trivial ?_, ?_⟩
      · intro a w1 hC  (h6 : a.tmps.getD 79 undef = _) (h8 : a.tmps.getD 81 undef = _) (h3 : a.tmps.getD 76 undef = _)
        refine Or.inr ⟨fun hh => ?_, ?_⟩
        · have := h3.symm.trans hh; cases this
        · rfl
      refine ⟨rq _ _ _ [] trivial ?_, ?_⟩
      · intro a w1 hC  (h3 : a.tmps.getD 76 undef = _) (h9 : a.tmps.getD 82 undef = _)
        refine Or.inl ⟨.bool false, ?_, rfl⟩
        go_simp
      refine ⟨rq _ _ _ [] trivial ?_, ?_⟩
      · intro a w1 hC  (h10 : a.tmps.getD 83 undef = _) (h5 : a.tmps.getD 78 undef = _) (h0 : a.tmps.getD 73 undef = _) (h1 : a.tmps.getD 74 undef = _) (h2 : a.tmps.getD 75 undef = _) (h3 : a.tmps.getD 76 undef = _) (h4 : a.tmps.getD 77 undef = _) _ (h6 : a.tmps.getD 79 undef = _) (h7 : a.tmps.getD 80 undef = _) (h8 : a.tmps.getD 81 undef = _) (h9 : a.tmps.getD 82 undef = _) _
        refine Or.inl ⟨.bool false, ?_, rfl⟩
        go_simp
      exact trivial
    case hsta1 => repeat (first | exact trivial | refine ⟨Stays.is _, ?_⟩)
    case henda1 =>
      intro w1 hC
      rintro _ rfl _ rfl _ rfl _ rfl _ rfl _ rfl _ rfl _ rfl _ rfl _ rfl _ rfl _ rfl
      simp only [Ends, Act.put, List.setIfInBounds_toArray, List.set_cons_succ, List.set_cons_zero]
      replace HT := hid (X.bel HT.out hC)
      replace HS := hid (X.sbel HS.out hC)
      replace HB := hid (Bl.step HB.out hC)
      clear hC
      go_wp2_with fail
      refine wp_region_below (by kernel_rfl) [Is (.pointer (some u)), Is (.int .i64 2), Is (.bool true), Is (.bool true), Is (.pointer (some u)), IsRd .u8 x, Is (.string (strOfNums x)), Is (.slice bo pb bc), Is (.string (strOfNums x)), Is (.bool true), Is (.bool true), Is (.bool true)] _ rfl (by kernel_rfl) rfl ?hopb1 ?hstb1 ?hendb1
      case hopb1 =>
        refine ⟨rq _ _ _ [(17, .pointer (some u))] ⟨⟨by kernel_rfl, rfl⟩, trivial⟩ ?_, ?_⟩
        · intro a w1 hC e17
          refine Or.inl ⟨.pointer (some u), ?_, rfl⟩
          go_simp
        refine ⟨rq _ _ _ [] trivial ?_, ?_⟩
        · intro a w1 hC  (h0 : a.tmps.getD 84 undef = _)
          refine Or.inr (Or.inl ⟨15, #[.pointer (some u)], ?_, ?_⟩)
          · go_simp
          · refine (X.turn_at (X.sbel HS.out hC)).mono ?_
            rintro e w2 ⟨rfl, hbel⟩
            exact ⟨_, rfl, rfl, hbel⟩
        refine ⟨rq _ _ _ [] trivial ?_, ?_⟩
        · intro a w1 hC  (h1 : a.tmps.getD 85 undef = _)
          refine Or.inl ⟨.bool true, ?_, rfl⟩
          go_simp
        refine ⟨rq _ _ _ [] trivial ?_, ?_⟩
        · intro a w1 hC  (h2 : a.tmps.getD 86 undef = _) (h1 : a.tmps.getD 85 undef = _)
          refine Or.inl ⟨.bool true, ?_, rfl⟩
          go_simp
        refine ⟨rq _ _ _ [(17, .pointer (some u))] ⟨⟨by kernel_rfl, rfl⟩, trivial⟩ ?_, ?_⟩
        · intro a w1 hC e17 (h3 : a.tmps.getD 87 undef = _)
          refine Or.inl ⟨h3, ?_⟩
          refine Or.inl ⟨.pointer (some u), ?_, rfl⟩
          go_simp
        refine ⟨rq _ _ _ [] trivial ?_, ?_⟩
        · intro a w1 hC  (h4 : a.tmps.getD 88 undef = _) (h3 : a.tmps.getD 87 undef = _) _
          refine Or.inl ⟨h3, ?_⟩
          refine Or.inr (Or.inl ⟨14, #[.pointer (some u)], ?_, ?_⟩)
          · go_simp
          · refine (X.text_at (X.sbel HS.out hC)).mono ?_
            rintro e w2 ⟨vo, vc, rfl, hrd, hbel⟩
            exact ⟨_, rfl, ⟨vo, vc, rfl, hrd⟩, hbel⟩
        refine ⟨rq _ _ _ [] trivial ?_, ?_⟩
        · intro a w1 hC  h5 (h3 : a.tmps.getD 87 undef = _)
          refine Or.inl ⟨h3, ?_⟩
          obtain ⟨ao1, cap1, e5, hrd⟩ := h5
          have e5 : a.tmps.getD 89 undef = _ := e5
          refine Or.inl ⟨.string (strOfNums x), ?_, rfl⟩
          have hcv := conv_str (P := Tryd.prog) hrd 30 9 5 Tryd.underlying30 Tryd.underlying5 Tryd.underlying9
          go_simp
        refine ⟨rq _ _ _ [(1, .slice bo pb bc)] ⟨⟨by kernel_rfl, rfl⟩, trivial⟩ ?_, ?_⟩
        · intro a w1 hC e1 (h3 : a.tmps.getD 87 undef = _)
          refine Or.inl ⟨h3, ?_⟩
          refine Or.inl ⟨.slice bo pb bc, ?_, rfl⟩
          go_simp
        refine ⟨rq _ _ _ [] trivial ?_, ?_⟩
        · intro a w1 hC  (h7 : a.tmps.getD 91 undef = _) (h3 : a.tmps.getD 87 undef = _)
          refine Or.inl ⟨h3, ?_⟩
          refine Or.inl ⟨.string (strOfNums x), ?_, rfl⟩
          have hcv := conv_str (P := Tryd.prog) (HB0.out.below (Bl.step HB.out hC)) 30 9 5 Tryd.underlying30 Tryd.underlying5 Tryd.underlying9
          go_simp
        refine ⟨rq _ _ _ [] trivial ?_, ?_⟩
        · intro a w1 hC  (h6 : a.tmps.getD 90 undef = _) (h8 : a.tmps.getD 92 undef = _) (h3 : a.tmps.getD 87 undef = _)
          refine Or.inl ⟨h3, ?_⟩
          refine Or.inl ⟨.bool true, ?_, rfl⟩
          go_simp
        refine ⟨rq _ _ _ [] trivial ?_, ?_⟩
        · intro a w1 hC  (h3 : a.tmps.getD 87 undef = _) (h9 : a.tmps.getD 93 undef = _)
          refine Or.inl ⟨.bool true, ?_, rfl⟩
          go_simp
        refine ⟨rq _ _ _ [] trivial ?_, ?_⟩
        · intro a w1 hC  (h10 : a.tmps.getD 94 undef = _) h5 (h0 : a.tmps.getD 84 undef = _) (h1 : a.tmps.getD 85 undef = _) (h2 : a.tmps.getD 86 undef = _) (h3 : a.tmps.getD 87 undef = _) (h4 : a.tmps.getD 88 undef = _) _ (h6 : a.tmps.getD 90 undef = _) (h7 : a.tmps.getD 91 undef = _) (h8 : a.tmps.getD 92 undef = _) (h9 : a.tmps.getD 93 undef = _) _
          refine Or.inl ⟨.bool true, ?_, rfl⟩
          go_simp
        exact trivial
      case hstb1 => repeat (first | exact trivial | refine ⟨Stays.is _, ?_⟩ | refine ⟨Stays.rd _ _, ?_⟩)
      case hendb1 =>
        intro w1 hC
        rintro _ rfl _ rfl _ rfl _ rfl _ rfl
        intro x5 h5
        rintro _ rfl _ rfl _ rfl _ rfl _ rfl _ rfl
        simp only [Ends, Act.put, List.setIfInBounds_toArray, List.set_cons_succ, List.set_cons_zero]
        replace HT := hid (X.bel HT.out hC)
        replace HS := hid (X.sbel HS.out hC)
        replace HB := hid (Bl.step HB.out hC)
        clear hC
        go_wp2_with fail
        refine (X.turn_at HS.out).mono ?_
        rintro e w9 ⟨rfl, hb⟩
        replace HT := hid (X.bel HT.out hb); replace HS := hid (X.sbel HS.out hb); replace HB := hid (Bl.step HB.out hb)
        clear hb
        go_wp2_with fail
        refine (X.save_to A7 B8 M7 ⟨r, 0, x, 2⟩ u w9 co pc cc C0 HT.out HS.out HD.out (HC0.out.below HB.out) (fun ad e h0 => ⟨fun h => by have := HC0.out.lt e h0; have := HA7.out _ h; omega, fun h => by have := HC0.out.lt e h0; have := HB8.out _ h; omega⟩) HST.out HX.out (show (0 : Int) < 2 by decide) (by show (2 : Int) < 1000000000; decide) (by have := HF7.out.2; omega) xc (by rw [HN.out]; show 0 + 2 ≤ 2; decide) (X.lb HL0.out HB.out)).mono ?_
        rintro e wa ⟨Aa, Ba, Ma, Ea, sa', rfl, hAa, hBa, hAB, hat, hsu, hw, hsv, hfu, _, hlen⟩
        have HAa : Hid (∀ b, Aa b → w.heap.size ≤ b) := hid fun b hb => by rcases hAa b hb with h | h; exact HA7.out b h; have := HB.out.size; omega
        cases hsv with
        | bad E hE hwf hf h => exact absurd HF7.out.1 hf
        | good hh hs ho =>
          have HXa := hid hh
          have HSTa := hid hs
          have HNa : Hid (Ma.now.length = 2) := hid (hlen.trans HN.out)
          replace HB := hid (HB.out.trans (hw.below (B := w.heap.size) (fun b hb => by rcases hb with h | h; exact HA7.out b h; exact HB8.out b h) HB.out.size))
          replace HT := hid hat
          clear hAa hBa hAB hat hsu hw hfu hlen hh hs ho HS HD HB8 HA7 HST HX HN
          go_wp2_with fail
          refine (X.crash_to Aa Ma r wa none 0 0 [] HT.out (RdB.empty _)).mono ?_
          rintro e wb ⟨rb, Ab, rfl, hAb, hat, hb⟩
          have HNb : Hid ((Ma.crash []).now.length = 2) := hid ((Dv.crash_len (X.ok HT.out) []).trans HNa.out)
          have HXb : Hid (X.Has (Ma.crash []).now 0 C0 (2 + 1)) := hid (by rw [HSTa.out.crash]; exact HXa.out)
          replace HB := hid (Bl.step HB.out hb)
          replace HT := hid hat
          clear hAb hat hb HXa HSTa HNa HAa
          go_wp2_with fail
          refine (X.open_to Ab (Ma.crash []) rb wb 0 C0 (2 + 1) HT.out HXb.out (by rw [HNb.out]; decide) (X.lb HL0.out HB.out)).mono ?_
          rintro e wc ⟨uc, Bc, rfl, _, hsu, hb⟩
          have HS := hid hsu
          replace HB := hid (Bl.step HB.out hb)
          clear hsu hb HT HNb HXb
          go_wp2_with fail
          refine wp_region_below (by kernel_rfl) [Is (.int .i64 0), Is (.bool true), Is (.bool true), Is (.pointer (some uc)), Is (.int .i64 (2 + 1)), Is (.int .i64 2), Is (.int .i64 (2 + 1)), Is (.bool true), Is (.bool true), Is (.bool true), Is (.pointer (some uc)), IsRd .u8 C0, Is (.string (strOfNums C0)), Is (.slice co pc cc), Is (.string (strOfNums C0)), Is (.bool true), Is (.bool true), Is (.bool true)] _ rfl (by kernel_rfl) rfl ?hopc1 ?hstc1 ?hendc1
          case hopc1 =>
            refine ⟨rq _ _ _ [(23, .int .i64 0)] ⟨⟨by kernel_rfl, rfl⟩, trivial⟩ ?_, ?_⟩
            · intro a w1 hC e23
              refine Or.inl ⟨.int .i64 0, ?_, rfl⟩
              go_simp
            refine ⟨rq _ _ _ [] trivial ?_, ?_⟩
            · intro a w1 hC  (h0 : a.tmps.getD 121 undef = _)
              refine Or.inl ⟨.bool true, ?_, rfl⟩
              go_simp
            refine ⟨rq _ _ _ [] trivial ?_, ?_⟩
            · intro a w1 hC  (h1 : a.tmps.getD 122 undef = _)
              refine Or.inl ⟨.bool true, ?_, rfl⟩
              go_simp
            refine ⟨rq _ _ _ [(22, .pointer (some uc))] ⟨⟨by kernel_rfl, rfl⟩, trivial⟩ ?_, ?_⟩
            · intro a w1 hC e22 (h2 : a.tmps.getD 123 undef = _)
              refine Or.inl ⟨h2, ?_⟩
              refine Or.inl ⟨.pointer (some uc), ?_, rfl⟩
              go_simp
            refine ⟨rq _ _ _ [] trivial ?_, ?_⟩
            · intro a w1 hC  (h3 : a.tmps.getD 124 undef = _) (h2 : a.tmps.getD 123 undef = _) _
              refine Or.inl ⟨h2, ?_⟩
              refine Or.inr (Or.inl ⟨15, #[.pointer (some uc)], ?_, ?_⟩)
              · go_simp
              · refine (X.turn_at (X.sbel HS.out hC)).mono ?_
                rintro e w2 ⟨rfl, hbel⟩
                exact ⟨_, rfl, rfl, hbel⟩
            refine ⟨rq _ _ _ [(21, .int .i64 2)] ⟨⟨by kernel_rfl, rfl⟩, trivial⟩ ?_, ?_⟩
            · intro a w1 hC e21 (h2 : a.tmps.getD 123 undef = _)
              refine Or.inl ⟨h2, ?_⟩
              refine Or.inl ⟨.int .i64 2, ?_, rfl⟩
              go_simp
            refine ⟨rq _ _ _ [] trivial ?_, ?_⟩
            · intro a w1 hC  (h5 : a.tmps.getD 126 undef = _) (h2 : a.tmps.getD 123 undef = _)
              refine Or.inl ⟨h2, ?_⟩
              refine Or.inl ⟨.int .i64 (2 + 1), ?_, rfl⟩
              go_simp
              decide
            refine ⟨rq _ _ _ [] trivial ?_, ?_⟩
            · intro a w1 hC  (h4 : a.tmps.getD 125 undef = _) (h6 : a.tmps.getD 127 undef = _) (h2 : a.tmps.getD 123 undef = _)
              refine Or.inl ⟨h2, ?_⟩
              refine Or.inl ⟨.bool true, ?_, rfl⟩
              go_simp
            refine ⟨rq _ _ _ [] trivial ?_, ?_⟩
            · intro a w1 hC  (h2 : a.tmps.getD 123 undef = _) (h7 : a.tmps.getD 128 undef = _)
              refine Or.inl ⟨.bool true, ?_, rfl⟩
              go_simp
            refine ⟨rq _ _ _ [] trivial ?_, ?_⟩
            · intro a w1 hC  (h8 : a.tmps.getD 129 undef = _) (h4 : a.tmps.getD 125 undef = _)
              refine Or.inl ⟨.bool true, ?_, rfl⟩
              go_simp
            refine ⟨rq _ _ _ [(22, .pointer (some uc))] ⟨⟨by kernel_rfl, rfl⟩, trivial⟩ ?_, ?_⟩
            · intro a w1 hC e22 (h9 : a.tmps.getD 130 undef = _)
              refine Or.inl ⟨h9, ?_⟩
              refine Or.inl ⟨.pointer (some uc), ?_, rfl⟩
              go_simp
            refine ⟨rq _ _ _ [] trivial ?_, ?_⟩
            · intro a w1 hC  (h10 : a.tmps.getD 131 undef = _) (h9 : a.tmps.getD 130 undef = _) _
              refine Or.inl ⟨h9, ?_⟩
              refine Or.inr (Or.inl ⟨14, #[.pointer (some uc)], ?_, ?_⟩)
              · go_simp
              · refine (X.text_at (X.sbel HS.out hC)).mono ?_
                rintro e w2 ⟨vo, vc, rfl, hrd, hbel⟩
                exact ⟨_, rfl, ⟨vo, vc, rfl, hrd⟩, hbel⟩
            refine ⟨rq _ _ _ [] trivial ?_, ?_⟩
            · intro a w1 hC  h11 (h9 : a.tmps.getD 130 undef = _)
              refine Or.inl ⟨h9, ?_⟩
              obtain ⟨ao1, cap1, e5, hrd⟩ := h11
              have e5 : a.tmps.getD 132 undef = _ := e5
              refine Or.inl ⟨.string (strOfNums C0), ?_, rfl⟩
              have hcv := conv_str (P := Tryd.prog) hrd 30 9 5 Tryd.underlying30 Tryd.underlying5 Tryd.underlying9
              go_simp
            refine ⟨rq _ _ _ [(2, .slice co pc cc)] ⟨⟨by kernel_rfl, rfl⟩, trivial⟩ ?_, ?_⟩
            · intro a w1 hC e2 (h9 : a.tmps.getD 130 undef = _)
              refine Or.inl ⟨h9, ?_⟩
              refine Or.inl ⟨.slice co pc cc, ?_, rfl⟩
              go_simp
            refine ⟨rq _ _ _ [] trivial ?_, ?_⟩
            · intro a w1 hC  (h13 : a.tmps.getD 134 undef = _) (h9 : a.tmps.getD 130 undef = _)
              refine Or.inl ⟨h9, ?_⟩
              refine Or.inl ⟨.string (strOfNums C0), ?_, rfl⟩
              have hcv := conv_str (P := Tryd.prog) (HC0.out.below (Bl.step HB.out hC)) 30 9 5 Tryd.underlying30 Tryd.underlying5 Tryd.underlying9
              go_simp
            refine ⟨rq _ _ _ [] trivial ?_, ?_⟩
            · intro a w1 hC  (h12 : a.tmps.getD 133 undef = _) (h14 : a.tmps.getD 135 undef = _) (h9 : a.tmps.getD 130 undef = _)
              refine Or.inl ⟨h9, ?_⟩
              refine Or.inl ⟨.bool true, ?_, rfl⟩
              go_simp
            refine ⟨rq _ _ _ [] trivial ?_, ?_⟩
            · intro a w1 hC  (h9 : a.tmps.getD 130 undef = _) (h15 : a.tmps.getD 136 undef = _)
              refine Or.inl ⟨.bool true, ?_, rfl⟩
              go_simp
            refine ⟨rq _ _ _ [] trivial ?_, ?_⟩
            · intro a w1 hC  (h16 : a.tmps.getD 137 undef = _) h11 (h0 : a.tmps.getD 121 undef = _) (h1 : a.tmps.getD 122 undef = _) (h2 : a.tmps.getD 123 undef = _) (h3 : a.tmps.getD 124 undef = _) (h4 : a.tmps.getD 125 undef = _) (h5 : a.tmps.getD 126 undef = _) (h6 : a.tmps.getD 127 undef = _) (h7 : a.tmps.getD 128 undef = _) (h8 : a.tmps.getD 129 undef = _) (h9 : a.tmps.getD 130 undef = _) (h10 : a.tmps.getD 131 undef = _) _ (h12 : a.tmps.getD 133 undef = _) (h13 : a.tmps.getD 134 undef = _) (h14 : a.tmps.getD 135 undef = _) (h15 : a.tmps.getD 136 undef = _) _
              refine Or.inl ⟨.bool true, ?_, rfl⟩
              go_simp
            exact trivial
          case hstc1 => repeat (first | exact trivial | refine ⟨Stays.is _, ?_⟩ | refine ⟨Stays.rd _ _, ?_⟩)
          case hendc1 =>
            intro w1 hC
            rintro _ rfl _ rfl _ rfl _ rfl _ rfl _ rfl _ rfl _ rfl _ rfl _ rfl _ rfl
            intro x11 h11
            rintro _ rfl _ rfl _ rfl _ rfl _ rfl _ rfl
            simp only [Ends, Act.put, List.setIfInBounds_toArray, List.set_cons_succ, List.set_cons_zero]
            replace HB := hid (Bl.step HB.out hC)
            clear hC
            go_wp2_with fail
            go_ret
            exact ⟨rfl, HB.out⟩
  · have hE0 : (E == 0) = false := by simpa using hE
    rw [e5]
    clear HC
    go_wp2_with fail
    refine wp_region_below (by kernel_rfl) [Is (.pointer (some u)), Is (.int .i64 1), Is (.bool true), Is (.bool true), Is (.pointer (some u)), IsRd .u8 x, Is (.string (strOfNums x)), Is (.slice ao pa ac), Is (.string (strOfNums x)), Is (.bool true), Is (.bool true), Is (.bool true)] _ rfl (by kernel_rfl) rfl ?hopa2 ?hsta2 ?henda2
    case hopa2 =>
      refine ⟨rq _ _ _ [(17, .pointer (some u))] ⟨⟨by kernel_rfl, rfl⟩, trivial⟩ ?_, ?_⟩
      · intro a w1 hC e17
        refine Or.inl ⟨.pointer (some u), ?_, rfl⟩
        go_simp
      refine ⟨rq _ _ _ [] trivial ?_, ?_⟩
      · intro a w1 hC  (h0 : a.tmps.getD 73 undef = _)
        refine Or.inr (Or.inl ⟨15, #[.pointer (some u)], ?_, ?_⟩)
        · go_simp
        · refine (X.turn_at (X.sbel HS.out hC)).mono ?_
          rintro e w2 ⟨rfl, hbel⟩
          exact ⟨_, rfl, rfl, hbel⟩
      refine ⟨rq _ _ _ [] trivial ?_, ?_⟩
      · intro a w1 hC  (h1 : a.tmps.getD 74 undef = _)
        refine Or.inl ⟨.bool true, ?_, rfl⟩
        go_simp
      refine ⟨rq _ _ _ [] trivial ?_, ?_⟩
      · intro a w1 hC  (h2 : a.tmps.getD 75 undef = _) (h1 : a.tmps.getD 74 undef = _)
        refine Or.inl ⟨.bool true, ?_, rfl⟩
        go_simp
      refine ⟨rq _ _ _ [(17, .pointer (some u))] ⟨⟨by kernel_rfl, rfl⟩, trivial⟩ ?_, ?_⟩
      · intro a w1 hC e17 (h3 : a.tmps.getD 76 undef = _)
        refine Or.inl ⟨h3, ?_⟩
        refine Or.inl ⟨.pointer (some u), ?_, rfl⟩
        go_simp
      refine ⟨rq _ _ _ [] trivial ?_, ?_⟩
      · intro a w1 hC  (h4 : a.tmps.getD 77 undef = _) (h3 : a.tmps.getD 76 undef = _) _
        refine Or.inl ⟨h3, ?_⟩
        refine Or.inr (Or.inl ⟨14, #[.pointer (some u)], ?_, ?_⟩)
        · go_simp
        · refine (X.text_at (X.sbel HS.out hC)).mono ?_
          rintro e w2 ⟨vo, vc, rfl, hrd, hbel⟩
          exact ⟨_, rfl, ⟨vo, vc, rfl, hrd⟩, hbel⟩
      refine ⟨rq _ _ _ [] trivial ?_, ?_⟩
      · intro a w1 hC  h5 (h3 : a.tmps.getD 76 undef = _)
        refine Or.inl ⟨h3, ?_⟩
        obtain ⟨ao1, cap1, e5, hrd⟩ := h5
        have e5 : a.tmps.getD 78 undef = _ := e5
        refine Or.inl ⟨.string (strOfNums x), ?_, rfl⟩
        have hcv := conv_str (P := Tryd.prog) hrd 30 9 5 Tryd.underlying30 Tryd.underlying5 Tryd.underlying9
        go_simp
      refine ⟨rq _ _ _ [(0, .slice ao pa ac)] ⟨⟨by kernel_rfl, rfl⟩, trivial⟩ ?_, ?_⟩
      · intro a w1 hC e0 (h3 : a.tmps.getD 76 undef = _)
        refine Or.inl ⟨h3, ?_⟩
        refine Or.inl ⟨.slice ao pa ac, ?_, rfl⟩
        go_simp
      refine ⟨rq _ _ _ [] trivial ?_, ?_⟩
      · intro a w1 hC  (h7 : a.tmps.getD 80 undef = _) (h3 : a.tmps.getD 76 undef = _)
        refine Or.inl ⟨h3, ?_⟩
        refine Or.inl ⟨.string (strOfNums x), ?_, rfl⟩
        have hcv := conv_str (P := Tryd.prog) (HA0.out.below (Bl.step HB.out hC)) 30 9 5 Tryd.underlying30 Tryd.underlying5 Tryd.underlying9
        go_simp
      refine ⟨rq _ _ _ [] trivial ?_, ?_⟩
      · intro a w1 hC  (h6 : a.tmps.getD 79 undef = _) (h8 : a.tmps.getD 81 undef = _) (h3 : a.tmps.getD 76 undef = _)
        refine Or.inl ⟨h3, ?_⟩
        refine Or.inl ⟨.bool true, ?_, rfl⟩
        go_simp
      refine ⟨rq _ _ _ [] trivial ?_, ?_⟩
      · intro a w1 hC  (h3 : a.tmps.getD 76 undef = _) (h9 : a.tmps.getD 82 undef = _)
        refine Or.inl ⟨.bool true, ?_, rfl⟩
        go_simp
      refine ⟨rq _ _ _ [] trivial ?_, ?_⟩
      · intro a w1 hC  (h10 : a.tmps.getD 83 undef = _) h5 (h0 : a.tmps.getD 73 undef = _) (h1 : a.tmps.getD 74 undef = _) (h2 : a.tmps.getD 75 undef = _) (h3 : a.tmps.getD 76 undef = _) (h4 : a.tmps.getD 77 undef = _) _ (h6 : a.tmps.getD 79 undef = _) (h7 : a.tmps.getD 80 undef = _) (h8 : a.tmps.getD 81 undef = _) (h9 : a.tmps.getD 82 undef = _) _
        refine Or.inl ⟨.bool true, ?_, rfl⟩
        go_simp
      exact trivial
    case hsta2 => repeat (first | exact trivial | refine ⟨Stays.is _, ?_⟩ | refine ⟨Stays.rd _ _, ?_⟩)
    case henda2 =>
      intro w1 hC
      rintro _ rfl _ rfl _ rfl _ rfl _ rfl
      intro x5 h5
      rintro _ rfl _ rfl _ rfl _ rfl _ rfl _ rfl
      simp only [Ends, Act.put, List.setIfInBounds_toArray, List.set_cons_succ, List.set_cons_zero]
      replace HT := hid (X.bel HT.out hC)
      replace HS := hid (X.sbel HS.out hC)
      replace HB := hid (Bl.step HB.out hC)
      clear hC
      go_wp2_with fail
      refine wp_region_below (by kernel_rfl) [Is (.pointer (some u)), Is (.int .i64 1), Is (.bool false), Is (.bool false), Is ?vb24, Is ?vb25, Is ?vb26, Is ?vb27, Is ?vb28, Is ?vb29, Is (.bool false), Is (.bool false)] _ rfl (by kernel_rfl) rfl ?hopb2 ?hstb2 ?hendb2
      case hopb2 =>
        refine ⟨rq _ _ _ [(17, .pointer (some u))] ⟨⟨by kernel_rfl, rfl⟩, trivial⟩ ?_, ?_⟩
        · intro a w1 hC e17
          refine Or.inl ⟨.pointer (some u), ?_, rfl⟩
          go_simp
        refine ⟨rq _ _ _ [] trivial ?_, ?_⟩
        · intro a w1 hC  (h0 : a.tmps.getD 84 undef = _)
          refine Or.inr (Or.inl ⟨15, #[.pointer (some u)], ?_, ?_⟩)
          · go_simp
          · refine (X.turn_at (X.sbel HS.out hC)).mono ?_
            rintro e w2 ⟨rfl, hbel⟩
            exact ⟨_, rfl, rfl, hbel⟩
        refine ⟨rq _ _ _ [] trivial ?_, ?_⟩
        · intro a w1 hC  (h1 : a.tmps.getD 85 undef = _)
          refine Or.inl ⟨.bool false, ?_, rfl⟩
          go_simp
        refine ⟨rq _ _ _ [] trivial ?_, ?_⟩
        · intro a w1 hC  (h2 : a.tmps.getD 86 undef = _) (h1 : a.tmps.getD 85 undef = _)
          refine Or.inl ⟨.bool false, ?_, rfl⟩
          go_simp
        refine ⟨rq _ _ _ [(17, .pointer (some u))] ⟨⟨by kernel_rfl, rfl⟩, trivial⟩ ?_, ?_⟩
        · intro a w1 hC e17 (h3 : a.tmps.getD 87 undef = _)
          refine Or.inr ⟨fun hh => ?_, ?_⟩
          · have := h3.symm.trans hh; cases this
          · rfl
        refine ⟨rq _ _ _ [] trivial ?_, ?_⟩
        · intro a w1 hC  (h4 : a.tmps.getD 88 undef = _) (h3 : a.tmps.getD 87 undef = _) _
          refine Or.inr ⟨fun hh => ?_, ?_⟩
          · have := h3.symm.trans hh; cases this
          · rfl
        refine ⟨rq _ _ _ [] trivial ?_, ?_⟩
        · intro a w1 hC  (h5 : a.tmps.getD 89 undef = _) (h3 : a.tmps.getD 87 undef = _)
          refine Or.inr ⟨fun hh => ?_, ?_⟩
          · have := h3.symm.trans hh; cases this
          · rfl
        refine ⟨rq _ _ _ [(1, .slice bo pb bc)] ⟨⟨by kernel_rfl, rfl⟩, trivial⟩ ?_, ?_⟩
        · intro a w1 hC e1 (h3 : a.tmps.getD 87 undef = _)
          refine Or.inr ⟨fun hh => ?_, ?_⟩
          · have := h3.symm.trans hh; cases this
          · rfl
        refine ⟨rq _ _ _ [] trivial ?_, ?_⟩
        · intro a w1 hC  (h7 : a.tmps.getD 91 undef = _) (h3 : a.tmps.getD 87 undef = _)
          refine Or.inr ⟨fun hh => ?_, ?_⟩
          · have := h3.symm.trans hh; cases this
          · rfl
        refine ⟨rq _ _ _ [] trivial ?_, ?_⟩
        · intro a w1 hC  (h6 : a.tmps.getD 90 undef = _) (h8 : a.tmps.getD 92 undef = _) (h3 : a.tmps.getD 87 undef = _)
          refine Or.inr ⟨fun hh => ?_, ?_⟩
          · have := h3.symm.trans hh; cases this
          · rfl
        refine ⟨rq _ _ _ [] trivial ?_, ?_⟩
        · intro a w1 hC  (h3 : a.tmps.getD 87 undef = _) (h9 : a.tmps.getD 93 undef = _)
          refine Or.inl ⟨.bool false, ?_, rfl⟩
          go_simp
        refine ⟨rq _ _ _ [] trivial ?_, ?_⟩
        · intro a w1 hC  (h10 : a.tmps.getD 94 undef = _) (h5 : a.tmps.getD 89 undef = _) (h0 : a.tmps.getD 84 undef = _) (h1 : a.tmps.getD 85 undef = _) (h2 : a.tmps.getD 86 undef = _) (h3 : a.tmps.getD 87 undef = _) (h4 : a.tmps.getD 88 undef = _) _ (h6 : a.tmps.getD 90 undef = _) (h7 : a.tmps.getD 91 undef = _) (h8 : a.tmps.getD 92 undef = _) (h9 : a.tmps.getD 93 undef = _) _
          refine Or.inl ⟨.bool false, ?_, rfl⟩
          go_simp
        exact trivial
      case hstb2 => repeat (first | exact trivial | refine ⟨Stays.is _, ?_⟩)
      case hendb2 =>
        intro w1 hC
        rintro _ rfl _ rfl _ rfl _ rfl _ rfl _ rfl _ rfl _ rfl _ rfl _ rfl _ rfl _ rfl
        simp only [Ends, Act.put, List.setIfInBounds_toArray, List.set_cons_succ, List.set_cons_zero]
        replace HT := hid (X.bel HT.out hC)
        replace HS := hid (X.sbel HS.out hC)
        replace HB := hid (Bl.step HB.out hC)
        clear hC
        go_wp2_with fail
        refine (X.turn_at HS.out).mono ?_
        rintro e w9 ⟨rfl, hb⟩
        replace HT := hid (X.bel HT.out hb); replace HS := hid (X.sbel HS.out hb); replace HB := hid (Bl.step HB.out hb)
        clear hb
        go_wp2_with fail
        refine (X.save_to A7 B8 M7 ⟨r, 0, x, 1⟩ u w9 co pc cc C0 HT.out HS.out HD.out (HC0.out.below HB.out) (fun ad e h0 => ⟨fun h => by have := HC0.out.lt e h0; have := HA7.out _ h; omega, fun h => by have := HC0.out.lt e h0; have := HB8.out _ h; omega⟩) HST.out HX.out (show (0 : Int) < 1 by decide) (by show (1 : Int) < 1000000000; decide) (by have := HF7.out.2; omega) xc (by rw [HN.out]; show 0 + 2 ≤ 2; decide) (X.lb HL0.out HB.out)).mono ?_
        rintro e wa ⟨Aa, Ba, Ma, Ea, sa', rfl, hAa, hBa, hAB, hat, hsu, hw, hsv, hfu, _, hlen⟩
        have HAa : Hid (∀ b, Aa b → w.heap.size ≤ b) := hid fun b hb => by rcases hAa b hb with h | h; exact HA7.out b h; have := HB.out.size; omega
        cases hsv with
        | bad E hE hwf hf h => exact absurd HF7.out.1 hf
        | good hh hs ho =>
          have HXa := hid hh
          have HSTa := hid hs
          have HNa : Hid (Ma.now.length = 2) := hid (hlen.trans HN.out)
          replace HB := hid (HB.out.trans (hw.below (B := w.heap.size) (fun b hb => by rcases hb with h | h; exact HA7.out b h; exact HB8.out b h) HB.out.size))
          replace HT := hid hat
          clear hAa hBa hAB hat hsu hw hfu hlen hh hs ho HS HD HB8 HA7 HST HX HN
          go_wp2_with fail
          refine (X.crash_to Aa Ma r wa none 0 0 [] HT.out (RdB.empty _)).mono ?_
          rintro e wb ⟨rb, Ab, rfl, hAb, hat, hb⟩
          have HNb : Hid ((Ma.crash []).now.length = 2) := hid ((Dv.crash_len (X.ok HT.out) []).trans HNa.out)
          have HXb : Hid (X.Has (Ma.crash []).now 0 C0 (1 + 1)) := hid (by rw [HSTa.out.crash]; exact HXa.out)
          replace HB := hid (Bl.step HB.out hb)
          replace HT := hid hat
          clear hAb hat hb HXa HSTa HNa HAa
          go_wp2_with fail
          refine (X.open_to Ab (Ma.crash []) rb wb 0 C0 (1 + 1) HT.out HXb.out (by rw [HNb.out]; decide) (X.lb HL0.out HB.out)).mono ?_
          rintro e wc ⟨uc, Bc, rfl, _, hsu, hb⟩
          have HS := hid hsu
          replace HB := hid (Bl.step HB.out hb)
          clear hsu hb HT HNb HXb
          go_wp2_with fail
          refine wp_region_below (by kernel_rfl) [Is (.int .i64 0), Is (.bool true), Is (.bool true), Is (.pointer (some uc)), Is (.int .i64 (1 + 1)), Is (.int .i64 1), Is (.int .i64 (1 + 1)), Is (.bool true), Is (.bool true), Is (.bool true), Is (.pointer (some uc)), IsRd .u8 C0, Is (.string (strOfNums C0)), Is (.slice co pc cc), Is (.string (strOfNums C0)), Is (.bool true), Is (.bool true), Is (.bool true)] _ rfl (by kernel_rfl) rfl ?hopc2 ?hstc2 ?hendc2
          case hopc2 =>
            refine ⟨rq _ _ _ [(23, .int .i64 0)] ⟨⟨by kernel_rfl, rfl⟩, trivial⟩ ?_, ?_⟩
            · intro a w1 hC e23
              refine Or.inl ⟨.int .i64 0, ?_, rfl⟩
              go_simp
            refine ⟨rq _ _ _ [] trivial ?_, ?_⟩
            · intro a w1 hC  (h0 : a.tmps.getD 121 undef = _)
              refine Or.inl ⟨.bool true, ?_, rfl⟩
              go_simp
            refine ⟨rq _ _ _ [] trivial ?_, ?_⟩
            · intro a w1 hC  (h1 : a.tmps.getD 122 undef = _)
              refine Or.inl ⟨.bool true, ?_, rfl⟩
              go_simp
            refine ⟨rq _ _ _ [(22, .pointer (some uc))] ⟨⟨by kernel_rfl, rfl⟩, trivial⟩ ?_, ?_⟩
            · intro a w1 hC e22 (h2 : a.tmps.getD 123 undef = _)
              refine Or.inl ⟨h2, ?_⟩
              refine Or.inl ⟨.pointer (some uc), ?_, rfl⟩
              go_simp
            refine ⟨rq _ _ _ [] trivial ?_, ?_⟩
            · intro a w1 hC  (h3 : a.tmps.getD 124 undef = _) (h2 : a.tmps.getD 123 undef = _) _
              refine Or.inl ⟨h2, ?_⟩
              refine Or.inr (Or.inl ⟨15, #[.pointer (some uc)], ?_, ?_⟩)
              · go_simp
              · refine (X.turn_at (X.sbel HS.out hC)).mono ?_
                rintro e w2 ⟨rfl, hbel⟩
                exact ⟨_, rfl, rfl, hbel⟩
            refine ⟨rq _ _ _ [(21, .int .i64 1)] ⟨⟨by kernel_rfl, rfl⟩, trivial⟩ ?_, ?_⟩
            · intro a w1 hC e21 (h2 : a.tmps.getD 123 undef = _)
              refine Or.inl ⟨h2, ?_⟩
              refine Or.inl ⟨.int .i64 1, ?_, rfl⟩
              go_simp
            refine ⟨rq _ _ _ [] trivial ?_, ?_⟩
            · intro a w1 hC  (h5 : a.tmps.getD 126 undef = _) (h2 : a.tmps.getD 123 undef = _)
              refine Or.inl ⟨h2, ?_⟩
              refine Or.inl ⟨.int .i64 (1 + 1), ?_, rfl⟩
              go_simp
              decide
            refine ⟨rq _ _ _ [] trivial ?_, ?_⟩
            · intro a w1 hC  (h4 : a.tmps.getD 125 undef = _) (h6 : a.tmps.getD 127 undef = _) (h2 : a.tmps.getD 123 undef = _)
              refine Or.inl ⟨h2, ?_⟩
              refine Or.inl ⟨.bool true, ?_, rfl⟩
              go_simp
            refine ⟨rq _ _ _ [] trivial ?_, ?_⟩
            · intro a w1 hC  (h2 : a.tmps.getD 123 undef = _) (h7 : a.tmps.getD 128 undef = _)
              refine Or.inl ⟨.bool true, ?_, rfl⟩
              go_simp
            refine ⟨rq _ _ _ [] trivial ?_, ?_⟩
            · intro a w1 hC  (h8 : a.tmps.getD 129 undef = _) (h4 : a.tmps.getD 125 undef = _)
              refine Or.inl ⟨.bool true, ?_, rfl⟩
              go_simp
            refine ⟨rq _ _ _ [(22, .pointer (some uc))] ⟨⟨by kernel_rfl, rfl⟩, trivial⟩ ?_, ?_⟩
            · intro a w1 hC e22 (h9 : a.tmps.getD 130 undef = _)
              refine Or.inl ⟨h9, ?_⟩
              refine Or.inl ⟨.pointer (some uc), ?_, rfl⟩
              go_simp
            refine ⟨rq _ _ _ [] trivial ?_, ?_⟩
            · intro a w1 hC  (h10 : a.tmps.getD 131 undef = _) (h9 : a.tmps.getD 130 undef = _) _
              refine Or.inl ⟨h9, ?_⟩
              refine Or.inr (Or.inl ⟨14, #[.pointer (some uc)], ?_, ?_⟩)
              · go_simp
              · refine (X.text_at (X.sbel HS.out hC)).mono ?_
                rintro e w2 ⟨vo, vc, rfl, hrd, hbel⟩
                exact ⟨_, rfl, ⟨vo, vc, rfl, hrd⟩, hbel⟩
            refine ⟨rq _ _ _ [] trivial ?_, ?_⟩
            · intro a w1 hC  h11 (h9 : a.tmps.getD 130 undef = _)
              refine Or.inl ⟨h9, ?_⟩
              obtain ⟨ao1, cap1, e5, hrd⟩ := h11
              have e5 : a.tmps.getD 132 undef = _ := e5
              refine Or.inl ⟨.string (strOfNums C0), ?_, rfl⟩
              have hcv := conv_str (P := Tryd.prog) hrd 30 9 5 Tryd.underlying30 Tryd.underlying5 Tryd.underlying9
              go_simp
            refine ⟨rq _ _ _ [(2, .slice co pc cc)] ⟨⟨by kernel_rfl, rfl⟩, trivial⟩ ?_, ?_⟩
            · intro a w1 hC e2 (h9 : a.tmps.getD 130 undef = _)
              refine Or.inl ⟨h9, ?_⟩
              refine Or.inl ⟨.slice co pc cc, ?_, rfl⟩
              go_simp
            refine ⟨rq _ _ _ [] trivial ?_, ?_⟩
            · intro a w1 hC  (h13 : a.tmps.getD 134 undef = _) (h9 : a.tmps.getD 130 undef = _)
              refine Or.inl ⟨h9, ?_⟩
              refine Or.inl ⟨.string (strOfNums C0), ?_, rfl⟩
              have hcv := conv_str (P := Tryd.prog) (HC0.out.below (Bl.step HB.out hC)) 30 9 5 Tryd.underlying30 Tryd.underlying5 Tryd.underlying9
              go_simp
            refine ⟨rq _ _ _ [] trivial ?_, ?_⟩
            · intro a w1 hC  (h12 : a.tmps.getD 133 undef = _) (h14 : a.tmps.getD 135 undef = _) (h9 : a.tmps.getD 130 undef = _)
              refine Or.inl ⟨h9, ?_⟩
              refine Or.inl ⟨.bool true, ?_, rfl⟩
              go_simp
            refine ⟨rq _ _ _ [] trivial ?_, ?_⟩
            · intro a w1 hC  (h9 : a.tmps.getD 130 undef = _) (h15 : a.tmps.getD 136 undef = _)
              refine Or.inl ⟨.bool true, ?_, rfl⟩
              go_simp
            refine ⟨rq _ _ _ [] trivial ?_, ?_⟩
            · intro a w1 hC  (h16 : a.tmps.getD 137 undef = _) h11 (h0 : a.tmps.getD 121 undef = _) (h1 : a.tmps.getD 122 undef = _) (h2 : a.tmps.getD 123 undef = _) (h3 : a.tmps.getD 124 undef = _) (h4 : a.tmps.getD 125 undef = _) (h5 : a.tmps.getD 126 undef = _) (h6 : a.tmps.getD 127 undef = _) (h7 : a.tmps.getD 128 undef = _) (h8 : a.tmps.getD 129 undef = _) (h9 : a.tmps.getD 130 undef = _) (h10 : a.tmps.getD 131 undef = _) _ (h12 : a.tmps.getD 133 undef = _) (h13 : a.tmps.getD 134 undef = _) (h14 : a.tmps.getD 135 undef = _) (h15 : a.tmps.getD 136 undef = _) _
              refine Or.inl ⟨.bool true, ?_, rfl⟩
              go_simp
            exact trivial
          case hstc2 => repeat (first | exact trivial | refine ⟨Stays.is _, ?_⟩ | refine ⟨Stays.rd _ _, ?_⟩)
          case hendc2 =>
            intro w1 hC
            rintro _ rfl _ rfl _ rfl _ rfl _ rfl _ rfl _ rfl _ rfl _ rfl _ rfl _ rfl
            intro x11 h11
            rintro _ rfl _ rfl _ rfl _ rfl _ rfl _ rfl
            simp only [Ends, Act.put, List.setIfInBounds_toArray, List.set_cons_succ, List.set_cons_zero]
            replace HB := hid (Bl.step HB.out hC)
            clear hC
            go_wp2_with fail
            go_ret
            exact ⟨rfl, HB.out⟩
  · have hE0 : (E == 0) = false := by simpa using hE
    rw [e5]
    clear HC
    go_wp2_with fail
    refine wp_region_below (by kernel_rfl) [Is (.pointer (some u)), Is (.int .i64 2), Is (.bool false), Is (.bool false), Is ?va34, Is ?va35, Is ?va36, Is ?va37, Is ?va38, Is ?va39, Is (.bool false), Is (.bool false)] _ rfl (by kernel_rfl) rfl ?hopa3 ?hsta3 ?henda3
    case hopa3 =>
      refine ⟨rq _ _ _ [(17, .pointer (some u))] ⟨⟨by kernel_rfl, rfl⟩, trivial⟩ ?_, ?_⟩
      · intro a w1 hC e17
        refine Or.inl ⟨.pointer (some u), ?_, rfl⟩
        go_simp
      refine ⟨rq _ _ _ [] trivial ?_, ?_⟩
      · intro a w1 hC  (h0 : a.tmps.getD 73 undef = _)
        refine Or.inr (Or.inl ⟨15, #[.pointer (some u)], ?_, ?_⟩)
        · go_simp
        · refine (X.turn_at (X.sbel HS.out hC)).mono ?_
          rintro e w2 ⟨rfl, hbel⟩
          exact ⟨_, rfl, rfl, hbel⟩
      refine ⟨rq _ _ _ [] trivial ?_, ?_⟩
      · intro a w1 hC  (h1 : a.tmps.getD 74 undef = _)
        refine Or.inl ⟨.bool false, ?_, rfl⟩
        go_simp
      refine ⟨rq _ _ _ [] trivial ?_, ?_⟩
      · intro a w1 hC  (h2 : a.tmps.getD 75 undef = _) (h1 : a.tmps.getD 74 undef = _)
        refine Or.inl ⟨.bool false, ?_, rfl⟩
        go_simp
      refine ⟨rq _ _ _ [(17, .pointer (some u))] ⟨⟨by kernel_rfl, rfl⟩, trivial⟩ ?_, ?_⟩
      · intro a w1 hC e17 (h3 : a.tmps.getD 76 undef = _)
        refine Or.inr ⟨fun hh => ?_, ?_⟩
        · have := h3.symm.trans hh; cases this
        · rfl
      refine ⟨rq _ _ _ [] trivial ?_, ?_⟩
      · intro a w1 hC  (h4 : a.tmps.getD 77 undef = _) (h3 : a.tmps.getD 76 undef = _) _
        refine Or.inr ⟨fun hh => ?_, ?_⟩
        · have := h3.symm.trans hh; cases this
        · rfl
      refine ⟨rq _ _ _ [] trivial ?_, ?_⟩
      · intro a w1 hC  (h5 : a.tmps.getD 78 undef = _) (h3 : a.tmps.getD 76 undef = _)
        refine Or.inr ⟨fun hh => ?_, ?_⟩
        · have := h3.symm.trans hh; cases this
        · rfl
      refine ⟨rq _ _ _ [(0, .slice ao pa ac)] ⟨⟨by kernel_rfl, rfl⟩, trivial⟩ ?_, ?_⟩
      · intro a w1 hC e0 (h3 : a.tmps.getD 76 undef = _)
        refine Or.inr ⟨fun hh => ?_, ?_⟩
        · have := h3.symm.trans hh; cases this
        · rfl
      refine ⟨rq _ _ _ [] trivial ?_, ?_⟩
      · intro a w1 hC  (h7 : a.tmps.getD 80 undef = _) (h3 : a.tmps.getD 76 undef = _)
        refine Or.inr ⟨fun hh => ?_, ?_⟩
        · have := h3.symm.trans hh; cases this
        · rfl
      refine ⟨rq _ _ _ [] trivial ?_, ?_⟩
      · intro a w1 hC  (h6 : a.tmps.getD 79 undef = _) (h8 : a.tmps.getD 81 undef = _) (h3 : a.tmps.getD 76 undef = _)
        refine Or.inr ⟨fun hh => ?_, ?_⟩
        · have := h3.symm.trans hh; cases this
        · rfl
      refine ⟨rq _ _ _ [] trivial ?_, ?_⟩
      · intro a w1 hC  (h3 : a.tmps.getD 76 undef = _) (h9 : a.tmps.getD 82 undef = _)
        refine Or.inl ⟨.bool false, ?_, rfl⟩
        go_simp
      refine ⟨rq _ _ _ [] trivial ?_, ?_⟩
      · intro a w1 hC  (h10 : a.tmps.getD 83 undef = _) (h5 : a.tmps.getD 78 undef = _) (h0 : a.tmps.getD 73 undef = _) (h1 : a.tmps.getD 74 undef = _) (h2 : a.tmps.getD 75 undef = _) (h3 : a.tmps.getD 76 undef = _) (h4 : a.tmps.getD 77 undef = _) _ (h6 : a.tmps.getD 79 undef = _) (h7 : a.tmps.getD 80 undef = _) (h8 : a.tmps.getD 81 undef = _) (h9 : a.tmps.getD 82 undef = _) _
        refine Or.inl ⟨.bool false, ?_, rfl⟩
        go_simp
      exact trivial
    case hsta3 => repeat (first | exact trivial | refine ⟨Stays.is _, ?_⟩)
    case henda3 =>
      intro w1 hC
      rintro _ rfl _ rfl _ rfl _ rfl _ rfl _ rfl _ rfl _ rfl _ rfl _ rfl _ rfl _ rfl
      simp only [Ends, Act.put, List.setIfInBounds_toArray, List.set_cons_succ, List.set_cons_zero]
      replace HT := hid (X.bel HT.out hC)
      replace HS := hid (X.sbel HS.out hC)
      replace HB := hid (Bl.step HB.out hC)
      clear hC
      go_wp2_with fail
      refine wp_region_below (by kernel_rfl) [Is (.pointer (some u)), Is (.int .i64 2), Is (.bool true), Is (.bool true), Is (.pointer (some u)), IsRd .u8 x, Is (.string (strOfNums x)), Is (.slice bo pb bc), Is (.string (strOfNums x)), Is (.bool true), Is (.bool true), Is (.bool true)] _ rfl (by kernel_rfl) rfl ?hopb3 ?hstb3 ?hendb3
      case hopb3 =>
        refine ⟨rq _ _ _ [(17, .pointer (some u))] ⟨⟨by kernel_rfl, rfl⟩, trivial⟩ ?_, ?_⟩
        · intro a w1 hC e17
          refine Or.inl ⟨.pointer (some u), ?_, rfl⟩
          go_simp
        refine ⟨rq _ _ _ [] trivial ?_, ?_⟩
        · intro a w1 hC  (h0 : a.tmps.getD 84 undef = _)
          refine Or.inr (Or.inl ⟨15, #[.pointer (some u)], ?_, ?_⟩)
          · go_simp
          · refine (X.turn_at (X.sbel HS.out hC)).mono ?_
            rintro e w2 ⟨rfl, hbel⟩
            exact ⟨_, rfl, rfl, hbel⟩
        refine ⟨rq _ _ _ [] trivial ?_, ?_⟩
        · intro a w1 hC  (h1 : a.tmps.getD 85 undef = _)
          refine Or.inl ⟨.bool true, ?_, rfl⟩
          go_simp
        refine ⟨rq _ _ _ [] trivial ?_, ?_⟩
        · intro a w1 hC  (h2 : a.tmps.getD 86 undef = _) (h1 : a.tmps.getD 85 undef = _)
          refine Or.inl ⟨.bool true, ?_, rfl⟩
          go_simp
        refine ⟨rq _ _ _ [(17, .pointer (some u))] ⟨⟨by kernel_rfl, rfl⟩, trivial⟩ ?_, ?_⟩
        · intro a w1 hC e17 (h3 : a.tmps.getD 87 undef = _)
          refine Or.inl ⟨h3, ?_⟩
          refine Or.inl ⟨.pointer (some u), ?_, rfl⟩
          go_simp
        refine ⟨rq _ _ _ [] trivial ?_, ?_⟩
        · intro a w1 hC  (h4 : a.tmps.getD 88 undef = _) (h3 : a.tmps.getD 87 undef = _) _
          refine Or.inl ⟨h3, ?_⟩
          refine Or.inr (Or.inl ⟨14, #[.pointer (some u)], ?_, ?_⟩)
          · go_simp
          · refine (X.text_at (X.sbel HS.out hC)).mono ?_
            rintro e w2 ⟨vo, vc, rfl, hrd, hbel⟩
            exact ⟨_, rfl, ⟨vo, vc, rfl, hrd⟩, hbel⟩
        refine ⟨rq _ _ _ [] trivial ?_, ?_⟩
        · intro a w1 hC  h5 (h3 : a.tmps.getD 87 undef = _)
          refine Or.inl ⟨h3, ?_⟩
          obtain ⟨ao1, cap1, e5, hrd⟩ := h5
          have e5 : a.tmps.getD 89 undef = _ := e5
          refine Or.inl ⟨.string (strOfNums x), ?_, rfl⟩
          have hcv := conv_str (P := Tryd.prog) hrd 30 9 5 Tryd.underlying30 Tryd.underlying5 Tryd.underlying9
          go_simp
        refine ⟨rq _ _ _ [(1, .slice bo pb bc)] ⟨⟨by kernel_rfl, rfl⟩, trivial⟩ ?_, ?_⟩
        · intro a w1 hC e1 (h3 : a.tmps.getD 87 undef = _)
          refine Or.inl ⟨h3, ?_⟩
          refine Or.inl ⟨.slice bo pb bc, ?_, rfl⟩
          go_simp
        refine ⟨rq _ _ _ [] trivial ?_, ?_⟩
        · intro a w1 hC  (h7 : a.tmps.getD 91 undef = _) (h3 : a.tmps.getD 87 undef = _)
          refine Or.inl ⟨h3, ?_⟩
          refine Or.inl ⟨.string (strOfNums x), ?_, rfl⟩
          have hcv := conv_str (P := Tryd.prog) (HB0.out.below (Bl.step HB.out hC)) 30 9 5 Tryd.underlying30 Tryd.underlying5 Tryd.underlying9
          go_simp
        refine ⟨rq _ _ _ [] trivial ?_, ?_⟩
        · intro a w1 hC  (h6 : a.tmps.getD 90 undef = _) (h8 : a.tmps.getD 92 undef = _) (h3 : a.tmps.getD 87 undef = _)
          refine Or.inl ⟨h3, ?_⟩
          refine Or.inl ⟨.bool true, ?_, rfl⟩
          go_simp
        refine ⟨rq _ _ _ [] trivial ?_, ?_⟩
        · intro a w1 hC  (h3 : a.tmps.getD 87 undef = _) (h9 : a.tmps.getD 93 undef = _)
          refine Or.inl ⟨.bool true, ?_, rfl⟩
          go_simp
        refine ⟨rq _ _ _ [] trivial ?_, ?_⟩
        · intro a w1 hC  (h10 : a.tmps.getD 94 undef = _) h5 (h0 : a.tmps.getD 84 undef = _) (h1 : a.tmps.getD 85 undef = _) (h2 : a.tmps.getD 86 undef = _) (h3 : a.tmps.getD 87 undef = _) (h4 : a.tmps.getD 88 undef = _) _ (h6 : a.tmps.getD 90 undef = _) (h7 : a.tmps.getD 91 undef = _) (h8 : a.tmps.getD 92 undef = _) (h9 : a.tmps.getD 93 undef = _) _
          refine Or.inl ⟨.bool true, ?_, rfl⟩
          go_simp
        exact trivial
      case hstb3 => repeat (first | exact trivial | refine ⟨Stays.is _, ?_⟩ | refine ⟨Stays.rd _ _, ?_⟩)
      case hendb3 =>
        intro w1 hC
        rintro _ rfl _ rfl _ rfl _ rfl _ rfl
        intro x5 h5
        rintro _ rfl _ rfl _ rfl _ rfl _ rfl _ rfl
        simp only [Ends, Act.put, List.setIfInBounds_toArray, List.set_cons_succ, List.set_cons_zero]
        replace HT := hid (X.bel HT.out hC)
        replace HS := hid (X.sbel HS.out hC)
        replace HB := hid (Bl.step HB.out hC)
        clear hC
        go_wp2_with fail
        refine (X.turn_at HS.out).mono ?_
        rintro e w9 ⟨rfl, hb⟩
        replace HT := hid (X.bel HT.out hb); replace HS := hid (X.sbel HS.out hb); replace HB := hid (Bl.step HB.out hb)
        clear hb
        go_wp2_with fail
        refine (X.save_to A7 B8 M7 ⟨r, 0, x, 2⟩ u w9 co pc cc C0 HT.out HS.out HD.out (HC0.out.below HB.out) (fun ad e h0 => ⟨fun h => by have := HC0.out.lt e h0; have := HA7.out _ h; omega, fun h => by have := HC0.out.lt e h0; have := HB8.out _ h; omega⟩) HST.out HX.out (show (0 : Int) < 2 by decide) (by show (2 : Int) < 1000000000; decide) (by have := HF7.out.2; omega) xc (by rw [HN.out]; show 0 + 2 ≤ 2; decide) (X.lb HL0.out HB.out)).mono ?_
        rintro e wa ⟨Aa, Ba, Ma, Ea, sa', rfl, hAa, hBa, hAB, hat, hsu, hw, hsv, hfu, _, hlen⟩
        have HAa : Hid (∀ b, Aa b → w.heap.size ≤ b) := hid fun b hb => by rcases hAa b hb with h | h; exact HA7.out b h; have := HB.out.size; omega
        cases hsv with
        | bad E hE hwf hf h => exact absurd HF7.out.1 hf
        | good hh hs ho =>
          have HXa := hid hh
          have HSTa := hid hs
          have HNa : Hid (Ma.now.length = 2) := hid (hlen.trans HN.out)
          replace HB := hid (HB.out.trans (hw.below (B := w.heap.size) (fun b hb => by rcases hb with h | h; exact HA7.out b h; exact HB8.out b h) HB.out.size))
          replace HT := hid hat
          clear hAa hBa hAB hat hsu hw hfu hlen hh hs ho HS HD HB8 HA7 HST HX HN
          go_wp2_with fail
          refine (X.crash_to Aa Ma r wa none 0 0 [] HT.out (RdB.empty _)).mono ?_
          rintro e wb ⟨rb, Ab, rfl, hAb, hat, hb⟩
          have HNb : Hid ((Ma.crash []).now.length = 2) := hid ((Dv.crash_len (X.ok HT.out) []).trans HNa.out)
          have HXb : Hid (X.Has (Ma.crash []).now 0 C0 (2 + 1)) := hid (by rw [HSTa.out.crash]; exact HXa.out)
          replace HB := hid (Bl.step HB.out hb)
          replace HT := hid hat
          clear hAb hat hb HXa HSTa HNa HAa
          go_wp2_with fail
          refine (X.open_to Ab (Ma.crash []) rb wb 0 C0 (2 + 1) HT.out HXb.out (by rw [HNb.out]; decide) (X.lb HL0.out HB.out)).mono ?_
          rintro e wc ⟨uc, Bc, rfl, _, hsu, hb⟩
          have HS := hid hsu
          replace HB := hid (Bl.step HB.out hb)
          clear hsu hb HT HNb HXb
          go_wp2_with fail
          refine wp_region_below (by kernel_rfl) [Is (.int .i64 0), Is (.bool true), Is (.bool true), Is (.pointer (some uc)), Is (.int .i64 (2 + 1)), Is (.int .i64 2), Is (.int .i64 (2 + 1)), Is (.bool true), Is (.bool true), Is (.bool true), Is (.pointer (some uc)), IsRd .u8 C0, Is (.string (strOfNums C0)), Is (.slice co pc cc), Is (.string (strOfNums C0)), Is (.bool true), Is (.bool true), Is (.bool true)] _ rfl (by kernel_rfl) rfl ?hopc3 ?hstc3 ?hendc3
          case hopc3 =>
            refine ⟨rq _ _ _ [(23, .int .i64 0)] ⟨⟨by kernel_rfl, rfl⟩, trivial⟩ ?_, ?_⟩
            · intro a w1 hC e23
              refine Or.inl ⟨.int .i64 0, ?_, rfl⟩
              go_simp
            refine ⟨rq _ _ _ [] trivial ?_, ?_⟩
            · intro a w1 hC  (h0 : a.tmps.getD 121 undef = _)
              refine Or.inl ⟨.bool true, ?_, rfl⟩
              go_simp
            refine ⟨rq _ _ _ [] trivial ?_, ?_⟩
            · intro a w1 hC  (h1 : a.tmps.getD 122 undef = _)
              refine Or.inl ⟨.bool true, ?_, rfl⟩
              go_simp
            refine ⟨rq _ _ _ [(22, .pointer (some uc))] ⟨⟨by kernel_rfl, rfl⟩, trivial⟩ ?_, ?_⟩
            · intro a w1 hC e22 (h2 : a.tmps.getD 123 undef = _)
              refine Or.inl ⟨h2, ?_⟩
              refine Or.inl ⟨.pointer (some uc), ?_, rfl⟩
              go_simp
            refine ⟨rq _ _ _ [] trivial ?_, ?_⟩
            · intro a w1 hC  (h3 : a.tmps.getD 124 undef = _) (h2 : a.tmps.getD 123 undef = _) _
              refine Or.inl ⟨h2, ?_⟩
              refine Or.inr (Or.inl ⟨15, #[.pointer (some uc)], ?_, ?_⟩)
              · go_simp
              · refine (X.turn_at (X.sbel HS.out hC)).mono ?_
                rintro e w2 ⟨rfl, hbel⟩
                exact ⟨_, rfl, rfl, hbel⟩
            refine ⟨rq _ _ _ [(21, .int .i64 2)] ⟨⟨by kernel_rfl, rfl⟩, trivial⟩ ?_, ?_⟩
            · intro a w1 hC e21 (h2 : a.tmps.getD 123 undef = _)
              refine Or.inl ⟨h2, ?_⟩
              refine Or.inl ⟨.int .i64 2, ?_, rfl⟩
              go_simp
            refine ⟨rq _ _ _ [] trivial ?_, ?_⟩
            · intro a w1 hC  (h5 : a.tmps.getD 126 undef = _) (h2 : a.tmps.getD 123 undef = _)
              refine Or.inl ⟨h2, ?_⟩
              refine Or.inl ⟨.int .i64 (2 + 1), ?_, rfl⟩
              go_simp
              decide
            refine ⟨rq _ _ _ [] trivial ?_, ?_⟩
            · intro a w1 hC  (h4 : a.tmps.getD 125 undef = _) (h6 : a.tmps.getD 127 undef = _) (h2 : a.tmps.getD 123 undef = _)
              refine Or.inl ⟨h2, ?_⟩
              refine Or.inl ⟨.bool true, ?_, rfl⟩
              go_simp
            refine ⟨rq _ _ _ [] trivial ?_, ?_⟩
            · intro a w1 hC  (h2 : a.tmps.getD 123 undef = _) (h7 : a.tmps.getD 128 undef = _)
              refine Or.inl ⟨.bool true, ?_, rfl⟩
              go_simp
            refine ⟨rq _ _ _ [] trivial ?_, ?_⟩
            · intro a w1 hC  (h8 : a.tmps.getD 129 undef = _) (h4 : a.tmps.getD 125 undef = _)
              refine Or.inl ⟨.bool true, ?_, rfl⟩
              go_simp
            refine ⟨rq _ _ _ [(22, .pointer (some uc))] ⟨⟨by kernel_rfl, rfl⟩, trivial⟩ ?_, ?_⟩
            · intro a w1 hC e22 (h9 : a.tmps.getD 130 undef = _)
              refine Or.inl ⟨h9, ?_⟩
              refine Or.inl ⟨.pointer (some uc), ?_, rfl⟩
              go_simp
            refine ⟨rq _ _ _ [] trivial ?_, ?_⟩
            · intro a w1 hC  (h10 : a.tmps.getD 131 undef = _) (h9 : a.tmps.getD 130 undef = _) _
              refine Or.inl ⟨h9, ?_⟩
              refine Or.inr (Or.inl ⟨14, #[.pointer (some uc)], ?_, ?_⟩)
              · go_simp
              · refine (X.text_at (X.sbel HS.out hC)).mono ?_
                rintro e w2 ⟨vo, vc, rfl, hrd, hbel⟩
                exact ⟨_, rfl, ⟨vo, vc, rfl, hrd⟩, hbel⟩
            refine ⟨rq _ _ _ [] trivial ?_, ?_⟩
            · intro a w1 hC  h11 (h9 : a.tmps.getD 130 undef = _)
              refine Or.inl ⟨h9, ?_⟩
              obtain ⟨ao1, cap1, e5, hrd⟩ := h11
              have e5 : a.tmps.getD 132 undef = _ := e5
              refine Or.inl ⟨.string (strOfNums C0), ?_, rfl⟩
              have hcv := conv_str (P := Tryd.prog) hrd 30 9 5 Tryd.underlying30 Tryd.underlying5 Tryd.underlying9
              go_simp
            refine ⟨rq _ _ _ [(2, .slice co pc cc)] ⟨⟨by kernel_rfl, rfl⟩, trivial⟩ ?_, ?_⟩
            · intro a w1 hC e2 (h9 : a.tmps.getD 130 undef = _)
              refine Or.inl ⟨h9, ?_⟩
              refine Or.inl ⟨.slice co pc cc, ?_, rfl⟩
              go_simp
            refine ⟨rq _ _ _ [] trivial ?_, ?_⟩
            · intro a w1 hC  (h13 : a.tmps.getD 134 undef = _) (h9 : a.tmps.getD 130 undef = _)
              refine Or.inl ⟨h9, ?_⟩
              refine Or.inl ⟨.string (strOfNums C0), ?_, rfl⟩
              have hcv := conv_str (P := Tryd.prog) (HC0.out.below (Bl.step HB.out hC)) 30 9 5 Tryd.underlying30 Tryd.underlying5 Tryd.underlying9
              go_simp
            refine ⟨rq _ _ _ [] trivial ?_, ?_⟩
            · intro a w1 hC  (h12 : a.tmps.getD 133 undef = _) (h14 : a.tmps.getD 135 undef = _) (h9 : a.tmps.getD 130 undef = _)
              refine Or.inl ⟨h9, ?_⟩
              refine Or.inl ⟨.bool true, ?_, rfl⟩
              go_simp
            refine ⟨rq _ _ _ [] trivial ?_, ?_⟩
            · intro a w1 hC  (h9 : a.tmps.getD 130 undef = _) (h15 : a.tmps.getD 136 undef = _)
              refine Or.inl ⟨.bool true, ?_, rfl⟩
              go_simp
            refine ⟨rq _ _ _ [] trivial ?_, ?_⟩
            · intro a w1 hC  (h16 : a.tmps.getD 137 undef = _) h11 (h0 : a.tmps.getD 121 undef = _) (h1 : a.tmps.getD 122 undef = _) (h2 : a.tmps.getD 123 undef = _) (h3 : a.tmps.getD 124 undef = _) (h4 : a.tmps.getD 125 undef = _) (h5 : a.tmps.getD 126 undef = _) (h6 : a.tmps.getD 127 undef = _) (h7 : a.tmps.getD 128 undef = _) (h8 : a.tmps.getD 129 undef = _) (h9 : a.tmps.getD 130 undef = _) (h10 : a.tmps.getD 131 undef = _) _ (h12 : a.tmps.getD 133 undef = _) (h13 : a.tmps.getD 134 undef = _) (h14 : a.tmps.getD 135 undef = _) (h15 : a.tmps.getD 136 undef = _) _
              refine Or.inl ⟨.bool true, ?_, rfl⟩
              go_simp
            exact trivial
          case hstc3 => repeat (first | exact trivial | refine ⟨Stays.is _, ?_⟩ | refine ⟨Stays.rd _ _, ?_⟩)
          case hendc3 =>
            intro w1 hC
            rintro _ rfl _ rfl _ rfl _ rfl _ rfl _ rfl _ rfl _ rfl _ rfl _ rfl _ rfl
            intro x11 h11
            rintro _ rfl _ rfl _ rfl _ rfl _ rfl _ rfl
            simp only [Ends, Act.put, List.setIfInBounds_toArray, List.set_cons_succ, List.set_cons_zero]
            replace HB := hid (Bl.step HB.out hC)
            clear hC
            go_wp2_with fail
            go_ret
            exact ⟨rfl, HB.out⟩
end Go.Proofs.YtpfcopdckjedfaaDoor
