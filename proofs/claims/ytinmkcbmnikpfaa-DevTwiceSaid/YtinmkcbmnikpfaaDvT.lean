/- dev's laws: DevTwice; over DevSpec. -/
import Derived.Test.YtinmkcbmnikpfaaDvK
namespace Go.Proofs.Ytinmkcbmnikpfaa
open Go.RowKit
set_option linter.unusedVariables false

theorem rem16 (x : Int) : ∃ i : Nat, i < 16 ∧ (x.tmod 16 + 16).tmod 16 = i := by
  have h1 := Int.lt_tmod_of_pos x (b := 16) (by decide)
  have h2 := Int.tmod_lt_of_pos x (b := 16) (by decide)
  refine ⟨((x.tmod 16 + 16) % 16).toNat, by omega, ?_⟩
  rw [Int.tmod_eq_emod_of_nonneg (by omega)]
  omega
set_option maxRecDepth 100000 in
set_option maxHeartbeats 4000000 in
theorem devTwice_walk (X : DevSpec) (wo_ : Option Addr) (n cap : Nat) (xs : List Int) (fl : Int) (ao : Option Addr) (kl kc : Nat) (ks : List Bool) (bo : Option Addr) (jl jc : Nat) (js : List Bool) (w : World) (hx : Rd .i64 w wo_ n cap xs) (hks : RdB w ao kl kc ks) (hjs : RdB w bo jl jc js) :
    Calls Try.prog 5 #[.slice wo_ n cap, .int .i64 fl, .slice ao kl kc, .slice bo jl jc] w fun e w' => e = .returned (.bool true) ∧ Below w.heap.size w w' := by
  have HX := hid hx; have HK := hid hks; have HJ := hid hjs
  have hnc := hx.cap63
  have hnl := hx.le
  clear hx hks hjs
  go_enter Try.func5, Try.ntmps5
  go_wp2_with fail
  refine (begun_to X w).mono ?_
  rintro e w1 ⟨rfl, hb⟩
  have HB := hid hb
  clear hb
  go_wp2_with fail
  refine (X.new_to 16 w1 (by decide)).mono ?_
  rintro e w2 ⟨p, A, rfl, hA, hat, hb⟩
  have HA : Hid (∀ b, A b → w.heap.size ≤ b) := hid fun b hb => Nat.le_trans HB.out.size (hA b hb)
  have HT := hid hat
  replace HB := hid (Bl.step HB.out hb)
  clear hA hat hb
  go_wp2_with fail
  go_loopw [11] (fun i wr => ∃ (k : Nat) (A : Nat → Prop) (M : Dv), k ≤ n ∧ k ≤ 30 ∧ i = .int .i64 k ∧ (∀ b, A b → w.heap.size ≤ b) ∧ X.At A M p wr ∧ (M.now.length = 16 ∧ M.fuse = -1 ∧ M.calls ≤ 2 * k) ∧ Below w.heap.size w wr) (fun i _ => n - (intOf i).toNat)
  case atStart => exact ⟨0, A, _, Nat.zero_le _, by omega, rfl, HA.out, HT.out, ⟨rfl, rfl, Nat.le_refl _⟩, HB.out⟩
  case round =>
    clear HA HT HB
    obtain ⟨k, A, M, hk, hk30, rfl, hA, hat, hq, hB⟩ := hrel
    have HA := hid hA; have HT := hid hat; have HB := hid hB; have HQ := hid hq
    clear hA hat hB hq
    by_cases hlt : k < n ∧ k < 30
    · obtain ⟨hlt, h30⟩ := hlt
      obtain ⟨bx, ox, rfl, hcx⟩ := HX.out.at (by omega)
      have hc := (HB.out.cell (World.block_lt_of_cell? _ _ (hcx k hlt))).trans (hcx k hlt)
      obtain ⟨x, hx⟩ : ∃ x, xs.getD k 0 = x := ⟨_, rfl⟩
      rw [hx] at hc
      clear hx hcx
      obtain ⟨i4, hi4, hi5⟩ := rem16 x
      obtain ⟨t, ht⟩ : ∃ t, x.tmod 16 = t ∧ -16 < t ∧ t < 16 := ⟨_, rfl, Int.lt_tmod_of_pos _ (by decide), Int.tmod_lt_of_pos _ (by decide)⟩
      obtain ⟨ht, ht1, ht2⟩ := ht
      rw [ht] at hi5
      obtain ⟨e1, e2, e3, e4, _⟩ := Dv.write_live (M := M) (by rw [HQ.out.2.1]; decide) (i := (i4 : Int)) (by omega) (by rw [HQ.out.1]; omega) (b := [(k : Int) + 1]) (m := 1) rfl (by decide)
      rw [HQ.out.2.1, if_neg (by decide)] at e3
      rw [HQ.out.1] at e4
      have HE := hid (And.intro e2 (And.intro e3 e4))
      have HBL := hid ((Bl.refl wr).alloc (Nat.le_refl _) (.cells #[.int .u8 ((k : Int) + 1)] 5))
      have HRD := hid (Rd.built wr .u8 5 ((k : Int) + 1) (WalkArith.wf_u8 ⟨by omega, by omega⟩))
      clear e2 e3 e4
      go_wp2_with fail
      refine (X.write_to A M p _ i4 _ 1 1 [(k : Int) + 1] (X.bel HT.out HBL.out) (WalkArith.wf_i64 ⟨by omega, by omega⟩) HRD.out (fun ad e h => by cases e; have := X.lt HT.out _ h; simp at this) (by have := HQ.out.2.2; omega)).mono ?_
      rintro e wa ⟨A2, rfl, hA2, hat, hw⟩
      rw [e1]
      have HA2 : Hid (∀ b, A2 b → w.heap.size ≤ b) := hid fun b hb => by rcases hA2 b hb with h | h; exact HA.out b h; have := HB.out.size; have := HBL.out.size; omega
      replace HB := hid ((HB.out.trans (HBL.out.mono HB.out.size)).trans (hw.below HA.out (Nat.le_trans HB.out.size HBL.out.size)))
      replace HT := hid hat
      obtain ⟨M2, hM2⟩ : ∃ M2, M.write (i4 : Int) [(k : Int) + 1] = M2 := ⟨_, rfl⟩
      rw [hM2] at HT HE
      have HQ2 : Hid (M2.now.length = 16 ∧ M2.fuse = -1 ∧ M2.calls ≤ 2 * k + 1) := hid ⟨HE.out.2.2, HE.out.2.1, by have := HE.out.1; have := HQ.out.2.2; omega⟩
      clear hA2 hat hw e1 HBL HRD HE hM2 HQ HA hc hi5 ht ht1 ht2 hi4
      by_cases hfl : (k : Int) = fl
      · obtain ⟨e1, e2, e3, e4⟩ := Dv.flush_live (M := M2) (by rw [HQ2.out.2.1]; decide)
        rw [HQ2.out.2.1, if_neg (by decide)] at e3
        rw [HQ2.out.1] at e4
        have HE := hid (And.intro e2 (And.intro e3 e4))
        clear e2 e3 e4
        go_wp2_with fail
        refine (X.flush_to A2 M2 p wa HT.out (by have := HQ2.out.2.2; omega)).mono ?_
        rintro e wb ⟨A3, rfl, hA3, hat, hw⟩
        rw [e1]
        have HA3 : Hid (∀ b, A3 b → w.heap.size ≤ b) := hid fun b hb => by rcases hA3 b hb with h | h; exact HA2.out b h; have := HB.out.size; omega
        replace HB := hid (HB.out.trans (hw.below HA2.out HB.out.size))
        replace HT := hid hat
        clear hA3 hat hw e1
        go_wp2_with fail
        go_roundw
        case rel => exact ⟨k + 1, A3, _, by omega, by omega, by go_num, HA3.out, HT.out, ⟨HE.out.2.2, HE.out.2.1, by have := HE.out.1; have := HQ2.out.2.2; omega⟩, HB.out⟩
        case measure => simp [intOf]; omega
      · go_wp2_with fail
        go_roundw
        case rel => exact ⟨k + 1, A2, M2, by omega, by omega, by go_num, HA2.out, HT.out, ⟨HQ2.out.1, HQ2.out.2.1, by have := HQ2.out.2.2; omega⟩, HB.out⟩
        case measure => simp [intOf]; omega
    · have hex : ¬ k < n ∨ k < n ∧ ¬ (k : Int) < 30 := by omega
      replace HK := hid (HK.out.below HB.out); replace HJ := hid (HJ.out.below HB.out)
      have HQQ := HQ
      clear HQ hlt
      rcases hex with h | ⟨h, h'⟩
      all_goals
        go_wp2_with fail
        all_goals
          refine (X.crash_to A M p wr ao kl kc ks HT.out HK.out).mono ?_
          rintro e wa ⟨q, Aq, rfl, hAq, hq, hb⟩
          have HQ := hid hq
          replace HJ := hid (HJ.out.below hb)
          replace HB := hid (Bl.step HB.out hb)
          clear hAq hq hb HA HK
          have hok := X.ok HT.out
          clear HT
          go_wp2_with fail
          refine (X.crash_to Aq (M.crash ks) q wa bo jl jc js HQ.out HJ.out).mono ?_
          rintro e wb ⟨r, Ar, rfl, hAr, hr, hb⟩
          have HR := hid hr
          replace HQ := hid (X.bel HQ.out hb); replace HB := hid (Bl.step HB.out hb)
          clear hAr hr hb HJ
          obtain ⟨N, hN⟩ : ∃ N, M.crash ks = N := ⟨_, rfl⟩
          have h16 : N.now.length = 16 := by rw [← hN]; exact (keepS_length _ _ _ ks hok.s hok.l).trans HQQ.out.1
          have hsm : N.crash js = ⟨N.now, N.now, List.replicate N.now.length false, 0, -1⟩ := by
            have e1 : N.safe = N.now := by rw [← hN]; rfl
            have e2 : keepS N.now N.safe N.loose js = N.now := by rw [e1]; exact keepS_same _ _ _ (by rw [← hN]; exact (Dv.crash_ok hok ks).l)
            unfold Dv.crash
            rw [e2]
          have hnk := (Dv.crash_ok hok ks).now
          rw [hN] at hnk
          rw [hN, hsm] at HR
          rw [hN] at HQ
          clear hN hsm hok HQQ
          have HNK := hid hnk
          clear hnk
          obtain ⟨wo, rfl⟩ : ∃ wo : World, wo = wr := ⟨_, rfl⟩
          go_wp2_with fail
          go_loopw [14] (fun i wr => ∃ j : Nat, j ≤ 16 ∧ i = .int .i64 j ∧ X.At Aq N q wr ∧ X.At Ar ⟨N.now, N.now, List.replicate N.now.length false, 0, -1⟩ r wr ∧ Below w.heap.size w wr) (fun i _ => 16 - (intOf i).toNat)
          case atStart => exact ⟨0, Nat.zero_le _, rfl, HQ.out, HR.out, HB.out⟩
          case round =>
            clear HQ HR HB
            obtain ⟨j, hj, rfl, hq, hr, hB⟩ := hrel
            have HQ := hid hq; have HR := hid hr; have HB := hid hB
            clear hq hr hB
            by_cases hlt : j < 16
            · have hji : (j : Int) < 16 := by omega
              obtain ⟨r1, r2⟩ := Dv.read_nat N j (by omega)
              obtain ⟨r3, r4⟩ := Dv.read_nat ⟨N.now, N.now, List.replicate N.now.length false, 0, -1⟩ j (by show j < N.now.length; omega)
              obtain ⟨S, hS⟩ : ∃ S, N.now.getD j [] = S := ⟨_, rfl⟩
              rw [hS] at r2
              rw [show (⟨N.now, N.now, List.replicate N.now.length false, 0, -1⟩ : Dv).now.getD j [] = S from hS] at r4
              have hS64 : S.length = 64 := (HNK.out S (by rw [← hS, List.getD_eq_getElem?_getD, List.getElem?_eq_getElem (by omega)]; exact List.getElem_mem _)).1
              have HS := hid hS64
              clear hS hS64
              go_wp2_with fail
              refine (X.read_to Aq N q wr j HQ.out (WalkArith.wf_i64 ⟨by omega, by omega⟩)).mono ?_
              rintro e wc ⟨v, rfl, hv, hb⟩
              rw [r2] at hv
              rw [r1]
              replace HQ := hid (X.bel HQ.out hb); replace HR := hid (X.bel HR.out hb); replace HB := hid (Bl.step HB.out hb)
              obtain ⟨vo, vc, rfl, hrd⟩ := hv.rd
              rw [HS.out] at hrd ⊢
              have HV := hid hrd
              clear hb hv hrd r1 r2
              go_wp2_with fail
              refine (X.read_to Ar _ r wc j HR.out (WalkArith.wf_i64 ⟨by omega, by omega⟩)).mono ?_
              rintro e wd ⟨v, rfl, hv, hb⟩
              rw [r4] at hv
              rw [r3]
              replace HQ := hid (X.bel HQ.out hb); replace HR := hid (X.bel HR.out hb); replace HB := hid (Bl.step HB.out hb)
              replace HV := hid (HV.out.below hb)
              obtain ⟨uo, uc, rfl, hrd⟩ := hv.rd
              rw [HS.out] at hrd ⊢
              have c1 := conv_str (P := Try.prog) HV.out 22 9 5 Try.underlying22 Try.underlying5 Try.underlying9
              have c2 := conv_str (P := Try.prog) hrd 22 9 5 Try.underlying22 Try.underlying5 Try.underlying9
              clear hb hv hrd r3 r4 HV
              go_wp2_with fail
              go_roundw
              case rel => exact ⟨j + 1, by omega, by go_num, HQ.out, HR.out, HB.out⟩
              case measure => simp [intOf]; omega
            · obtain rfl : j = 16 := by omega
              clear hj hlt
              go_wp2_with fail
              refine (X.calls_to Ar _ r wr HR.out (by show (0 : Nat) < 1000000000; decide)).mono ?_
              rintro e wc ⟨rfl, hb⟩
              replace HR := hid (X.bel HR.out hb); replace HB := hid (Bl.step HB.out hb)
              clear hb HQ
              go_wp2_with fail
              refine (X.dead_to Ar _ r wc HR.out).mono ?_
              rintro e wd ⟨rfl, hb⟩
              replace HR := hid (X.bel HR.out hb); replace HB := hid (Bl.step HB.out hb)
              clear hb
              go_wp2_with fail
              refine (X.loose_to Ar _ r wd HR.out).mono ?_
              rintro e we ⟨v, rfl, hv, hb⟩
              rw [show Dv.looses ⟨N.now, N.now, List.replicate N.now.length false, 0, -1⟩ = [] from looses_none 0 _] at hv
              obtain ⟨vo, vc, rfl, _⟩ := hv.rd
              rw [show ([] : List Int).length = 0 from rfl]
              replace HB := hid (Bl.step HB.out hb)
              clear hb hv HR
              go_wp2_with fail
              go_ret
              exact ⟨rfl, HB.out⟩
end Go.Proofs.Ytinmkcbmnikpfaa
