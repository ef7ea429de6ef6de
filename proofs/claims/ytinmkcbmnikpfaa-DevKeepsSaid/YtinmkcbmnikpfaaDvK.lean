/- dev's laws: DevKeeps; over DevSpec. -/
import Derived.Test.YtinmkcbmnikpfaaDvL
namespace Go.Proofs.Ytinmkcbmnikpfaa
open Go.RowKit
set_option linter.unusedVariables false

theorem Dv.read_nat (M : Dv) (i : Nat) (hi : i < M.now.length) : M.readE i = 0 ∧ M.read i = M.now.getD i [] := by
  refine ⟨by unfold Dv.readE; rw [if_neg (by omega)], by unfold Dv.read; rw [if_neg (by omega)]; rfl⟩
set_option maxRecDepth 100000 in
set_option maxHeartbeats 4000000 in
theorem devKeeps_walk (X : DevSpec) (n : Int) (ao : Option Addr) (kl kc : Nat) (ks : List Bool) (w : World) (hks : RdB w ao kl kc ks) : Calls Try.prog 7 #[.int .i64 n, .slice ao kl kc] w fun e w' => e = .returned (.bool true) ∧ Below w.heap.size w w' := by
  have HK := hid hks
  have hkc := hks.cap63
  have hkl := hks.le
  clear hks
  go_enter Try.func7, Try.ntmps7
  go_wp2_with fail
  refine (begun_to X w).mono ?_
  rintro e w1 ⟨rfl, hb⟩
  have HB := hid hb
  clear hb
  by_cases hr : n < 0 ∨ 20 < n
  · rcases hr with h | h
    all_goals
      go_wp2_with fail
      all_goals
        go_ret
        exact ⟨rfl, HB.out⟩
  · obtain ⟨m, rfl⟩ : ∃ m : Nat, n = m := ⟨n.toNat, by omega⟩
    have h1 : ¬ 20 < (m : Int) := by omega
    clear hr
    go_wp2_with fail
    refine (X.new_to 40 w1 (by decide)).mono ?_
    rintro e w2 ⟨p, A, rfl, hA, hat, hb⟩
    have HA : Hid (∀ b, A b → w.heap.size ≤ b) := hid fun b hb => Nat.le_trans HB.out.size (hA b hb)
    have HT : Hid (X.At A (kM 0) p w2) := hid hat
    replace HB := hid (Bl.step HB.out hb)
    clear hA hat hb
    go_wp2_with fail
    go_loopw [7] (fun i wr => ∃ (k : Nat) (A : Nat → Prop), k ≤ m ∧ i = .int .i64 k ∧ (∀ b, A b → w.heap.size ≤ b) ∧ X.At A (kM k) p wr ∧ Below w.heap.size w wr) (fun i _ => m - (intOf i).toNat)
    case atStart => exact ⟨0, A, Nat.zero_le _, rfl, HA.out, HT.out, HB.out⟩
    case round =>
      clear HA HT HB
      obtain ⟨k, A, hk, rfl, hA, hat, hB⟩ := hrel
      have HA := hid hA; have HT := hid hat; have HB := hid hB
      clear hA hat hB
      by_cases hlt : k < m
      · obtain ⟨f1, f2, f3, f4⟩ := kM_facts k (by omega)
        obtain ⟨i4, hi4⟩ : ∃ i4 : Nat, 39 - 2 * (k : Int) = i4 := ⟨(39 - 2 * (k : Int)).toNat, by omega⟩
        have hwr := kM_write k (by omega)
        obtain ⟨e1, _⟩ := Dv.write_live (M := kM k) (by rw [f2]; decide) (i := 39 - 2 * (k : Int)) (by omega) (by rw [f3]; omega) (b := [(k : Int) + 1]) (m := 1) rfl (by decide)
        rw [hi4] at hwr e1
        have HBL := hid ((Bl.refl wr).alloc (Nat.le_refl _) (.cells #[.int .u8 ((k : Int) + 1)] 5))
        have HRD := hid (Rd.built wr .u8 5 ((k : Int) + 1) (WalkArith.wf_u8 ⟨by omega, by omega⟩))
        have HF1 := hid f1
        have HWR := hid hwr
        clear f1 f2 f3 f4 hwr
        go_wp2_with fail
        refine (X.write_to A (kM k) p _ i4 _ 1 1 [(k : Int) + 1] (X.bel HT.out HBL.out) (WalkArith.wf_i64 ⟨by omega, by omega⟩) HRD.out (fun ad e h => by cases e; have := X.lt HT.out _ h; simp at this) (by rw [HF1.out]; omega)).mono ?_
        rintro e wa ⟨A2, rfl, hA2, hat, hw⟩
        rw [e1]
        rw [HWR.out] at hat
        have HA2 : Hid (∀ b, A2 b → w.heap.size ≤ b) := hid fun b hb => by rcases hA2 b hb with h | h; exact HA.out b h; have := HB.out.size; have := HBL.out.size; omega
        replace HB := hid ((HB.out.trans (HBL.out.mono HB.out.size)).trans (hw.below HA.out (Nat.le_trans HB.out.size HBL.out.size)))
        replace HT := hid hat
        clear hA2 hat hw e1 HBL HRD HF1 HWR
        go_wp2_with fail
        go_roundw
        case rel => exact ⟨k + 1, A2, by omega, by go_num, HA2.out, HT.out, HB.out⟩
        case measure => simp [intOf]; omega
      · obtain rfl : k = m := by omega
        clear hk hlt
        replace HK := hid (HK.out.below HB.out)
        go_wp2_with fail
        refine (X.crash_to A (kM k) p wr ao kl kc ks HT.out HK.out).mono ?_
        rintro e wa ⟨q, Aq, rfl, hAq, hq, hb⟩
        have HQ := hid hq
        replace HT := hid (X.bel HT.out hb); replace HB := hid (Bl.step HB.out hb)
        replace HK := hid (HK.out.below hb)
        clear hAq hq hb HA
        go_wp2_with fail
        obtain ⟨wo, rfl⟩ : ∃ wo : World, wo = wr := ⟨_, rfl⟩
        go_loopw [9] (fun i wr => ∃ j : Nat, j ≤ k ∧ i = .int .i64 j ∧ X.At Aq ((kM k).crash ks) q wr ∧ X.At A (kM k) p wr ∧ Below w.heap.size w wr ∧ RdB wr ao kl kc ks) (fun i _ => k - (intOf i).toNat)
        case atStart => exact ⟨0, Nat.zero_le _, rfl, HQ.out, HT.out, HB.out, HK.out⟩
        case round =>
          clear HQ HT HB HK
          obtain ⟨j, hj, rfl, hq, hat, hB, hK⟩ := hrel
          have HQ := hid hq; have HT := hid hat; have HB := hid hB; have HK := hid hK
          clear hq hat hB hK
          by_cases hlt : j < k
          · obtain ⟨c1, c2⟩ := kM_crash k j (by omega) hlt ks
            obtain ⟨f1, f2, f3, f4⟩ := kM_facts k (by omega)
            obtain ⟨i4, hi4⟩ : ∃ i4 : Nat, 39 - 2 * (j : Int) = i4 := ⟨(39 - 2 * (j : Int)).toNat, by omega⟩
            have hi5 : 39 - 2 * j = i4 := by omega
            rw [hi5] at c1 c2
            have hcl : ((kM k).crash ks).now.length = 40 := by
              have := keepS_length (kM k).now (kM k).safe (kM k).loose ks (by rw [f3, f4]; simp) (by rw [f3]; exact (kM_loose ⟨k, by omega⟩).2)
              rw [f3] at this
              exact this
            obtain ⟨r1, r2⟩ := Dv.read_nat ((kM k).crash ks) i4 (by omega)
            rw [← r2] at c1 c2
            obtain ⟨at', hat'⟩ : ∃ at' : Nat, (k : Int) - 1 - j = at' ∧ k - 1 - j = at' := ⟨k - 1 - j, by omega, rfl⟩
            obtain ⟨ha1, ha2⟩ := hat'
            rw [ha2] at c1
            obtain ⟨S, hS⟩ : ∃ S, ((kM k).crash ks).read i4 = S := ⟨_, rfl⟩
            rw [hS] at c1 c2
            have HS := hid hS
            have HC1 := hid c1
            have HC2 := hid c2
            clear f1 f2 f3 f4 hcl r2 hS c1 c2 hi5
            go_wp2_with fail
            refine (X.read_to Aq ((kM k).crash ks) q wr i4 HQ.out (WalkArith.wf_i64 ⟨by omega, by omega⟩)).mono ?_
            rintro e wb ⟨v, rfl, hv, hb⟩
            rw [HS.out] at hv
            rw [r1]
            clear r1 HS
            obtain ⟨gx, cx, rfl, _, hgcx, hc63x⟩ := hv.form (by rw [HC2.out]; decide)
            have cz : wb.cell? ⟨gx, 0, none⟩ = some (.int .u8 (S.getD 0 0)) := (hv.cell 0 (by rw [HC2.out]; decide)).1
            rw [HC1.out] at cz
            rw [HC2.out] at hgcx ⊢
            replace HQ := hid (X.bel HQ.out hb); replace HT := hid (X.bel HT.out hb); replace HK := hid (HK.out.below hb); replace HB := hid (Bl.step HB.out hb)
            clear hb hv HC1 HC2
            by_cases hin : at' < kl
            · obtain ⟨ad, rfl⟩ : ∃ ad, ao = some ad := by
                cases ao with
                | none => have := HK.out.nil rfl; omega
                | some ad => exact ⟨ad, rfl⟩
              have ck := HK.out.cell ad rfl at' hin
              cases hk : ks.getD at' false with
              | true =>
                rw [hk] at cz ck
                rw [if_pos rfl] at cz
                go_wp2_with fail
                go_roundw
                case rel => exact ⟨j + 1, by omega, by go_num, HQ.out, HT.out, HB.out, HK.out⟩
                case measure => simp [intOf]; omega
              | false =>
                rw [hk] at cz ck
                rw [if_neg (by decide)] at cz
                go_wp2_with fail
                go_roundw
                case rel => exact ⟨j + 1, by omega, by go_num, HQ.out, HT.out, HB.out, HK.out⟩
                case measure => simp [intOf]; omega
            · have hk : ks.getD at' false = false := by
                rw [List.getD_eq_getElem?_getD, List.getElem?_eq_none (by rw [HK.out.len]; omega)]
                rfl
              rw [hk, if_neg (by decide)] at cz
              clear hk
              have hin2 : ¬ (at' : Int) < kl := by omega
              clear hin
              go_wp2_with fail
              go_roundw
              case rel => exact ⟨j + 1, by omega, by go_num, HQ.out, HT.out, HB.out, HK.out⟩
              case measure => simp [intOf]; omega
          · obtain rfl : j = k := by omega
            clear hj hlt
            go_wp2_with fail
            refine (X.loose_to Aq ((kM j).crash ks) q wr HQ.out).mono ?_
            rintro e wb ⟨v, rfl, hv, hb⟩
            have e1 : ((kM j).crash ks).looses = [] := looses_none 0 _
            rw [e1] at hv
            obtain ⟨vo, vc, rfl, _⟩ := hv.rd
            rw [show ([] : List Int).length = 0 from rfl]
            replace HT := hid (X.bel HT.out hb); replace HB := hid (Bl.step HB.out hb)
            clear hb hv e1 HQ HK
            go_wp2_with fail
            refine (X.loose_to A (kM j) p wb HT.out).mono ?_
            rintro e wc ⟨v, rfl, hv, hb⟩
            have e1 : (kM j).looses.length = j := (looses_length 0 _).trans (kM_loose ⟨j, by omega⟩).1
            obtain ⟨vo, vc, rfl, _⟩ := hv.rd
            rw [e1]
            replace HB := hid (Bl.step HB.out hb)
            clear hb hv e1 HT
            go_wp2_with fail
            go_ret
            exact ⟨rfl, HB.out⟩
end Go.Proofs.Ytinmkcbmnikpfaa
