/- MatchAll: the walk. -/
import Derived.Test.YtfambbpggodlkaaCodeBegun
import Derived.Test.YtfambbpggodlkaaCodeBody
import Derived.Test.YtfambbpggodlkaaCodeRefTargets
import Derived.Test.YtfambbpggodlkaaInsSlice
import Derived.Deep.QuietTactic
import Derived.BigQuiet
namespace Go.Proofs.Ytfambbpggodlkaa
open Go.RowKit

set_option maxRecDepth 100000 in
set_option maxHeartbeats 4000000 in
theorem matchAll_walk (ao : Option Addr) (n cap : Nat) (is : List Ins) (C : Addr → Prop) (w : World) (hr : RdP w C ao n cap is) :
    Calls Try.prog 3 #[.slice ao n cap] w fun e w' => e = .returned (.bool true) ∧ Below w.heap.size w w' := by
  have Hr := hid hr
  clear hr
  go_enter Try.func3, Try.ntmps3
  go_wp2_with fail
  refine (begun6_to _).mono ?_
  rintro e w0 ⟨rfl, hb⟩
  have Hr0 := hid (Hr.out.below hb)
  have HB0 := hid hb
  have HOK := hid Hr0.out.okAll
  clear hb Hr
  go_wp2_with fail
  refine (bodyN_to 310 310 rfl (by decide) C ao n cap is w0 Hr0.out).mono ?_
  rintro e w1 ⟨v, rfl, hown, hb⟩
  have HB1 := hid (Bl.step HB0.out hb)
  obtain ⟨IL, hIL⟩ : ∃ IL, IL = (is.take 310).map cutI := ⟨_, rfl⟩
  have hl : IL.length ≤ 310 := by rw [hIL]; simp; omega
  have hokL : ∀ I ∈ IL, okI I := by
    intro I hI
    rw [hIL] at hI
    obtain ⟨J, hJ, rfl⟩ := List.mem_map.1 hI
    exact cutI_ok (HOK.out J (List.mem_of_mem_take hJ))
  rw [← hIL] at hown
  obtain ⟨ao1, cap1, rfl, hr1⟩ := hown.rd hokL
  obtain ⟨n1, hn1⟩ : ∃ n1, n1 = IL.length := ⟨_, rfl⟩
  rw [← hn1] at hr1 hl ⊢
  have HR1 := hid hr1
  clear hb hokL hIL hown hr1 Hr0 HB0 hn1 HOK
  go_wp2_with fail
  refine (match_to _ ao1 n1 cap1 IL w1 HR1.out).mono ?_
  rintro e w2 ⟨v2, rfl, hv2, hb⟩
  have HR2 := hid (HR1.out.below hb)
  have HB2 := hid (Bl.step HB1.out hb)
  obtain ⟨o, ho⟩ : ∃ o, o = fits (opsI IL) := ⟨_, rfl⟩
  rw [← ho] at hv2 ⊢
  have HO := hid ho
  obtain ⟨bo, bc, rfl, p1, p2, p3⟩ := hv2.shape
  have HV2 := hid hv2
  clear hb hv2 ho HR1 HB1
  go_wp2_with fail
  refine (refMatch_to _ ao1 n1 cap1 IL w2 HR2.out (by omega)).mono ?_
  rintro e w3 ⟨v3, rfl, hv3, hb⟩
  rw [← HO.out] at hv3 ⊢
  have HR3 := hid (HR2.out.below hb)
  have HB3 := hid (Bl.step HB2.out hb)
  obtain ⟨co, cc, rfl, p4, p5, p6⟩ := hv3.shape
  have HV3 := hid hv3
  have HW3 := hid (HV2.out.below hb (Nat.le_refl _))
  obtain ⟨bl, hbl⟩ : ∃ bl, bl = o.getD [] := ⟨_, rfl⟩
  rw [← hbl] at HV3 HW3 p1 p3 p4 p6 ⊢
  simp only [List.length_map] at p1 p3 p4 p6 HV3 HW3 ⊢
  obtain ⟨bn, hbn⟩ : ∃ bn, bn = bl.length := ⟨_, rfl⟩
  rw [← hbn] at HV3 HW3 p1 p3 p4 p6 ⊢
  obtain ⟨ok, hok⟩ : ∃ ok, ok = o.isSome := ⟨_, rfl⟩
  rw [← hok]
  have HP3 := hid p3
  have HP6 := hid p6
  have HBN := hid hbn
  clear hb hv3 HV2 HR2 HB2 hbl hbn hok HO p3 p6
  go_wp2_with fail
  go_loopw [8] (fun i wr => ∃ k : Nat, k ≤ bn ∧ i = .int .i64 k ∧ Below w3.heap.size w3 wr) (fun i _ => bn - (intOf i).toNat)
  case atStart => exact ⟨0, Nat.zero_le _, rfl, Below.refl _ _⟩
  case round =>
    obtain ⟨k, hk, rfl, hb⟩ := hrel
    have HB := hid hb
    clear hb
    by_cases hkb : k < bn
    · obtain ⟨g1, rfl⟩ := HP3.out (by omega)
      obtain ⟨g2, rfl⟩ := HP6.out (by omega)
      obtain ⟨a0, a1, a2, _, _⟩ := blk_cells (HW3.out.below HB.out (Nat.le_refl _)) (k := k) (by rw [← HBN.out]; exact hkb)
      obtain ⟨b0, b1, b2, _, _⟩ := blk_cells (HV3.out.below HB.out (Nat.le_refl _)) (k := k) (by rw [← HBN.out]; exact hkb)
      obtain ⟨x, hx⟩ : ∃ x, x = bl.getD k default := ⟨_, rfl⟩
      rw [← hx] at a0 a1 a2 b0 b1 b2
      obtain ⟨y, hy⟩ : ∃ y, y = (if x.en = -1 then 0 else x.en) := ⟨_, rfl⟩
      rw [← hy] at a2 b2
      have HX := hid hx
      have HY := hid hy
      clear hx hy
      go_wp2_with fail
      go_quiet (fail)
      go_wp2_with fail
      go_roundw
      case rel => exact ⟨k + 1, by omega, by go_num, HB.out.trans (below_drewN _ _ _)⟩
      case measure => simp [intOf]; omega
    · have hkn : k = bn := by omega
      subst hkn
      obtain ⟨W2, hW2⟩ : ∃ W2, W2 = wr := ⟨_, rfl⟩
      subst hW2
      have HR4 := hid (HR3.out.below HB.out)
      have HB4 := hid (Bl.step HB3.out HB.out)
      clear HB HR3 HB3 HV3 HW3 HP3 HP6 HBN
      cases ok with
      | false =>
        go_wp2_with fail
        go_loopw [9] (fun i wr => i = .int .i64 (-1) ∧ wr = W2) (fun i _ => (60 - intOf i).toNat)
        case atStart => exact ⟨rfl, rfl⟩
        case round =>
          obtain ⟨rfl, rfl⟩ := hrel
          go_wp2_with fail
          go_ret
          exact ⟨rfl, HB4.out⟩
      | true =>
        go_wp2_with fail
        go_loopw [9] (fun i wr => ∃ j : Nat, j ≤ 61 ∧ i = .int .i64 ((j : Int) - 1) ∧ Below W2.heap.size W2 wr) (fun i _ => (60 - intOf i).toNat)
        case atStart => exact ⟨0, by omega, rfl, Below.refl _ _⟩
        case round =>
          obtain ⟨j, hj, rfl, hb⟩ := hrel
          have HB := hid hb
          clear hb
          by_cases hg : (j : Int) - 1 ≤ n1 ∧ (j : Int) - 1 < 60
          · obtain ⟨g1, g2⟩ := hg
            have HR5 := hid (HR4.out.below HB.out)
            go_wp2_with fail
            refine (targets_to _ ao1 n1 cap1 IL ((j : Int) - 1) wr HR5.out).mono ?_
            rintro e w5 ⟨v5, rfl, ht, hb⟩
            obtain ⟨to, tc, rfl, hrt⟩ := ht.rd
            have HT := hid hrt
            have HR6 := hid (HR5.out.below hb)
            have HB6 := hid (Bl.step HB.out hb)
            obtain ⟨ts, hts⟩ : ∃ ts, ts = tgt ((fits (opsI IL)).getD []) ((j : Int) - 1) := ⟨_, rfl⟩
            rw [← hts] at HT ⊢
            obtain ⟨tn, htn⟩ : ∃ tn, tn = ts.length := ⟨_, rfl⟩
            rw [← htn] at HT ⊢
            have HTS := hid hts
            clear hb ht hrt hts htn HR5 HB
            go_wp2_with fail
            refine (refTargets_to _ ao1 n1 cap1 IL ((j : Int) - 1) w5 HR6.out (by omega)).mono ?_
            rintro e w6 ⟨v6, rfl, ht, hb⟩
            rw [← HTS.out] at ht
            obtain ⟨uo, uc, rfl, hru⟩ := ht.rd
            have HU := hid hru
            have HT6 := hid (HT.out.below hb)
            have HB7 := hid (Bl.step HB6.out hb)
            obtain ⟨un, hun⟩ : ∃ un, un = ts.length := ⟨_, rfl⟩
            rw [← hun] at HU ⊢
            clear hb ht hru hun HT HR6 HB6
            go_wp2_with fail
            refine (eqInts_to to uo tn un tc uc ts ts true (by simp) w6 HT6.out HU.out).mono ?_
            rintro e w7 ⟨rfl, hb⟩
            have HB8 := hid (Bl.step HB7.out hb)
            clear hb
            go_wp2_with fail
            go_roundw
            case rel => exact ⟨j + 1, by omega, by go_num, HB8.out⟩
            case measure => simp [intOf]; omega
          · have hc : ¬ (j : Int) - 1 ≤ n1 ∨ ((j : Int) - 1 ≤ n1 ∧ ¬ (j : Int) - 1 < 60) := by omega
            clear hg
            rcases hc with h1 | ⟨h1, h2⟩
            all_goals
              go_wp2_with fail
              go_ret
              exact ⟨rfl, Bl.step HB4.out HB.out⟩
end Go.Proofs.Ytfambbpggodlkaa
