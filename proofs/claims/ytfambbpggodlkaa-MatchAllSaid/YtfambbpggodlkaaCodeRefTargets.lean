/- diapauseref5.Targets. -/
import Derived.Test.YtfambbpggodlkaaCodeTargets
import Derived.Test.YtfambbpggodlkaaCodeRefMatch
namespace Go.Proofs.Ytfambbpggodlkaa
open Go.RowKit

set_option maxHeartbeats 2000000 in
theorem refTargets_to (C : Addr → Prop) (ao : Option Addr) (n cap : Nat) (is : List Ins) (i : Int) (w : World) (hr : RdP w C ao n cap is) (hn : n ≤ 1000) :
    Calls Try.prog 17 #[.slice ao n cap, .int .i64 i] w (TRes (tgt ((fits (opsI is)).getD []) i) w) := by
  have Hr := hid hr
  have Hx := hid hr.len
  clear hr
  obtain ⟨o, ho⟩ : ∃ o, o = fits (opsI is) := ⟨_, rfl⟩
  have hok : ∀ b ∈ o.getD [], 0 ≤ b.at' ∧ b.at' < b.en ∧ b.en < (opsI is).length ∧ (opsI is).length ≤ 300 := by rw [ho]; exact fun b hb => blocks_ok b hb
  have HOK := hid hok
  have hm := refMatch_to C ao n cap is w Hr.out hn
  rw [← ho] at hm ⊢
  have HM := hid hm
  have hlen : (o.getD []).length ≤ 300 := by
    rw [ho]
    cases hf : fits (opsI is) with
    | none => simp
    | some bl =>
      have hF := fits_iff.1 hf
      have := hF.inv.few
      have := hF.len
      simp at *
      omega
  clear hok hm ho
  obtain ⟨bl, hbl⟩ : ∃ bl, bl = o.getD [] := ⟨_, rfl⟩
  rw [← hbl] at HOK hlen ⊢
  have HBLL := hid hbl
  clear hbl
  go_enter Try.func17, Try.ntmps17
  go_wp2_with fail
  refine HM.out.mono ?_
  rintro e w1 ⟨v, rfl, hv, hb⟩
  have HV := hid hv
  have HB1 := hid hb
  clear HM hv hb Hr
  obtain ⟨okb, hokb⟩ : ∃ okb, okb = o.isSome := ⟨_, rfl⟩
  rw [← HBLL.out] at HV
  rw [← hokb]
  clear hokb HBLL
  obtain ⟨bo, bc, rfl, q1, q2, q3⟩ := HV.out.shape
  simp only [List.length_map] at HV q1 q3 ⊢
  obtain ⟨bn, hbn⟩ : ∃ bn, bn = bl.length := ⟨_, rfl⟩
  rw [← hbn] at HV q1 q3 hlen ⊢
  have HBN := hid hbn
  have Q3 := hid q3
  clear hbn q3
  go_wp2_with fail
  go_loopw [7, 8] (fun v i' wr => ∃ j : Nat, j ≤ bn ∧ i' = .int .i64 ((j : Int) - 1) ∧ Own 3 .i64 w1.heap.size wr v (tgt (bl.drop j) i) ∧ Below w1.heap.size w1 wr) (fun _ i' _ => ((intOf i') + 1).toNat)
  case atStart => exact ⟨bn, Nat.le_refl _, by go_num, by rw [List.drop_eq_nil_of_le (by rw [HBN.out]; exact Nat.le_refl _)]; exact Own.nil _ _ _ _, Below.refl _ _⟩
  case round =>
    obtain ⟨j, hjn, rfl, ho, hb⟩ := hrel
    have HO := hid ho
    have HB := hid hb
    clear ho hb
    cases j with
    | zero =>
      go_wp2_with fail
      go_ret
      exact ⟨_, rfl, HO.out.lift HB1.out.size, HB1.out.trans (HB.out.mono HB1.out.size)⟩
    | succ j =>
      have hj1 : ((j + 1 : Nat) : Int) - 1 = j := by omega
      rw [hj1]
      have hjb : j < bl.length := by rw [← HBN.out]; omega
      obtain ⟨gb, rfl⟩ := Q3.out (by omega)
      obtain ⟨b1, b2, b3, _, _⟩ := blk_cells (HV.out.below HB.out (Nat.le_refl _)) hjb
      have hd := drop_at bl j hjb
      have hmem : bl.getD j default ∈ bl := by rw [getD_lt _ _ hjb]; exact List.getElem_mem hjb
      have hbo := HOK.out _ hmem
      obtain ⟨x, hx⟩ : ∃ x, x = bl.getD j default := ⟨_, rfl⟩
      rw [← hx] at b1 b2 b3 hd hbo
      have hen : ¬ x.en = -1 := by omega
      rw [if_neg hen] at b3
      obtain ⟨t, ht⟩ : ∃ t, encl i x = t := ⟨_, rfl⟩
      have hts := tgt_cons x (bl.drop (j + 1)) i
      rw [← hd, ht] at hts
      have HTS := hid hts
      have HT := hid ht
      have HX := hid hx
      have HA : Hid ((Lit.int .i64 x.at').wf = true) := hid (WalkArith.wf_i64 ⟨by omega, by omega⟩)
      have hlt := tgt_le (bl.drop (j + 1)) i
      have hlt2 : (tgt (bl.drop (j + 1)) i).length ≤ 300 := by rw [List.length_drop] at hlt; have := HBN.out; omega
      have hgb : gb < wr.heap.size := World.block_lt_of_cell? _ _ b1
      have HNN := hid (show x.en < n ∧ 0 ≤ x.at' by have h1 := hbo.1; have h2 := hbo.2.2.1; rw [opsI_len, Hx.out] at h2; exact ⟨h2, h1⟩)
      obtain ⟨ys, hys⟩ : ∃ ys, ys = tgt (bl.drop (j + 1)) i := ⟨_, rfl⟩
      rw [← hys] at HTS HO hlt2
      clear hys
      clear hd hmem hbo hx hen ht hts hlt hjb
      have HB2 := HB
      have HO2 := HO
      have d1 := b1
      have hszr := HB.out.size
      obtain ⟨hxn, hx0⟩ := HNN.out
      clear HX
      cases t with
      | false =>
        have hnot : encl i x = false := HT.out
        have hcs : (¬ (0 : Int) ≤ i) ∨ (0 ≤ i ∧ ¬ i < (n : Int)) ∨ (0 ≤ i ∧ i < (n : Int) ∧ ¬ x.at' < i) ∨ (0 ≤ i ∧ i < (n : Int) ∧ x.at' < i ∧ ¬ i < x.en) ∨ (0 ≤ i ∧ i < (n : Int) ∧ x.at' < i ∧ i < x.en ∧ i = x.els) := by
          simp [encl] at hnot
          omega
        clear hnot
        rcases hcs with hc | hc | hc | hc | hc
        · go_wp2_with fail
          go_roundw
          case rel =>
            refine ⟨j, by omega, by go_num, ?_, HB2.out⟩
            have := HTS.out
            rw [if_neg (by simp)] at this
            rw [this]
            exact HO2.out
          case measure => simp [intOf]
        · obtain ⟨e1, e2⟩ := hc
          go_wp2_with fail
          go_roundw
          case rel =>
            refine ⟨j, by omega, by go_num, ?_, HB2.out⟩
            have := HTS.out
            rw [if_neg (by simp)] at this
            rw [this]
            exact HO2.out
          case measure => simp [intOf]
        · obtain ⟨e1, e2, e3⟩ := hc
          go_wp2_with fail
          go_roundw
          case rel =>
            refine ⟨j, by omega, by go_num, ?_, HB2.out⟩
            have := HTS.out
            rw [if_neg (by simp)] at this
            rw [this]
            exact HO2.out
          case measure => simp [intOf]
        · obtain ⟨e1, e2, e3, e4⟩ := hc
          go_wp2_with fail
          go_roundw
          case rel =>
            refine ⟨j, by omega, by go_num, ?_, HB2.out⟩
            have := HTS.out
            rw [if_neg (by simp)] at this
            rw [this]
            exact HO2.out
          case measure => simp [intOf]
        · obtain ⟨e1, e2, e3, e4, e5⟩ := hc
          have e6 : (i != x.els) = false := by simp [e5]
          have E5 := hid e5
          clear e5
          go_wp2_with fail
          go_roundw
          case rel =>
            refine ⟨j, by omega, by go_num, ?_, HB2.out⟩
            have := HTS.out
            rw [if_neg (by simp)] at this
            rw [this]
            exact HO2.out
          case measure => simp [intOf]
      | true =>
        have hnot : encl i x = true := HT.out
        obtain ⟨e1, e2, e3, e4, e6⟩ : 0 ≤ i ∧ i < (n : Int) ∧ x.at' < i ∧ i < x.en ∧ (i != x.els) = true := by
          simp [encl] at hnot
          refine ⟨by omega, by omega, by omega, by omega, by simp; omega⟩
        clear hnot
        obtain ⟨ao2, cap2, rfl, _⟩ := HO2.out.rd
        go_wp2_with (first
          | (at_builtin; refine wpList_append_rd rfl (.tmp 56) (.tmp 62) 35 rfl 3 .i64 w1.heap.size 8 Try.underlying35 infoInt _ _ rfl (HO2.out.alloc _) (some ⟨wr.heap.size, 0, none⟩) 1 1 [x.at'] rfl (Rd.built _ _ _ _ HA.out) (by omega) (by omega) (by simp; omega) ?_; intro v2 w3 o3 b3 _; have HO3 := hid o3; have HB3 := hid b3; clear o3 b3)
          | fail)
        go_roundw
        case rel =>
          refine ⟨j, by omega, by go_num, ?_, HB2.out.trans ((Below.alloc (Below.refl _ _) (by omega) _).trans HB3.out)⟩
          have := HTS.out
          rw [if_pos rfl] at this
          rw [this]
          exact HO3.out
        case measure => simp [intOf]
end Go.Proofs.Ytfambbpggodlkaa
