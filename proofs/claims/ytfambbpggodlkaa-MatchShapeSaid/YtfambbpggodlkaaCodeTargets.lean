/- code.Targets, diapauseref5.Targets. -/
import Derived.Test.YtfambbpggodlkaaCodeMatch
namespace Go.Proofs.Ytfambbpggodlkaa
open Go.RowKit

theorem encloses_to (b : Bk) (i : Int) (t : Bool) (h : encl i b = t) (w : World) :
    Calls Try.prog 27 #[.agg #[.int .i64 b.at', .int .i64 b.els, .int .i64 b.en], .int .i64 i] w fun e w' => e = .returned (.bool t) ∧ Below w.heap.size w w' := by
  subst h
  obtain ⟨a, e, n⟩ := b
  unfold encl
  simp only
  cases h1 : decide (a < i) <;> cases h2 : decide (i < n) <;> cases h3 : (i == e)
  all_goals
    have h4 : (i != e) = !(i == e) := rfl
    rw [h3] at h4
    go_enter Try.func27, Try.ntmps27
    go_wp2_with fail
    go_ret
    exact ⟨rfl, Bl.alloc (Bl.refl w) _⟩

theorem tgt_cons (b : Bk) (l : List Bk) (i : Int) : tgt (b :: l) i = if encl i b = true then tgt l i ++ [b.at'] else tgt l i := by
  unfold tgt
  by_cases h : encl i b = true
  · rw [if_pos h, List.filter_cons_of_pos h]; simp
  · rw [if_neg h, List.filter_cons_of_neg h]
theorem drop_at (l : List Bk) (j : Nat) (h : j < l.length) : l.drop j = l.getD j default :: l.drop (j + 1) := by
  rw [List.drop_eq_getElem_cons h]
  simp [List.getD, h]
theorem tgt_le (bl : List Bk) (i : Int) : (tgt bl i).length ≤ bl.length := by
  unfold tgt
  simp only [List.length_map, List.length_reverse]
  exact List.length_filter_le _ _
theorem blocks_ok {xs : List Int} (b : Bk) (h : b ∈ (fits xs).getD []) : 0 ≤ b.at' ∧ b.at' < b.en ∧ b.en < xs.length ∧ xs.length ≤ 300 := by
  cases hf : fits xs with
  | none => rw [hf] at h; cases h
  | some bl =>
    rw [hf] at h
    have hF := fits_iff.1 hf
    obtain ⟨k, hk, rfl⟩ := mem_getD h
    have := hF.closed k hk
    exact ⟨this.1, this.2.1, this.2.2, hF.len⟩

def TRes (o : List Int) (w : World) (e : Ending) (w' : World) : Prop :=
  ∃ v, e = .returned v ∧ Own 3 .i64 w.heap.size w' v o ∧ Below w.heap.size w w'

set_option maxHeartbeats 2000000 in
theorem targets_to (C : Addr → Prop) (ao : Option Addr) (n cap : Nat) (is : List Ins) (i : Int) (w : World) (hr : RdP w C ao n cap is) :
    Calls Try.prog 16 #[.slice ao n cap, .int .i64 i] w (TRes (tgt ((fits (opsI is)).getD []) i) w) := by
  have Hr := hid hr
  clear hr
  obtain ⟨o, ho⟩ : ∃ o, o = fits (opsI is) := ⟨_, rfl⟩
  have hok : ∀ b ∈ o.getD [], 0 ≤ b.at' ∧ b.at' < b.en ∧ b.en < (opsI is).length ∧ (opsI is).length ≤ 300 := by rw [ho]; exact fun b hb => blocks_ok b hb
  have HOK := hid hok
  have hm := match_to C ao n cap is w Hr.out
  rw [← ho] at hm ⊢
  have HM := hid hm
  have hlen : (o.getD []).length ≤ 300 := by
    rw [ho]
    cases hf : fits (opsI is) with
    | none => simp
    | some bl =>
      have hF := fits_iff.1 hf
      have := hF.inv.few
      have := hF.len
      simp at *
      omega
  clear hok hm ho
  go_enter Try.func16, Try.ntmps16
  go_wp2_with fail
  refine HM.out.mono ?_
  rintro e w1 ⟨v, rfl, hv, hb⟩
  have HV := hid hv
  have HB1 := hid hb
  clear HM hv hb Hr
  cases o with
  | none =>
    simp only [Option.isSome_none]
    go_wp2_with fail
    go_ret
    exact ⟨_, rfl, Own.nil _ _ _ _, HB1.out⟩
  | some bl =>
    simp only [Option.isSome_some, Option.getD_some] at HV HOK hlen ⊢
    obtain ⟨bo, bc, rfl, q1, q2, q3⟩ := HV.out.shape
    simp only [List.length_map] at HV q1 q3 ⊢
    obtain ⟨bn, hbn⟩ : ∃ bn, bn = bl.length := ⟨_, rfl⟩
    rw [← hbn] at HV q1 q3 hlen ⊢
    have HBN := hid hbn
    have Q3 := hid q3
    clear hbn q3
    go_wp2_with fail
    go_loopw [7, 8] (fun v i' wr => ∃ j : Nat, j ≤ bn ∧ i' = .int .i64 ((j : Int) - 1) ∧ Own 3 .i64 w1.heap.size wr v (tgt (bl.drop j) i) ∧ Below w1.heap.size w1 wr) (fun _ i' _ => ((intOf i') + 1).toNat)
    case atStart => exact ⟨bn, Nat.le_refl _, by go_num, by rw [List.drop_eq_nil_of_le (by rw [HBN.out]; exact Nat.le_refl _)]; exact Own.nil _ _ _ _, Below.refl _ _⟩
    case round =>
      obtain ⟨j, hjn, rfl, ho, hb⟩ := hrel
      have HO := hid ho
      have HB := hid hb
      clear ho hb
      cases j with
      | zero =>
        go_wp2_with fail
        go_ret
        exact ⟨_, rfl, HO.out.lift HB1.out.size, HB1.out.trans (HB.out.mono HB1.out.size)⟩
      | succ j =>
        have hj1 : ((j + 1 : Nat) : Int) - 1 = j := by omega
        rw [hj1]
        have hjb : j < bl.length := by rw [← HBN.out]; omega
        obtain ⟨gb, rfl⟩ := Q3.out (by omega)
        obtain ⟨b1, b2, b3, _, _⟩ := blk_cells (HV.out.below HB.out (Nat.le_refl _)) hjb
        have hd := drop_at bl j hjb
        have hmem : bl.getD j default ∈ bl := by rw [getD_lt _ _ hjb]; exact List.getElem_mem hjb
        have hbo := HOK.out _ hmem
        obtain ⟨x, hx⟩ : ∃ x, x = bl.getD j default := ⟨_, rfl⟩
        rw [← hx] at b1 b2 b3 hd hbo
        have hen : ¬ x.en = -1 := by omega
        rw [if_neg hen] at b3
        obtain ⟨t, ht⟩ : ∃ t, encl i x = t := ⟨_, rfl⟩
        have hts := tgt_cons x (bl.drop (j + 1)) i
        rw [← hd, ht] at hts
        have HTS := hid hts
        have HT := hid ht
        have HX := hid hx
        have HA : Hid ((Lit.int .i64 x.at').wf = true) := hid (WalkArith.wf_i64 ⟨by omega, by omega⟩)
        have hlt := tgt_le (bl.drop (j + 1)) i
        have hlt2 : (tgt (bl.drop (j + 1)) i).length ≤ 300 := by rw [List.length_drop] at hlt; have := HBN.out; omega
        have hgb : gb < wr.heap.size := World.block_lt_of_cell? _ _ b1
        obtain ⟨ys, hys⟩ : ∃ ys, ys = tgt (bl.drop (j + 1)) i := ⟨_, rfl⟩
        rw [← hys] at HTS HO hlt2
        clear hys
        clear hd hmem hbo hx hen ht hts hlt hjb
        go_wp2_with fail
        refine (encloses_to x i t HT.out wr).mono ?_
        rintro e w2 ⟨rfl, hb2⟩
        have HB2 := hid (HB.out.trans (hb2.mono HB.out.size))
        have HO2 := hid (HO.out.below hb2 (Nat.le_refl _))
        have d1 := (hb2.cell (p := ⟨gb, j * 3, none⟩) hgb).trans b1
        have hsz := hb2.size
        have hszr := HB.out.size
        clear hb2 b1 b2 b3
        cases t with
        | false =>
          go_wp2_with fail
          go_roundw
          case rel =>
            refine ⟨j, by omega, by go_num, ?_, HB2.out⟩
            have := HTS.out
            rw [if_neg (by simp)] at this
            rw [this]
            exact HO2.out
          case measure => simp [intOf]
        | true =>
          obtain ⟨ao2, cap2, rfl, _⟩ := HO2.out.rd
          go_wp2_with (first
            | (at_builtin; refine wpList_append_rd rfl (.tmp 29) (.tmp 35) 35 rfl 3 .i64 w1.heap.size 8 Try.underlying35 infoInt _ _ rfl (HO2.out.alloc _) (some ⟨w2.heap.size, 0, none⟩) 1 1 [x.at'] rfl (Rd.built _ _ _ _ HA.out) (by omega) (by omega) (by simp; omega) ?_; intro v2 w3 o3 b3 _; have HO3 := hid o3; have HB3 := hid b3; clear o3 b3)
            | fail)
          go_roundw
          case rel =>
            refine ⟨j, by omega, by go_num, ?_, HB2.out.trans ((Below.alloc (Below.refl _ _) (by omega) _).trans HB3.out)⟩
            have := HTS.out
            rw [if_pos trivial] at this
            rw [this]
            exact HO3.out
          case measure => simp [intOf]
end Go.Proofs.Ytfambbpggodlkaa
