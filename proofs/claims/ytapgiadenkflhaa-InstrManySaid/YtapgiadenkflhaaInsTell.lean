/- What the laws share: tells, begun. -/
import Derived.Test.YtapgiadenkflhaaInsCut
import Derived.Test.YtapgiadenkflhaaInsBack
import Derived.Test.YtapgiadenkflhaaShort
namespace Go.Proofs.Ytapgiadenkflhaa
open Go.RowKit

theorem eqI_refl (op a b : Int) (l : List Int) : eqI op a b l op a b l = true := by simp [eqI]
theorem eqI_iff {op a b op' a' b' : Int} {l l' : List Int} : eqI op a b l op' a' b' l' = true ↔ op = op' ∧ a = a' ∧ b = b' ∧ l = l' := by simp [eqI]

set_option maxHeartbeats 1000000 in
theorem tells_to (bo : Option Addr) (m bc : Nat) (bs : List Int) (w : World) (hr : Rd .u8 w bo m bc bs) :
    Calls Try.prog 18 #[.slice bo m bc] w fun e w' => e = .returned (.bool true) ∧ Below w.heap.size w w' := by
  obtain ⟨I, k, er, hg⟩ : ∃ I k er, getI bs = (I, k, er) := ⟨_, _, _, rfl⟩
  obtain ⟨op, a, b, l⟩ := I
  have HG := hid hg
  have Hr := hid hr
  clear hg hr
  go_enter Try.func18, Try.ntmps18
  go_wp2_with fail
  refine (get_to bo m bc bs w Hr.out _ k er HG.out).mono ?_
  rintro e w1 ⟨lo, ln, lc, rfl, hown, hb⟩
  have HB1 := hid hb
  have Hown := hid hown
  clear hb hown
  simp only
  go_wp2_with fail
  refine (refGet_to bo m bc bs _ (Hr.out.below (Bl.step HB1.out (Bl.alloc (Bl.refl _) _))) _ k er HG.out).mono ?_
  rintro e w2 ⟨lo2, ln2, lc2, rfl, hown2, hb2⟩
  have HB2 := hid (Bl.step (Bl.step HB1.out (Bl.alloc (Bl.refl w1) _)) hb2)
  have B1 := hid ((Box4.new w1 op a b lo ln lc 24).below hb2)
  have HR1 := hid ((Hown.out.rdAt.below (Bl.alloc (Bl.refl w1) (.cells #[.int .i64 op, .int .i64 a, .int .i64 b, .slice lo ln lc] 24))).below hb2)
  have HR2 := hid hown2.rdAt
  clear hb2 hown2
  obtain ⟨c0, c1, c2, c3⟩ := B1.out
  have hlt := B1.out.lt
  simp only
  go_wp2_with fail
  refine (eqInstr_to op a b lo ln lc l op a b lo2 ln2 lc2 l true (eqI_refl _ _ _ _) _ (HR1.out.below (Bl.alloc (Bl.refl _) _)) (HR2.out.below (Bl.alloc (Bl.refl _) _))).mono ?_
  rintro e w3 ⟨rfl, hb3⟩
  have HB3 := hid (Bl.step (Bl.step HB2.out (Bl.alloc (Bl.refl w2) _)) hb3)
  clear hb3
  go_wp2_with fail
  go_ret
  exact ⟨rfl, HB3.out⟩

theorem beg_enc : encI 14 2 0 [0, 300] = [14, 2, 0, 172, 2, 2] := by decide
theorem beg_may : mayI 14 2 0 [0, 300] = true := by decide
theorem beg_put : getI [14, 2, 0, 172, 2, 2, 9] = (⟨14, 2, 0, [0, 300]⟩, 6, 0) := by
  have := getI_enc 14 2 0 [0, 300] [9] beg_may (by decide)
  rw [beg_enc] at this
  exact this
theorem beg_more : getI [65, 128] = (⟨0, 0, 0, []⟩, 0, 2) := by
  have hd : decS 32 [128] = (0, 0, 2) := decS_more ⟨by decide, by decide⟩
  have h1 : rOne [65, 128] ⟨0, 0⟩ = (65, ⟨1, 0⟩) := rfl
  have hs : sh 65 = 8 := by decide
  unfold getI rIns
  rw [h1]
  simp only
  unfold rTail
  rw [hs]
  simp [rS, hd]
theorem beg_form : getI [6] = (⟨0, 0, 0, []⟩, 0, 1) := by
  have h1 : rOne [6] ⟨0, 0⟩ = (6, ⟨1, 0⟩) := rfl
  have hs : sh 6 = 0 := by decide
  unfold getI rIns
  rw [h1]
  simp only
  unfold rTail
  rw [hs]
  simp [need]

set_option maxHeartbeats 2000000 in
theorem begun_to (w : World) : Calls Try.prog 8 #[] w fun e w' => e = .returned (.bool true) ∧ Below w.heap.size w w' := by
  go_enter Try.func8, Try.ntmps8
  have hR0 : Rd .i64 (w.alloc (.cells #[.int .i64 0, .int .i64 300] 3)) (some ⟨w.heap.size, 0, none⟩) 2 2 [0, 300] := Rd.built2 w .i64 3 0 300 (by decide) (by decide)
  have HR0 := hid hR0
  clear hR0
  go_wp2_with fail
  refine (put_to none 0 0 [] 14 2 0 (some ⟨w.heap.size, 0, none⟩) 2 2 [0, 300] _ beg_may (by decide) (Rd.empty _ _) (by decide) (HR0.out.below (Bl.alloc (Bl.refl _) _))).mono ?_
  rintro e w1 ⟨v1, rfl, hv1, hb1⟩
  rw [List.nil_append, beg_enc] at hv1
  obtain ⟨ao1, cap1, rfl, hr1⟩ := hv1.rd
  have HB1 := hid (Bl.step (Bl.alloc (Bl.alloc (Bl.refl w) (.cells #[.int .i64 0, .int .i64 300] 3)) (.cells #[.int .i64 14, .int .i64 2, .int .i64 0, .slice (some ⟨w.heap.size, 0, none⟩) 2 2] 24)) hb1)
  have HX1 : Hid (Box4 w1 (w.heap.size + 1) 14 2 0 (some ⟨w.heap.size, 0, none⟩) 2 2) := hid (by simpa using (Box4.new (w.alloc (.cells #[.int .i64 0, .int .i64 300] 3)) 14 2 0 (some ⟨w.heap.size, 0, none⟩) 2 2 24).below hb1)
  have HL1 := hid ((HR0.out.below (Bl.alloc (Bl.refl _) (.cells #[.int .i64 14, .int .i64 2, .int .i64 0, .slice (some ⟨w.heap.size, 0, none⟩) 2 2] 24))).below hb1)
  have HV1 := hid hr1
  clear hb1 hr1 hv1
  go_wp2_with (first
    | (at_builtin; refine wpList_append_rd rfl (.const (.slice none 0 0)) (.tmp 17) 25 rfl 5 .u8 w1.heap.size 1 Try.underlying25 infoU8 _ [] rfl (Own.nil _ _ _ _) ao1 _ cap1 _ rfl HV1.out (by simp) (by simp) (Nat.le_refl _) ?_; intro v2 w2 o2 b2 _; have HO2 := hid o2; have HB2 := hid b2; clear o2 b2)
    | (at_builtin; refine wpList_append_rd rfl (.tmp 18) (.tmp 19) 25 rfl 5 .u8 w1.heap.size 1 Try.underlying25 infoU8 _ _ rfl (HO2.out.alloc _) _ 1 1 [9] rfl (Rd.built _ _ _ _ (by decide)) (by simp) (by simp) (Nat.le_trans HB2.out.size (by simp)) ?_; intro v3 w3 o3 b3 _; have HO3 := hid o3; have HB3 := hid (HB2.out.trans ((Below.alloc (Below.refl _ _) HB2.out.size _).trans b3)); clear o3 b3)
    | fail)
  obtain ⟨ao3, cap3, rfl, hr3⟩ := HO3.out.rd
  have HR3 : Hid (Rd .u8 w3 ao3 ([] ++ [14, 2, 0, 172, 2, 2] ++ [9] : List Int).length cap3 [14, 2, 0, 172, 2, 2, 9]) := hid hr3
  have HX3 := hid (HX1.out.below HB3.out)
  have HL3 := hid (HL1.out.below HB3.out)
  have HT3 := hid (Bl.step HB1.out HB3.out)
  clear HO3 HO2 HB2 HB3 HV1 HB1 HX1 HL1 hr3
  refine (get_to ao3 _ cap3 _ w3 HR3.out _ 6 0 beg_put).mono ?_
  rintro e w4 ⟨lo, ln, lc, rfl, hown, hb⟩
  have HX4 := hid (HX3.out.below hb)
  have HL4 := hid (HL3.out.below hb)
  have HT4 := hid (Bl.step HT3.out hb)
  have HY4 := hid hown.rdAt
  clear hb hown HX3 HL3 HT3 HR3
  simp only
  have oY := (Obj.cells #[.int .i64 14, .int .i64 2, .int .i64 0, .slice lo ln lc] 24)
  clear oY
  have HBY : Hid (Box4 ((w4.alloc (.cells #[.int .i64 14, .int .i64 2, .int .i64 0, .slice lo ln lc] 24)).alloc (.cells #[.int .u8 65, .int .u8 128] 5)) w4.heap.size 14 2 0 lo ln lc) := hid ((Box4.new w4 14 2 0 lo ln lc 24).below (Bl.alloc (Bl.refl _) _))
  have hab : Below w4.heap.size w4 ((w4.alloc (.cells #[.int .i64 14, .int .i64 2, .int .i64 0, .slice lo ln lc] 24)).alloc (.cells #[.int .u8 65, .int .u8 128] 5)) := Bl.alloc (Bl.alloc (Bl.refl _) _) _
  have HX5 := hid (HX4.out.below hab)
  have HL5 := hid (HL4.out.below hab)
  have HT5 := hid (Bl.step HT4.out hab)
  have HY5 := hid (HY4.out.below hab)
  have HR5 : Hid (Rd .u8 ((w4.alloc (.cells #[.int .i64 14, .int .i64 2, .int .i64 0, .slice lo ln lc] 24)).alloc (.cells #[.int .u8 65, .int .u8 128] 5)) (some ⟨w4.heap.size + 1, 0, none⟩) 2 2 [65, 128]) := hid (by
    have := Rd.built2 (w4.alloc (.cells #[.int .i64 14, .int .i64 2, .int .i64 0, .slice lo ln lc] 24)) .u8 5 65 128 (by decide) (by decide)
    simpa using this)
  clear hab HX4 HL4 HT4 HY4
  go_wp2_with fail
  refine (get_to _ 2 2 _ _ HR5.out _ 0 2 beg_more).mono ?_
  rintro e w6 ⟨lo6, ln6, lc6, rfl, _, hb⟩
  have HX6 := hid (HX5.out.below hb)
  have HL6 := hid (HL5.out.below hb)
  have HT6 := hid (Bl.step HT5.out hb)
  have HY6 := hid (HY5.out.below hb)
  have HBY6 := hid (HBY.out.below hb)
  clear hb HX5 HL5 HT5 HY5 HR5 HBY
  simp only
  have hab : Below w6.heap.size w6 ((w6.alloc (.cells #[.int .i64 0, .int .i64 0, .int .i64 0, .slice lo6 ln6 lc6] 24)).alloc (.cells #[.int .u8 6] 5)) := Bl.alloc (Bl.alloc (Bl.refl _) _) _
  have HX7 := hid (HX6.out.below hab)
  have HL7 := hid (HL6.out.below hab)
  have HT7 := hid (Bl.step HT6.out hab)
  have HY7 := hid (HY6.out.below hab)
  have HBY7 := hid (HBY6.out.below hab)
  have HR7 : Hid (Rd .u8 ((w6.alloc (.cells #[.int .i64 0, .int .i64 0, .int .i64 0, .slice lo6 ln6 lc6] 24)).alloc (.cells #[.int .u8 6] 5)) (some ⟨w6.heap.size + 1, 0, none⟩) 1 1 [6]) := hid (Rd.built_at _ .u8 _ 6 (by decide) (by simp))
  clear hab HX6 HL6 HT6 HY6 HBY6
  go_wp2_with fail
  refine (get_to _ 1 1 _ _ HR7.out _ 0 1 beg_form).mono ?_
  rintro e w8 ⟨lo8, ln8, lc8, rfl, _, hb⟩
  have HX8 := hid (HX7.out.below hb)
  have HL8 := hid (HL7.out.below hb)
  have HT8 := hid (Bl.step HT7.out hb)
  have HY8 := hid (HY7.out.below hb)
  have HBY8 := hid (HBY7.out.below hb)
  clear hb HX7 HL7 HT7 HY7 HR7 HBY7
  simp only
  obtain ⟨c0, c1, c2, c3⟩ := HX8.out
  obtain ⟨d0, d1, d2, d3⟩ := HBY8.out
  have hlx := HX8.out.lt
  have hly := HBY8.out.lt
  go_wp2_with fail
  refine (eq_to 14 2 0 _ 2 2 [0, 300] 14 2 0 lo ln lc [0, 300] true (eqI_refl _ _ _ _) _ (HL8.out.below (Bl.alloc (Bl.refl _) _)) (HY8.out.below (Bl.alloc (Bl.refl _) _))).mono ?_
  rintro e w10 ⟨rfl, hb⟩
  have hb' := Bl.step (Bl.alloc (Bl.refl w8) _) hb
  have HX10 := hid (HX8.out.below hb')
  have HL10 := hid (HL8.out.below hb')
  have HT10 := hid (Bl.step HT8.out hb')
  clear hb hb' HX8 HL8 HT8 HY8 HBY8 c0 c1 c2 c3 d0 d1 d2 d3 hlx hly
  obtain ⟨c0, c1, c2, c3⟩ := HX10.out
  go_wp2_with fail
  refine (may_to 14 2 0 _ 2 2 [0, 300] true beg_may _ HL10.out).mono ?_
  rintro e w11 ⟨rfl, hb⟩
  have HX11 := hid (HX10.out.below hb)
  have HL11 := hid (HL10.out.below hb)
  have HT11 := hid (Bl.step HT10.out hb)
  clear hb HX10 HL10 HT10 c0 c1 c2 c3
  go_wp2_with fail
  refine (may_to 1 1 0 none 0 0 [] false (by decide) _ (Rd.empty _ _)).mono ?_
  rintro e w12 ⟨rfl, hb⟩
  have HX12 := hid (HX11.out.below hb)
  have HL12 := hid (HL11.out.below hb)
  have HT12 := hid (Bl.step HT11.out hb)
  clear hb HX11 HL11 HT11
  obtain ⟨c0, c1, c2, c3⟩ := HX12.out
  go_wp2_with fail
  refine (eq_to 14 2 0 _ 2 2 [0, 300] 1 0 0 none 0 0 [] false (by decide) _ HL12.out (Rd.empty _ _)).mono ?_
  rintro e w13 ⟨rfl, hb⟩
  have HT13 := hid (Bl.step HT12.out hb)
  clear hb HX12 HL12 HT12
  go_wp2_with fail
  go_ret
  exact ⟨rfl, HT13.out⟩
end Go.Proofs.Ytapgiadenkflhaa
