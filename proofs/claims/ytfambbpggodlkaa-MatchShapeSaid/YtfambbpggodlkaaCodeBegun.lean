/- What the laws share: begun. -/
import Derived.Test.YtfambbpggodlkaaCodeLit
namespace Go.Proofs.Ytfambbpggodlkaa
open Go.RowKit

def begL : List Int := [2, 65, 4, 1, 5, 12, 11, 11]
theorem beg_fits : fits begL = some [⟨0, -1, 7⟩, ⟨2, 4, 6⟩] := by rfl
theorem beg_fits7 : fits (begL.take 7) = none := by rfl
theorem beg_tgt : tgt [⟨0, -1, 7⟩, ⟨2, 4, 6⟩] 5 = [2, 0] := by decide
theorem beg_may : ∀ I ∈ begL.map bare, mayII I = true := by decide
theorem beg_ok : ∀ I ∈ begL.map bare, okI I := by
  intro I hI
  obtain ⟨x, _, rfl⟩ := List.mem_map.1 hI
  exact ⟨by simp [bare], by simp [bare]⟩
theorem beg_len : (encMs (begL.map bare)).length ≤ 1000 := by decide

set_option maxRecDepth 100000 in
set_option maxHeartbeats 20000000 in
theorem begun6_to (w : World) : Calls Try.prog 11 #[] w fun e w' => e = .returned (.bool true) ∧ Below w.heap.size w w' := by
  go_enter Try.func11, Try.ntmps11
  go_wp2_with fail
  have hm := match_to (fun _ => True) (some ⟨w.heap.size, 0, none⟩) 8 8 (begL.map bare) _ (RdP.lit w (fun _ => True) begL _ 39 8 rfl (by decide) rfl)
  rw [opsI_bare, beg_fits] at hm
  refine hm.mono ?_
  clear hm
  rintro e w1 ⟨v, rfl, hv, hb⟩
  have HL0 := hid (RdP.lit w (fun _ => True) begL _ 39 8 rfl (by decide) rfl)
  have HL1 := hid (HL0.out.below hb)
  have HB1 := hid (Bl.step (Bl.alloc (Bl.refl w) _) hb)
  obtain ⟨bo, bc, rfl, q1, q2, q3⟩ := hv.shape
  obtain ⟨gb, rfl⟩ := q3 (by decide)
  have HV := hid hv
  clear hv hb HL0 q1 q2 q3
  simp only [Option.getD_some, List.length_map, List.length_cons, List.length_nil, Option.isSome_some]
  go_wp2_with fail
  refine (targets_to _ _ 8 8 (begL.map bare) 5 w1 HL1.out).mono ?_
  rintro e w2 ⟨v2, rfl, ht, hb⟩
  rw [opsI_bare, beg_fits] at ht
  simp only [Option.getD_some, beg_tgt] at ht
  obtain ⟨tg, tc, rfl, _, _, _⟩ := ht.form (by decide)
  have HT := hid ht
  have HL2 := hid (HL1.out.below hb)
  have HV2 := hid (HV.out.below hb (Nat.le_refl _))
  have HB2 := hid (Bl.step HB1.out hb)
  clear ht hb HL1 HV HB1
  simp only [List.length_cons, List.length_nil] at HT ⊢
  go_wp2_with fail
  refine (putBody_to none 0 0 [] _ _ 8 8 (begL.map bare) w2 (Rd.empty _ _) HL2.out (by decide) (by decide) beg_may).mono ?_
  rintro e w3 ⟨v3, rfl, hp, hb⟩
  rw [List.nil_append] at hp
  have hbl : (encMs (begL.map bare) ++ [11]).length ≤ 1001 := by have := beg_len; simp; omega
  obtain ⟨n1, hn1⟩ : ∃ n1, n1 = (encMs (begL.map bare)).length := ⟨_, rfl⟩
  have hn2 : (encMs (begL.map bare) ++ [11]).length = n1 + 1 := by rw [hn1]; simp
  obtain ⟨po, pc, rfl, hpr⟩ := hp.rd
  rw [hn2] at hpr hbl ⊢
  have HP := hid hpr
  have HN1 := hid hn1
  have HN2 := hid hn2
  have HL3 := hid (HL2.out.below hb)
  have HV3 := hid (HV2.out.below hb (Nat.le_refl _))
  have HT3 := hid (HT.out.below hb (Nat.le_refl _))
  have HB3 := hid (Bl.step HB2.out hb)
  clear hp hb hpr hn1 hn2 HL2 HV2 HT HB2
  go_wp2_with (first
    | (at_builtin; refine wpList_append_rd rfl (.const (.slice none 0 0)) (.tmp 30) 41 rfl 5 .u8 w3.heap.size 1 Try.underlying41 infoU8 _ [] rfl (Own.nil _ _ _ _) po _ pc _ rfl HP.out (by simp; omega) (by simp; omega) (Nat.le_refl _) ?_; intro v4 w4 o4 b4 k4; clear k4; rw [List.nil_append] at o4; have HO4 := hid o4; have HB4 := hid b4; clear o4 b4)
    | (at_builtin; refine wpList_append_rd rfl (.tmp 31) (.tmp 32) 41 rfl 5 .u8 w3.heap.size 1 Try.underlying41 infoU8 _ _ rfl (HO4.out.alloc _) (some ⟨w4.heap.size, 0, none⟩) 1 1 [1] rfl (Rd.built _ _ _ _ (by decide)) (by rw [HN2.out]; simp; omega) (by rw [HN2.out]; simp; omega) (by have := HB4.out.size; simp; omega) ?_; intro v5 w5 o5 b5 k5; clear k5; have HO5 := hid o5; have HB5 := hid (HB4.out.trans ((Below.alloc (Below.refl _ _) HB4.out.size _).trans b5)); clear o5 b5)
    | fail)
  obtain ⟨ho, hc, rfl, hr5⟩ := HO5.out.rd
  have hg := getB_enc [1] (l := begL.map bare) (bl := [⟨0, -1, 7⟩, ⟨2, 4, 6⟩]) (by rw [opsI_bare]; exact beg_fits) beg_may beg_ok
  rw [← HN1.out] at hg
  have hgt := getB_to ho _ hc _ w5 hr5
  rw [hg] at hgt
  obtain ⟨n5, hn5⟩ : ∃ n5, n5 = (encMs (begL.map bare) ++ [11] ++ [1]).length := ⟨_, rfl⟩
  rw [← hn5] at hgt ⊢
  have HGT := hid hgt
  have HL5 := hid (HL3.out.below HB5.out)
  have HV5 := hid (HV3.out.below HB5.out (Nat.le_refl _))
  have HT5 := hid (HT3.out.below HB5.out (Nat.le_refl _))
  have HBB5 := hid (Bl.step HB3.out HB5.out)
  clear hr5 hg hgt hn5 HO5 HO4 HB4 HB5 HP HL3 HV3 HT3 HB3
  refine HGT.out.mono ?_
  rintro e w6 ⟨v6, rfl, hx, hok, _, hb⟩
  simp only at hx hok ⊢
  obtain ⟨xo, xc, rfl, _⟩ := hx.rd hok
  have HL6 := hid (HL5.out.below hb)
  have HV6 := hid (HV5.out.below hb (Nat.le_refl _))
  have HT6 := hid (HT5.out.below hb (Nat.le_refl _))
  have HB6 := hid (Bl.step HBB5.out hb)
  have hxl : (begL.map bare).length = 8 := rfl
  rw [hxl]
  clear hx hok hb HGT HL5 HV5 HT5 HBB5 hxl
  have hcut := run_cut_h 22 elem_i size_i (some ⟨w.heap.size, 0, none⟩) 8 8 7 7 rfl (by decide)
  have HU := hid (HL6.out.upto 7 (by decide))
  go_wp2_with fail
  refine (match_to _ _ 7 8 _ w6 HU.out).mono ?_
  rintro e w7 ⟨v7, rfl, hv7, hb⟩
  obtain ⟨_, _, rfl, _, _, _⟩ := hv7.shape
  clear hv7
  have hf7 : fits (opsI ((begL.map bare).take 7)) = none := by rw [← List.map_take, opsI_bare]; exact beg_fits7
  rw [hf7]
  have HV7 := hid (HV6.out.below hb (Nat.le_refl _))
  have HT7 := hid (HT6.out.below hb (Nat.le_refl _))
  have HB7 := hid (Bl.step HB6.out hb)
  clear hf7 hb HL6 HV6 HT6 HB6 HU hcut
  have hb0 := blk_cells HV7.out (k := 0) (by decide)
  have hb1 := blk_cells HV7.out (k := 1) (by decide)
  obtain ⟨a0, a1, a2, _, _⟩ := hb0
  obtain ⟨a3, a4, a5, _, _⟩ := hb1
  have t0 := (HT7.out.cell 0 (by decide)).1
  have t1 := (HT7.out.cell 1 (by decide)).1
  simp [List.getD] at a0 a1 a2 a3 a4 a5 t0 t1
  simp only [Option.isSome_none, Option.getD_none, List.map_nil, List.length_nil]
  go_wp2_with fail

  go_ret
  exact ⟨rfl, HB7.out⟩
end Go.Proofs.Ytfambbpggodlkaa
