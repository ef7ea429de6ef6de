/- WasmNames, at place 2. Written by gen_nam.py. -/
import Derived.Test.YtkjpllmicgakaaaGreatWaNam
namespace Go.Proofs.YtkjpllmicgakaaaGreat
open Go.RowKit

set_option maxRecDepth 100000 in
set_option maxHeartbeats 4000000 in
theorem wasmNames_2 (n : Nat) (x wh : Int) (w : World) (hn : n ≤ 20) (hx : 0 ≤ x ∧ x ≤ 255) (hwh : Int.tmod (Int.tmod wh 3 + 3) 3 = 2) :
    Calls Tryz.prog 6 #[.int .i64 n, .int .u8 x, .int .i64 wh] w fun e w' => e = .returned (.bool true) ∧ Below w.heap.size w w' := by
  have hb := begun_to w
  have HBG := hid hb
  have hx1 := Int.tmod_lt_of_pos wh (show (0 : Int) < 3 by decide)
  have hx2 := Int.lt_tmod_of_pos wh (show (0 : Int) < 3 by decide)
  obtain ⟨r1, hr1⟩ : ∃ r1, Int.tmod wh 3 = r1 := ⟨_, rfl⟩
  rw [hr1] at hx1 hx2 hwh
  have hw1 : IntKind.i64.wrap r1 = r1 := IntWalk.i64_in _ (by omega)
  have hw2 : IntKind.i64.wrap (r1 + 3) = r1 + 3 := IntWalk.i64_in _ (by omega)
  have HX := hid hx
  have hd1 : decide ((n : Int) < 0) = false := by simp
  have hd2 : decide ((20 : Int) < n) = false := by simp; omega
  clear hb
  go_enter Tryz.func6, Tryz.ntmps6
  go_wp2_with fail
  refine HBG.out.mono ?_
  rintro e w1 ⟨rfl, hb⟩
  have HB1 := hid hb
  have hsz1 := hb.size
  clear hb HBG
  obtain ⟨w2, hmk, ho, hb2, hz2⟩ := make_u8 n (by omega) w1
  obtain ⟨q, hq⟩ : ∃ q, w1.heap.size = q := ⟨_, rfl⟩
  rw [hq] at ho hb2 hz2 hmk hsz1
  have HQ := hid hq
  have HO2 := hid ho
  have HB2 := hid (Bl.step HB1.out (by rw [HQ.out]; exact hb2))
  have HZ2 := hid hz2
  clear ho hb2 hz2 hq
  go_wp2_with fail
  clear hmk
  go_loopw [27] (fun i wr => ∃ k : Nat, k ≤ n ∧ i = .int .i64 k ∧ Own 5 .u8 q wr (.slice (some ⟨q, 0, none⟩) n n) (List.replicate k x ++ List.replicate (n - k) 0) ∧ Below w.heap.size w wr ∧ wr.heap.size = q + 1) (fun i _ => n - (intOf i).toNat)
  case atStart => exact ⟨0, Nat.zero_le _, rfl, by simpa using HO2.out, HB2.out, HZ2.out⟩
  case round =>
    obtain ⟨k, hkn, rfl, ho, hb, hzr⟩ := hrel
    by_cases hk : k < n
    · obtain ⟨c1, c2, c3, c4, c5⟩ := ho.cell k (by simp; omega)
      obtain ⟨y0, hy0⟩ : ∃ y, (List.replicate k x ++ List.replicate (n - k) 0).getD k 0 = y := ⟨_, rfl⟩
      rw [hy0] at c1
      clear hy0
      have HO3 := hid (by have := ho.set k x (WalkArith.wf_u8 HX.out); rw [rep_set n k x hk] at this; exact this : Own 5 .u8 q (wr.setCell ⟨q, k, none⟩ (.int .u8 x)) (.slice (some ⟨q, 0, none⟩) n n) (List.replicate (k + 1) x ++ List.replicate (n - (k + 1)) 0))
      have HB3 := hid (hb.setCell (p := ⟨q, k, none⟩) hsz1 (.int .u8 x))
      have HZR := hid hzr
      clear ho hb hzr c3 c4 c5 hd1 hd2 hr1 hwh hw1 hw2 hx1 hx2 hx
      go_wp2_with fail
      go_roundw
      case rel => exact ⟨k + 1, by omega, by go_num, HO3.out, HB3.out, by simpa using HZR.out⟩
      case measure => simp [intOf]; omega
    · have hkn' : k = n := by omega
      subst hkn'
      have hrd := Own.rdAt ho
      have hnl : (List.replicate k x ++ List.replicate (k - k) (0 : Int)) = List.replicate k x := by rw [Nat.sub_self]; simp
      rw [hnl] at hrd
      have hbd : ∀ y ∈ List.replicate k x, 0 ≤ y ∧ y ≤ 255 := fun y hy => by rw [List.eq_of_mem_replicate hy]; exact HX.out
      have hcv := conv_str (P := Tryz.prog) (hrd.below (Bl.alloc (Bl.refl wr) (.cells #[.slice none 0 0, .slice none 0 0, .slice none 0 0, .bool false, .int .i64 0, .int .i64 0, .bool false, .int .i64 0, .int .i64 0, .slice none 0 0, .slice none 0 0, .slice none 0 0, .slice none 0 0, .slice none 0 0] 33))) 37 9 5 Tryz.underlying37 Tryz.underlying5 Tryz.underlying9
      have hsz : (strOfNums (List.replicate k x)).size = k := by rw [strOfNums_size]; simp
      have hnb := nb_of _ hbd
      obtain ⟨s, hs⟩ : ∃ s, strOfNums (List.replicate k x) = s := ⟨_, rfl⟩
      rw [hs] at hcv hsz hnb
      have HSZ := hid hsz
      have HNB := hid hnb
      have HB := hid hb
      clear hnl hbd hsz hnb hs hrd ho hb HO2 HB2 HZ2 HB1 HQ hkn
      rcases (by omega : (((1 : Int) ≤ k ∧ (k : Int) ≤ 16) ∧ 32 ≤ x ∧ x ≤ 126) ∨ ((1 : Int) ≤ k ∧ (k : Int) ≤ 16) ∧ 32 ≤ x ∧ ¬ x ≤ 126 ∨ ((1 : Int) ≤ k ∧ (k : Int) ≤ 16) ∧ ¬ 32 ≤ x ∨ (1 : Int) ≤ k ∧ ¬ (k : Int) ≤ 16 ∨ ¬ (1 : Int) ≤ k) with ⟨⟨g1, g2⟩, g3, g4⟩ | ⟨⟨g1, g2⟩, g3, g4⟩ | ⟨⟨g1, g2⟩, g3⟩ | ⟨g1, g2⟩ | g1
      ·
        go_wp2_with fail
        have hc2 : Cel ((wr.alloc (.cells #[.slice none 0 0, .slice none 0 0, .slice none 0 0, .bool false, .int .i64 0, .int .i64 0, .bool false, .int .i64 0, .int .i64 0, .slice none 0 0, .slice (some ⟨q + 1 + 1, 0, none⟩) 1 1, .slice none 0 0, .slice none 0 0, .slice none 0 0] 33)).alloc (.cells #[.string s, .int .i64 0] 50)) (q + 1 + 1) (nmC 2 s) := by
          have h := Cel.new (wr.alloc (.cells #[.slice none 0 0, .slice none 0 0, .slice none 0 0, .bool false, .int .i64 0, .int .i64 0, .bool false, .int .i64 0, .int .i64 0, .slice none 0 0, .slice (some ⟨q + 1 + 1, 0, none⟩) 1 1, .slice none 0 0, .slice none 0 0, .slice none 0 0] 33)) [.string s, .int .i64 0] 50
          rw [World.size_alloc, hzr] at h
          exact h
        have hcm : Cel ((wr.alloc (.cells #[.slice none 0 0, .slice none 0 0, .slice none 0 0, .bool false, .int .i64 0, .int .i64 0, .bool false, .int .i64 0, .int .i64 0, .slice none 0 0, .slice (some ⟨q + 1 + 1, 0, none⟩) 1 1, .slice none 0 0, .slice none 0 0, .slice none 0 0] 33)).alloc (.cells #[.string s, .int .i64 0] 50)) (q + 1) [.slice none 0 0, .slice none 0 0, .slice none 0 0, .bool false, .int .i64 0, .int .i64 0, .bool false, .int .i64 0, .int .i64 0, .slice none 0 0, .slice (some ⟨q + 1 + 1, 0, none⟩) 1 1, .slice none 0 0, .slice none 0 0, .slice none 0 0] := by
          have h := (Cel.new wr [.slice none 0 0, .slice none 0 0, .slice none 0 0, .bool false, .int .i64 0, .int .i64 0, .bool false, .int .i64 0, .int .i64 0, .slice none 0 0, .slice (some ⟨q + 1 + 1, 0, none⟩) 1 1, .slice none 0 0, .slice none 0 0, .slice none 0 0] 33).below (Nat.succ_pos _) (Bl.alloc (Bl.refl _) (.cells #[.string s, .int .i64 0] 50))
          rw [hzr] at h
          exact h
        have hb3 : Below w.heap.size w ((wr.alloc (.cells #[.slice none 0 0, .slice none 0 0, .slice none 0 0, .bool false, .int .i64 0, .int .i64 0, .bool false, .int .i64 0, .int .i64 0, .slice none 0 0, .slice (some ⟨q + 1 + 1, 0, none⟩) 1 1, .slice none 0 0, .slice none 0 0, .slice none 0 0] 33)).alloc (.cells #[.string s, .int .i64 0] 50)) := (HB.out.alloc HB.out.size _).alloc (by have := HB.out.size; simp; omega) _
        have hq3 : q + 1 < ((wr.alloc (.cells #[.slice none 0 0, .slice none 0 0, .slice none 0 0, .bool false, .int .i64 0, .int .i64 0, .bool false, .int .i64 0, .int .i64 0, .slice none 0 0, .slice (some ⟨q + 1 + 1, 0, none⟩) 1 1, .slice none 0 0, .slice none 0 0, .slice none 0 0] 33)).alloc (.cells #[.string s, .int .i64 0] 50)).heap.size := by simp; omega
        obtain ⟨w3, hw3⟩ : ∃ w3, ((wr.alloc (.cells #[.slice none 0 0, .slice none 0 0, .slice none 0 0, .bool false, .int .i64 0, .int .i64 0, .bool false, .int .i64 0, .int .i64 0, .slice none 0 0, .slice (some ⟨q + 1 + 1, 0, none⟩) 1 1, .slice none 0 0, .slice none 0 0, .slice none 0 0] 33)).alloc (.cells #[.string s, .int .i64 0] 50)) = w3 := ⟨_, rfl⟩
        rw [hw3] at hc2 hcm hb3 hq3
        rw [hw3]
        have HRX := hid (nm_rx 2 s (q + 1 + 1) w3 (by decide) hc2)
        have HCM := hid hcm
        have HB3 := hid hb3
        have hie : (nmM 2 s).imports.length ≤ 1000000 := by unfold nmM; simp
        have hfe : (nmM 2 s).funcs.length ≤ 1000000 := by unfold nmM; simp
        have HIF := hid (And.intro hie hfe)
        have hnm : mayNm s = true := by
          unfold mayNm
          rw [HSZ.out, HNB.out]
          have a1 : 1 ≤ k := by omega
          have a2 : k ≤ 16 := by omega
          have a3 : (List.replicate k x).all mayBy = true := by rw [List.all_eq_true]; intro y hy; rw [List.eq_of_mem_replicate hy]; simp [mayBy, g3, g4]
          rw [a3]; simp [a1, a2]
        have hmay := (nmM_may 2 s).trans hnm
        have HMAY := hid hmay
        have he := encode_to (nmV 2 (q + 1 + 1)) (nmM 2 s) w3 HRX.out hie hfe
        change Calls _ _ #[.agg #[.slice none 0 0, .slice none 0 0, .slice none 0 0, .bool false, .int .i64 0, .int .i64 0, .bool false, .int .i64 0, .int .i64 0, .slice none 0 0, .slice (some ⟨q + 1 + 1, 0, none⟩) 1 1, .slice none 0 0, .slice none 0 0, .slice none 0 0]] _ _ at he
        rw [show enc? (nmM 2 s) = moE (nmM 2 s) by unfold enc?; rw [if_pos hmay]] at he
        clear hc2 hcm hb3 hie hfe hnm hmay hw3 hcv
        refine he.mono ?_
        clear he
        rintro e w4 ⟨v, rfl, hv, hb⟩
        obtain ⟨bo, bc, rfl, hr⟩ := hv.rd
        obtain ⟨bn, hbn⟩ : ∃ bn, (moE (nmM 2 s) : List Int).length = bn := ⟨_, rfl⟩
        rw [hbn] at hr ⊢
        have HR := hid hr
        replace HB3 := hid (HB3.out.trans (hb.mono HB3.out.size))
        replace HCM := hid (HCM.out.below (Nat.succ_pos _) hb)
        replace HRX := hid (HRX.out.below hb)
        have hs4 := hb.size
        clear hb hv hr hbn
        go_wp2_with fail
        refine (decodeM_to bo bn bc (nmM 2 s) w4 HR.out HMAY.out (nmM_ok 2 s)).mono ?_
        rintro e w5 ⟨X, rfl, hx5, hb⟩
        have HRY : Hid (Rx w5 (MoR X (nmM 2 s))) := hid (hx5.more fun b hb => hb.2)
        replace HB3 := hid (HB3.out.trans (hb.mono HB3.out.size))
        replace HCM := hid (HCM.out.below (Nat.succ_pos _) hb)
        replace HRX := hid (HRX.out.below hb)
        have hs5 := hb.size
        clear hb hx5 HR
        obtain ⟨⟨otx, ntx, ctx⟩, ⟨oix, nix, cix⟩, ⟨ofx, nfx, cfx⟩, ⟨ogx, ngx, cgx⟩, ⟨oex, nex, cex⟩, ⟨olx, nlx, clx⟩, ⟨ocx, ncx, ccx⟩, ⟨odx, ndx, cdx⟩⟩ := X
        simp only [MoV.cells, nmM_table, nmM_mem]
        have a0 := HCM.out.cell 0 _ rfl
        have a1 := HCM.out.cell 1 _ rfl
        have a2 := HCM.out.cell 2 _ rfl
        have a3 := HCM.out.cell 3 _ rfl
        have a4 := HCM.out.cell 4 _ rfl
        have a5 := HCM.out.cell 5 _ rfl
        have a6 := HCM.out.cell 6 _ rfl
        have a7 := HCM.out.cell 7 _ rfl
        have a8 := HCM.out.cell 8 _ rfl
        have a9 := HCM.out.cell 9 _ rfl
        have a10 := HCM.out.cell 10 _ rfl
        have a11 := HCM.out.cell 11 _ rfl
        have a12 := HCM.out.cell 12 _ rfl
        have a13 := HCM.out.cell 13 _ rfl
        have hp5 : q + 1 < w5.heap.size := by omega
        go_wp2_with fail
        clear a0 a1 a2 a3 a4 a5 a6 a7 a8 a9 a10 a11 a12 a13
        have hb : Below w5.heap.size w5 (w5.alloc (.cells #[.slice otx ntx ctx, .slice oix nix cix, .slice ofx nfx cfx, .bool false, .int .i64 0, .int .i64 0, .bool false, .int .i64 0, .int .i64 0, .slice ogx ngx cgx, .slice oex nex cex, .slice olx nlx clx, .slice ocx ncx ccx, .slice odx ndx cdx] 33)) := Bl.alloc (Bl.refl _) _
        have hcy := Cel.new w5 [.slice otx ntx ctx, .slice oix nix cix, .slice ofx nfx cfx, .bool false, .int .i64 0, .int .i64 0, .bool false, .int .i64 0, .int .i64 0, .slice ogx ngx cgx, .slice oex nex cex, .slice olx nlx clx, .slice ocx ncx ccx, .slice odx ndx cdx] 33
        obtain ⟨p5, hp5z⟩ : ∃ p, w5.heap.size = p := ⟨_, rfl⟩
        replace HCM := hid (HCM.out.below (Nat.succ_pos _) hb)
        replace HRX := hid (HRX.out.below hb)
        replace HRY := hid (HRY.out.below hb)
        replace HB3 := hid (HB3.out.trans (hb.mono HB3.out.size))
        obtain ⟨w6, hw6⟩ : ∃ w6, w5.alloc (.cells #[.slice otx ntx ctx, .slice oix nix cix, .slice ofx nfx cfx, .bool false, .int .i64 0, .int .i64 0, .bool false, .int .i64 0, .int .i64 0, .slice ogx ngx cgx, .slice oex nex cex, .slice olx nlx clx, .slice ocx ncx ccx, .slice odx ndx cdx] 33) = w6 := ⟨_, rfl⟩
        have hcy6 : Cel w6 p5 [.slice otx ntx ctx, .slice oix nix cix, .slice ofx nfx cfx, .bool false, .int .i64 0, .int .i64 0, .bool false, .int .i64 0, .int .i64 0, .slice ogx ngx cgx, .slice oex nex cex, .slice olx nlx clx, .slice ocx ncx ccx, .slice odx ndx cdx] := by rw [← hw6, ← hp5z]; exact hcy
        rw [hw6] at HCM HRX HRY HB3
        try rw [hp5z]
        try rw [hw6]
        have HCY := hid hcy6
        clear hb hcy hcy6 hw6 hp5z
        have hmy := mayMod_to (nmV 2 (q + 1 + 1)) (nmM 2 s) w6 HRX.out HIF.out.1 HIF.out.2
        change Calls _ _ #[.agg #[.slice none 0 0, .slice none 0 0, .slice none 0 0, .bool false, .int .i64 0, .int .i64 0, .bool false, .int .i64 0, .int .i64 0, .slice none 0 0, .slice (some ⟨q + 1 + 1, 0, none⟩) 1 1, .slice none 0 0, .slice none 0 0, .slice none 0 0]] _ _ at hmy
        rw [HMAY.out] at hmy
        refine hmy.mono ?_
        clear hmy
        rintro e w7 ⟨rfl, hb⟩
        replace HCM := hid (HCM.out.below (Nat.succ_pos _) hb)
        replace HCY := hid (HCY.out.below (Nat.succ_pos _) hb)
        replace HRX := hid (HRX.out.below hb)
        replace HRY := hid (HRY.out.below hb)
        replace HB3 := hid (HB3.out.trans (hb.mono HB3.out.size))
        clear hb
        have a0 := HCM.out.cell 0 _ rfl
        have a1 := HCM.out.cell 1 _ rfl
        have a2 := HCM.out.cell 2 _ rfl
        have a3 := HCM.out.cell 3 _ rfl
        have a4 := HCM.out.cell 4 _ rfl
        have a5 := HCM.out.cell 5 _ rfl
        have a6 := HCM.out.cell 6 _ rfl
        have a7 := HCM.out.cell 7 _ rfl
        have a8 := HCM.out.cell 8 _ rfl
        have a9 := HCM.out.cell 9 _ rfl
        have a10 := HCM.out.cell 10 _ rfl
        have a11 := HCM.out.cell 11 _ rfl
        have a12 := HCM.out.cell 12 _ rfl
        have a13 := HCM.out.cell 13 _ rfl
        have y0 := HCY.out.cell 0 _ rfl
        have y1 := HCY.out.cell 1 _ rfl
        have y2 := HCY.out.cell 2 _ rfl
        have y3 := HCY.out.cell 3 _ rfl
        have y4 := HCY.out.cell 4 _ rfl
        have y5 := HCY.out.cell 5 _ rfl
        have y6 := HCY.out.cell 6 _ rfl
        have y7 := HCY.out.cell 7 _ rfl
        have y8 := HCY.out.cell 8 _ rfl
        have y9 := HCY.out.cell 9 _ rfl
        have y10 := HCY.out.cell 10 _ rfl
        have y11 := HCY.out.cell 11 _ rfl
        have y12 := HCY.out.cell 12 _ rfl
        have y13 := HCY.out.cell 13 _ rfl
        go_wp2_with fail
        have heq := refEq_to ⟨⟨otx, ntx, ctx⟩, ⟨oix, nix, cix⟩, ⟨ofx, nfx, cfx⟩, ⟨ogx, ngx, cgx⟩, ⟨oex, nex, cex⟩, ⟨olx, nlx, clx⟩, ⟨ocx, ncx, ccx⟩, ⟨odx, ndx, cdx⟩⟩ (nmV 2 (q + 1 + 1)) (nmM 2 s) (nmM 2 s) w7 HRY.out HRX.out
        simp only [MoV.cells, nmM_table, nmM_mem] at heq
        change Calls _ _ #[.agg #[.slice otx ntx ctx, .slice oix nix cix, .slice ofx nfx cfx, .bool false, .int .i64 0, .int .i64 0, .bool false, .int .i64 0, .int .i64 0, .slice ogx ngx cgx, .slice oex nex cex, .slice olx nlx clx, .slice ocx ncx ccx, .slice odx ndx cdx], .agg #[.slice none 0 0, .slice none 0 0, .slice none 0 0, .bool false, .int .i64 0, .int .i64 0, .bool false, .int .i64 0, .int .i64 0, .slice none 0 0, .slice (some ⟨q + 1 + 1, 0, none⟩) 1 1, .slice none 0 0, .slice none 0 0, .slice none 0 0]] _ _ at heq
        rw [nmM_eq 2 s] at heq
        clear a0 y0 a1 y1 a2 y2 a3 y3 a4 y4 a5 y5 a6 y6 a7 y7 a8 y8 a9 y9 a10 y10 a11 y11 a12 y12 a13 y13
        refine heq.mono ?_
        clear heq
        rintro e w8 ⟨rfl, hb⟩
        have HB8 := hid (HB3.out.trans (hb.mono HB3.out.size))
        clear hb
        go_wp2_with fail
        go_ret
        exact ⟨rfl, HB8.out⟩
      all_goals
        go_wp2_with fail
        have hc2 : Cel ((wr.alloc (.cells #[.slice none 0 0, .slice none 0 0, .slice none 0 0, .bool false, .int .i64 0, .int .i64 0, .bool false, .int .i64 0, .int .i64 0, .slice none 0 0, .slice (some ⟨q + 1 + 1, 0, none⟩) 1 1, .slice none 0 0, .slice none 0 0, .slice none 0 0] 33)).alloc (.cells #[.string s, .int .i64 0] 50)) (q + 1 + 1) (nmC 2 s) := by
          have h := Cel.new (wr.alloc (.cells #[.slice none 0 0, .slice none 0 0, .slice none 0 0, .bool false, .int .i64 0, .int .i64 0, .bool false, .int .i64 0, .int .i64 0, .slice none 0 0, .slice (some ⟨q + 1 + 1, 0, none⟩) 1 1, .slice none 0 0, .slice none 0 0, .slice none 0 0] 33)) [.string s, .int .i64 0] 50
          rw [World.size_alloc, hzr] at h
          exact h
        have hcm : Cel ((wr.alloc (.cells #[.slice none 0 0, .slice none 0 0, .slice none 0 0, .bool false, .int .i64 0, .int .i64 0, .bool false, .int .i64 0, .int .i64 0, .slice none 0 0, .slice (some ⟨q + 1 + 1, 0, none⟩) 1 1, .slice none 0 0, .slice none 0 0, .slice none 0 0] 33)).alloc (.cells #[.string s, .int .i64 0] 50)) (q + 1) [.slice none 0 0, .slice none 0 0, .slice none 0 0, .bool false, .int .i64 0, .int .i64 0, .bool false, .int .i64 0, .int .i64 0, .slice none 0 0, .slice (some ⟨q + 1 + 1, 0, none⟩) 1 1, .slice none 0 0, .slice none 0 0, .slice none 0 0] := by
          have h := (Cel.new wr [.slice none 0 0, .slice none 0 0, .slice none 0 0, .bool false, .int .i64 0, .int .i64 0, .bool false, .int .i64 0, .int .i64 0, .slice none 0 0, .slice (some ⟨q + 1 + 1, 0, none⟩) 1 1, .slice none 0 0, .slice none 0 0, .slice none 0 0] 33).below (Nat.succ_pos _) (Bl.alloc (Bl.refl _) (.cells #[.string s, .int .i64 0] 50))
          rw [hzr] at h
          exact h
        have hb3 : Below w.heap.size w ((wr.alloc (.cells #[.slice none 0 0, .slice none 0 0, .slice none 0 0, .bool false, .int .i64 0, .int .i64 0, .bool false, .int .i64 0, .int .i64 0, .slice none 0 0, .slice (some ⟨q + 1 + 1, 0, none⟩) 1 1, .slice none 0 0, .slice none 0 0, .slice none 0 0] 33)).alloc (.cells #[.string s, .int .i64 0] 50)) := (HB.out.alloc HB.out.size _).alloc (by have := HB.out.size; simp; omega) _
        have hq3 : q + 1 < ((wr.alloc (.cells #[.slice none 0 0, .slice none 0 0, .slice none 0 0, .bool false, .int .i64 0, .int .i64 0, .bool false, .int .i64 0, .int .i64 0, .slice none 0 0, .slice (some ⟨q + 1 + 1, 0, none⟩) 1 1, .slice none 0 0, .slice none 0 0, .slice none 0 0] 33)).alloc (.cells #[.string s, .int .i64 0] 50)).heap.size := by simp; omega
        obtain ⟨w3, hw3⟩ : ∃ w3, ((wr.alloc (.cells #[.slice none 0 0, .slice none 0 0, .slice none 0 0, .bool false, .int .i64 0, .int .i64 0, .bool false, .int .i64 0, .int .i64 0, .slice none 0 0, .slice (some ⟨q + 1 + 1, 0, none⟩) 1 1, .slice none 0 0, .slice none 0 0, .slice none 0 0] 33)).alloc (.cells #[.string s, .int .i64 0] 50)) = w3 := ⟨_, rfl⟩
        rw [hw3] at hc2 hcm hb3 hq3
        rw [hw3]
        have HRX := hid (nm_rx 2 s (q + 1 + 1) w3 (by decide) hc2)
        have HCM := hid hcm
        have HB3 := hid hb3
        have hie : (nmM 2 s).imports.length ≤ 1000000 := by unfold nmM; simp
        have hfe : (nmM 2 s).funcs.length ≤ 1000000 := by unfold nmM; simp
        have HIF := hid (And.intro hie hfe)
        have hnm : mayNm s = false := by
          unfold mayNm
          rw [HSZ.out, HNB.out]
          by_cases a1 : 1 ≤ k ∧ k ≤ 16
          · have a3 : (List.replicate k x).all mayBy = false := by rw [List.all_eq_false]; exact ⟨x, by simp; omega, by simp [mayBy]; omega⟩
            rw [a3]; simp
          · have : (decide (1 ≤ k) && decide (k ≤ 16)) = false := by simp; omega
            rw [this]; rfl
        have hmay := (nmM_may 2 s).trans hnm
        have HMAY := hid hmay
        have he := encode_to (nmV 2 (q + 1 + 1)) (nmM 2 s) w3 HRX.out hie hfe
        change Calls _ _ #[.agg #[.slice none 0 0, .slice none 0 0, .slice none 0 0, .bool false, .int .i64 0, .int .i64 0, .bool false, .int .i64 0, .int .i64 0, .slice none 0 0, .slice (some ⟨q + 1 + 1, 0, none⟩) 1 1, .slice none 0 0, .slice none 0 0, .slice none 0 0]] _ _ at he
        rw [show enc? (nmM 2 s) = [] by unfold enc?; rw [if_neg (by rw [hmay]; decide)]] at he
        clear hc2 hcm hb3 hie hfe hnm hmay hw3 hcv
        refine he.mono ?_
        clear he
        rintro e w4 ⟨v, rfl, hv, hb⟩
        obtain ⟨bo, bc, rfl, hr⟩ := hv.rd
        obtain ⟨bn, hbn⟩ : ∃ bn, ([] : List Int).length = bn := ⟨_, rfl⟩
        rw [hbn] at hr ⊢
        have HR := hid hr
        replace HB3 := hid (HB3.out.trans (hb.mono HB3.out.size))
        replace HCM := hid (HCM.out.below (Nat.succ_pos _) hb)
        replace HRX := hid (HRX.out.below hb)
        have hs4 := hb.size
        have HBN := hid hbn
        clear hb hv hr hbn
        go_wp2_with fail
        refine (decodeS_to bo bn bc [] w4 HR.out (by decide)).mono ?_
        rintro e w5 ⟨rfl, hb⟩
        have hs5 := hb.size
        replace HCM := hid (HCM.out.below (Nat.succ_pos _) hb)
        replace HRX := hid (HRX.out.below hb)
        replace HB3 := hid (HB3.out.trans (hb.mono HB3.out.size))
        clear hb HR HBN
        simp only [zeroV]
        have a0 := HCM.out.cell 0 _ rfl
        have a1 := HCM.out.cell 1 _ rfl
        have a2 := HCM.out.cell 2 _ rfl
        have a3 := HCM.out.cell 3 _ rfl
        have a4 := HCM.out.cell 4 _ rfl
        have a5 := HCM.out.cell 5 _ rfl
        have a6 := HCM.out.cell 6 _ rfl
        have a7 := HCM.out.cell 7 _ rfl
        have a8 := HCM.out.cell 8 _ rfl
        have a9 := HCM.out.cell 9 _ rfl
        have a10 := HCM.out.cell 10 _ rfl
        have a11 := HCM.out.cell 11 _ rfl
        have a12 := HCM.out.cell 12 _ rfl
        have a13 := HCM.out.cell 13 _ rfl
        have hp5 : q + 1 < w5.heap.size := by omega
        go_wp2_with fail
        clear a0 a1 a2 a3 a4 a5 a6 a7 a8 a9 a10 a11 a12 a13
        have hb : Below w5.heap.size w5 (w5.alloc (.cells #[.slice none 0 0, .slice none 0 0, .slice none 0 0, .bool false, .int .i64 0, .int .i64 0, .bool false, .int .i64 0, .int .i64 0, .slice none 0 0, .slice none 0 0, .slice none 0 0, .slice none 0 0, .slice none 0 0] 33)) := Bl.alloc (Bl.refl _) _
        replace HCM := hid (HCM.out.below (Nat.succ_pos _) hb)
        replace HRX := hid (HRX.out.below hb)
        replace HB3 := hid (HB3.out.trans (hb.mono HB3.out.size))
        obtain ⟨w6, hw6⟩ : ∃ w6, w5.alloc (.cells #[.slice none 0 0, .slice none 0 0, .slice none 0 0, .bool false, .int .i64 0, .int .i64 0, .bool false, .int .i64 0, .int .i64 0, .slice none 0 0, .slice none 0 0, .slice none 0 0, .slice none 0 0, .slice none 0 0] 33) = w6 := ⟨_, rfl⟩
        rw [hw6] at HCM HRX HB3 ⊢
        clear hb hw6
        have hmy := mayMod_to (nmV 2 (q + 1 + 1)) (nmM 2 s) w6 HRX.out HIF.out.1 HIF.out.2
        change Calls _ _ #[.agg #[.slice none 0 0, .slice none 0 0, .slice none 0 0, .bool false, .int .i64 0, .int .i64 0, .bool false, .int .i64 0, .int .i64 0, .slice none 0 0, .slice (some ⟨q + 1 + 1, 0, none⟩) 1 1, .slice none 0 0, .slice none 0 0, .slice none 0 0]] _ _ at hmy
        rw [HMAY.out] at hmy
        refine hmy.mono ?_
        clear hmy
        rintro e w7 ⟨rfl, hb⟩
        replace HCM := hid (HCM.out.below (Nat.succ_pos _) hb)
        replace HRX := hid (HRX.out.below hb)
        replace HB3 := hid (HB3.out.trans (hb.mono HB3.out.size))
        clear hb
        have a0 := HCM.out.cell 0 _ rfl
        have a1 := HCM.out.cell 1 _ rfl
        have a2 := HCM.out.cell 2 _ rfl
        have a3 := HCM.out.cell 3 _ rfl
        have a4 := HCM.out.cell 4 _ rfl
        have a5 := HCM.out.cell 5 _ rfl
        have a6 := HCM.out.cell 6 _ rfl
        have a7 := HCM.out.cell 7 _ rfl
        have a8 := HCM.out.cell 8 _ rfl
        have a9 := HCM.out.cell 9 _ rfl
        have a10 := HCM.out.cell 10 _ rfl
        have a11 := HCM.out.cell 11 _ rfl
        have a12 := HCM.out.cell 12 _ rfl
        have a13 := HCM.out.cell 13 _ rfl
        go_wp2_with fail
        clear a0 a1 a2 a3 a4 a5 a6 a7 a8 a9 a10 a11 a12 a13
        have he := encode_to (nmV 2 (q + 1 + 1)) (nmM 2 s) w7 HRX.out HIF.out.1 HIF.out.2
        change Calls _ _ #[.agg #[.slice none 0 0, .slice none 0 0, .slice none 0 0, .bool false, .int .i64 0, .int .i64 0, .bool false, .int .i64 0, .int .i64 0, .slice none 0 0, .slice (some ⟨q + 1 + 1, 0, none⟩) 1 1, .slice none 0 0, .slice none 0 0, .slice none 0 0]] _ _ at he
        rw [show enc? (nmM 2 s) = [] by unfold enc?; rw [if_neg (by rw [HMAY.out]; decide)]] at he
        refine he.mono ?_
        clear he
        rintro e w8 ⟨v, rfl, hv, hb⟩
        obtain ⟨b8, c8, rfl, _⟩ := hv.rd
        have HB8 := hid (HB3.out.trans (hb.mono HB3.out.size))
        clear hb hv
        go_wp2_with fail
        go_ret
        exact ⟨rfl, HB8.out⟩
end Go.Proofs.YtkjpllmicgakaaaGreat
