/- WasmLocals. -/
import Derived.Test.YtkjpllmicgakaaaGreatWF
import Derived.Deep.AppendLies
namespace Go.Proofs.YtkjpllmicgakaaaGreat
open Go.RowKit

theorem kindOf_wf (l : List Int) : ∀ y ∈ l.map kindOf, (Lit.int .i64 y).wf = true := by
  intro y hy
  obtain ⟨x, _, rfl⟩ := List.mem_map.1 hy
  have h := kindOf_may x
  simp [mayK] at h
  rcases h with h | h <;> rw [h] <;> decide
set_option maxRecDepth 100000 in
set_option maxHeartbeats 8000000 in
theorem wasmLocals_walk (ao : Option Addr) (n cap : Nat) (xs : List Int) (w : World) (h : Rd .i64 w ao n cap xs) : Calls Tryz.prog 8 #[.slice ao n cap] w fun e w' => e = .returned (.bool true) ∧ Below w.heap.size w w' := by
  have hb := begun_to w
  have h63 : n ≤ 9223372036854775807 := by have h1 := h.le; have h2 := h.max; unfold maxLen at h2; omega
  have HBG := hid hb
  have HX := hid (Rd.rx h)
  clear hb h
  go_enter Tryz.func8, Tryz.ntmps8
  go_wp2_with fail
  refine HBG.out.mono ?_
  rintro e w1 ⟨rfl, hb⟩
  replace HX := hid (HX.out.below hb)
  have HBA := hid hb
  clear hb HBG
  go_wp2_with fail
  refine (small_to w1).mono ?_
  rintro e w2 ⟨rfl, hs, h7, hb, hz⟩
  replace HX : Hid (Bx (fun b => b < w1.heap.size) w2 fun w => Rd .i64 w ao n cap xs) := hid (Bx.keep (show Bx (fun b => b < w1.heap.size) w1 _ from HX.out) fun b hb' => hb.block b hb')
  have hwp := HBA.out.size
  have HB2 := hid (Bl.step HBA.out hb)
  clear HBA
  obtain ⟨p, hp⟩ : ∃ p, w1.heap.size = p := ⟨_, rfl⟩
  rw [hp] at hwp
  have HWP := hid hwp
  clear hwp
  rw [hp] at hs h7 hb hz HX ⊢
  have HS := hid hs
  have H7 := hid h7
  have HZ := hid hz
  clear hs h7 hb hz hp
  simp only [smallV, smallM, MoV.cells]
  have hbx : Below w2.heap.size w2 (w2.alloc (.cells #[.slice (some ⟨p + 3, 0, none⟩) 1 1, .slice none 0 0, .slice (some ⟨p + 4, 0, none⟩) 1 1, .bool false, .int .i64 0, .int .i64 0, .bool false, .int .i64 0, .int .i64 0, .slice none 0 0, .slice (some ⟨p + 5, 0, none⟩) 1 1, .slice none 0 0, .slice (some ⟨p + 7, 0, none⟩) 1 1, .slice none 0 0] 33)) := Bl.alloc (Bl.refl w2) _
  have HC := hid (Cel.new w2 [.slice (some ⟨p + 3, 0, none⟩) 1 1, .slice none 0 0, .slice (some ⟨p + 4, 0, none⟩) 1 1, .bool false, .int .i64 0, .int .i64 0, .bool false, .int .i64 0, .int .i64 0, .slice none 0 0, .slice (some ⟨p + 5, 0, none⟩) 1 1, .slice none 0 0, .slice (some ⟨p + 7, 0, none⟩) 1 1, .slice none 0 0] 33)
  replace HX := hid (HX.out.keep fun b hb' => hbx.block b (by have := HZ.out; omega))
  replace HS := hid (HS.out.same fun b _ _ => hbx.block b (by have := HZ.out; omega))
  replace H7 := hid (H7.out.below (Nat.succ_pos _) hbx)
  have hq : w2.heap.size = p + 8 := HZ.out
  obtain ⟨q, hq2⟩ : ∃ q, w2.heap.size = q := ⟨_, rfl⟩
  rw [hq2] at hq HC
  subst hq
  have HQ2 := hid hq2
  have hwz : (w2.alloc (.cells #[.slice (some ⟨p + 3, 0, none⟩) 1 1, .slice none 0 0, .slice (some ⟨p + 4, 0, none⟩) 1 1, .bool false, .int .i64 0, .int .i64 0, .bool false, .int .i64 0, .int .i64 0, .slice none 0 0, .slice (some ⟨p + 5, 0, none⟩) 1 1, .slice none 0 0, .slice (some ⟨p + 7, 0, none⟩) 1 1, .slice none 0 0] 33)).heap.size = p + 9 := by simp; omega
  obtain ⟨wb, hwb⟩ : ∃ wb, (w2.alloc (.cells #[.slice (some ⟨p + 3, 0, none⟩) 1 1, .slice none 0 0, .slice (some ⟨p + 4, 0, none⟩) 1 1, .bool false, .int .i64 0, .int .i64 0, .bool false, .int .i64 0, .int .i64 0, .slice none 0 0, .slice (some ⟨p + 5, 0, none⟩) 1 1, .slice none 0 0, .slice (some ⟨p + 7, 0, none⟩) 1 1, .slice none 0 0] 33)) = wb := ⟨_, rfl⟩
  have HBB : Hid (Below w.heap.size w wb) := hid (by rw [← hwb]; exact Bl.alloc HB2.out _)
  clear HB2
  rw [hwb] at HC HX HS H7 hwz
  have HWB := hid hwb
  clear hbx hwb hq2
  go_wp2_with fail
  rw [HWB.out, HQ2.out]
  go_loopw [5] (fun i wr => ∃ (k : Nat) (lo : Option Addr) (lc : Nat), k ≤ n ∧ k ≤ 30 ∧ i = .int .i64 k ∧ Hid (Cel wr (p + 7) [.slice lo k lc, .slice (some ⟨p + 6, 0, none⟩) 3 3]) ∧ Hid (Own 3 .i64 (p + 9) wr (.slice lo k lc) ((xs.take k).map kindOf)) ∧ Hid (wb.grownBy wr (some (p + 7)))) (fun i _ => n - (intOf i).toNat)
  case atStart => exact ⟨0, none, 0, Nat.zero_le _, by omega, rfl, H7, hid (Own.nil _ _ _ _), hid (gr_refl _ _)⟩
  case round =>
    obtain ⟨k, lo, lc, hkn, hk30, rfl, h7, ho, hg⟩ := hrel
    by_cases hk : k < n ∧ k < 30
    · obtain ⟨hk1, hk2⟩ := hk
      have hxr : Rd .i64 wr ao n cap xs := (HX.out.keep fun b hb => hg.out.block b (by omega) (fun e => by simp at e <;> omega)).now
      obtain ⟨x, hx⟩ : ∃ x, xs.getD k 0 = x := ⟨_, rfl⟩
      obtain ⟨b, off, rfl, hcx⟩ := hxr.at (by omega)
      have cx := hcx k hk1
      rw [hx] at cx
      have hbx := bounds_i64 (hxr.wf x (by rw [← hx]; have hl := hxr.len; rw [List.getD_eq_getElem?_getD, List.getElem?_eq_getElem (by omega)]; exact List.getElem_mem _))
      have hgs := hg.out.size
      have HCR := hid (HC.out.same (hg.out.block (p + 8) (by omega) (fun e => by simp at e <;> omega)))
      have d12 := HCR.out.cell 12 _ rfl
      have e0 := h7.out.cell 0 _ rfl
      have fe0 := h7.out.fro 0 _ rfl
      have hx1 := Int.tmod_lt_of_pos x (show (0 : Int) < 2 by decide)
      have hx2 := Int.lt_tmod_of_pos x (show (0 : Int) < 2 by decide)
      obtain ⟨r1, hr1⟩ : ∃ r1, Int.tmod x 2 = r1 := ⟨_, rfl⟩
      rw [hr1] at hx1 hx2
      have hw1 : IntKind.i64.wrap r1 = r1 := IntWalk.i64_in _ (by omega)
      have hw2 : IntKind.i64.wrap (r1 + 2) = r1 + 2 := IntWalk.i64_in _ (by omega)
      have hx3 := Int.tmod_lt_of_pos (r1 + 2) (show (0 : Int) < 2 by decide)
      have hx4 := Int.tmod_nonneg 2 (show 0 ≤ r1 + 2 by omega)
      obtain ⟨r2, hr2⟩ : ∃ r2, Int.tmod (r1 + 2) 2 = r2 := ⟨_, rfl⟩
      rw [hr2] at hx3 hx4
      have hw3 : IntKind.i64.wrap r2 = r2 := IntWalk.i64_in _ (by omega)
      have hw4 : IntKind.i64.wrap (1 + r2) = 1 + r2 := IntWalk.i64_in _ (by omega)
      have hkd : kindOf x = 1 + r2 := by unfold kindOf; rw [hr1, hr2]
      have hlk : ((xs.take k).map kindOf).length = k := by rw [List.length_map, List.length_take, hxr.len]; omega
      have hro := ho.out.row
      rw [hlk] at hro
      have HRO := hid hro
      have hol : ∀ b, (Value.slice lo k lc).ownBlock = some b → p + 9 ≤ b := fun b e => (ho.out.lt b e).1
      have HOL := hid hol
      have ht : (xs.take (k + 1)).map kindOf = (xs.take k).map kindOf ++ [1 + r2] := by
        rw [← hkd, ← hx, ← List.map_singleton (f := kindOf), ← List.map_append, List.take_add_one, List.getD_eq_getElem?_getD, List.getElem?_eq_getElem (by rw [hxr.len]; exact hk1)]
        rfl
      have HT := hid ht
      have hbl : Below wr.heap.size wr (wr.alloc (.cells #[.int .i64 (1 + r2)] 3)).drew := (Bl.alloc (Bl.refl wr) _).drew
      have HBL := hid hbl
      have hp7 : p + 7 < wr.heap.size := by omega
      have HP7 := hid hp7
      have hp8 : p + 8 < wr.heap.size := by omega
      have HKD := hid hkd
      have H7R := h7
      have HG := hg
      have HXL := hid (And.intro hx hxr.len)
      have hnews : ∀ j u, [Value.int .i64 (1 + r2)][j]? = some u → (wr.alloc (.cells #[.int .i64 (1 + r2)] 3)).drew.cell? ((⟨wr.heap.size, 0, none⟩ : Addr).add j) = some u := World.news_of_block (heap_alloc_new wr _)
      have HNW := hid hnews
      have hwrs : p + 9 ≤ wr.heap.size := by omega
      obtain ⟨i0, hi0, hz0, hz1, hz2⟩ := info_parts infoI
      clear hol ht hbl
      clear hnews hro hlk hkd hx hxr hcx ho h7 hg
      go_wp2_with fail
      go_region_law (refine step_append_lies _ rfl (.tmp 28) (.tmp 37) 24 rfl (p + 9) 3 i0 _ 1 8 Tryz.underlying24 hi0 hz0 hz1 hz2 rfl (by decide) (.slice lo k lc) k _ rfl (HRO.out.alloc _).drew ⟨wr.heap.size, 0, none⟩ 1 1 [.int .i64 (1 + r2)] rfl rfl HNW.out (by simp [Value.oneCell']) (by decide) (by unfold maxLen; omega) (by omega) (by simp; omega) (wr.heap.size + 1) (by simp) ?_; intro g cap2 w3 o3 g3 hg3 hl3
                     have h73 := (H7R.out.keep HP7.out HBL.out).same (g3.block (p + 7) (Nat.lt_of_lt_of_le HP7.out HBL.out.size) (fun e => by have := HOL.out _ e.symm; omega))
                     have e03 := h73.cell 0 _ rfl
                     have fe03 := h73.fro 0 _ rfl
                     have h83 := (HCR.out.keep hp8 HBL.out).same (g3.block (p + 8) (Nat.lt_of_lt_of_le hp8 HBL.out.size) (fun e => by have := HOL.out _ e.symm; omega))
                     have d123 := h83.cell 12 _ rfl
                     clear h83
                     have H73 := hid h73
                     have G3 := hid g3
                     have O3 := hid o3
                     have GL := hid hl3
                     clear h73 g3 o3 hg3 hl3)
      all_goals
        have hg4 : wb.grownBy w3 (some (p + 7)) := ⟨G3.out.os.trans (HBL.out.os.trans HG.out.os), G3.out.tape.trans (HBL.out.tape.trans HG.out.tape), G3.out.output.trans (HBL.out.output.trans HG.out.output), Nat.le_trans HG.out.size (Nat.le_trans HBL.out.size G3.out.size), fun b hb hne => (G3.out.block b (Nat.lt_of_lt_of_le hb (Nat.le_trans HG.out.size HBL.out.size)) (fun e => by have := HOL.out _ e.symm; omega)).trans ((HBL.out.block b (Nat.lt_of_lt_of_le hb HG.out.size)).trans (HG.out.block b hb hne))⟩
        have HG4 := hid hg4
        have ho4 : Own 3 .i64 (p + 9) w3 (.slice (some ⟨g, 0, none⟩) (k + 1) cap2) ((xs.take (k + 1)).map kindOf) := by
          refine ⟨?_, kindOf_wf _⟩
          have hl : ((xs.take (k + 1)).map kindOf).length = k + 1 := by rw [HT.out, List.length_append, List.length_map, List.length_take, HXL.out.2]; simp; omega
          rw [hl, HT.out, List.map_append]
          exact O3.out
        have HO4 := hid ho4
        clear hg4 ho4
        go_wp2_with fail
        go_roundw
        case rel => exact ⟨k + 1, some ⟨g, 0, none⟩, cap2, by omega, by omega, by go_num, hid (H73.out.set 0 _ (by simp)), hid (HO4.out.aside (p := ⟨p + 7, 0, none⟩) (fun b hb => by have := (HO4.out.lt b hb).1; show b ≠ p + 7; omega) _), hid (gr_set HG4.out 0 _)⟩
        case measure => simp [intOf]; omega
    · have hcs : ((k : Int) < n ∧ ¬ (k : Int) < 30) ∨ ¬ (k : Int) < n := by omega
      rcases hcs with ⟨hq1, hq2⟩ | hq1
      all_goals
        obtain ⟨ls, hls⟩ : ∃ ls, (xs.take k).map kindOf = ls := ⟨_, rfl⟩
        have hn := (HX.out.keep fun b hb => hg.out.block b (by omega) (fun e => by simp at e <;> omega)).now.len
        have hlk : ls.length = k := by rw [← hls, List.length_map, List.length_take, hn]; omega
        have hmk : ls.all mayK = true := by rw [← hls, List.all_eq_true]; intro y hy; obtain ⟨x, _, rfl⟩ := List.mem_map.1 hy; exact kindOf_may x
        have hmay := small_may ls (by omega) hmk
        have hgs := hg.out.size
        have HBR := hid (HBB.out.grown hg.out HBB.out.size (fun b e => by cases e; have := HWP.out; omega))
        rw [hls] at ho
        have hrd := Own.rdAt ho.out
        have hsr := HS.out.same fun b h1 h2 => hg.out.block b (by omega) (fun e => by simp at e <;> omega)
        have HCR := hid (HC.out.same (hg.out.block (p + 8) (by omega) (fun e => by simp at e <;> omega)))
        have hrx : Rx wr (MoR (smallV p) (smallM ls)) := fun w' h' => (hsr.same fun b h1 h2 => h' b (show b < wr.heap.size by omega)).mo (h7.out.same (h' (p + 7) (show p + 7 < wr.heap.size by omega))) ((Rd.rx hrd) w' h')
        have hen := encode_to (smallV p) (smallM ls) wr hrx (show 0 ≤ 1000000 by decide) (show 1 ≤ 1000000 by decide)
        rw [show enc? (smallM ls) = moE (smallM ls) by unfold enc?; rw [if_pos hmay]] at hen
        simp only [smallV, MoV.cells] at hen
        have HEN := hid hen
        have HRX := hid hrx
        have HMAY := hid hmay
        have HRD := hid hrd
        have H7 := h7
        have HLK := hid hlk
        clear hen hrx hmay hrd hsr hlk hls hn hmk ho h7 HX HS hg
        have a0 := HCR.out.cell 0 _ rfl
        have a1 := HCR.out.cell 1 _ rfl
        have a2 := HCR.out.cell 2 _ rfl
        have a3 := HCR.out.cell 3 _ rfl
        have a4 := HCR.out.cell 4 _ rfl
        have a5 := HCR.out.cell 5 _ rfl
        have a6 := HCR.out.cell 6 _ rfl
        have a7 := HCR.out.cell 7 _ rfl
        have a8 := HCR.out.cell 8 _ rfl
        have a9 := HCR.out.cell 9 _ rfl
        have a10 := HCR.out.cell 10 _ rfl
        have a11 := HCR.out.cell 11 _ rfl
        have a12 := HCR.out.cell 12 _ rfl
        have a13 := HCR.out.cell 13 _ rfl
        go_wp2_with fail
        refine HEN.out.mono ?_
        rintro e w4 ⟨v, rfl, hv, hb⟩
        obtain ⟨bo, bc, rfl, hr⟩ := hv.rd
        obtain ⟨bn, hbn⟩ : ∃ bn, (moE (smallM ls)).length = bn := ⟨_, rfl⟩
        rw [hbn] at hr ⊢
        have HR := hid hr
        have hp78 : p + 9 ≤ wr.heap.size := by omega
        replace HCR := hid (HCR.out.keep (show p + 8 < wr.heap.size by omega) hb)
        have H74 := hid (H7.out.keep (show p + 7 < wr.heap.size by omega) hb)
        replace HRD := hid (HRD.out.below hb)
        have hs4 := hb.size
        replace HBR := hid (HBR.out.trans (hb.mono HBR.out.size))
        clear hb hv hr hbn HEN a0 a1 a2 a3 a4 a5 a6 a7 a8 a9 a10 a11 a12 a13
        go_wp2_with fail
        refine (decodeM_to _ _ _ (smallM ls) w4 HR.out HMAY.out (small_ok' ls)).mono ?_
        rintro e w5 ⟨X, rfl, hx, hb⟩
        have hxn := hx.now
        have hxc : Rx w5 fun w => RdG 2 CoR w X.c.o X.c.n X.c.c (smallM ls).codes := Rx.imp (show Rx w5 (MoR X (smallM ls)) from hx.more fun b hb => hb.2) fun _ h => h.c
        obtain ⟨⟨otx, ntx, ctx⟩, ⟨oix, nix, cix⟩, ⟨ofx, nfx, cfx⟩, ⟨ogx, ngx, cgx⟩, ⟨oex, nex, cex⟩, ⟨olx, nlx, clx⟩, ⟨ocx, ncx, ccx⟩, ⟨odx, ndx, cdx⟩⟩ := X
        have hc1 : 1 = ncx := hxn.c.len
        subst hc1
        obtain ⟨b2, off2, cs, rfl, hcl, hR, hcc⟩ := RdG.elem hxc (show (smallM ls).codes[0]? = some _ from rfl)
        simp only [MoV.cells]
        replace HCR := hid (HCR.out.keep (show p + 8 < w4.heap.size by omega) hb)
        replace H74 := hid (H74.out.keep (show p + 7 < w4.heap.size by omega) hb)
        replace HRD := hid (HRD.out.below hb)
        obtain ⟨la, ln, lcc, la2, ln2, lc2, rfl, hlr, _⟩ := hR.now
        have y0 := hcc 0 _ rfl
        try simp only [Nat.zero_mul, Nat.add_zero] at y0
        have d12 := HCR.out.cell 12 _ rfl
        have e0 := H74.out.cell 0 _ rfl
        have hlt2 : b2 < w5.heap.size := World.block_lt_of_cell? w5 _ y0
        have hp8 : p + 8 < w5.heap.size := HCR.out.lt (Nat.succ_pos _)
        have hp7 : p + 7 < w5.heap.size := H74.out.lt (Nat.succ_pos _)
        have HLR := hid hlr
        replace HBR := hid (HBR.out.trans (hb.mono HBR.out.size))
        clear hR hcc hcl hxc hxn hx hlr hb HCR H74 H7 HMAY HR hs4 hp78
        go_wp2_with fail
        all_goals
          go_region_law (go_simp; go_at_call 31; refine (eqInts_to _ _ _ _ _ _ ls ls true (by simp) _ (HLR.out.below ((Bl.alloc (Bl.refl w5) _).drew)) (HRD.out.below ((Bl.alloc (Bl.refl w5) _).drew))).mono ?_; rintro e w6 ⟨rfl, hb6⟩; have HB6 := hid hb6; clear hb6)
          all_goals go_wp2_with fail
          all_goals (first | go_ret | (go_simp; go_ret))
          all_goals exact ⟨rfl, HBR.out.trans (((Bl.alloc (Bl.refl w5) _).drew.mono HBR.out.size).trans (HB6.out.mono (by have := HBR.out.size; simp; omega)))⟩
end Go.Proofs.YtkjpllmicgakaaaGreat
