/- extent's laws: diapauselaw19.same; over ExtSpec. -/
import Derived.Test.YtjihemgidogoeaaExB
import Derived.BigQuiet
import Derived.Deep.QuietTactic
namespace Go.Proofs.Ytjihemgidogoeaa
open Go.RowKit
set_option linter.unusedVariables false

theorem bump_rows (l : List (Int × Int)) (x y : Int) (h : l[l.length - 1]? = some (x, y)) : (bump l).map rowS = (l.map rowS).set (l.length - 1) (((l.map rowS).getD (l.length - 1) []).set 1 (.int .i64 (y + 1))) := by
  unfold bump
  have e : l.getD (l.length - 1) (0, 0) = (x, y) := by rw [List.getD_eq_getElem?_getD, h]; rfl
  rw [e, List.map_set, rowS_get l _ x y h]
  rfl
set_option maxRecDepth 100000 in
set_option maxHeartbeats 4000000 in
theorem same_to (X : ExtSpec) (w0 : World) (G : Nat → Prop) (M : Rm) (p : Addr) (ao : Option Addr) (cap : Nat) (F : List Bool) (w : World) (hL : X.L w0 G M p w) (hf : RdB w ao 130 cap F) (hp : M.pad F) (hM : M.lo + M.fr.length ≤ 130) :
    Calls Try.prog 14 #[.pointer (some p), .slice ao 130 cap] w fun e w' => e = .returned (.bool true) ∧ X.L w0 G M p w' ∧ Below w.heap.size w w' := by
  have HL := hid hL; have HF := hid hf; have HP := hid hp
  have hfl : Hid (F.length = 130) := hid hf.len
  have hnc := hf.cap63
  have hnl := hf.le
  have HSP := hid (M.spans_pad hp hM)
  have HCT := hid (pad_eq hp hf.len hM)
  obtain ⟨ad, rfl⟩ : ∃ ad, ao = some ad := by
    cases ao with
    | none => have := hf.nil rfl; omega
    | some ad => exact ⟨ad, rfl⟩
  have HC := hid (hf.cell ad rfl)
  clear hL hf hp
  obtain ⟨i0, hi0, hz0, hz1, hz2⟩ := info_parts infoSp
  go_enter Try.func14, Try.ntmps14
  go_wp2_with fail
  go_loopw [5, 6, 7] (fun v n i wr => ∃ k : Nat, k ≤ 130 ∧ i = .int .i64 k ∧ n = .int .i64 ((F.take k).count true : Nat) ∧ OwnC 30 2 w.heap.size wr v ((spansTo F 0 k).map rowS) ∧ Below w.heap.size w wr) (fun _ _ i _ => 130 - (intOf i).toNat)
  case atStart => exact ⟨0, Nat.zero_le _, rfl, by simp, OwnC.nil _ _ _ _, Below.refl _ _⟩
  case round =>
    obtain ⟨k, hk, rfl, rfl, hO, hB⟩ := hrel
    obtain ⟨vo, vc, rfl, hvc, hv63, hvo⟩ := hO.shape
    rw [List.length_map] at hvc hvo
    obtain ⟨S, hS⟩ : ∃ S, spansTo F 0 k = S := ⟨_, rfl⟩
    obtain ⟨sn, hsn⟩ : ∃ sn, S.length = sn := ⟨_, rfl⟩
    obtain ⟨ct, hct⟩ : ∃ ct, (F.take k).count true = ct := ⟨_, rfl⟩
    have hlr : (S.map rowS).length = sn := by rw [List.length_map, hsn]
    have hct2 : ct ≤ 130 := by rw [← hct]; exact Nat.le_trans List.count_le_length (by rw [List.length_take]; omega)
    rw [hS] at hO hvc hvo ⊢
    rw [hlr] at hO ⊢
    rw [hsn] at hvc hvo
    rw [hct]
    have hsk : sn ≤ k := by
      rw [← hsn, ← hS]
      exact spansTo_len k
    have HO := hid hO; have HB := hid hB; have HS := hid hS; have HSN := hid hsn; have HCTK := hid hct
    clear hO hB hS hsn hct hlr
    by_cases hlt : k < 130
    · have hlti : (k : Int) < 130 := by omega
      have hc : wr.cell? (ad.add k) = some (.bool (F.getD k false)) := (HB.out.cell (World.block_lt_of_cell? _ _ (HC.out k hlt))).trans (HC.out k hlt)
      have hstep := count_step (F := F) (k := k) (by rw [hfl.out]; exact hlt)
      rw [HCTK.out] at hstep
      have hsps := spansTo_succ F 0 k
      rw [HS.out] at hsps
      unfold spanStep at hsps
      cases hb : F.getD k false with
      | false =>
        rw [hb] at hc hstep hsps
        rw [if_neg (by decide)] at hstep hsps
        have HST := hid hstep; have HSS := hid hsps
        clear hstep hsps hb
        go_wp2_with fail
        go_roundw
        case rel => exact ⟨k + 1, by omega, by go_num, by rw [HST.out]; rfl, by rw [HSS.out]; exact HO.out, HB.out⟩
        case measure => simp [intOf]; omega
      | true =>
        rw [hb] at hc hstep hsps
        rw [if_pos rfl] at hstep hsps
        have HST := hid hstep
        clear hstep
        have hw1 : (k = 0 ∧ spansTo F 0 (k + 1) = S ++ [((k : Int), 1)]) ∨ (0 < k ∧ F.getD (k - 1) false = false ∧ spansTo F 0 (k + 1) = S ++ [((k : Int), 1)]) ∨ (0 < k ∧ F.getD (k - 1) false = true ∧ 0 < sn ∧ spansTo F 0 (k + 1) = bump S) := by
          rcases Nat.eq_zero_or_pos k with hk0 | hk0
          · refine .inl ⟨hk0, ?_⟩
            rw [hsps, if_neg (by omega), Nat.zero_add]
          · refine .inr ?_
            cases hf1 : F.getD (k - 1) false with
            | false =>
              refine .inl ⟨hk0, rfl, ?_⟩
              rw [hsps, hf1, if_neg (by simp), Nat.zero_add]
            | true =>
              refine .inr ⟨hk0, rfl, ?_, ?_⟩
              · have := spansTo_some (lo := 0) (k - 1) hf1
                rw [show k - 1 + 1 = k by omega, HS.out, HSN.out] at this
                exact this
              · rw [hsps, hf1, if_pos ⟨hk0, rfl⟩]
        clear hsps hb
        rcases hw1 with ⟨hk0, hsp⟩ | ⟨hk0, hf1, hsp⟩ | ⟨hk0, hf1, hsn0, hsp⟩
        · have hkp : ¬ 0 < (k : Int) := by omega
          have HSP1 := hid hsp
          clear hsp hk0
          go_wp2_with (at_builtin; apply stopHere)
          refine hid ?_
          obtain ⟨w5, hw5⟩ : ∃ w5, wr.alloc (.cells #[.int .i64 (k : Int), .int .i64 1] 30) = w5 := ⟨_, rfl⟩
          have hb5 : Below wr.heap.size wr w5 := by rw [← hw5]; exact Bl.alloc (Bl.refl _) _
          have hblk : w5.heap[wr.heap.size]? = some (.cells #[.int .i64 (k : Int), .int .i64 1] 30) := by
            rw [← hw5]
            exact heap_alloc_new wr _
          have HO5 := hid (HO.out.below hb5 (Nat.le_refl _))
          have HB5 := hid (Bl.step HB.out hb5)
          have hz3 := HB5.out.size
          rw [hw5]
          clear hw5 hb5 HO HB
          refine wpList_append_lies _ rfl (.tmp 42) (.tmp 45) 37 rfl w.heap.size 30 i0 _ 2 16 Try.underlying37 hi0 hz0 hz1 hz2 rfl (by decide) (.slice vo sn vc) sn _ rfl (HO5.out.rowN (by rw [List.length_map]; exact HSN.out)) ⟨wr.heap.size, 0, none⟩ 1 1 [.int .i64 (k : Int), .int .i64 1] rfl rfl (World.news_of_block hblk) (by simp [Value.oneCell']) (by decide) (by unfold maxLen; omega) (by omega) hz3 w5.heap.size rfl ?_
          intro g gc w6 hown hgr hat hgl
          have HO6 : Hid (OwnC 30 2 w.heap.size w6 (.slice (some ⟨g, 0, none⟩) (sn + 1) gc) ((S ++ [((k : Int), 1)]).map rowS)) := hid (by
            have := OwnC.snoc (rowS ((k : Int), 1)) rfl (rows_wid S) (by rw [List.length_map, HSN.out]) hown
            rwa [List.map_append])
          have HB6 := hid (HB5.out.grown hgr hz3 (fun b hb => (HO5.out.lt b hb).1))
          clear hown hgr hat hgl HO5 HB5 hblk hz3
          go_wp2_with fail
          go_roundw
          case rel => exact ⟨k + 1, by omega, by go_num, by rw [HST.out]; rfl, by rw [HSP1.out]; exact HO6.out, HB6.out⟩
          case measure => simp [intOf]; omega
        · obtain ⟨km, hkm⟩ : ∃ km : Nat, (k : Int) - 1 = km ∧ k - 1 = km := ⟨k - 1, by omega, rfl⟩
          obtain ⟨hkm, hkm2⟩ := hkm
          rw [hkm2] at hf1
          have hc1 : wr.cell? (ad.add km) = some (.bool false) := by
            have h1 := HC.out km (by omega)
            rw [hf1] at h1
            exact (HB.out.cell (World.block_lt_of_cell? _ _ h1)).trans h1
          have hkp : 0 < (k : Int) := by omega
          have hkl : (km : Int) < 130 := by omega
          have HSP1 := hid hsp
          clear hsp hf1 hkm2
          go_wp2_with (at_builtin; apply stopHere)
          refine hid ?_
          obtain ⟨w5, hw5⟩ : ∃ w5, wr.alloc (.cells #[.int .i64 (k : Int), .int .i64 1] 30) = w5 := ⟨_, rfl⟩
          have hb5 : Below wr.heap.size wr w5 := by rw [← hw5]; exact Bl.alloc (Bl.refl _) _
          have hblk : w5.heap[wr.heap.size]? = some (.cells #[.int .i64 (k : Int), .int .i64 1] 30) := by
            rw [← hw5]
            exact heap_alloc_new wr _
          have HO5 := hid (HO.out.below hb5 (Nat.le_refl _))
          have HB5 := hid (Bl.step HB.out hb5)
          have hz3 := HB5.out.size
          rw [hw5]
          clear hw5 hb5 HO HB
          refine wpList_append_lies _ rfl (.tmp 42) (.tmp 45) 37 rfl w.heap.size 30 i0 _ 2 16 Try.underlying37 hi0 hz0 hz1 hz2 rfl (by decide) (.slice vo sn vc) sn _ rfl (HO5.out.rowN (by rw [List.length_map]; exact HSN.out)) ⟨wr.heap.size, 0, none⟩ 1 1 [.int .i64 (k : Int), .int .i64 1] rfl rfl (World.news_of_block hblk) (by simp [Value.oneCell']) (by decide) (by unfold maxLen; omega) (by omega) hz3 w5.heap.size rfl ?_
          intro g gc w6 hown hgr hat hgl
          have HO6 : Hid (OwnC 30 2 w.heap.size w6 (.slice (some ⟨g, 0, none⟩) (sn + 1) gc) ((S ++ [((k : Int), 1)]).map rowS)) := hid (by
            have := OwnC.snoc (rowS ((k : Int), 1)) rfl (rows_wid S) (by rw [List.length_map, HSN.out]) hown
            rwa [List.map_append])
          have HB6 := hid (HB5.out.grown hgr hz3 (fun b hb => (HO5.out.lt b hb).1))
          clear hown hgr hat hgl HO5 HB5 hblk hz3
          go_wp2_with fail
          go_roundw
          case rel => exact ⟨k + 1, by omega, by go_num, by rw [HST.out]; rfl, by rw [HSP1.out]; exact HO6.out, HB6.out⟩
          case measure => simp [intOf]; omega
        · obtain ⟨km, hkm⟩ : ∃ km : Nat, (k : Int) - 1 = km ∧ k - 1 = km := ⟨k - 1, by omega, rfl⟩
          obtain ⟨hkm, hkm2⟩ := hkm
          rw [hkm2] at hf1
          have hc1 : wr.cell? (ad.add km) = some (.bool true) := by
            have h1 := HC.out km (by omega)
            rw [hf1] at h1
            exact (HB.out.cell (World.block_lt_of_cell? _ _ h1)).trans h1
          have hkp : 0 < (k : Int) := by omega
          have hkl : (km : Int) < 130 := by omega
          obtain ⟨g, rfl⟩ := hvo hsn0
          obtain ⟨lm, hlm⟩ : ∃ lm : Nat, (sn : Int) - 1 = lm ∧ sn - 1 = lm := ⟨sn - 1, by omega, rfl⟩
          obtain ⟨hlm, hlm2⟩ := hlm
          obtain ⟨x, y, hxy⟩ : ∃ x y, S[lm]? = some (x, y) := ⟨(S[lm]'(by rw [HSN.out]; omega)).1, (S[lm]'(by rw [HSN.out]; omega)).2, List.getElem?_eq_getElem _⟩
          have hy := spansTo_bound (F := F) (lo := 0) k (x, y) (by rw [HS.out]; exact List.mem_of_getElem? hxy)
          simp only at hy
          have hll : lm < (S.map rowS).length := by rw [List.length_map, HSN.out]; omega
          obtain ⟨hd1, hf2, hgl, hgB⟩ := HO.out.cell lm 1 (u := .int .i64 y) hll (by rw [rowS_get S lm x y hxy]; rfl)
          have hset := HO.out.set lm 1 (.int .i64 (y + 1)) hll (by decide)
          have hbr := bump_rows S x y (by rw [HSN.out, hlm2]; exact hxy)
          rw [HSN.out, hlm2] at hbr
          rw [← hbr, ← hsp] at hset
          have HSET := hid hset
          have HBW := hid (HB.out.setCell (p := ⟨g, lm * 2 + 1, none⟩) hgB (.int .i64 (y + 1)))
          have hlms : (lm : Int) < sn := by omega
          have hwy : y + 1 ≤ 131 := by omega
          have hwy0 : 0 ≤ y := hy.1
          clear hset hbr hsp hxy hf1 hkm2 hlm2 hll hy hgB hgl
          go_wp2_with fail
          go_roundw
          case rel => exact ⟨k + 1, by omega, by go_num, by rw [HST.out]; rfl, HSET.out, HBW.out⟩
          case measure => simp [intOf]; omega
    · obtain rfl : k = 130 := by omega
      have hS2 := HS.out
      rw [HSP.out] at hS2
      have hct3 : ct = M.free := by rw [← HCT.out, ← HCTK.out, List.take_of_length_le (by rw [hfl.out]; omega)]
      subst hS2
      subst hct3
      replace HL := hid (HL.out.bel HB.out)
      clear hk hlt HS HCTK HF HC HP hfl hct2 hsk
      go_wp2_with fail
      refine HL.out.spans.mono ?_
      rintro e w3 ⟨mo, mn, mc, rfl, hq, hL, hb⟩
      obtain rfl : mn = sn := by rw [← hq.len]; exact HSN.out
      replace HL := hid hL
      have HO3 := hid (HO.out.below hb (Nat.le_refl _))
      replace HB := hid (Bl.step HB.out hb)
      have HQ := hid hq
      have hmc := hq.cap63
      have hml := hq.le
      clear hL hb hq HO
      go_wp2_with fail
      refine HL.out.free.mono ?_
      rintro e w4 ⟨rfl, hL, hb⟩
      replace HL := hid hL
      have HO4 := hid (HO3.out.below hb (Nat.le_refl _))
      replace HQ := hid (HQ.out.below hb)
      replace HB := hid (Bl.step HB.out hb)
      clear hL hb HO3
      obtain ⟨wo, rfl⟩ : ∃ wo : World, wo = wr := ⟨_, rfl⟩
      go_wp2_with fail
      obtain ⟨S, hSM⟩ : ∃ S, M.spans = S := ⟨_, rfl⟩
      rw [hSM] at HO4 HQ HSN
      clear hSM HSP HCT
      go_loopw [9] (fun i wr => ∃ j : Nat, j ≤ mn ∧ i = .int .i64 j ∧ OwnC 30 2 w.heap.size wr (.slice vo mn vc) (S.map rowS) ∧ RdQ wr mo mn mc S ∧ X.L w0 G M p wr ∧ Below w.heap.size w wr) (fun i _ => mn - (intOf i).toNat)
      case atStart => exact ⟨0, Nat.zero_le _, rfl, HO4.out, HQ.out, HL.out, HB.out⟩
      case round =>
        clear HO4 HQ HL HB
        obtain ⟨j, hj, rfl, hO, hQ, hL, hB⟩ := hrel
        have HO := hid hO; have HQ := hid hQ; have HL := hid hL; have HB := hid hB
        clear hO hQ hL hB
        by_cases hlt : j < mn
        · have hlti : (j : Int) < mn := by omega
          obtain ⟨x, y, hxy⟩ : ∃ x y, S[j]? = some (x, y) := ⟨(S[j]'(by rw [HSN.out]; exact hlt)).1, (S[j]'(by rw [HSN.out]; exact hlt)).2, List.getElem?_eq_getElem _⟩
          have hll : j < (S.map rowS).length := by rw [List.length_map, HSN.out]; exact hlt
          obtain ⟨g, rfl⟩ := hvo (by omega)
          have a0 := (HO.out.cell j 0 (u := .int .i64 x) hll (by rw [rowS_get S j x y hxy]; rfl)).1
          have a1 := (HO.out.cell j 1 (u := .int .i64 y) hll (by rw [rowS_get S j x y hxy]; rfl)).1
          obtain ⟨b, off, rfl, b0, b1⟩ := HQ.out.cell j x y hxy
          rw [Nat.add_zero] at a0
          clear hxy hll
          go_wp2_with fail
          go_quiet (fail)
          have hbd : Below wr.heap.size wr (wr.drewN nq) := below_drewN _ _ _
          replace HO := hid (HO.out.below hbd (Nat.le_refl _)); replace HQ := hid (HQ.out.below hbd); replace HL := hid (HL.out.bel hbd); replace HB := hid (Bl.step HB.out hbd)
          clear hbd a0 a1 b0 b1
          go_wp2_with fail
          go_roundw
          case rel => exact ⟨j + 1, by omega, by go_num, HO.out, HQ.out, HL.out, HB.out⟩
          case measure => simp [intOf]; omega
        · obtain rfl : j = mn := by omega
          clear hj hlt
          go_wp2_with fail
          go_ret
          exact ⟨rfl, HL.out, HB.out⟩
end Go.Proofs.Ytjihemgidogoeaa
