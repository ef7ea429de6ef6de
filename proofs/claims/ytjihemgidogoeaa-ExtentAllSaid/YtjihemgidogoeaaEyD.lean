/- extent's program side: Spans. -/
import Derived.Test.YtjihemgidogoeaaEyC
import Derived.Test.YtjihemgidogoeaaExP
namespace Go.Proofs.Ytjihemgidogoeaa
open Go.RowKit
set_option linter.unusedVariables false
set_option maxRecDepth 100000

set_option maxHeartbeats 4000000 in
theorem exSpans_to (A : Nat → Prop) (M : Rm) (p : Addr) (w : World) (h : exAt A M p w) : Calls Try.prog 15 #[.pointer (some p)] w fun e w' => ∃ ao n cap, e = .returned (.slice ao n cap) ∧ RdQ w' ao n cap M.spans ∧ Below w.heap.size w w' := by
  obtain ⟨b, v, rfl, hR, -, -, -⟩ := h
  obtain ⟨ao, n, cap, rfl, hn, hn2, hnc, hcap, c0, c1, hf, -⟩ := hR.facts
  have hlo := hR.ok.lo
  have HC := hid hf.cell
  have hnil : ∀ j, j < n → ∃ ad, ao = some ad := fun j hj => by
    cases ao with
    | none => have := hf.nil rfl; omega
    | some ad => exact ⟨ad, rfl⟩
  have HN := hid hnil
  have HSP : Hid (M.spans = spansTo M.fr M.lo n) := hid (by rw [← hn]; rfl)
  obtain ⟨F, hF⟩ : ∃ F, M.fr = F := ⟨_, rfl⟩
  obtain ⟨lo, hlo2⟩ : ∃ lo, M.lo = lo := ⟨_, rfl⟩
  obtain ⟨SP, hSP⟩ : ∃ SP, M.spans = SP := ⟨_, rfl⟩
  rw [hF, hlo2, hSP] at HSP
  rw [hF] at HC hn
  rw [hlo2] at c0 hlo
  rw [hSP]
  have HL := hid hn
  have C0 := hid c0; have C1 := hid c1
  have hbw : b < w.heap.size := hR.blk.lt
  clear hR hf hnil hF hn hlo2 hSP
  obtain ⟨i0, hi0, hz0, hz1, hz2⟩ := info_parts infoSp
  go_enter Try.func15, Try.ntmps15
  go_wp2_with fail
  clear c0 c1
  go_loopw [3, 13] (fun v i wr => ∃ k : Nat, k ≤ n ∧ i = .int .i64 k ∧ OwnC 30 2 w.heap.size wr v ((spansTo F lo k).map rowS) ∧ Below w.heap.size w wr) (fun _ i _ => n - (intOf i).toNat)
  case atStart => exact ⟨0, Nat.zero_le _, rfl, OwnC.nil _ _ _ _, Below.refl _ _⟩
  case round =>
    obtain ⟨k, hk, rfl, hO, hB⟩ := hrel
    obtain ⟨vo, vc, rfl, hvc, hv63, hvo⟩ := hO.shape
    rw [List.length_map] at hvc hvo
    obtain ⟨S, hS⟩ : ∃ S, spansTo F lo k = S := ⟨_, rfl⟩
    obtain ⟨sn, hsn⟩ : ∃ sn, S.length = sn := ⟨_, rfl⟩
    have hlr : (S.map rowS).length = sn := by rw [List.length_map, hsn]
    rw [hS] at hO hvc hvo ⊢
    rw [hlr] at hO ⊢
    rw [hsn] at hvc hvo
    have hsk : sn ≤ k := by
      rw [← hsn, ← hS]
      exact spansTo_len k
    have c0 := (hB.cell (p := ⟨b, 0, none⟩) hbw).trans C0.out
    have c1 := (hB.cell (p := ⟨b, 1, none⟩) hbw).trans C1.out
    have HO := hid hO; have HB := hid hB; have HS := hid hS; have HSN := hid hsn
    clear hO hB hS hsn hlr
    by_cases hlt : k < n
    · obtain ⟨ad, rfl⟩ := HN.out k hlt
      have hlti : (k : Int) < n := by omega
      have hcw := HC.out ad rfl k hlt
      have hc := (HB.out.cell (World.block_lt_of_cell? _ _ hcw)).trans hcw
      have hsps := spansTo_succ F lo k
      rw [HS.out] at hsps
      unfold spanStep at hsps
      clear hcw
      obtain ⟨kl, hkl⟩ : ∃ kl : Nat, (lo : Int) + k = kl ∧ lo + k = kl := ⟨lo + k, by omega, rfl⟩
      obtain ⟨hkl, hkl2⟩ := hkl
      rw [hkl2] at hsps
      clear hkl2
      obtain ⟨mx, hmx⟩ : ∃ mx : Int, (9223372036854775807 : Int) - lo = mx := ⟨_, rfl⟩
      have hmx1 : ¬ mx < (k : Int) := by omega
      have hmx2 : -9223372036854775808 ≤ mx ∧ mx ≤ 9223372036854775807 := by omega
      have hkl63 : (kl : Int) ≤ 9223372036854775807 := by omega
      cases hb : F.getD k false with
      | false =>
        rw [hb] at hc hsps
        rw [if_neg (by decide)] at hsps
        have HSS := hid hsps
        clear hsps hb
        go_wp2_with fail
        go_roundw
        case rel => exact ⟨k + 1, by omega, by go_num, by rw [HSS.out]; exact HO.out, HB.out⟩
        case measure => simp [intOf]; omega
      | true =>
        rw [hb] at hc hsps
        rw [if_pos rfl] at hsps
        have hw1 : (k = 0 ∧ spansTo F lo (k + 1) = S ++ [((kl : Int), 1)]) ∨ (0 < k ∧ F.getD (k - 1) false = false ∧ spansTo F lo (k + 1) = S ++ [((kl : Int), 1)]) ∨ (0 < k ∧ F.getD (k - 1) false = true ∧ 0 < sn ∧ spansTo F lo (k + 1) = bump S) := by
          rcases Nat.eq_zero_or_pos k with hk0 | hk0
          · refine .inl ⟨hk0, ?_⟩
            rw [hsps, if_neg (by omega)]
          · refine .inr ?_
            cases hf1 : F.getD (k - 1) false with
            | false =>
              refine .inl ⟨hk0, rfl, ?_⟩
              rw [hsps, hf1, if_neg (by simp)]
            | true =>
              refine .inr ⟨hk0, rfl, ?_, ?_⟩
              · have := spansTo_some (lo := lo) (k - 1) hf1
                rw [show k - 1 + 1 = k by omega, HS.out, HSN.out] at this
                exact this
              · rw [hsps, hf1, if_pos ⟨hk0, rfl⟩]
        clear hsps hb
        rcases hw1 with ⟨hk0, hsp⟩ | ⟨hk0, hf1, hsp⟩ | ⟨hk0, hf1, hsn0, hsp⟩
        · have hkp : ¬ 0 < (k : Int) := by omega
          have HSP1 := hid hsp
          clear hsp hk0
          go_wp2_with (at_builtin; apply stopHere)
          refine hid ?_
          obtain ⟨w5, hw5⟩ : ∃ w5, wr.alloc (.cells #[.int .i64 (kl : Int), .int .i64 1] 30) = w5 := ⟨_, rfl⟩
          have hb5 : Below wr.heap.size wr w5 := by rw [← hw5]; exact Bl.alloc (Bl.refl _) _
          have hblk : w5.heap[wr.heap.size]? = some (.cells #[.int .i64 (kl : Int), .int .i64 1] 30) := by
            rw [← hw5]
            exact heap_alloc_new wr _
          have HO5 := hid (HO.out.below hb5 (Nat.le_refl _))
          have HB5 := hid (Bl.step HB.out hb5)
          have hz3 := HB5.out.size
          rw [hw5]
          clear hw5 hb5 HO HB
          refine wpList_append_lies _ rfl (.tmp 18) (.tmp 26) 37 rfl w.heap.size 30 i0 _ 2 16 Try.underlying37 hi0 hz0 hz1 hz2 rfl (by decide) (.slice vo sn vc) sn _ rfl (HO5.out.rowN (by rw [List.length_map]; exact HSN.out)) ⟨wr.heap.size, 0, none⟩ 1 1 [.int .i64 (kl : Int), .int .i64 1] rfl rfl (World.news_of_block hblk) (by simp [Value.oneCell']) (by decide) (by unfold maxLen; omega) (by omega) hz3 w5.heap.size rfl ?_
          intro g gc w6 hown hgr hat hgl
          have HO6 : Hid (OwnC 30 2 w.heap.size w6 (.slice (some ⟨g, 0, none⟩) (sn + 1) gc) ((S ++ [((kl : Int), 1)]).map rowS)) := hid (by
            have := OwnC.snoc (rowS ((kl : Int), 1)) rfl (rows_wid S) (by rw [List.length_map, HSN.out]) hown
            rwa [List.map_append])
          have HB6 := hid (HB5.out.grown hgr hz3 (fun b hb => (HO5.out.lt b hb).1))
          clear hown hgr hat hgl HO5 HB5 hblk hz3
          go_wp2_with fail
          go_roundw
          case rel => exact ⟨k + 1, by omega, by go_num, by rw [HSP1.out]; exact HO6.out, HB6.out⟩
          case measure => simp [intOf]; omega
        · obtain ⟨km, hkm⟩ : ∃ km : Nat, (k : Int) - 1 = km ∧ k - 1 = km := ⟨k - 1, by omega, rfl⟩
          obtain ⟨hkm, hkm2⟩ := hkm
          rw [hkm2] at hf1
          have hc1 : wr.cell? (ad.add km) = some (.bool false) := by
            have h1 := HC.out ad rfl km (by omega)
            rw [hf1] at h1
            exact (HB.out.cell (World.block_lt_of_cell? _ _ h1)).trans h1
          have hkp : 0 < (k : Int) := by omega
          have hkl2 : (km : Int) < n := by omega
          have HSP1 := hid hsp
          clear hsp hf1 hkm2
          go_wp2_with (at_builtin; apply stopHere)
          refine hid ?_
          obtain ⟨w5, hw5⟩ : ∃ w5, wr.alloc (.cells #[.int .i64 (kl : Int), .int .i64 1] 30) = w5 := ⟨_, rfl⟩
          have hb5 : Below wr.heap.size wr w5 := by rw [← hw5]; exact Bl.alloc (Bl.refl _) _
          have hblk : w5.heap[wr.heap.size]? = some (.cells #[.int .i64 (kl : Int), .int .i64 1] 30) := by
            rw [← hw5]
            exact heap_alloc_new wr _
          have HO5 := hid (HO.out.below hb5 (Nat.le_refl _))
          have HB5 := hid (Bl.step HB.out hb5)
          have hz3 := HB5.out.size
          rw [hw5]
          clear hw5 hb5 HO HB
          refine wpList_append_lies _ rfl (.tmp 18) (.tmp 26) 37 rfl w.heap.size 30 i0 _ 2 16 Try.underlying37 hi0 hz0 hz1 hz2 rfl (by decide) (.slice vo sn vc) sn _ rfl (HO5.out.rowN (by rw [List.length_map]; exact HSN.out)) ⟨wr.heap.size, 0, none⟩ 1 1 [.int .i64 (kl : Int), .int .i64 1] rfl rfl (World.news_of_block hblk) (by simp [Value.oneCell']) (by decide) (by unfold maxLen; omega) (by omega) hz3 w5.heap.size rfl ?_
          intro g gc w6 hown hgr hat hgl
          have HO6 : Hid (OwnC 30 2 w.heap.size w6 (.slice (some ⟨g, 0, none⟩) (sn + 1) gc) ((S ++ [((kl : Int), 1)]).map rowS)) := hid (by
            have := OwnC.snoc (rowS ((kl : Int), 1)) rfl (rows_wid S) (by rw [List.length_map, HSN.out]) hown
            rwa [List.map_append])
          have HB6 := hid (HB5.out.grown hgr hz3 (fun b hb => (HO5.out.lt b hb).1))
          clear hown hgr hat hgl HO5 HB5 hblk hz3
          go_wp2_with fail
          go_roundw
          case rel => exact ⟨k + 1, by omega, by go_num, by rw [HSP1.out]; exact HO6.out, HB6.out⟩
          case measure => simp [intOf]; omega
        · obtain ⟨km, hkm⟩ : ∃ km : Nat, (k : Int) - 1 = km ∧ k - 1 = km := ⟨k - 1, by omega, rfl⟩
          obtain ⟨hkm, hkm2⟩ := hkm
          rw [hkm2] at hf1
          have hc1 : wr.cell? (ad.add km) = some (.bool true) := by
            have h1 := HC.out ad rfl km (by omega)
            rw [hf1] at h1
            exact (HB.out.cell (World.block_lt_of_cell? _ _ h1)).trans h1
          have hkp : 0 < (k : Int) := by omega
          have hkl2 : (km : Int) < n := by omega
          obtain ⟨g, rfl⟩ := hvo hsn0
          obtain ⟨lm, hlm⟩ : ∃ lm : Nat, (sn : Int) - 1 = lm ∧ sn - 1 = lm := ⟨sn - 1, by omega, rfl⟩
          obtain ⟨hlm, hlm2⟩ := hlm
          obtain ⟨x, y, hxy⟩ : ∃ x y, S[lm]? = some (x, y) := ⟨(S[lm]'(by rw [HSN.out]; omega)).1, (S[lm]'(by rw [HSN.out]; omega)).2, List.getElem?_eq_getElem _⟩
          have hy := spansTo_bound (F := F) (lo := lo) k (x, y) (by rw [HS.out]; exact List.mem_of_getElem? hxy)
          simp only at hy
          have hll : lm < (S.map rowS).length := by rw [List.length_map, HSN.out]; omega
          obtain ⟨hd1, hf2, hgl, hgB⟩ := HO.out.cell lm 1 (u := .int .i64 y) hll (by rw [rowS_get S lm x y hxy]; rfl)
          have hset := HO.out.set lm 1 (.int .i64 (y + 1)) hll (by decide)
          have hbr := bump_rows S x y (by rw [HSN.out, hlm2]; exact hxy)
          rw [HSN.out, hlm2] at hbr
          rw [← hbr, ← hsp] at hset
          have HSET := hid hset
          have HBW := hid (HB.out.setCell (p := ⟨g, lm * 2 + 1, none⟩) hgB (.int .i64 (y + 1)))
          have hlms : (lm : Int) < sn := by omega
          have hwy : y + 1 ≤ 4096 := by omega
          have hwy0 : 0 ≤ y := hy.1
          clear hset hbr hsp hxy hf1 hkm2 hlm2 hll hy hgB hgl
          go_wp2_with fail
          go_roundw
          case rel => exact ⟨k + 1, by omega, by go_num, HSET.out, HBW.out⟩
          case measure => simp [intOf]; omega
    · obtain rfl : k = n := by omega
      have e := HS.out
      rw [← HSP.out] at e
      subst e
      clear c0 c1
      go_wp2_with fail
      go_ret
      exact ⟨vo, sn, vc, rfl, HO.out.rdq HSN.out, HB.out⟩
theorem exSpans_nil (w : World) : Calls Try.prog 15 #[.pointer none] w fun e w' => ∃ ao n cap, e = .returned (.slice ao n cap) ∧ RdQ w' ao n cap [] ∧ Below w.heap.size w w' := by
  go_enter Try.func15, Try.ntmps15
  go_wp2_with fail
  go_ret
  exact ⟨none, 0, 0, rfl, ⟨rfl, Nat.le_refl _, Nat.zero_le _, fun _ => rfl, fun i x y h => by simp at h⟩, Below.refl _ _⟩
end Go.Proofs.Ytjihemgidogoeaa
