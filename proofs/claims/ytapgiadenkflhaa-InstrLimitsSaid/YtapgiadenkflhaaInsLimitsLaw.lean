/- InstrLimits: the walk. -/
import Derived.Test.YtapgiadenkflhaaInsOpsLaw
namespace Go.Proofs.Ytapgiadenkflhaa
open Go.RowKit

theorem made_noughts (n : Nat) : (madeCells (Value.int .i64 0).cells (n * 1)).toList = (List.replicate n (0 : Int)).map (Value.int .i64) := by
  refine List.ext_getElem (by simp [madeCells]) fun i h1 h2 => ?_
  simp [madeCells, Value.cells, Nat.mod_one]

set_option maxHeartbeats 2000000 in
theorem instrLimits_walk (op a b n : Int) (ha : -9223372036854775808 ≤ a ∧ a ≤ 9223372036854775807) (w : World) :
    Calls Try.prog 7 #[.int .i64 op, .int .i64 a, .int .i64 b, .int .i64 n] w fun e w' => e = .returned (.bool true) ∧ Below w.heap.size w w' := by
  by_cases hn : n < 0 ∨ 55 < n
  · rcases hn with h | h
    · go_enter Try.func7, Try.ntmps7
      go_wp2_with fail
      refine (begun_to w).mono ?_
      rintro e w1 ⟨rfl, hb⟩
      have HB1 := hid hb
      clear hb
      go_wp2_with fail
      go_ret
      exact ⟨rfl, HB1.out⟩
    · have h0 : ¬ n < 0 := by omega
      go_enter Try.func7, Try.ntmps7
      go_wp2_with fail
      refine (begun_to w).mono ?_
      rintro e w1 ⟨rfl, hb⟩
      have HB1 := hid hb
      clear hb
      go_wp2_with fail
      go_ret
      exact ⟨rfl, HB1.out⟩
  · obtain ⟨m, rfl⟩ : ∃ m : Nat, n = m := ⟨n.toNat, by omega⟩
    have hm : m ≤ 55 := by omega
    have hn1 : (m : Int) ≤ 55 := by omega
    clear hn
    by_cases h14 : op = 14
    · subst h14
      obtain ⟨i0, hi0, hz0, hz1, hz2⟩ := info_parts infoInt
      have hby : i0.bytes * m ≤ 281474976710656 := by rw [hz2]; omega
      obtain ⟨l, hl⟩ : ∃ l : List Int, l = List.replicate m 0 := ⟨_, rfl⟩
      have hmc := made_noughts m
      rw [← hl] at hmc
      have hll : l.length = m := by rw [hl]; simp
      have hwl : ∀ x ∈ l, (Lit.int .i64 x).wf = true := fun x hx => by
        rw [hl] at hx
        rw [List.eq_of_mem_replicate hx]
        decide
      have HMC := hid hmc
      have HLL := hid hll
      have HWL := hid hwl
      clear hmc hll hwl hl hz2
      obtain ⟨t, ht⟩ : ∃ t, mayI 14 a b l = t := ⟨_, rfl⟩
      have HT := hid ht
      clear ht
      go_enter Try.func7, Try.ntmps7
      go_wp2_with fail
      refine (begun_to w).mono ?_
      rintro e w1 ⟨rfl, hb⟩
      have HB1 := hid hb
      have hQ := hid (Quad.new w1 (.int .i64 14) (.int .i64 a) (.int .i64 b) (.slice none 0 0) 24)
      clear hb
      obtain ⟨c0, c1, c2, c3, f0, f1, f2, f3⟩ := hQ.out
      go_wp2_with (at_make; refine wpList_make_full _ rfl _ _ 22 rfl (w1.heap.size + 1) 3 i0 (.int .i64 0) 1 Try.underlying22 hi0 hz0 hz1 _ _ _ _ m rfl rfl rfl rfl hby (by unfold maxLen; omega) (by simp) ?_; intro w2 hrow hgrow; have HROW := hid hrow; have hbg : Below (w1.alloc (.cells #[.int .i64 14, .int .i64 a, .int .i64 b, .slice none 0 0] 24)).heap.size (w1.alloc (.cells #[.int .i64 14, .int .i64 a, .int .i64 b, .slice none 0 0] 24)) w2 := (Below.refl _ _).grown hgrow (Nat.le_refl _) (fun _ h => by cases h); have HBG := hid hbg; have hQ2 := hid (hQ.out.below hbg); obtain ⟨q0, q1, q2, q3, r0, r1, r2, r3⟩ := hQ2.out; have hl2 := hQ2.out.lt; clear hrow hgrow hbg)
      have hQ3 := hQ2.out.set3 (.slice (some ⟨w1.heap.size + 1, 0, none⟩) m m)
      obtain ⟨w3, hw3⟩ : ∃ w3, w3 = w2.setCell ⟨w1.heap.size, 3, none⟩ (.slice (some ⟨w1.heap.size + 1, 0, none⟩) m m) := ⟨_, rfl⟩
      rw [← hw3] at hQ3 ⊢
      have HX3 : Hid (Box4 w3 w1.heap.size 14 a b (some ⟨w1.heap.size + 1, 0, none⟩) m m) := hid ⟨hQ3.c0, hQ3.c1, hQ3.c2, hQ3.c3⟩
      have HO2 : Own 3 .i64 (w1.heap.size + 1) w2 (.slice (some ⟨w1.heap.size + 1, 0, none⟩) m m) l := by
        refine ⟨?_, HWL.out⟩
        have := HROW.out
        rw [HMC.out] at this
        rw [HLL.out]
        simpa using this
      have HL3 : Hid (Rd .i64 w3 (some ⟨w1.heap.size + 1, 0, none⟩) m m l) := hid (by
        have := HO2.mv (Mv.set w1.heap.size 3 w2 (.slice (some ⟨w1.heap.size + 1, 0, none⟩) m m)) (Nat.lt_succ_self _)
        rw [hw3]
        exact this.rdAt)
      have HB3 : Hid (Below w.heap.size w w3) := hid (by
        rw [hw3]
        exact Bl.set (Bl.step (Bl.step HB1.out (Bl.alloc (Bl.refl _) _)) HBG.out) HB1.out.size _)
      obtain ⟨X, hX⟩ : ∃ X, X = w1.heap.size := ⟨_, rfl⟩
      rw [← hX] at HX3 HL3 ⊢
      clear hw3 hQ3 HO2 c0 c1 c2 c3 f0 f1 f2 f3 q0 q1 q2 q3 r0 r1 r2 r3 hl2 hX
      obtain ⟨c0, c1, c2, c3⟩ := HX3.out
      have hlx := HX3.out.lt
      cases t
      · refine wp_region_quiet_below (by kernel_rfl) (by kernel_rfl) ?_
        have hbc := fun x => @Bw.cell w3 x
        repeat (go_big_quiet_step (first
          | (go_at_call 12; exact Calls.bw (may_to 14 a b (some ⟨X + 1, 0, none⟩) m m l false HT.out _ (HL3.out.below (Bw.h _))))
          | (go_at_call 11; exact Calls.bw (mayInstr_to 14 a b (some ⟨X + 1, 0, none⟩) m m l false HT.out _ (HL3.out.below (Bw.h _))))))
        refine wpQuiet_nil ?_
        rintro _ ⟨x, rfl⟩
        have HX4 := hid (HX3.out.below x.h)
        have HL4 := hid (HL3.out.below x.h)
        have HB4 := hid (Bl.step HB3.out x.h)
        clear hbc c0 c1 c2 c3 hlx
        generalize x.w = w4 at HX4 HL4 HB4 ⊢
        obtain ⟨c0, c1, c2, c3⟩ := HX4.out
        go_wp2_with fail
        refine (mayInstr_to 14 a b (some ⟨X + 1, 0, none⟩) m m l false HT.out _ HL4.out).mono ?_
        rintro e w5 ⟨rfl, hb⟩
        have HB5 := hid (Bl.step HB4.out hb)
        clear hb
        go_wp2_with fail
        go_ret
        exact ⟨rfl, HB5.out⟩
      · refine wp_region_quiet_below (by kernel_rfl) (by kernel_rfl) ?_
        have hbc := fun x => @Bw.cell w3 x
        repeat (go_big_quiet_step (first
          | (go_at_call 12; exact Calls.bw (may_to 14 a b (some ⟨X + 1, 0, none⟩) m m l true HT.out _ (HL3.out.below (Bw.h _))))
          | (go_at_call 11; exact Calls.bw (mayInstr_to 14 a b (some ⟨X + 1, 0, none⟩) m m l true HT.out _ (HL3.out.below (Bw.h _))))))
        refine wpQuiet_nil ?_
        rintro _ ⟨x, rfl⟩
        have HX4 := hid (HX3.out.below x.h)
        have HL4 := hid (HL3.out.below x.h)
        have HB4 := hid (Bl.step HB3.out x.h)
        clear hbc c0 c1 c2 c3 hlx
        generalize x.w = w4 at HX4 HL4 HB4 ⊢
        obtain ⟨c0, c1, c2, c3⟩ := HX4.out
        go_wp2_with fail
        refine (mayInstr_to 14 a b (some ⟨X + 1, 0, none⟩) m m l true HT.out _ HL4.out).mono ?_
        rintro e w5 ⟨rfl, hb⟩
        have HX5 := hid (HX4.out.below hb)
        have HL5 := hid (HL4.out.below hb)
        have HB5 := hid (Bl.step HB4.out hb)
        clear hb c0 c1 c2 c3
        obtain ⟨c0, c1, c2, c3⟩ := HX5.out
        go_wp2_with fail
        refine (put_to none 0 0 [] 14 a b (some ⟨X + 1, 0, none⟩) m m l _ HT.out ha (Rd.empty _ _) (by decide) HL5.out).mono ?_
        rintro e w6 ⟨v, rfl, hv, hb⟩
        rw [List.nil_append] at hv
        obtain ⟨ao6, cap6, rfl, hr6⟩ := hv.rd
        have HX6 := hid (HX5.out.below hb)
        have HL6 := hid (HL5.out.below hb)
        have HB6 := hid (Bl.step HB5.out hb)
        have HR6 := hid hr6
        clear hb hv hr6 c0 c1 c2 c3
        have hgt : getI (encI 14 a b l) = (⟨14, a, b, l⟩, (encI 14 a b l).length, 0) := by
          have := getI_enc 14 a b l [] HT.out ha
          rw [List.append_nil] at this
          exact this
        have HGT := hid hgt
        clear hgt
        go_wp2_with fail
        refine (get_to ao6 _ cap6 _ _ HR6.out _ _ 0 HGT.out).mono ?_
        rintro e w7 ⟨lo7, ln7, lc7, rfl, hown, hb⟩
        have HX7 := hid (HX6.out.below hb)
        have HL7 := hid (HL6.out.below hb)
        have HB7 := hid (Bl.step HB6.out hb)
        have HY7 := hid hown.rdAt
        clear hb hown
        simp only
        obtain ⟨c0, c1, c2, c3⟩ := HX7.out
        have hlx := HX7.out.lt
        go_wp2_with fail
        refine (refPut_to 14 a b (some ⟨X + 1, 0, none⟩) m m l _ HT.out ha (HL7.out.below (Bl.alloc (Bl.refl _) _))).mono ?_
        rintro e w8 ⟨v, rfl, hv, hb⟩
        obtain ⟨ao8, cap8, rfl, hr8⟩ := hv.rd
        have hb' := Bl.step (Bl.alloc (Bl.refl w7) _) hb
        have HX8 := hid (HX7.out.below hb')
        have HL8 := hid (HL7.out.below hb')
        have HB8 := hid (Bl.step HB7.out hb')
        have HY8 := hid (HY7.out.below hb')
        have HBY := hid ((Box4.new w7 14 a b lo7 ln7 lc7 24).below hb)
        clear hb hb' hv hr8 c0 c1 c2 c3 hlx
        obtain ⟨c0, c1, c2, c3⟩ := HX8.out
        obtain ⟨d0, d1, d2, d3⟩ := HBY.out
        go_wp2_with fail
        refine (eqInstr_to 14 a b (some ⟨X + 1, 0, none⟩) m m l 14 a b lo7 ln7 lc7 l true (eqI_refl _ _ _ _) _ HL8.out HY8.out).mono ?_
        rintro e w9 ⟨rfl, hb⟩
        have HB9 := hid (Bl.step HB8.out hb)
        clear hb
        go_wp2_with fail
        go_ret
        exact ⟨rfl, HB9.out⟩
    · have h14' : (op == 14) = false := by simp [h14]
      obtain ⟨t, ht⟩ : ∃ t, mayI op a b [] = t := ⟨_, rfl⟩
      have HT := hid ht
      clear ht h14
      go_enter Try.func7, Try.ntmps7
      go_wp2_with fail
      refine (begun_to w).mono ?_
      rintro e w1 ⟨rfl, hb⟩
      have HX3 := hid (Box4.new w1 op a b none 0 0 24)
      have HB3 := hid (Bl.step hb (Bl.alloc (Bl.refl w1) (.cells #[.int .i64 op, .int .i64 a, .int .i64 b, .slice none 0 0] 24)))
      clear hb
      go_wp2_with fail
      obtain ⟨w3, hw3⟩ : ∃ w3, w3 = w1.alloc (.cells #[.int .i64 op, .int .i64 a, .int .i64 b, .slice none 0 0] 24) := ⟨_, rfl⟩
      rw [← hw3] at HX3 HB3 ⊢
      obtain ⟨X, hX⟩ : ∃ X, X = w1.heap.size := ⟨_, rfl⟩
      rw [← hX] at HX3 ⊢
      have HL3 : Hid (Rd .i64 w3 none 0 0 []) := hid (Rd.empty _ _)
      clear hw3 hX
      obtain ⟨c0, c1, c2, c3⟩ := HX3.out
      have hlx := HX3.out.lt
      cases t
      · refine wp_region_quiet_below (by kernel_rfl) (by kernel_rfl) ?_
        have hbc := fun x => @Bw.cell w3 x
        repeat (go_big_quiet_step (first
          | (go_at_call 12; exact Calls.bw (may_to op a b none 0 0 [] false HT.out _ (HL3.out.below (Bw.h _))))
          | (go_at_call 11; exact Calls.bw (mayInstr_to op a b none 0 0 [] false HT.out _ (HL3.out.below (Bw.h _))))))
        refine wpQuiet_nil ?_
        rintro _ ⟨x, rfl⟩
        have HX4 := hid (HX3.out.below x.h)
        have HL4 := hid (HL3.out.below x.h)
        have HB4 := hid (Bl.step HB3.out x.h)
        clear hbc c0 c1 c2 c3 hlx
        generalize x.w = w4 at HX4 HL4 HB4 ⊢
        obtain ⟨c0, c1, c2, c3⟩ := HX4.out
        go_wp2_with fail
        refine (mayInstr_to op a b none 0 0 [] false HT.out _ HL4.out).mono ?_
        rintro e w5 ⟨rfl, hb⟩
        have HB5 := hid (Bl.step HB4.out hb)
        clear hb
        go_wp2_with fail
        go_ret
        exact ⟨rfl, HB5.out⟩
      · refine wp_region_quiet_below (by kernel_rfl) (by kernel_rfl) ?_
        have hbc := fun x => @Bw.cell w3 x
        repeat (go_big_quiet_step (first
          | (go_at_call 12; exact Calls.bw (may_to op a b none 0 0 [] true HT.out _ (HL3.out.below (Bw.h _))))
          | (go_at_call 11; exact Calls.bw (mayInstr_to op a b none 0 0 [] true HT.out _ (HL3.out.below (Bw.h _))))))
        refine wpQuiet_nil ?_
        rintro _ ⟨x, rfl⟩
        have HX4 := hid (HX3.out.below x.h)
        have HL4 := hid (HL3.out.below x.h)
        have HB4 := hid (Bl.step HB3.out x.h)
        clear hbc c0 c1 c2 c3 hlx
        generalize x.w = w4 at HX4 HL4 HB4 ⊢
        obtain ⟨c0, c1, c2, c3⟩ := HX4.out
        go_wp2_with fail
        refine (mayInstr_to op a b none 0 0 [] true HT.out _ HL4.out).mono ?_
        rintro e w5 ⟨rfl, hb⟩
        have HX5 := hid (HX4.out.below hb)
        have HL5 := hid (HL4.out.below hb)
        have HB5 := hid (Bl.step HB4.out hb)
        clear hb c0 c1 c2 c3
        obtain ⟨c0, c1, c2, c3⟩ := HX5.out
        go_wp2_with fail
        refine (put_to none 0 0 [] op a b none 0 0 [] _ HT.out ha (Rd.empty _ _) (by decide) HL5.out).mono ?_
        rintro e w6 ⟨v, rfl, hv, hb⟩
        rw [List.nil_append] at hv
        obtain ⟨ao6, cap6, rfl, hr6⟩ := hv.rd
        have HX6 := hid (HX5.out.below hb)
        have HL6 := hid (HL5.out.below hb)
        have HB6 := hid (Bl.step HB5.out hb)
        have HR6 := hid hr6
        clear hb hv hr6 c0 c1 c2 c3
        have hgt : getI (encI op a b []) = (⟨op, a, b, []⟩, (encI op a b []).length, 0) := by
          have := getI_enc op a b [] [] HT.out ha
          rw [List.append_nil] at this
          exact this
        have HGT := hid hgt
        clear hgt
        go_wp2_with fail
        refine (get_to ao6 _ cap6 _ _ HR6.out _ _ 0 HGT.out).mono ?_
        rintro e w7 ⟨lo7, ln7, lc7, rfl, hown, hb⟩
        have HX7 := hid (HX6.out.below hb)
        have HL7 := hid (HL6.out.below hb)
        have HB7 := hid (Bl.step HB6.out hb)
        have HY7 := hid hown.rdAt
        clear hb hown
        simp only
        obtain ⟨c0, c1, c2, c3⟩ := HX7.out
        have hlx := HX7.out.lt
        go_wp2_with fail
        refine (refPut_to op a b none 0 0 [] _ HT.out ha (HL7.out.below (Bl.alloc (Bl.refl _) _))).mono ?_
        rintro e w8 ⟨v, rfl, hv, hb⟩
        obtain ⟨ao8, cap8, rfl, hr8⟩ := hv.rd
        have hb' := Bl.step (Bl.alloc (Bl.refl w7) _) hb
        have HX8 := hid (HX7.out.below hb')
        have HL8 := hid (HL7.out.below hb')
        have HB8 := hid (Bl.step HB7.out hb')
        have HY8 := hid (HY7.out.below hb')
        have HBY := hid ((Box4.new w7 op a b lo7 ln7 lc7 24).below hb)
        clear hb hb' hv hr8 c0 c1 c2 c3 hlx
        obtain ⟨c0, c1, c2, c3⟩ := HX8.out
        obtain ⟨d0, d1, d2, d3⟩ := HBY.out
        go_wp2_with fail
        refine (eqInstr_to op a b none 0 0 [] op a b lo7 ln7 lc7 [] true (eqI_refl _ _ _ _) _ HL8.out HY8.out).mono ?_
        rintro e w9 ⟨rfl, hb⟩
        have HB9 := hid (Bl.step HB8.out hb)
        clear hb
        go_wp2_with fail
        go_ret
        exact ⟨rfl, HB9.out⟩
end Go.Proofs.Ytapgiadenkflhaa
