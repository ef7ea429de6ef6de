/- TargetsDeep: the walk. -/
import Derived.Test.YtfambbpggodlkaaCodeBegun
import Derived.Test.YtfambbpggodlkaaCodeBody
import Derived.Test.YtfambbpggodlkaaInsSlice
import Derived.Deep.QuietTactic
import Derived.BigQuiet
import Derived.IntWalk
namespace Go.Proofs.Ytfambbpggodlkaa
open Go.RowKit

theorem begins_iff {x : Int} : begins x = true ↔ x = 2 ∨ x = 3 ∨ x = 4 := by simp [begins]

set_option maxRecDepth 100000 in
set_option maxHeartbeats 8000000 in
theorem targetsDeep_walk (ao : Option Addr) (n cap : Nat) (is : List Ins) (C : Addr → Prop) (w : World) (hr : RdP w C ao n cap is) :
    Calls Try.prog 9 #[.slice ao n cap] w fun e w' => e = .returned (.bool true) ∧ Below w.heap.size w w' := by
  have Hr := hid hr
  clear hr
  go_enter Try.func9, Try.ntmps9
  go_wp2_with fail
  refine (begun6_to _).mono ?_
  rintro e w0 ⟨rfl, hb⟩
  have Hr0 := hid (Hr.out.below hb)
  have HB0 := hid hb
  have HOK := hid Hr0.out.okAll
  clear hb Hr
  go_wp2_with fail
  refine (bodyN_to 60 60 rfl (by decide) C ao n cap is w0 Hr0.out).mono ?_
  rintro e w1 ⟨v, rfl, hown, hb⟩
  have HB1 := hid (Bl.step HB0.out hb)
  obtain ⟨IL, hIL⟩ : ∃ IL, IL = (is.take 60).map cutI := ⟨_, rfl⟩
  have hl : IL.length ≤ 60 := by rw [hIL]; simp; omega
  have hokL : ∀ I ∈ IL, okI I := by
    intro I hI
    rw [hIL] at hI
    obtain ⟨J, hJ, rfl⟩ := List.mem_map.1 hI
    exact cutI_ok (HOK.out J (List.mem_of_mem_take hJ))
  rw [← hIL] at hown
  obtain ⟨ao1, cap1, rfl, hr1⟩ := hown.rd hokL
  obtain ⟨n1, hn1⟩ : ∃ n1, n1 = IL.length := ⟨_, rfl⟩
  rw [← hn1] at hr1 hl ⊢
  have HR1 := hid hr1
  have HN1 := hid hn1
  clear hb hokL hIL hown hr1 Hr0 HB0 hn1 HOK
  go_wp2_with fail
  refine (match_to _ ao1 n1 cap1 IL w1 HR1.out).mono ?_
  rintro e w2 ⟨v2, rfl, hv2, hb⟩
  have HR2 := hid (HR1.out.below hb)
  have HB2 := hid (Bl.step HB1.out hb)
  obtain ⟨bo, bc, rfl, _, _, _⟩ := hv2.shape
  obtain ⟨o, ho⟩ : ∃ o, o = fits (opsI IL) := ⟨_, rfl⟩
  rw [← ho] at ⊢
  have HO := hid ho
  clear hb hv2 ho HR1 HB1
  cases o with
  | none =>
    simp only [Option.isSome_none]
    go_wp2_with fail
    go_ret
    exact ⟨rfl, HB2.out⟩
  | some bl =>
    have HF := hid (fits_iff.1 HO.out.symm)
    simp only [Option.isSome_some]
    obtain ⟨W2, hW2⟩ : ∃ W2, W2 = w2 := ⟨_, rfl⟩
    rw [← hW2] at HR2 HB2 ⊢
    clear hW2
    obtain ⟨vb, hvb⟩ : ∃ vb, vb = (List.map (bkC 0) ((some bl).getD [])).length := ⟨_, rfl⟩
    rw [← hvb]
    clear hvb
    go_wp2_with fail
    go_loopw [6, 7] (fun d i wr => ∃ k : Nat, k ≤ n1 ∧ i = .int .i64 k ∧ ∃ s, Hid (runN 0 ((opsI IL).take k) nsStart = some s) ∧ d = .int .i64 (s.op.length : Int) ∧ Below W2.heap.size W2 wr) (fun _ i _ => n1 - (intOf i).toNat)
    case atStart => exact ⟨0, Nat.zero_le _, rfl, nsStart, hid rfl, rfl, Below.refl _ _⟩
    case round =>
      obtain ⟨k, hkn, rfl, s, HS, rfl, hb⟩ := hrel
      have HB := hid hb
      have HR := hid (HR2.out.below hb)
      clear hb
      by_cases hk : k < n1
      · obtain ⟨b, off, _, _, _, rfl, c0, _, _, _, _, _⟩ := HR.out.cell k hk
        have hkl : k < (opsI IL).length := by rw [opsI_len, ← HN1.out]; exact hk
        obtain ⟨t, s', h1, h2, h3⟩ := runN_take HF.out.run k hkl
        rw [HS.out] at h1
        cases h1
        have htl := HF.out.tgt_len k hkl s HS.out
        have hdec := fun j => HF.out.tgt_dec k j
        have hbd : ∀ x ∈ tgt bl k, 0 ≤ x ∧ x ≤ 300 := by
          intro x hx
          unfold tgt at hx
          obtain ⟨y, hy, rfl⟩ := List.mem_map.1 hx
          have hy2 := (List.mem_filter.1 (List.mem_reverse.1 hy)).1
          obtain ⟨q, hq, rfl⟩ := mem_getD hy2
          have := HF.out.closed q hq
          have := HF.out.len
          omega
        have hsd := (step_depth h2).1
        have hop := opsI_getD IL k (by rw [← HN1.out]; exact hk)
        rw [hop] at htl h2 hsd
        obtain ⟨op, hI⟩ : ∃ op, op = (IL.getD k default).op := ⟨_, rfl⟩
        rw [← hI] at c0 htl h2 hsd
        obtain ⟨ts, hts⟩ : ∃ ts, ts = tgt bl k := ⟨_, rfl⟩
        rw [← hts] at htl hdec hbd
        obtain ⟨tn, htn⟩ : ∃ tn, tn = ts.length := ⟨_, rfl⟩
        rw [← htn] at htl hdec
        have hd60 : s.op.length ≤ 40 := (NsInv.of _ _ rfl _ HS.out).deep
        obtain ⟨dn, hdn⟩ : ∃ dn, dn = s.op.length := ⟨_, rfl⟩
        rw [← hdn] at htl hsd hd60 ⊢
        have HTS := hid hts
        have HTN := hid htn
        have HDEC := hid hdec
        have HBD := hid hbd
        have HS3 := hid h3
        have HR3 := HR
        have hcase : ((op = 2 ∨ op = 3 ∨ op = 4) ∧ tn = dn ∧ (s'.op.length : Int) = (tn : Int) + 1) ∨ (op = 5 ∧ dn = tn + 1 ∧ (s'.op.length : Int) = (tn : Int) + 1) ∨ (op = 11 ∧ dn = tn + 1 ∧ (s'.op.length : Int) = (tn : Int)) ∨ ((op == 2) = false ∧ (op == 3) = false ∧ (op == 4) = false ∧ (op == 5) = false ∧ (op == 11) = false ∧ tn = dn ∧ (s'.op.length : Int) = (tn : Int)) := by
          unfold minusN at htl
          unfold turnI at hsd
          by_cases hbg : begins op = true
          · have h4 := begins_iff.1 hbg
            rw [if_pos hbg] at hsd
            rw [if_neg (by omega)] at htl
            exact .inl ⟨h4, by omega, by omega⟩
          · rw [if_neg hbg] at hsd
            by_cases h5 : op = 5
            · rw [if_pos (.inl h5)] at htl
              rw [if_neg (by omega)] at hsd
              exact .inr (.inl ⟨h5, by omega, by omega⟩)
            · by_cases h11 : op = 11
              · rw [if_pos (.inr h11)] at htl
                rw [if_pos h11] at hsd
                exact .inr (.inr (.inl ⟨h11, by omega, by omega⟩))
              · rw [if_neg (by omega)] at htl
                rw [if_neg h11] at hsd
                have h4 : ¬ (op = 2 ∨ op = 3 ∨ op = 4) := fun h => hbg (begins_iff.2 h)
                refine .inr (.inr (.inr ⟨?_, ?_, ?_, ?_, ?_, by omega, by omega⟩)) <;> simp <;> omega
        clear hdn hts htn hdec hbd h2 h3 hop hI hsd htl hkl
        have htm1 : (tn : Int) + 1 - 1 = tn := by omega
        obtain ⟨sl, hsl⟩ : ∃ sl : Int, sl = s'.op.length := ⟨_, rfl⟩
        rw [← hsl] at hcase
        have HSL := hid hsl
        clear hsl
        rcases hcase with ⟨(rfl | rfl | rfl), rfl, hs2⟩ | ⟨rfl, rfl, hs2⟩ | ⟨rfl, rfl, hs2⟩ | ⟨e2, e3, e4, e5, e11, rfl, hs2⟩
        all_goals
          have HS2 := hid hs2
          clear hs2
          go_wp2_with fail
          refine (targets_to _ _ n1 cap1 IL (k : Int) wr HR.out).mono ?_
          rintro e w5 ⟨v5, rfl, ht, hb⟩
          rw [← HO.out, Option.getD_some, ← HTS.out] at ht
          obtain ⟨to, tc, rfl, hrt⟩ := ht.rd
          rw [← HTN.out] at hrt ⊢
          have HT := hid hrt
          have HB5 := hid (Bl.step HB.out hb)
          clear hb ht hrt c0 HR HB HTS HS
          obtain ⟨wo, hwo⟩ : ∃ wo : World, wo = wr := ⟨_, rfl⟩
          subst hwo
          go_wp2_with fail
          go_loopw [10] (fun i wx => ∃ j : Nat, i = .int .i64 ((j : Int) + 1) ∧ (j + 1 ≤ tn ∨ j = 0) ∧ Below w5.heap.size w5 wx) (fun i _ => tn - (intOf i).toNat)
          case atStart => exact ⟨0, by go_num, .inr rfl, Below.refl _ _⟩
          case round =>
            obtain ⟨j, rfl, hjj, hb⟩ := hrel
            have HBX := hid hb
            clear hb
            by_cases hj : j + 1 < tn
            · obtain ⟨g, go, rfl, hc⟩ := (HT.out.below HBX.out).at (by omega)
              have x0 := hc j (by omega)
              have x1 := hc (j + 1) (by omega)
              have hd := HDEC.out j hj
              have hj2 : j + 1 < ts.length := by rw [← HTN.out]; exact hj
              have b0 := HBD.out (ts[j]'(by omega)) (List.getElem_mem _)
              have b1 := HBD.out (ts[j + 1]'hj2) (List.getElem_mem _)
              have y0 : ts[j]'(by omega) = ts.getD j 0 := by simp [List.getD, show j < ts.length by omega]
              have y1 : ts[j + 1]'hj2 = ts.getD (j + 1) 0 := by simp [List.getD, hj2]
              rw [y0] at b0
              rw [y1] at b1
              obtain ⟨a0, ha0⟩ : ∃ a0, a0 = ts.getD j 0 := ⟨_, rfl⟩
              obtain ⟨a1, ha1⟩ : ∃ a1, a1 = ts.getD (j + 1) 0 := ⟨_, rfl⟩
              rw [← ha0] at x0 hd b0
              rw [← ha1] at x1 hd b1
              have hd2 : ¬ (a0 ≤ a1) := by omega
              have z1 : ((j : Int) + 1).toNat = j + 1 := by omega
              have z2 : IntKind.i64.wrap ((j : Int) + 1 - 1) = (j : Int) := by rw [show (j : Int) + 1 - 1 = j by omega]; exact IntWalk.i64_in _ (by omega)
              have z3 : (j : Int) + 1 < tn := by omega
              clear hc y0 y1 ha0 ha1 hd hjj hj2
              go_wp2_with fail
              go_quiet (fail)
              go_wp2_with fail
              go_roundw
              case rel => exact ⟨j + 1, by go_num, by omega, HBX.out.trans (below_drewN _ _ _)⟩
              case measure => simp [intOf]; omega
            · have z3 : ¬ (j : Int) + 1 < tn := by omega
              go_wp2_with fail
              go_roundw
              case rel => exact ⟨k + 1, by omega, by go_num, s', HS3, by first | (rw [← HSL.out, HS2.out]; done) | (rw [← HSL.out, HS2.out]; go_num), Bl.step HB5.out HBX.out⟩
              case measure => simp [intOf]; omega
      · have hkn' : k = n1 := by omega
        subst hkn'
        have hz1 := HF.out.tgt_out k (.inr (by rw [opsI_len, ← HN1.out]; exact Int.le_refl _))
        have hz2 := HF.out.tgt_out (-1) (.inl (by omega))
        have HZ1 := hid hz1
        have HZ2 := hid hz2
        clear hz1 hz2 HS
        go_wp2_with fail
        refine (targets_to _ ao1 k cap1 IL k wr HR.out).mono ?_
        rintro e w5 ⟨v5, rfl, ht, hb⟩
        rw [← HO.out, Option.getD_some, HZ1.out] at ht
        obtain ⟨to, tc, rfl, _⟩ := ht.rd
        have HR5 := hid (HR.out.below hb)
        have HB5 := hid (Bl.step HB.out hb)
        clear hb ht HR HB
        simp only [List.length_nil]
        go_wp2_with fail
        refine (targets_to _ ao1 k cap1 IL (-1) w5 HR5.out).mono ?_
        rintro e w6 ⟨v6, rfl, ht, hb⟩
        rw [← HO.out, Option.getD_some, HZ2.out] at ht
        obtain ⟨to2, tc2, rfl, _⟩ := ht.rd
        have HB6 := hid (Bl.step HB5.out hb)
        clear hb ht
        simp only [List.length_nil]
        go_wp2_with fail
        go_ret
        exact ⟨rfl, Bl.step HB2.out HB6.out⟩
end Go.Proofs.Ytfambbpggodlkaa
