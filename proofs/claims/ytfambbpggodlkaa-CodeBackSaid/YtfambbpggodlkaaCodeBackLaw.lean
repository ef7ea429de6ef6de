/- CodeBack: the walk. -/
import Derived.Test.YtfambbpggodlkaaCodeBegun
import Derived.Test.YtfambbpggodlkaaCodeBody
import Derived.Test.YtfambbpggodlkaaCodeEq
import Derived.Test.YtfambbpggodlkaaCodeRefMatch
import Derived.Test.YtfambbpggodlkaaInsSlice
import Derived.Test.YtfambbpggodlkaaShort
namespace Go.Proofs.Ytfambbpggodlkaa
open Go.RowKit

theorem encMs_few {is : List Ins} {n : Nat} (hn : is.length ≤ n) (hm : ∀ I ∈ is, mayII I = true) : (encMs is).length ≤ n * 20001 :=
  Nat.le_trans (encMs_len is hm) (Nat.mul_le_mul_right _ hn)
theorem all_may {is : List Ins} (h : ∀ j, j < is.length → mayII (is.getD j default) = true) : ∀ I ∈ is, mayII I = true := by
  intro I hI
  obtain ⟨j, hj, rfl⟩ := List.getElem_of_mem hI
  have := h j hj
  simpa [List.getD, hj] using this

set_option maxRecDepth 100000 in
set_option maxHeartbeats 8000000 in
theorem codeBack_walk (ao : Option Addr) (n cap : Nat) (is : List Ins) (C : Addr → Prop) (ho : Option Addr) (m bc : Nat) (hs : List Int) (ro : Option Addr) (r rc : Nat) (rs : List Int) (w : World) (hr : RdP w C ao n cap is) (hh : Rd .u8 w ho m bc hs) (ht : Rd .u8 w ro r rc rs) :
    Calls Try.prog 5 #[.slice ao n cap, .slice ho m bc, .slice ro r rc] w fun e w' => e = .returned (.bool true) ∧ Below w.heap.size w w' := by
  have Hr := hid hr
  have HSH := hid (short_any ho m bc 8 · hh.le hh.cap63 (by omega))
  have HST := hid (short_any ro r rc 8 · ht.le ht.cap63 (by omega))
  have HH := hid (hh.short 8)
  have HT := hid (ht.short 8)
  obtain ⟨m2, hm2⟩ : ∃ m2, m2 = min m 8 := ⟨_, rfl⟩
  obtain ⟨r2, hr2⟩ : ∃ r2, r2 = min r 8 := ⟨_, rfl⟩
  rw [← hm2] at HSH HH
  rw [← hr2] at HST HT
  have hm8 : m2 ≤ 8 := by omega
  have hr8 : r2 ≤ 8 := by omega
  obtain ⟨hs2, hhs2⟩ : ∃ hs2, hs2 = hs.take m2 := ⟨_, rfl⟩
  obtain ⟨rs2, hrs2⟩ : ∃ rs2, rs2 = rs.take r2 := ⟨_, rfl⟩
  rw [← hhs2] at HH
  rw [← hrs2] at HT
  have HHL := hid HH.out.len
  have HTL := hid HT.out.len
  clear hr hh ht hm2 hr2 hhs2 hrs2
  go_enter Try.func5, Try.ntmps5
  go_wp2_with fail
  refine (begun6_to _).mono ?_
  rintro e w0 ⟨rfl, hb⟩
  have Hr0 := hid (Hr.out.below hb)
  have HH0 := hid (HH.out.below hb)
  have HT0 := hid (HT.out.below hb)
  have HB0 := hid hb
  have HOK := hid Hr0.out.okAll
  clear hb Hr HH HT
  go_wp2_with fail
  refine (bodyN_to 80 80 rfl (by decide) C ao n cap is w0 Hr0.out).mono ?_
  rintro e w1 ⟨v, rfl, hown, hb⟩
  have HB1 := hid (Bl.step HB0.out hb)
  have HH1 := hid (HH0.out.below hb)
  have HT1 := hid (HT0.out.below hb)
  obtain ⟨IL, hIL⟩ : ∃ IL, IL = (is.take 80).map cutI := ⟨_, rfl⟩
  have hl : IL.length ≤ 80 := by rw [hIL]; simp; omega
  have hokL : ∀ I ∈ IL, okI I := by
    intro I hI
    rw [hIL] at hI
    obtain ⟨J, hJ, rfl⟩ := List.mem_map.1 hI
    exact cutI_ok (HOK.out J (List.mem_of_mem_take hJ))
  rw [← hIL] at hown
  obtain ⟨ao1, cap1, rfl, hr1⟩ := hown.rd hokL
  obtain ⟨n1, hn1⟩ : ∃ n1, n1 = IL.length := ⟨_, rfl⟩
  rw [← hn1] at hr1 hl ⊢
  have HR1 := hid hr1
  have HN1 := hid hn1
  have HOKL := hid hokL
  clear hb hokL hIL hown hr1 Hr0 HH0 HT0 HB0 hn1 HOK
  go_wp2_with fail
  refine (HSH.out w1).mono ?_
  rintro e w' ⟨rfl, rfl⟩
  go_wp2_with fail
  refine (HST.out w1).mono ?_
  rintro e w' ⟨rfl, rfl⟩
  clear HSH HST
  go_wp2_with fail
  go_loopw [8] (fun i wr => ∃ k : Nat, k ≤ n1 ∧ i = .int .i64 k ∧ Hid (∀ j, j < k → mayII (IL.getD j default) = true) ∧ Below w1.heap.size w1 wr) (fun i _ => n1 - (intOf i).toNat)
  case atStart => exact ⟨0, Nat.zero_le _, rfl, hid (fun j hj => by omega), Below.refl _ _⟩
  case round =>
    obtain ⟨k, hk, rfl, HM, hb⟩ := hrel
    have HB := hid hb
    clear hb
    by_cases hkn : k < n1
    · obtain ⟨b, off, lo, ln, lc, rfl, c0, c1, c2, c3, hrl, _⟩ := (HR1.out.below HB.out).cell k hkn
      obtain ⟨⟨op, p, q, l⟩, hI⟩ : ∃ I, I = IL.getD k default := ⟨_, rfl⟩
      rw [← hI] at c0 c1 c2 hrl
      simp only at c0 c1 c2 hrl
      have Hrl := hid hrl
      have HI := hid hI
      obtain ⟨t, ht⟩ : ∃ t, mayI op p q l = t := ⟨_, rfl⟩
      have HTT := hid ht
      clear hI hrl ht
      go_wp2_with fail
      refine (mayInstr_to op p q lo ln lc l t HTT.out _ Hrl.out).mono ?_
      rintro e w2 ⟨rfl, hb⟩
      have HB2 := hid (Bl.step HB.out hb)
      clear hb c0 c1 c2 c3 HB Hrl
      cases t with
      | false =>
        go_wp2_with fail
        go_ret
        exact ⟨rfl, Bl.step HB1.out HB2.out⟩
      | true =>
        go_wp2_with fail
        go_roundw
        case rel =>
          refine ⟨k + 1, by omega, by go_num, hid (fun j hj => ?_), HB2.out⟩
          by_cases e : j = k
          · rw [e, ← HI.out]; exact HTT.out
          · exact HM.out j (by omega)
        case measure => simp [intOf]; omega
    · have hkk : k = n1 := by omega
      subst hkk
      have HMAY : Hid (∀ I ∈ IL, mayII I = true) := hid (all_may (fun j hj => HM.out j (by rw [HN1.out]; exact hj)))
      have HR2 := hid (HR1.out.below HB.out)
      have HH2 := hid (HH1.out.below HB.out)
      have HT2 := hid (HT1.out.below HB.out)
      have HB2 := hid (Bl.step HB1.out HB.out)
      clear HM HR1 HH1 HT1 HB1 HB
      obtain ⟨W2, hW2⟩ : ∃ W2 : World, W2 = wr := ⟨_, rfl⟩
      subst hW2
      go_wp2_with fail
      refine (refMatch_to _ ao1 k cap1 IL W2 HR2.out (by omega)).mono ?_
      rintro e w3 ⟨v3, rfl, hv3, hb⟩
      obtain ⟨bo, bcc, rfl, _, _, _⟩ := hv3.shape
      have HR3 := hid (HR2.out.below hb)
      have HH3 := hid (HH2.out.below hb)
      have HT3 := hid (HT2.out.below hb)
      have HB3 := hid (Bl.step HB2.out hb)
      obtain ⟨o, hfo⟩ : ∃ o, o = fits (opsI IL) := ⟨_, rfl⟩
      rw [← hfo]
      have HO := hid hfo
      clear hb hv3 hfo HR2 HH2 HT2 HB2
      cases o with
      | none =>
        simp only [Option.isSome_none]
        go_wp2_with fail
        go_ret
        exact ⟨rfl, HB3.out⟩
      | some bl =>
        simp only [Option.isSome_some]
        obtain ⟨vb, hvb⟩ : ∃ vb, vb = (List.map (bkC 0) ((some bl).getD [])).length := ⟨_, rfl⟩
        rw [← hvb]
        clear hvb
        go_wp2_with (first
          | (at_builtin; refine wpList_append_rd rfl (.const (.slice none 0 0)) (.tmp 43) 41 rfl 5 .u8 w3.heap.size 1 Try.underlying41 infoU8 _ [] rfl (Own.nil _ _ _ _) ho m2 bc hs2 rfl HH3.out (by simp; omega) (by simp; omega) (Nat.le_refl _) ?_; intro v4 w4 o4 b4 k4; clear k4; rw [List.nil_append] at o4; have HO4 := hid o4; have HB4 := hid b4; clear o4 b4)
          | fail)
        obtain ⟨ho4, hc4, rfl, hr4⟩ := HO4.out.rd
        have HRR4 := hid hr4
        have hl4 := HHL.out
        obtain ⟨m4, hm4⟩ : ∃ m4, m4 = hs2.length := ⟨_, rfl⟩
        rw [← hm4] at HRR4 ⊢
        have hm48 : m4 ≤ 8 := by omega
        have HM4 := hid hm4
        have HR4 := hid (HR3.out.below HB4.out)
        have HH4 := hid (HH3.out.below HB4.out)
        have HT4 := hid (HT3.out.below HB4.out)
        have HB5 := hid (Bl.step HB3.out HB4.out)
        clear hr4 hl4 hm4 HO4 HR3 HH3 HT3 HB3 HB4
        refine (putBody_to ho4 m4 hc4 hs2 _ ao1 k cap1 IL w4 HRR4.out HR4.out (by omega) (by omega) HMAY.out).mono ?_
        rintro e w5 ⟨v5, rfl, hv, hb⟩
        obtain ⟨es, hes⟩ : ∃ es, es = encMs IL ++ [11] := ⟨_, rfl⟩
        have hesl : es.length ≤ 1600100 := by
          rw [hes, List.length_append]
          have := encMs_few (n := 80) (by rw [← HN1.out]; exact hl) HMAY.out
          simp
          omega
        rw [List.append_assoc, ← hes] at hv
        obtain ⟨ps, hps⟩ : ∃ ps, ps = hs2 ++ es := ⟨_, rfl⟩
        rw [← hps] at hv
        obtain ⟨po, pc, rfl, hrp⟩ := hv.rd
        obtain ⟨pl, hpl⟩ : ∃ pl, pl = ps.length := ⟨_, rfl⟩
        have hsum : pl = m2 + es.length := by rw [hpl, hps, List.length_append, HHL.out]
        rw [← hpl] at hrp ⊢
        have HP7 := hid hrp
        have HES := hid hes
        have HPS := hid hps
        have HPL := hid hpl
        have HSUM := hid hsum
        have HR7 := hid (HR4.out.below hb)
        have HH7 := hid (HH4.out.below hb)
        have HT7 := hid (HT4.out.below hb)
        have HB7 := hid (Bl.step HB5.out hb)
        have hpl30 : pl ≤ 1600200 := by omega
        clear hb hv hrp hes hps hpl hsum HR4 HH4 HT4 HB5 HRR4
        go_wp2_with fail
        refine wp_region_below (by kernel_rfl) [Is (.slice po pl pc), Is (.string (strOfNums ps)), Is (.slice ho m2 bc), Is (.string (strOfNums hs2)), Is (.slice ao1 k cap1), IsRd .u8 es, Is (.string (strOfNums es)), Is (.string (strOfNums ps)), Is (.bool false)] [0, 1, 2, 3, 4, 5, 6, 7, 8] rfl (by kernel_rfl) rfl ?hopC ?hstC ?hendC
        case hopC =>
          refine ⟨⟨⟨_, _, _, _, _, _⟩, _, Is (.slice po pl pc), none, [], [(11, .slice po pl pc)], rfl, rfl, rfl, rfl, rfl, ⟨⟨by kernel_rfl, rfl⟩, trivial⟩, ?_⟩, ?_⟩
          · intro a w1 hC e11
            refine Or.inl ⟨.slice po pl pc, ?_, rfl⟩
            go_simp
          refine ⟨⟨⟨_, _, _, _, _, _⟩, _, Is (.string (strOfNums ps)), none, [(some 47, Is (.slice po pl pc))], [], rfl, rfl, rfl, rfl, rfl, trivial, ?_⟩, ?_⟩
          · intro a w1 hC  (h0 : a.tmps.getD 47 undef = _)
            refine Or.inl ⟨.string (strOfNums ps), ?_, rfl⟩
            have hcv := conv_str (P := Try.prog) (HP7.out.below hC) 41 9 5 Try.underlying41 Try.underlying5 Try.underlying9
            go_simp
          refine ⟨⟨⟨_, _, _, _, _, _⟩, _, Is (.slice ho m2 bc), none, [], [(1, .slice ho m2 bc)], rfl, rfl, rfl, rfl, rfl, ⟨⟨by kernel_rfl, rfl⟩, trivial⟩, ?_⟩, ?_⟩
          · intro a w1 hC e2
            refine Or.inl ⟨.slice ho m2 bc, ?_, rfl⟩
            go_simp
          refine ⟨⟨⟨_, _, _, _, _, _⟩, _, Is (.string (strOfNums hs2)), none, [(some 49, Is (.slice ho m2 bc))], [], rfl, rfl, rfl, rfl, rfl, trivial, ?_⟩, ?_⟩
          · intro a w1 hC  (h2 : a.tmps.getD 49 undef = _)
            refine Or.inl ⟨.string (strOfNums hs2), ?_, rfl⟩
            have hcv := conv_str (P := Try.prog) (HH7.out.below hC) 41 9 5 Try.underlying41 Try.underlying5 Try.underlying9
            go_simp
          refine ⟨⟨⟨_, _, _, _, _, _⟩, _, Is (.slice ao1 k cap1), none, [], [(0, .slice ao1 k cap1)], rfl, rfl, rfl, rfl, rfl, ⟨⟨by kernel_rfl, rfl⟩, trivial⟩, ?_⟩, ?_⟩
          · intro a w1 hC e4
            refine Or.inl ⟨.slice ao1 k cap1, ?_, rfl⟩
            go_simp
          refine ⟨⟨⟨_, _, _, _, _, _⟩, _, IsRd .u8 es, none, [(some 51, Is (.slice ao1 k cap1))], [], rfl, rfl, rfl, rfl, rfl, trivial, ?_⟩, ?_⟩
          · intro a w1 hC  (h4 : a.tmps.getD 51 undef = _)
            refine Or.inr (Or.inl ⟨21, #[.slice ao1 k cap1], ?_, ?_⟩)
            · go_simp
            · refine (refPutBody_to _ ao1 k cap1 IL w1 (HR7.out.below hC) (by omega) HMAY.out).mono ?_
              rintro e w2 ⟨vv, rfl, hown, hbel⟩
              rw [← HES.out] at hown
              obtain ⟨ao1, cap1, rfl, hrd⟩ := hown.rd
              exact ⟨_, rfl, ⟨ao1, cap1, rfl, hrd⟩, hbel⟩
          refine ⟨⟨⟨_, _, _, _, _, _⟩, _, Is (.string (strOfNums es)), none, [(some 52, IsRd .u8 es)], [], rfl, rfl, rfl, rfl, rfl, trivial, ?_⟩, ?_⟩
          · intro a w1 hC  h5
            obtain ⟨ao1, cap1, e5, hrd⟩ := h5
            have e5 : a.tmps.getD 52 undef = _ := e5
            refine Or.inl ⟨.string (strOfNums es), ?_, rfl⟩
            have hcv := conv_str (P := Try.prog) hrd 41 9 5 Try.underlying41 Try.underlying5 Try.underlying9
            go_simp
          refine ⟨⟨⟨_, _, _, _, _, _⟩, _, Is (.string (strOfNums ps)), none, [(some 50, Is (.string (strOfNums hs2))), (some 53, Is (.string (strOfNums es)))], [], rfl, rfl, rfl, rfl, rfl, trivial, ?_⟩, ?_⟩
          · intro a w1 hC  (h3 : a.tmps.getD 50 undef = _) (h6 : a.tmps.getD 53 undef = _)
            refine Or.inl ⟨.string (strOfNums hs2 ++ strOfNums es), ?_, ?_⟩
            · go_simp
              rw [str_len, str_len]
              have := HHL.out
              omega
            · show _ = _
              rw [← str_app, ← HPS.out]
          refine ⟨⟨⟨_, _, _, _, _, _⟩, _, Is (.bool false), none, [(some 48, Is (.string (strOfNums ps))), (some 54, Is (.string (strOfNums ps)))], [], rfl, rfl, rfl, rfl, rfl, trivial, ?_⟩, ?_⟩
          · intro a w1 hC  (h1 : a.tmps.getD 48 undef = _) (h7 : a.tmps.getD 54 undef = _)
            refine Or.inl ⟨.bool false, ?_, rfl⟩
            go_simp
          exact trivial
        case hstC => exact ⟨Stays.is _, Stays.is _, Stays.is _, Stays.is _, Stays.is _, Stays.rd _ _, Stays.is _, Stays.is _, Stays.is _, trivial⟩
        case hendC =>
          intro w1 hC
          rintro _ rfl
          rintro _ rfl
          rintro _ rfl
          rintro _ rfl
          rintro _ rfl
          intro x5 h5
          rintro _ rfl
          rintro _ rfl
          rintro _ rfl
          simp only [Ends, Act.put, List.setIfInBounds_toArray, List.set_cons_succ, List.set_cons_zero]
          have HR8 := hid (HR7.out.below hC)
          have HB8 := hid (Bl.step HB7.out hC)
          have HT8 := hid (HT7.out.below hC)
          have HP8 := hid (HP7.out.below hC)
          clear hC HR7 HB7 HH7 HT7 HP7 h5
          have hsum := HSUM.out
          have hpc : pl ≤ pc := HP8.out.le
          have hpc63 := HP8.out.cap63
          have hcut := run_cut_l 41 elem_b size_b po pl pc (m2 : Int) m2 rfl (by omega)
          have hcr := HP8.out.cut m2 pl (by omega) (Nat.le_refl _)
          have hdr : (ps.take pl).drop m2 = es := by
            rw [List.take_of_length_le (by rw [HPL.out]; exact Nat.le_refl _), HPS.out, ← HHL.out]
            simp
          rw [hdr] at hcr
          obtain ⟨el, hel2⟩ : ∃ el, el = pl - m2 := ⟨_, rfl⟩
          obtain ⟨ec, hec2⟩ : ∃ ec, ec = pc - m2 := ⟨_, rfl⟩
          obtain ⟨eo, heo2⟩ : ∃ eo, eo = cutAt po m2 pc := ⟨_, rfl⟩
          rw [← hel2, ← hec2, ← heo2] at hcr hcut
          have HC8 := hid hcr
          have hell : es.length = el := hcr.len
          have HELL := hid hell
          have hel20 : el ≤ 1600100 := by omega
          have hdiff : (pl : Int) - (m2 : Int) = (el : Int) := by omega
          have HCUT := hid hcut
          clear hcr hdr hell hel2 hec2 heo2 hsum hesl
          go_wp2_with (first
            | (at_builtin; refine wpList_append_rd rfl (.const (.slice none 0 0)) (.tmp 60) 41 rfl 5 .u8 w1.heap.size 1 Try.underlying41 infoU8 _ [] rfl (Own.nil _ _ _ _) eo el ec es rfl HC8.out (by simp; omega) (by simp; omega) (Nat.le_refl _) ?_; intro v2 w9 o2 b2 k2; clear k2; rw [List.nil_append] at o2; have HO2 := hid o2; have HB9 := hid b2; clear o2 b2)
            | (at_builtin; refine wpList_append_rd rfl (.tmp 61) (.tmp 62) 41 rfl 5 .u8 w1.heap.size 1 Try.underlying41 infoU8 _ es rfl HO2.out ro r2 rc rs2 rfl (HT8.out.below HB9.out) (by have := HELL.out; omega) (by have := HELL.out; omega) HB9.out.size ?_; intro v3 wa o3 b3 k3; clear k3; obtain ⟨ts, hts⟩ : ∃ ts, ts = es ++ rs2 := ⟨_, rfl⟩; rw [← hts] at o3; have HTS := hid hts; obtain ⟨to3, tc3, rfl, hr3⟩ := o3.rd; have HR3 := hid hr3; have HB10 := hid (HB9.out.trans b3); clear o3 b3 hr3 hts)
            | fail)
          have hgt : getB ts = (IL, el, 0) := by
            rw [HTS.out, HES.out]
            have := getB_enc rs2 HO.out.symm HMAY.out HOKL.out
            rw [this]
            have h2 := HELL.out
            rw [HES.out, List.length_append] at h2
            simp at h2
            simp [← h2]
          have hget := getB_to to3 _ tc3 ts wa HR3.out
          rw [hgt] at hget
          have HGT := hid hget
          have HR10 := hid (HR8.out.below HB10.out)
          have HBA := hid (Bl.step HB8.out HB10.out)
          obtain ⟨tl, htl⟩ : ∃ tl, tl = ts.length := ⟨_, rfl⟩
          rw [← htl] at HGT ⊢
          clear hgt hget htl HR8 HB8 HB9 HB10 HO2 HC8 HT8 HP8
          refine HGT.out.mono ?_
          rintro e wb ⟨v9, rfl, hx, hok9, _, hb⟩
          simp only at hx hok9 ⊢
          obtain ⟨xo, xc, rfl, hrx⟩ := hx.rd hok9
          rw [← HN1.out] at hrx ⊢
          have HX := hid hrx
          have HR11 := hid (HR10.out.below hb)
          have HBB := hid (Bl.step HBA.out hb)
          clear hx hok9 hrx hb HR10 HBA HGT
          go_wp2_with fail
          refine (eqBody_to _ _ ao1 xo k k cap1 xc IL wb HR11.out HX.out).mono ?_
          rintro e wc ⟨rfl, hb⟩
          have HBC := hid (Bl.step HBB.out hb)
          clear hb
          go_wp2_with fail
          go_ret
          exact ⟨rfl, HBC.out⟩
end Go.Proofs.Ytfambbpggodlkaa
