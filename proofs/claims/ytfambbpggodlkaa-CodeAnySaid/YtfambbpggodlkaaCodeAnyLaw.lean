/- CodeAny: the walk. -/
import Derived.Test.YtfambbpggodlkaaCodeBegun
import Derived.Test.YtfambbpggodlkaaCodeBody
import Derived.Test.YtfambbpggodlkaaCodeTells
import Derived.Test.YtfambbpggodlkaaInsSlice
import Derived.Test.YtfambbpggodlkaaShort
namespace Go.Proofs.Ytfambbpggodlkaa
open Go.RowKit

theorem all_may' {is : List Ins} (h : ∀ j, j < is.length → mayII (is.getD j default) = true) : ∀ I ∈ is, mayII I = true := by
  intro I hI
  obtain ⟨j, hj, rfl⟩ := List.getElem_of_mem hI
  have := h j hj
  simpa [List.getD, hj] using this

set_option maxRecDepth 100000 in
set_option maxHeartbeats 8000000 in
theorem codeAny_walk (bo : Option Addr) (m bc : Nat) (bs : List Int) (ao : Option Addr) (n cap : Nat) (is : List Ins) (C : Addr → Prop) (at' y : Int) (w : World) (hbs : Rd .u8 w bo m bc bs) (hr : RdP w C ao n cap is) (hat : -9223372036854775808 ≤ at' ∧ at' ≤ 9223372036854775807) :
    Calls Try.prog 6 #[.slice bo m bc, .slice ao n cap, .int .i64 at', .int .u8 y] w fun e w' => e = .returned (.bool true) ∧ Below w.heap.size w w' := by
  have Hr := hid hr
  have HSH := hid (short_any bo m bc 60 · hbs.le hbs.cap63 (by omega))
  have HH := hid (hbs.short 60)
  obtain ⟨m2, hm2⟩ : ∃ m2, m2 = min m 60 := ⟨_, rfl⟩
  rw [← hm2] at HSH HH
  have hm8 : m2 ≤ 60 := by omega
  obtain ⟨bs2, hbs2⟩ : ∃ bs2, bs2 = bs.take m2 := ⟨_, rfl⟩
  rw [← hbs2] at HH
  clear hr hbs hm2 hbs2
  go_enter Try.func6, Try.ntmps6
  go_wp2_with fail
  refine (begun6_to _).mono ?_
  rintro e w0 ⟨rfl, hb⟩
  have Hr0 := hid (Hr.out.below hb)
  have HH0 := hid (HH.out.below hb)
  have HB0 := hid hb
  have HOK := hid Hr0.out.okAll
  clear hb Hr HH
  go_wp2_with fail
  refine (HSH.out w0).mono ?_
  rintro e w' ⟨rfl, rfl⟩
  clear HSH
  go_wp2_with fail
  refine (bodyN_to 30 30 rfl (by decide) C ao n cap is w0 Hr0.out).mono ?_
  rintro e w1 ⟨v, rfl, hown, hb⟩
  have HB1 := hid (Bl.step HB0.out hb)
  have HH1 := hid (HH0.out.below hb)
  obtain ⟨IL, hIL⟩ : ∃ IL, IL = (is.take 30).map cutI := ⟨_, rfl⟩
  have hl : IL.length ≤ 30 := by rw [hIL]; simp; omega
  have hokL : ∀ I ∈ IL, okI I := by
    intro I hI
    rw [hIL] at hI
    obtain ⟨J, hJ, rfl⟩ := List.mem_map.1 hI
    exact cutI_ok (HOK.out J (List.mem_of_mem_take hJ))
  rw [← hIL] at hown
  obtain ⟨ao1, cap1, rfl, hr1⟩ := hown.rd hokL
  obtain ⟨n1, hn1⟩ : ∃ n1, n1 = IL.length := ⟨_, rfl⟩
  rw [← hn1] at hr1 hl ⊢
  have HR1 := hid hr1
  have HN1 := hid hn1
  clear hb hokL hIL hown hr1 Hr0 HH0 HB0 hn1 HOK
  go_wp2_with fail
  refine (tells6_to bo m2 bc bs2 w1 HH1.out).mono ?_
  rintro e w2 ⟨rfl, hb⟩
  have HR2 := hid (HR1.out.below hb)
  have HB2 := hid (Bl.step HB1.out hb)
  clear hb HR1 HH1 HB1
  go_wp2_with fail
  go_loopw [10] (fun i wr => ∃ k : Nat, k ≤ n1 ∧ i = .int .i64 k ∧ Hid (∀ j, j < k → mayII (IL.getD j default) = true) ∧ Below w2.heap.size w2 wr) (fun i _ => n1 - (intOf i).toNat)
  case atStart => exact ⟨0, Nat.zero_le _, rfl, hid (fun j hj => by omega), Below.refl _ _⟩
  case round =>
    obtain ⟨k, hk, rfl, HM, hb⟩ := hrel
    have HB := hid hb
    clear hb
    by_cases hkn : k < n1
    · obtain ⟨b, off, lo, ln, lc, rfl, c0, c1, c2, c3, hrl, _⟩ := (HR2.out.below HB.out).cell k hkn
      obtain ⟨⟨op, p, q, l⟩, hI⟩ : ∃ I, I = IL.getD k default := ⟨_, rfl⟩
      rw [← hI] at c0 c1 c2 hrl
      simp only at c0 c1 c2 hrl
      have Hrl := hid hrl
      have HI := hid hI
      obtain ⟨t, ht⟩ : ∃ t, mayI op p q l = t := ⟨_, rfl⟩
      have HTT := hid ht
      clear hI hrl ht
      go_wp2_with fail
      refine (mayInstr_to op p q lo ln lc l t HTT.out _ Hrl.out).mono ?_
      rintro e w3 ⟨rfl, hb⟩
      have HB3 := hid (Bl.step HB.out hb)
      clear hb c0 c1 c2 c3 HB Hrl
      cases t with
      | false =>
        go_wp2_with fail
        go_ret
        exact ⟨rfl, Bl.step HB2.out HB3.out⟩
      | true =>
        go_wp2_with fail
        go_roundw
        case rel =>
          refine ⟨k + 1, by omega, by go_num, hid (fun j hj => ?_), HB3.out⟩
          by_cases e : j = k
          · rw [e, ← HI.out]; exact HTT.out
          · exact HM.out j (by omega)
        case measure => simp [intOf]; omega
    · have hkk : k = n1 := by omega
      subst hkk
      have HMAY : Hid (∀ I ∈ IL, mayII I = true) := hid (all_may' (fun j hj => HM.out j (by rw [HN1.out]; exact hj)))
      have HR3 := hid (HR2.out.below HB.out)
      have HB3 := hid (Bl.step HB2.out HB.out)
      clear HM HR2 HB2 HB
      go_wp2_with fail
      refine (refPutBody_to _ ao1 k cap1 IL wr HR3.out (by omega) HMAY.out).mono ?_
      rintro e w4 ⟨v4, rfl, hv, hb⟩
      obtain ⟨cs, hcs⟩ : ∃ cs, cs = encMs IL ++ [11] := ⟨_, rfl⟩
      have hcl0 : 0 < cs.length := by rw [hcs]; simp
      have hcl1 : cs.length ≤ 700000 := by
        rw [hcs, List.length_append]
        have h1 := encMs_len IL HMAY.out
        have h2 : IL.length * 20001 ≤ 30 * 20001 := Nat.mul_le_mul_right _ (by rw [← HN1.out]; exact hl)
        simp
        omega
      rw [← hcs] at hv
      obtain ⟨co, cc, rfl, hrc⟩ := hv.rd
      obtain ⟨cl, hcl⟩ : ∃ cl, cl = cs.length := ⟨_, rfl⟩
      rw [← hcl] at hrc hcl0 hcl1 ⊢
      have HC4 := hid hrc
      have HB4 := hid (Bl.step HB3.out hb)
      have HCL := hid hcl
      clear hv hb hrc hcs hcl HR3 HB3
      by_cases hneg : at' < 0
      · go_wp2_with fail
        refine (tells6_to co cl cc cs w4 HC4.out).mono ?_
        rintro e w5 ⟨rfl, hb⟩
        have HB5 := hid (Bl.step HB4.out hb)
        clear hb
        go_wp2_with fail
        go_ret
        exact ⟨rfl, HB5.out⟩
      · obtain ⟨kk, rfl⟩ : ∃ kk : Nat, at' = kk := ⟨at'.toNat, by omega⟩
        obtain ⟨j, hj⟩ : ∃ j, j = kk % cl := ⟨_, rfl⟩
        have hjl : j < cl := by rw [hj]; exact Nat.mod_lt _ hcl0
        have q1 : (kk : Int) % (cl : Int) = (j : Int) := by rw [hj]; simp
        have q2 : ((cl : Int) == 0) = false := by simp; omega
        have hccle : cl ≤ cc := HC4.out.le
        have hcc63 := HC4.out.cap63
        clear hj
        go_wp2_with (first
          | (at_builtin; refine wpList_append_rd rfl (.const (.slice none 0 0)) (.tmp 46) 41 rfl 5 .u8 w4.heap.size 1 Try.underlying41 infoU8 _ [] rfl (Own.nil _ _ _ _) co cl cc cs rfl HC4.out (by simp; omega) (by simp; omega) (Nat.le_refl _) ?_; intro v5 w5 o5 b5 k5; clear k5; rw [List.nil_append] at o5; obtain ⟨g, dc, rfl, hg, hdc, hdc63⟩ := o5.form (by rw [← HCL.out]; exact hcl0); rw [← HCL.out] at o5 hdc ⊢; obtain ⟨hcell, hfro, hz1, hglt, hz2⟩ := o5.cell j (by rw [← HCL.out]; exact hjl); obtain ⟨x, hx⟩ : ∃ x, x = cs.getD j 0 := ⟨_, rfl⟩; rw [← hx] at hcell; clear hz1 hz2 hx; obtain ⟨z, hz⟩ : ∃ z, bits BinOp.xor IntKind.u8 x y = z := ⟨_, rfl⟩; have HWZ : Hid ((Lit.int .u8 z).wf = true) := hid (by rw [← hz]; exact wf_bits _ _ _ _); have HO5 := hid o5; have HB5 := hid b5; clear o5 b5)
          | fail)
        have HB6 := hid (Bl.set HB5.out (p := ⟨g, j, none⟩) hg (.int .u8 z))
        have HD6 := hid ((HO5.out.set j z HWZ.out).rdAt)
        have HC6 := hid (HC4.out.below HB6.out)
        clear hcell hfro HO5 HB5 HC4 hz
        generalize w5.setCell ⟨g, j, none⟩ (.int .u8 z) = w6 at HB6 HD6 HC6 ⊢
        have HBB6 := hid (Bl.step HB4.out HB6.out)
        refine (tells6_to co cl cc cs w6 HC6.out).mono ?_
        rintro e w7 ⟨rfl, hb⟩
        have HC7 := hid (HC6.out.below hb)
        have HD7 := hid (HD6.out.below hb)
        have HB7 := hid (Bl.step HBB6.out hb)
        clear hb HC6 HD6 HBB6 HB6 HB4
        go_wp2_with fail
        refine (tells6_to _ cl dc (cs.set j z) w7 HD7.out).mono ?_
        rintro e w8 ⟨rfl, hb⟩
        have HC8 := hid (HC7.out.below hb)
        have HB8 := hid (Bl.step HB7.out hb)
        have hcut := run_cut_h 41 elem_b size_b co cl cc ((kk : Int) % (cl : Int)) j q1 (by omega)
        clear hb HC7 HD7 HB7
        go_wp2_with fail
        refine (tells6_to co j cc (cs.take j) w8 (HC8.out.upto (by omega))).mono ?_
        rintro e w9 ⟨rfl, hb⟩
        have HB9 := hid (Bl.step HB8.out hb)
        clear hb
        go_wp2_with fail
        go_ret
        exact ⟨rfl, HB9.out⟩
end Go.Proofs.Ytfambbpggodlkaa
