/- state's laws: StateAny's walk, over StSpec. Written by gen_stany.py. -/
import Derived.Test.YtnbegmlbkjjggaaStT
import Derived.Test.YtnbegmlbkjjggaaShort
namespace Go.Proofs.Ytnbegmlbkjjggaa
open Go.RowKit
set_option linter.unusedVariables false

theorem infoU8 : (Try.prog.info? 5).map (fun i => (i.zero, i.size, i.bytes)) = some (some (.int .u8 0), 1, 1) := by kernel_rfl
theorem elem_b : Try.prog.underlying 28 = some (.slice (Try.prog.elem 28)) := by kernel_rfl
theorem size_b (w : World) : (sizeOf (Try.prog.elem 28)).run Try.prog w = .ok 1 w := by kernel_rfl
theorem Own.rdAt {E : TypeId} {k : IntKind} {base : Nat} {w : World} {g n cap : Nat} {xs : List Int} (h : Own E k base w (.slice (some ⟨g, 0, none⟩) n cap) xs) : Rd k w (some ⟨g, 0, none⟩) n cap xs := by
  obtain ⟨ao, c, he, hr⟩ := h.rd
  injection he with h1 h2 h3
  subst h1 h2 h3
  exact hr
/-- A guarded operation that is wanted goes as one without a guard. -/
theorem wpList_wanted {P : Program} {ops : Array Oper} {Q : Exit → Act → World → Prop} {a : Act} {w : World} {rest : List Oper} {o : Oper} (hw : Region.wanted o (yielded ops a.tmps) = true) (h : wpList P ops Q ({ o with guard := none } :: rest) a w) : wpList P ops Q (o :: rest) a w := by
  cases o with
  | mk d pos after guard op ty =>
  unfold wpList at h ⊢
  rw [if_pos hw]
  rw [if_pos (by rfl)] at h
  exact h
/-- A state value whose rows lie in blocks from B on. -/
def IsStB (B : Nat) (S : St) : Value → World → Prop := fun v w => ∃ V : SV, v = .agg (V.cells S).toArray ∧ Bx (fun b => B ≤ b ∧ b < w.heap.size) w (StR V S)
theorem Stays.stb (B : Nat) (S : St) : Stays (IsStB B S) := fun _ _ _ ⟨V, e, h⟩ hb => ⟨V, e, h.bel hb⟩

set_option maxRecDepth 100000 in
set_option maxHeartbeats 8000000 in
theorem stateAny_walk (X : StSpec) (bo : Option Addr) (m bc : Nat) (bs : List Int) (V : SV) (S : St) (at' y : Int) (w : World) (hbs : Rd .u8 w bo m bc bs) (hst : StR V S w) (hat : -9223372036854775808 ≤ at' ∧ at' ≤ 9223372036854775807) (hy : (Lit.int .u8 y).wf = true) :
    Calls Try.prog 4 #[.slice bo m bc, .agg (V.cells S).toArray, .int .i64 at', .int .u8 y] w fun e w' => e = .returned (.bool true) ∧ Below w.heap.size w w' := by
  obtain ⟨vo, vn, vc, fo, fn, fc⟩ := V
  obtain ⟨vs, fs, sa⟩ := S
  simp only [SV.cells]
  obtain ⟨m2, hm2⟩ : ∃ m2, m2 = min m 60 := ⟨_, rfl⟩
  have HSH := hid (short_any bo m bc 60 · hbs.le hbs.cap63 (by omega))
  have HH := hid (hbs.short 60)
  rw [← hm2] at HSH HH
  have hm8 : m2 ≤ 60 := by omega
  have HWY := hid hy
  obtain ⟨w0, hw0⟩ : ∃ w0, w.alloc (.cells #[.slice vo vn vc, .slice fo fn fc, .int .i64 sa] 25) = w0 := ⟨_, rfl⟩
  obtain ⟨p, hp⟩ : ∃ p, w.heap.size = p := ⟨_, rfl⟩
  have hb0 : Below w.heap.size w w0 := by rw [← hw0]; exact Bl.alloc (Bl.refl _) _
  have hx0 : Cel w0 p [.slice vo vn vc, .slice fo fn fc, .int .i64 sa] := by rw [← hw0, ← hp]; exact Cel.new w [.slice vo vn vc, .slice fo fn fc, .int .i64 sa] 25
  have hz0 : w0.heap.size = p + 1 := by rw [← hw0]; simp [hp]
  have hs0 := hst.below hb0
  have HX0 := hid hx0; have HZ0 := hid hz0; have HW0 := hid hw0; have HP := hid hp; have HBB := hid hb0; have HS0 := hid hs0
  have HPP : Hid (w.heap.size ≤ p) := hid (Nat.le_of_eq hp)
  clear hbs hst hb0 hx0 hz0 hs0 hw0 hp hm2 hy
  go_enter Try.func4, Try.ntmps4
  go_wp2_with fail
  rw [HW0.out]
  refine (begun_to X w0).mono ?_
  rintro e wb ⟨rfl, hb⟩
  have HCS := hid (HX0.out.below (Nat.succ_pos _) hb)
  have HST := hid (HS0.out.below hb)
  have HB0 := hid (Bl.step HBB.out hb)
  have HPW : Hid (p + 1 ≤ wb.heap.size) := hid (by have := hb.size; rw [HZ0.out] at this; exact this)
  clear hb HX0 HS0 HBB HW0 HZ0
  go_wp2_with fail
  try rw [HP.out]
  refine wp_region_below_tail 4 (by kernel_rfl) [Is (.slice bo m bc), Is (.slice bo m2 bc), Is (.agg #[.slice vo vn vc, .slice fo fn fc, .int .i64 sa]), IsStB (p + 1) (cutS ⟨vs, fs, sa⟩)] _ rfl (by kernel_rfl) rfl (by kernel_rfl) ?hopA ?hstA ?hendA
  case hopA =>
    refine ⟨rq _ _ _ [(0, .slice bo m bc)] ⟨⟨by kernel_rfl, rfl⟩, trivial⟩ ?_, ?_⟩
    · intro a w1 hC e0
      refine Or.inl ⟨.slice bo m bc, ?_, rfl⟩
      go_simp
    refine ⟨rq _ _ _ [] trivial ?_, ?_⟩
    · intro a w1 hC  (h0 : a.tmps.getD 16 undef = _)
      refine Or.inr (Or.inl ⟨16, #[.slice bo m bc, .int .i64 60], ?_, ?_⟩)
      · go_simp
      · refine (HSH.out w1).mono ?_
        rintro e w2 ⟨rfl, rfl⟩
        exact ⟨_, rfl, rfl, Below.refl _ _⟩
    refine ⟨rq _ _ _ [(5, .pointer (some ⟨p, 0, none⟩))] ⟨⟨by kernel_rfl, rfl⟩, trivial⟩ ?_, ?_⟩
    · intro a w1 hC e5
      refine Or.inl ⟨.agg #[.slice vo vn vc, .slice fo fn fc, .int .i64 sa], ?_, rfl⟩
      have f0 := (HCS.out.below (Nat.succ_pos _) hC).cell 0 _ rfl
      have f1 := (HCS.out.below (Nat.succ_pos _) hC).cell 1 _ rfl
      have f2 := (HCS.out.below (Nat.succ_pos _) hC).cell 2 _ rfl
      go_simp
    refine ⟨rq _ _ _ [] trivial ?_, ?_⟩
    · intro a w1 hC  (h2 : a.tmps.getD 18 undef = _) (h1 : a.tmps.getD 17 undef = _)
      refine Or.inr (Or.inl ⟨9, #[.agg #[.slice vo vn vc, .slice fo fn fc, .int .i64 sa]], ?_, ?_⟩)
      · go_simp
      · refine (cut_to ⟨vo, vn, vc, fo, fn, fc⟩ ⟨vs, fs, sa⟩ w1 (HST.out.below hC)).mono ?_
        rintro e w2 ⟨V', rfl, hbx, hbel⟩
        exact ⟨_, rfl, ⟨V', rfl, hbx.more fun b hb => ⟨by have := hC.size; have := HPW.out; omega, hb.2⟩⟩, hbel⟩
    exact trivial
  case hstA => repeat (first | exact trivial | refine ⟨Stays.is _, ?_⟩ | refine ⟨Stays.stb _ _, ?_⟩)
  case hendA =>
    intro w1 hC
    rintro _ rfl _ rfl _ rfl
    intro x3 h3
    obtain ⟨⟨xo, xn, xc, yo, yn, yc⟩, rfl, hbx⟩ := h3
    simp only [SV.cells]
    have hp1 : p < w1.heap.size := by have := hC.size; have := HPW.out; omega
    have hcs := HCS.out.below (Nat.succ_pos _) hC
    obtain ⟨w2, hw2⟩ : ∃ w2, (((w1.setCell ⟨p, 0, none⟩ (.slice xo xn xc)).setCell ⟨p, 1, none⟩ (.slice yo yn yc)).setCell ⟨p, 2, none⟩ (.int .i64 (cutS ⟨vs, fs, sa⟩).asks)) = w2 := ⟨_, rfl⟩
    have hg : w1.grownBy w2 (some p) := by rw [← hw2]; exact gr_set (gr_set (gr_set (gr_refl _ _) 0 _) 1 _) 2 _
    have HC2 : Hid (Cel w2 p [.slice xo xn xc, .slice yo yn yc, .int .i64 (cutS ⟨vs, fs, sa⟩).asks]) := hid (hw2 ▸ ((hcs.set 0 (.slice xo xn xc) (by simp)).set 1 (.slice yo yn yc) (by simp)).set 2 (.int .i64 (cutS ⟨vs, fs, sa⟩).asks) (by simp))
    have HX2 : Hid (StR ⟨xo, xn, xc, yo, yn, yc⟩ (cutS ⟨vs, fs, sa⟩) w2) := hid (hbx w2 fun b hb => hg.block b hb.2 (fun e => by have e2 : b = p := (by simpa using e); omega))
    have HB2 : Hid (Below w.heap.size w w2) := hid (gr_blK (HB0.out.trans (hC.mono HB0.out.size)) hg (Nat.le_trans HB0.out.size hC.size) HPP.out)
    have HW2 := hid hw2
    have a0 := hcs.cell 0 _ rfl
    have a1 := hcs.cell 1 _ rfl
    have a2 := hcs.cell 2 _ rfl
    have fa0 := hcs.fro 0 _ rfl
    have fa1 := hcs.fro 1 _ rfl
    have fa2 := hcs.fro 2 _ rfl
    have HH2 := hid (HH.out.below HB2.out)
    clear hbx hcs hw2 hg hC
    simp only [Ends, Act.put, List.setIfInBounds_toArray, List.set_cons_succ, List.set_cons_zero, List.drop_succ_cons, List.drop_zero]
    go_upto_region 5 with fail
    clear a0 a1 a2 fa0 fa1 fa2 hp1
    rw [HW2.out]
    clear HW2
    obtain ⟨S2, hS2⟩ : ∃ S2, cutS ⟨vs, fs, sa⟩ = S2 := ⟨_, rfl⟩
    rw [hS2] at HC2 HX2 ⊢
    clear hS2
    go_wp2_with fail
    refine (tells_to X bo m2 bc (bs.take m2) w2 HH2.out (by omega)).mono ?_
    rintro e w3 ⟨rfl, hb⟩
    have HX3 := hid (HX2.out.below hb)
    have HC3 := hid (HC2.out.below (Nat.succ_pos _) hb)
    have HB3 := hid (Bl.step HB2.out hb)
    clear hb HX2 HC2 HB2 HH2
    have a0 := HC3.out.cell 0 _ rfl
    have a1 := HC3.out.cell 1 _ rfl
    have a2 := HC3.out.cell 2 _ rfl
    go_wp2_with fail
    refine (X.enc_to ⟨xo, xn, xc, yo, yn, yc⟩ S2 w3 HX3.out).mono ?_
    rintro e w4 ⟨v, rfl, hown, hb⟩
    have hlen := X.len S2 HX3.out.wf
    obtain ⟨co, cc, rfl, hrc⟩ := hown.rd
    obtain ⟨cs, hcs⟩ : ∃ cs, X.enc S2 = cs := ⟨_, rfl⟩
    obtain ⟨cl, hcl⟩ : ∃ cl, cs.length = cl := ⟨_, rfl⟩
    rw [hcs] at hrc hlen ⊢
    rw [hcl] at hrc hlen ⊢
    have HC4 := hid hrc
    have HX4 := hid (HX3.out.below hb)
    have HCC4 := hid (HC3.out.below (Nat.succ_pos _) hb)
    have HB4 := hid (Bl.step HB3.out hb)
    have HCL := hid hcl
    have HCS2 := hid hcs
    have hw63 := HC4.out.cap63
    have hcle := HC4.out.le
    clear a0 a1 a2 hown hb hrc hcs hcl HX3 HC3 HB3
    by_cases hz : cl = 0
    · subst hz
      have hmy : mayS S2 = false := by
        cases hm : mayS S2 with
        | false => rfl
        | true =>
          have h1 := (X.good S2 HX4.out.wf hm).1
          rw [HCS2.out] at h1
          exact absurd (List.eq_nil_of_length_eq_zero HCL.out) h1
      have a0 := HCC4.out.cell 0 _ rfl
      have a1 := HCC4.out.cell 1 _ rfl
      have a2 := HCC4.out.cell 2 _ rfl
      go_wp2_with fail
      refine (may_to ⟨xo, xn, xc, yo, yn, yc⟩ S2 false hmy w4 HX4.out).mono ?_
      rintro e w5 ⟨rfl, hb⟩
      have HB5 := hid (Bl.step HB4.out hb)
      clear hb a0 a1 a2
      go_wp2_with fail
      go_ret
      exact ⟨rfl, HB5.out⟩
    have hz0 : 0 < cl := by omega
    by_cases hneg : at' < 0
    · obtain ⟨t, ht⟩ : ∃ t, mayS S2 = t := ⟨_, rfl⟩
      have HMT := hid (may_to ⟨xo, xn, xc, yo, yn, yc⟩ S2 t ht w4 HX4.out)
      clear ht
      have a0 := HCC4.out.cell 0 _ rfl
      have a1 := HCC4.out.cell 1 _ rfl
      have a2 := HCC4.out.cell 2 _ rfl
      have hzi : ((cl : Int) == 0) = false := by simp; omega
      go_wp2_with fail
      refine HMT.out.mono ?_
      rintro e w5 ⟨rfl, hb⟩
      have HB5 := hid (Bl.step HB4.out hb)
      clear hb a0 a1 a2 HMT
      cases t
      all_goals
        go_wp2_with fail
        go_ret
        exact ⟨rfl, HB5.out⟩
    · obtain ⟨kk, rfl⟩ : ∃ kk : Nat, at' = kk := ⟨at'.toNat, by omega⟩
      obtain ⟨j, hj⟩ : ∃ j, j = kk % cl := ⟨_, rfl⟩
      have hjl : j < cl := by rw [hj]; exact Nat.mod_lt _ hz0
      have q1 : (kk : Int) % (cl : Int) = (j : Int) := by rw [hj]; simp
      have q2 : ((cl : Int) == 0) = false := by simp; omega
      clear hj
      go_wp2_with (first
        | (at_builtin; refine wpList_append_rd rfl (.const (.slice none 0 0)) (.tmp 39) 28 rfl 5 .u8 w4.heap.size 1 Try.underlying28 infoU8 _ [] rfl (Own.nil _ _ _ _) co cl cc cs rfl HC4.out (by simp; omega) (by simp; omega) (Nat.le_refl _) ?_; intro v5 w5 o5 b5 k5; clear k5; rw [List.nil_append] at o5; obtain ⟨g, dc, rfl, hg, hdc, hdc63⟩ := o5.form (by rw [HCL.out]; exact hz0); rw [HCL.out] at o5 hdc ⊢; obtain ⟨hcell, hfro, hz1, hglt, hz2⟩ := o5.cell j (by rw [HCL.out]; exact hjl); obtain ⟨x, hx⟩ : ∃ x, x = cs.getD j 0 := ⟨_, rfl⟩; rw [← hx] at hcell; clear hz1 hz2 hx; obtain ⟨z, hz⟩ : ∃ z, bits BinOp.xor IntKind.u8 x y = z := ⟨_, rfl⟩; have HWZ : Hid ((Lit.int .u8 z).wf = true) := hid (by rw [← hz]; exact wf_bits _ _ _ _); have HO5 := hid o5; have HB5 := hid b5; clear o5 b5)
        | fail)
      have HB6 := hid (Bl.set HB5.out (p := ⟨g, j, none⟩) hg (.int .u8 z))
      have HD6 := hid (HO5.out.set j z HWZ.out)
      clear hcell hfro HO5 HB5 HC4 hz
      generalize w5.setCell ⟨g, j, none⟩ (.int .u8 z) = w6 at HB6 HD6 ⊢
      have HBB6 := hid (Bl.step HB4.out HB6.out)
      have HDL : Hid ((cs.set j z).length = cl) := hid (by rw [List.length_set, HCL.out])
      refine (tells_to X _ cl dc (cs.set j z) w6 HD6.out.rdAt (by omega)).mono ?_
      rintro e w7 ⟨rfl, hb⟩
      have HD7 := hid (HD6.out.below hb (Nat.le_refl _))
      have HB7 := hid (Bl.step HBB6.out hb)
      have hs7 := HB6.out.size
      have hs8 := hb.size
      have hcut := run_cut_h 28 elem_b size_b (some ⟨g, 0, none⟩) cl dc ((kk : Int) % (cl : Int)) j q1 (by omega)
      have hs4 := HB4.out.size
      clear hb HD6 HBB6 HB6 HB4
      go_wp2_with fail
      refine (tells_to X _ j dc ((cs.set j z).take j) w7 (HD7.out.rdAt.upto (by omega)) (by omega)).mono ?_
      rintro e w8 ⟨rfl, hb⟩
      have HD8 := hid (HD7.out.below hb (Nat.le_refl _))
      have HB8 := hid (Bl.step HB7.out hb)
      have hs9 := hb.size
      clear hb HD7 HB7 hcut
      go_wp2_with (first
        | (at_builtin; refine wpList_wanted (by rfl) ?_; refine wpList_append_rd rfl (.tmp 61) (.tmp 63) 28 rfl 5 .u8 w4.heap.size 1 Try.underlying28 infoU8 _ (cs.set j z) rfl (HD8.out.below (Bl.alloc (Bl.refl _) _) (Nat.le_refl _)) (some ⟨w8.heap.size, 0, none⟩) 1 1 [y] rfl (Rd.built w8 .u8 5 y HWY.out) (by have := HDL.out; omega) (by have := HDL.out; omega) (by simp; omega) ?_; intro v9 w9 o9 b9 k9; clear k9; have HD9 := hid o9; have HB9 := hid ((HB8.out.trans ((Bl.alloc (Bl.refl w8) (.cells #[.int .u8 y] 5)).mono HB8.out.size)).trans (b9.mono hs4)); clear o9 b9)
        | fail)
      have hl9 : (cs.set j z ++ [y]).length ≤ 1000002 := by have := HDL.out; simp at this ⊢; omega
      obtain ⟨o9, c9, rfl, hrd⟩ := HD9.out.rd
      refine (tells_to X _ _ _ _ w9 hrd hl9).mono ?_
      rintro e wz ⟨rfl, hb⟩
      have HBZ := hid (Bl.step HB9.out hb)
      clear hb hrd hl9
      go_wp2_with fail
      go_ret
      exact ⟨rfl, HBZ.out⟩
end Go.Proofs.Ytnbegmlbkjjggaa
