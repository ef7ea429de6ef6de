/- InstrAny: the walk. -/
import Derived.Test.YtapgiadenkflhaaInsOpsLaw
namespace Go.Proofs.Ytapgiadenkflhaa
open Go.RowKit

/-- What a region's operation yields: an instruction with a list of the call's own. -/
def IsIns (base : Nat) (op p q : Int) (l : List Int) : Value → World → Prop := fun v w => ∃ lo ln lc, v = iv op p q lo ln lc ∧ Own 3 .i64 base w (.slice lo ln lc) l
theorem Stays.ins (base : Nat) (op p q : Int) (l : List Int) : Stays (IsIns base op p q l) := fun _ _ _ ⟨lo, ln, lc, e, h⟩ hb => ⟨lo, ln, lc, e, h.below hb (Nat.le_refl _)⟩

set_option maxHeartbeats 2000000 in
theorem instrAny_walk (bo : Option Addr) (m bc : Nat) (bs : List Int) (op p q : Int) (ao : Option Addr) (n cap : Nat) (l : List Int) (k y : Int) (w : World) (hbs : Rd .u8 w bo m bc bs) (hl : Rd .i64 w ao n cap l) (hp : -9223372036854775808 ≤ p ∧ p ≤ 9223372036854775807) (hk : -9223372036854775808 ≤ k ∧ k ≤ 9223372036854775807) :
    Calls Try.prog 4 #[.slice bo m bc, iv op p q ao n cap, .int .i64 k, .int .u8 y] w fun e w' => e = .returned (.bool true) ∧ Below w.heap.size w w' := by
  have hcap := hbs.cap63
  have hle := hbs.le
  have Hbs := hid hbs
  have Hl := hid hl
  clear hbs hl
  go_enter Try.func4, Try.ntmps4
  go_wp2_with fail
  refine (begun_to _).mono ?_
  rintro e w0 ⟨rfl, hb⟩
  have HB1 := hid (Bl.step (Bl.alloc (Bl.refl w) _) hb)
  have HQ1 := hid ((Quad.new w (.int .i64 op) (.int .i64 p) (.int .i64 q) (.slice ao n cap) 24).below hb)
  have HX1 := hid ((Box4.new w op p q ao n cap 24).below hb)
  have HL1 := hid (Hl.out.below HB1.out)
  obtain ⟨B, hB⟩ : ∃ B, B = w0.heap.size := ⟨_, rfl⟩
  have hBB : B ≤ w0.heap.size := by omega
  have hxB : w.heap.size < B := by rw [hB]; exact HQ1.out.lt
  clear hb hB
  go_wp2_with fail
  refine wp_region_below_tail 4 (by kernel_rfl) [Is (.slice bo m bc), Is (.slice bo (min m 30) bc), Is (iv op p q ao n cap), IsIns B op p q (l.take 55)] [0, 1, 2, 3] rfl (by kernel_rfl) rfl (by kernel_rfl) ?hopA ?hstA ?hendA
  case hopA =>
    refine ⟨⟨⟨_, _, _, _, _, _⟩, _, Is (.slice bo m bc), none, [], [(0, .slice bo m bc)], rfl, rfl, rfl, rfl, rfl, ⟨⟨by kernel_rfl, rfl⟩, trivial⟩, ?_⟩, ?_⟩
    · intro a w1 hC e0
      refine Or.inl ⟨.slice bo m bc, ?_, rfl⟩
      go_simp
    refine ⟨⟨⟨_, _, _, _, _, _⟩, _, Is (.slice bo (min m 30) bc), none, [(some 15, Is (.slice bo m bc))], [], rfl, rfl, rfl, rfl, rfl, trivial, ?_⟩, ?_⟩
    · intro a w1 hC  (h0 : a.tmps.getD 15 undef = _)
      refine Or.inr (Or.inl ⟨10, #[.slice bo m bc, .int .i64 30], ?_, ?_⟩)
      · go_simp
      · refine (short_any bo m bc 30 w1 hle hcap (by decide)).mono ?_
        rintro e w2 ⟨rfl, rfl⟩
        exact ⟨_, rfl, rfl, Below.refl _ _⟩
    refine ⟨⟨⟨_, _, _, _, _, _⟩, _, Is (iv op p q ao n cap), none, [], [(5, .pointer (some ⟨w.heap.size, 0, none⟩))], rfl, rfl, rfl, rfl, rfl, ⟨⟨by kernel_rfl, rfl⟩, trivial⟩, ?_⟩, ?_⟩
    · intro a w1 hC e5
      refine Or.inl ⟨iv op p q ao n cap, ?_, rfl⟩
      obtain ⟨hcw0, hcw1, hcw2, hcw3⟩ := HX1.out.below hC
      go_simp
    refine ⟨⟨⟨_, _, _, _, _, _⟩, _, IsIns B op p q (l.take 55), none, [(some 17, Is (iv op p q ao n cap)), (some 16, Is (.slice bo (min m 30) bc))], [], rfl, rfl, rfl, rfl, rfl, trivial, ?_⟩, ?_⟩
    · intro a w1 hC  (h2 : a.tmps.getD 17 undef = _) (h1 : a.tmps.getD 16 undef = _)
      refine Or.inr (Or.inl ⟨9, #[iv op p q ao n cap], ?_, ?_⟩)
      · go_simp
      · refine (cut_to op p q ao n cap l w1 (HL1.out.below hC)).mono ?_
        rintro e w2 ⟨lo, ln, lc, rfl, hown, hb⟩
        exact ⟨_, rfl, ⟨lo, ln, lc, rfl, hown.lift (Nat.le_trans hBB hC.size)⟩, hb⟩
    exact trivial
  case hstA => exact ⟨Stays.is _, Stays.is _, Stays.is _, Stays.ins _ _ _ _ _, trivial⟩
  case hendA =>
    intro w1 hC
    rintro _ rfl
    rintro _ rfl
    rintro _ rfl
    intro x3 h3
    obtain ⟨lo, ln, lc, rfl, hown⟩ := h3
    simp only [Ends, Act.put, List.setIfInBounds_toArray, List.set_cons_succ, List.set_cons_zero, List.drop_succ_cons, List.drop_zero]
    have hQ := HQ1.out.below hC
    have HB2 := hid (HB1.out.trans (hC.mono HB1.out.size))
    have hlx := hQ.lt
    obtain ⟨c0, c1, c2, c3, f0, f1, f2, f3⟩ := hQ
    have hQ := HQ1.out.below hC
    clear hC
    obtain ⟨w3, hw3⟩ : ∃ w3, w3 = (((w1.setCell ⟨w.heap.size, 0, none⟩ (.int .i64 op)).setCell ⟨w.heap.size, 1, none⟩ (.int .i64 p)).setCell ⟨w.heap.size, 2, none⟩ (.int .i64 q)).setCell ⟨w.heap.size, 3, none⟩ (.slice lo ln lc) := ⟨_, rfl⟩
    have hQ3 := hQ.setAll (.int .i64 op) (.int .i64 p) (.int .i64 q) (.slice lo ln lc)
    rw [← hw3] at hQ3
    have HX3 : Hid (Box4 w3 w.heap.size op p q lo ln lc) := hid ⟨hQ3.c0, hQ3.c1, hQ3.c2, hQ3.c3⟩
    have HL3 : Hid (Rd .i64 w3 lo ln lc (l.take 55)) := hid (by rw [hw3]; exact (((((hown.mv (Mv.set w.heap.size 0 _ _) hxB).mv (Mv.set w.heap.size 1 _ _) hxB).mv (Mv.set w.heap.size 2 _ _) hxB).mv (Mv.set w.heap.size 3 _ _) hxB)).rdAt)
    have HB3 : Hid (Below w.heap.size w w3) := hid (by rw [hw3]; exact Bl.set (Bl.set (Bl.set (Bl.set HB2.out (Nat.le_refl _) _) (Nat.le_refl _) _) (Nat.le_refl _) _) (Nat.le_refl _) _)
    have HW3 := hid hw3
    clear hown hQ hQ3 hw3 HQ1 HX1 HL1 HB1 HB2
    obtain ⟨l2, hl2⟩ : ∃ l2, l2 = l.take 55 := ⟨_, rfl⟩
    rw [← hl2] at HL3
    clear hl2
    obtain ⟨bs2, hbs2⟩ : ∃ bs2, bs2 = bs.take (min m 30) := ⟨_, rfl⟩
    obtain ⟨m2, hm2⟩ : ∃ m2, m2 = min m 30 := ⟨_, rfl⟩
    have Hbs3 := hid ((Hbs.out.below HB3.out).short 30)
    rw [← hbs2, ← hm2] at Hbs3
    have hm30 : m2 ≤ 30 := by omega
    have HM2 := hid hm2
    have HBS2 := hid hbs2
    clear hbs2 hm2
    go_wp2_with fail
    rw [← HW3.out, ← HM2.out]
    refine (tells_to bo m2 bc bs2 _ Hbs3.out).mono ?_
    rintro e w4 ⟨rfl, hb⟩
    have HX4 := hid (HX3.out.below hb)
    have HL4 := hid (HL3.out.below hb)
    have HB4 := hid (Bl.step HB3.out hb)
    have Hbs4 := hid (Hbs3.out.below hb)
    clear hb HX3 HL3 HB3 Hbs3 HW3 c0 c1 c2 c3 f0 f1 f2 f3 hlx
    obtain ⟨t, ht⟩ : ∃ t, mayI op p q l2 = t := ⟨_, rfl⟩
    have HT := hid ht
    clear ht
    obtain ⟨c0, c1, c2, c3⟩ := HX4.out
    go_wp2_with fail
    refine (mayInstr_to op p q lo ln lc l2 t HT.out _ HL4.out).mono ?_
    rintro e w5 ⟨rfl, hb⟩
    have HX5 := hid (HX4.out.below hb)
    have HL5 := hid (HL4.out.below hb)
    have HB5 := hid (Bl.step HB4.out hb)
    have Hbs5 := hid (Hbs4.out.below hb)
    clear hb HX4 HL4 HB4 Hbs4 c0 c1 c2 c3
    cases t
    · go_wp2_with fail
      go_ret
      exact ⟨rfl, HB5.out⟩
    by_cases hk0 : k < 0
    · go_wp2_with fail
      go_ret
      exact ⟨rfl, HB5.out⟩
    obtain ⟨kk, rfl⟩ : ∃ kk : Nat, k = kk := ⟨k.toNat, by omega⟩
    have hop := may_op HT.out
    obtain ⟨c0, c1, c2, c3⟩ := HX5.out
    go_wp2_with fail
    refine (refPut_to op p q lo ln lc l2 _ HT.out hp HL5.out).mono ?_
    rintro e w6 ⟨v, rfl, hv, hb⟩
    have HB6 := hid (Bl.step HB5.out hb)
    have Hbs6 := hid (Hbs5.out.below hb)
    have hlt : (encI op p q l2).length ≤ 20001 := by
      have := tailI_len (sh op) p q l2 (Nat.le_trans (may_len HT.out) (by decide))
      simp [encI]
      omega
    have hpos : 0 < (encI op p q l2).length := by simp [encI]
    obtain ⟨g, cc, rfl, hg, hcc, hcc63⟩ := hv.form hpos
    have hv6 := hv.lift (base' := w.heap.size) HB5.out.size
    have hgw : w.heap.size ≤ g := Nat.le_trans HB5.out.size hg
    clear hb hv HX5 HL5 HB5 Hbs5 c0 c1 c2 c3
    obtain ⟨cs, hcs⟩ : ∃ cs, cs = encI op p q l2 := ⟨_, rfl⟩
    rw [← hcs] at hlt hpos hcc hv6 ⊢
    obtain ⟨cl, hcl⟩ : ∃ cl, cl = cs.length := ⟨_, rfl⟩
    rw [← hcl] at hlt hpos hcc hv6 ⊢
    obtain ⟨j, hj⟩ : ∃ j, j = kk % cl := ⟨_, rfl⟩
    have hjl : j < cl := by rw [hj]; exact Nat.mod_lt _ hpos
    have q1 : (kk : Int) % (cl : Int) = (j : Int) := by rw [hj]; simp
    have q2 : ((cl : Int) == 0) = false := by simp; omega
    obtain ⟨hcell, hfro, hzz1, hglt, hzz2⟩ := hv6.cell j (by omega)
    clear hzz1 hzz2
    obtain ⟨x, hx⟩ : ∃ x, x = cs.getD j 0 := ⟨_, rfl⟩
    rw [← hx] at hcell
    obtain ⟨z, hz⟩ : ∃ z, bits BinOp.xor IntKind.u8 x y = z := ⟨_, rfl⟩
    have hwz : (Lit.int .u8 z).wf = true := by rw [← hz]; exact wf_bits _ _ _ _
    have HV6 := hid hv6
    have HCL := hid hcl
    have HWZ := hid hwz
    have hcl63 : (cl : Int) ≤ 20001 := by omega
    have hn0 : ¬ ((kk : Int) < 0) := by omega
    have hjc : (j : Int) < (cl : Int) := by omega
    clear hx hwz hcl hcs hj hv6 hk0
    go_wp2_with fail
    have HV7 := hid (HV6.out.set j z HWZ.out)
    have HB7 := hid (Bl.set HB6.out (p := ⟨g, j, none⟩) hgw (.int .u8 z))
    have Hbs7 : Hid (Rd .u8 (w6.setCell ⟨g, j, none⟩ (.int .u8 z)) bo m2 bc bs2) := hid ((Hbs.out.below HB7.out).short 30 |> fun h => by rw [← HBS2.out, ← HM2.out] at h; exact h)
    generalize w6.setCell ⟨g, j, none⟩ (.int .u8 z) = w7 at HV7 HB7 Hbs7 ⊢
    have hsl : (cs.set j z).length = cl := by rw [List.length_set]; exact HCL.out.symm
    obtain ⟨ds, hds⟩ : ∃ ds, ds = cs.set j z := ⟨_, rfl⟩
    rw [← hds] at HV7 hsl
    have HSL := hid hsl
    clear hds hsl hcell hfro hz HV6 HB6 Hbs6 HCL
    have hr7 := HV7.out.rdAt
    refine (tells_to _ cl cc ds _ hr7).mono ?_
    rintro e w8 ⟨rfl, hb⟩
    have HV8 := hid (HV7.out.below hb (Nat.le_refl _))
    have HB8 := hid (Bl.step HB7.out hb)
    have Hbs8 := hid (Hbs7.out.below hb)
    have hcut := run_cut_h 25 elem_b size_b (some ⟨g, 0, none⟩) cl cc ((kk : Int) % (cl : Int)) j q1 (by omega)
    clear hb hr7 HV7 HB7 Hbs7
    go_wp2_with fail
    have hr8 := HV8.out.rdAt.upto (i := j) (by omega)
    refine (tells_to (some ⟨g, 0, none⟩) j cc (ds.take j) w8 hr8).mono ?_
    rintro e w9 ⟨rfl, hb⟩
    have HV9 := hid (HV8.out.below hb (Nat.le_refl _))
    have HB9 := hid (Bl.step HB8.out hb)
    have Hbs9 := hid (Hbs8.out.below hb)
    clear hb HV8 HB8 Hbs8 hcut hr8
    have hsz9 := HB9.out.size
    go_wp2_with (at_builtin; refine wpList_append_gd (by rfl) (.tmp 51) (.tmp 52) 25 rfl 5 .u8 w.heap.size 1 Try.underlying25 infoU8 _ ds rfl HV9.out bo m2 bc bs2 rfl Hbs9.out (by rw [HSL.out]; omega) (by rw [HSL.out]; omega) hsz9 ?_; intro v2 w10 o2 b2; obtain ⟨es, hes⟩ : ∃ es, es = ds ++ bs2 := ⟨_, rfl⟩; rw [← hes] at o2; clear hes; obtain ⟨ao5, cap5, rfl, hr5⟩ := o2.rd; have HR5 := hid hr5; have HB10 := hid (HB9.out.trans b2); clear o2 hr5 b2)
    refine (tells_to _ _ _ _ _ HR5.out).mono ?_
    rintro e w11 ⟨rfl, hb⟩
    have HB11 := hid (Bl.step HB10.out hb)
    clear hb
    go_wp2_with fail
    go_ret
    exact ⟨rfl, HB11.out⟩
end Go.Proofs.Ytapgiadenkflhaa
