/- diapauselaw6.tells. -/
import Derived.Test.YtfambbpggodlkaaCodeSome
import Derived.Test.YtfambbpggodlkaaCodePut
namespace Go.Proofs.Ytfambbpggodlkaa
open Go.RowKit

theorem getB_err {xs : List Int} (h : (getB xs).2.2 ≠ 0) : getB xs = ([], 0, (getB xs).2.2) := by
  unfold getB at h ⊢
  by_cases h0 : (readB 301 xs [] 0 0).2.2 = 0
  · rw [if_pos h0] at h ⊢
    by_cases h1 : (fits (opsI (readB 301 xs [] 0 0).1)).isSome = true
    · rw [if_pos h1] at h
      exact absurd h0 h
    · rw [if_neg h1]
  · rw [if_neg h0]

set_option maxRecDepth 100000 in
set_option maxHeartbeats 4000000 in
theorem tells6_to (bo : Option Addr) (m bc : Nat) (bs : List Int) (w : World) (hr : Rd .u8 w bo m bc bs) :
    Calls Try.prog 24 #[.slice bo m bc] w fun e w' => e = .returned (.bool true) ∧ Below w.heap.size w w' := by
  have HBS : Hid (Bs bs) := hid (fun x hx => bounds_u8 (hr.wf x hx))
  have hml : bs.length = m := hr.len
  have hmc := hr.le
  have hc63 := hr.cap63
  have Hr := hid hr
  have HML := hid hml
  clear hr hml
  obtain ⟨⟨l, n, er⟩, hg⟩ : ∃ r, getB bs = r := ⟨_, rfl⟩
  have hgt := getB_to bo m bc bs w Hr.out
  rw [hg] at hgt
  have HGT := hid hgt
  have HG := hid hg
  clear hg hgt
  by_cases he : er = 0
  · subst he
    obtain ⟨g1, g2, g3, g4⟩ := getB_ok HBS.out HG.out
    have hnm : n ≤ m := by rw [← HML.out]; exact g3
    have hnmi : (n : Int) ≤ m := by omega
    have HMAY := hid g2
    have HTK := hid g1
    have HFS := hid g4
    clear g1 g2 g3 g4
    go_enter Try.func24, Try.ntmps24
    go_wp2_with fail
    refine HGT.out.mono ?_
    rintro e w1 ⟨v, rfl, hown, hok, hlen, hb⟩
    simp only at hown hok hlen ⊢
    have HB1 := hid hb
    obtain ⟨lo, lc, rfl, hrl⟩ := hown.rd hok
    obtain ⟨ln, hln⟩ : ∃ ln, ln = l.length := ⟨_, rfl⟩
    rw [← hln] at hrl hlen ⊢
    have HL1 := hid hrl
    clear hown hok hb hrl hln HGT HG
    go_wp2_with fail
    refine (refMatch_to _ lo ln lc l w1 HL1.out (by omega)).mono ?_
    rintro e w2 ⟨v2, rfl, hv2, hb⟩
    obtain ⟨_, _, rfl, _, _, _⟩ := hv2.shape
    rw [HFS.out]
    have HL2 := hid (HL1.out.below hb)
    have HB2 := hid (Bl.step HB1.out hb)
    obtain ⟨es, hes⟩ : ∃ es, es = encMs l ++ [11] := ⟨_, rfl⟩
    have HES := hid hes
    have HP2 : Hid (Rd .u8 w2 bo n bc es) := hid (by
      have := (Hr.out.below HB2.out).upto (i := n) hnm
      rw [HTK.out, ← hes] at this
      exact this)
    obtain ⟨vb, hvb⟩ : ∃ vb, vb = (List.map (bkC 0) ((fits (opsI l)).getD [])).length := ⟨_, rfl⟩
    rw [← hvb]
    clear hv2 hb hes hvb HL1 HB1 HTK HFS
    go_wp2_with fail
    refine wp_region_below (by kernel_rfl) [Is (.bool true), Is (.bool true), Is (.int .i64 (n : Int)), Is (.slice bo m bc), Is (.int .i64 (m : Int)), Is (.bool true), Is (.bool true), Is (.bool true), Is (.slice lo ln lc), IsRd .u8 es, Is (.string (strOfNums es)), Is (.slice bo m bc), Is (.int .i64 (n : Int)), Is (.slice bo n bc), Is (.string (strOfNums es)), Is (.bool true), Is (.bool true), Is (.bool true)] [0, 1, 2, 3, 4, 5, 6, 7, 8, 9, 10, 11, 12, 13, 14, 15, 16, 17] rfl (by kernel_rfl) rfl ?hopA ?hstA ?hendA
    case hopA =>
      refine ⟨⟨⟨_, _, _, _, _, _⟩, _, Is (.bool true), none, [], [(7, .bool true)], rfl, rfl, rfl, rfl, rfl, ⟨⟨by kernel_rfl, rfl⟩, trivial⟩, ?_⟩, ?_⟩
      · intro a w1 hC e7
        refine Or.inl ⟨.bool true, ?_, rfl⟩
        go_simp
      refine ⟨⟨⟨_, _, _, _, _, _⟩, _, Is (.bool true), none, [(some 33, Is (.bool true))], [], rfl, rfl, rfl, rfl, rfl, trivial, ?_⟩, ?_⟩
      · intro a w1 hC  (h0 : a.tmps.getD 33 undef = _)
        refine Or.inl ⟨.bool true, ?_, rfl⟩
        go_simp
      refine ⟨⟨⟨_, _, _, _, _, _⟩, _, Is (.int .i64 (n : Int)), (some (some 34, true)), [(some 34, Is (.bool true))], [(4, .int .i64 (n : Int))], rfl, rfl, rfl, rfl, rfl, ⟨⟨by kernel_rfl, rfl⟩, trivial⟩, ?_⟩, ?_⟩
      · intro a w1 hC e4 (h1 : a.tmps.getD 34 undef = _)
        refine Or.inl ⟨h1, ?_⟩
        refine Or.inl ⟨.int .i64 (n : Int), ?_, rfl⟩
        go_simp
      refine ⟨⟨⟨_, _, _, _, _, _⟩, _, Is (.slice bo m bc), (some (some 34, true)), [(some 34, Is (.bool true))], [(0, .slice bo m bc)], rfl, rfl, rfl, rfl, rfl, ⟨⟨by kernel_rfl, rfl⟩, trivial⟩, ?_⟩, ?_⟩
      · intro a w1 hC e0 (h1 : a.tmps.getD 34 undef = _)
        refine Or.inl ⟨h1, ?_⟩
        refine Or.inl ⟨.slice bo m bc, ?_, rfl⟩
        go_simp
      refine ⟨⟨⟨_, _, _, _, _, _⟩, _, Is (.int .i64 (m : Int)), (some (some 34, true)), [(some 36, Is (.slice bo m bc)), (some 34, Is (.bool true))], [], rfl, rfl, rfl, rfl, rfl, trivial, ?_⟩, ?_⟩
      · intro a w1 hC  (h3 : a.tmps.getD 36 undef = _) (h1 : a.tmps.getD 34 undef = _)
        refine Or.inl ⟨h1, ?_⟩
        refine Or.inl ⟨.int .i64 (m : Int), ?_, rfl⟩
        go_simp
      refine ⟨⟨⟨_, _, _, _, _, _⟩, _, Is (.bool true), (some (some 34, true)), [(some 35, Is (.int .i64 (n : Int))), (some 37, Is (.int .i64 (m : Int))), (some 34, Is (.bool true))], [], rfl, rfl, rfl, rfl, rfl, trivial, ?_⟩, ?_⟩
      · intro a w1 hC  (h2 : a.tmps.getD 35 undef = _) (h4 : a.tmps.getD 37 undef = _) (h1 : a.tmps.getD 34 undef = _)
        refine Or.inl ⟨h1, ?_⟩
        refine Or.inl ⟨.bool true, ?_, rfl⟩
        go_simp
      refine ⟨⟨⟨_, _, _, _, _, _⟩, _, Is (.bool true), none, [(some 34, Is (.bool true)), (some 38, Is (.bool true))], [], rfl, rfl, rfl, rfl, rfl, trivial, ?_⟩, ?_⟩
      · intro a w1 hC  (h1 : a.tmps.getD 34 undef = _) (h5 : a.tmps.getD 38 undef = _)
        refine Or.inl ⟨.bool true, ?_, rfl⟩
        go_simp
      refine ⟨⟨⟨_, _, _, _, _, _⟩, _, Is (.bool true), none, [(some 39, Is (.bool true)), (some 34, Is (.bool true))], [], rfl, rfl, rfl, rfl, rfl, trivial, ?_⟩, ?_⟩
      · intro a w1 hC  (h6 : a.tmps.getD 39 undef = _) (h1 : a.tmps.getD 34 undef = _)
        refine Or.inl ⟨.bool true, ?_, rfl⟩
        go_simp
      refine ⟨⟨⟨_, _, _, _, _, _⟩, _, Is (.slice lo ln lc), (some (some 40, true)), [(some 40, Is (.bool true))], [(3, .slice lo ln lc)], rfl, rfl, rfl, rfl, rfl, ⟨⟨by kernel_rfl, rfl⟩, trivial⟩, ?_⟩, ?_⟩
      · intro a w1 hC e3 (h7 : a.tmps.getD 40 undef = _)
        refine Or.inl ⟨h7, ?_⟩
        refine Or.inl ⟨.slice lo ln lc, ?_, rfl⟩
        go_simp
      refine ⟨⟨⟨_, _, _, _, _, _⟩, _, IsRd .u8 es, (some (some 40, true)), [(some 41, Is (.slice lo ln lc)), (some 40, Is (.bool true)), (some 40, Is (.bool true))], [], rfl, rfl, rfl, rfl, rfl, trivial, ?_⟩, ?_⟩
      · intro a w1 hC  (h8 : a.tmps.getD 41 undef = _) (h7 : a.tmps.getD 40 undef = _) _
        refine Or.inl ⟨h7, ?_⟩
        refine Or.inr (Or.inl ⟨21, #[.slice lo ln lc], ?_, ?_⟩)
        · go_simp
        · refine (refPutBody_to _ lo ln lc l w1 (HL2.out.below hC) (by omega) HMAY.out).mono ?_
          rintro e w2 ⟨vv, rfl, hown, hbel⟩
          rw [← HES.out] at hown
          obtain ⟨ao1, cap1, rfl, hrd⟩ := hown.rd
          exact ⟨_, rfl, ⟨ao1, cap1, rfl, hrd⟩, hbel⟩
      refine ⟨⟨⟨_, _, _, _, _, _⟩, _, Is (.string (strOfNums es)), (some (some 40, true)), [(some 42, IsRd .u8 es), (some 40, Is (.bool true))], [], rfl, rfl, rfl, rfl, rfl, trivial, ?_⟩, ?_⟩
      · intro a w1 hC  h9 (h7 : a.tmps.getD 40 undef = _)
        refine Or.inl ⟨h7, ?_⟩
        obtain ⟨ao1, cap1, e5, hrd⟩ := h9
        have e5 : a.tmps.getD 42 undef = _ := e5
        refine Or.inl ⟨.string (strOfNums es), ?_, rfl⟩
        have hcv := conv_str (P := Try.prog) hrd 41 9 5 Try.underlying41 Try.underlying5 Try.underlying9
        go_simp
      refine ⟨⟨⟨_, _, _, _, _, _⟩, _, Is (.slice bo m bc), (some (some 40, true)), [(some 40, Is (.bool true))], [(0, .slice bo m bc)], rfl, rfl, rfl, rfl, rfl, ⟨⟨by kernel_rfl, rfl⟩, trivial⟩, ?_⟩, ?_⟩
      · intro a w1 hC e0 (h7 : a.tmps.getD 40 undef = _)
        refine Or.inl ⟨h7, ?_⟩
        refine Or.inl ⟨.slice bo m bc, ?_, rfl⟩
        go_simp
      refine ⟨⟨⟨_, _, _, _, _, _⟩, _, Is (.int .i64 (n : Int)), (some (some 40, true)), [(some 40, Is (.bool true))], [(4, .int .i64 (n : Int))], rfl, rfl, rfl, rfl, rfl, ⟨⟨by kernel_rfl, rfl⟩, trivial⟩, ?_⟩, ?_⟩
      · intro a w1 hC e4 (h7 : a.tmps.getD 40 undef = _)
        refine Or.inl ⟨h7, ?_⟩
        refine Or.inl ⟨.int .i64 (n : Int), ?_, rfl⟩
        go_simp
      refine ⟨⟨⟨_, _, _, _, _, _⟩, _, Is (.slice bo n bc), (some (some 40, true)), [(some 44, Is (.slice bo m bc)), (some 45, Is (.int .i64 (n : Int))), (some 40, Is (.bool true))], [], rfl, rfl, rfl, rfl, rfl, trivial, ?_⟩, ?_⟩
      · intro a w1 hC  (h11 : a.tmps.getD 44 undef = _) (h12 : a.tmps.getD 45 undef = _) (h7 : a.tmps.getD 40 undef = _)
        refine Or.inl ⟨h7, ?_⟩
        refine Or.inl ⟨.slice bo n bc, ?_, rfl⟩
        have hcut := run_cut_h 41 elem_b size_b bo m bc (n : Int) n rfl (by omega)
        go_simp
      refine ⟨⟨⟨_, _, _, _, _, _⟩, _, Is (.string (strOfNums es)), (some (some 40, true)), [(some 46, Is (.slice bo n bc)), (some 40, Is (.bool true))], [], rfl, rfl, rfl, rfl, rfl, trivial, ?_⟩, ?_⟩
      · intro a w1 hC  (h13 : a.tmps.getD 46 undef = _) (h7 : a.tmps.getD 40 undef = _)
        refine Or.inl ⟨h7, ?_⟩
        refine Or.inl ⟨.string (strOfNums es), ?_, rfl⟩
        have hcv := conv_str (P := Try.prog) (HP2.out.below hC) 41 9 5 Try.underlying41 Try.underlying5 Try.underlying9
        go_simp
      refine ⟨⟨⟨_, _, _, _, _, _⟩, _, Is (.bool true), (some (some 40, true)), [(some 43, Is (.string (strOfNums es))), (some 47, Is (.string (strOfNums es))), (some 40, Is (.bool true))], [], rfl, rfl, rfl, rfl, rfl, trivial, ?_⟩, ?_⟩
      · intro a w1 hC  (h10 : a.tmps.getD 43 undef = _) (h14 : a.tmps.getD 47 undef = _) (h7 : a.tmps.getD 40 undef = _)
        refine Or.inl ⟨h7, ?_⟩
        refine Or.inl ⟨.bool true, ?_, rfl⟩
        go_simp
      refine ⟨⟨⟨_, _, _, _, _, _⟩, _, Is (.bool true), none, [(some 40, Is (.bool true)), (some 48, Is (.bool true))], [], rfl, rfl, rfl, rfl, rfl, trivial, ?_⟩, ?_⟩
      · intro a w1 hC  (h7 : a.tmps.getD 40 undef = _) (h15 : a.tmps.getD 48 undef = _)
        refine Or.inl ⟨.bool true, ?_, rfl⟩
        go_simp
      refine ⟨⟨⟨_, _, _, _, _, _⟩, _, Is (.bool true), none, [(some 49, Is (.bool true)), (some 42, IsRd .u8 es), (some 33, Is (.bool true)), (some 34, Is (.bool true)), (some 35, Is (.int .i64 (n : Int))), (some 36, Is (.slice bo m bc)), (some 37, Is (.int .i64 (m : Int))), (some 38, Is (.bool true)), (some 39, Is (.bool true)), (some 40, Is (.bool true)), (some 41, Is (.slice lo ln lc)), (some 42, IsRd .u8 es), (some 43, Is (.string (strOfNums es))), (some 44, Is (.slice bo m bc)), (some 45, Is (.int .i64 (n : Int))), (some 46, Is (.slice bo n bc)), (some 47, Is (.string (strOfNums es))), (some 48, Is (.bool true)), (some 49, Is (.bool true))], [], rfl, rfl, rfl, rfl, rfl, trivial, ?_⟩, ?_⟩
      · intro a w1 hC  (h16 : a.tmps.getD 49 undef = _) h9 (h0 : a.tmps.getD 33 undef = _) (h1 : a.tmps.getD 34 undef = _) (h2 : a.tmps.getD 35 undef = _) (h3 : a.tmps.getD 36 undef = _) (h4 : a.tmps.getD 37 undef = _) (h5 : a.tmps.getD 38 undef = _) (h6 : a.tmps.getD 39 undef = _) (h7 : a.tmps.getD 40 undef = _) (h8 : a.tmps.getD 41 undef = _) _ (h10 : a.tmps.getD 43 undef = _) (h11 : a.tmps.getD 44 undef = _) (h12 : a.tmps.getD 45 undef = _) (h13 : a.tmps.getD 46 undef = _) (h14 : a.tmps.getD 47 undef = _) (h15 : a.tmps.getD 48 undef = _) _
        refine Or.inl ⟨.bool true, ?_, rfl⟩
        go_simp
      exact trivial
    case hstA => exact ⟨Stays.is _, Stays.is _, Stays.is _, Stays.is _, Stays.is _, Stays.is _, Stays.is _, Stays.is _, Stays.is _, Stays.rd _ _, Stays.is _, Stays.is _, Stays.is _, Stays.is _, Stays.is _, Stays.is _, Stays.is _, Stays.is _, trivial⟩
    case hendA =>
      intro w1 hC
      rintro _ rfl
      rintro _ rfl
      rintro _ rfl
      rintro _ rfl
      rintro _ rfl
      rintro _ rfl
      rintro _ rfl
      rintro _ rfl
      rintro _ rfl
      intro x9 h9
      rintro _ rfl
      rintro _ rfl
      rintro _ rfl
      rintro _ rfl
      rintro _ rfl
      rintro _ rfl
      rintro _ rfl
      rintro _ rfl
      simp only [Ends, Act.put, List.setIfInBounds_toArray, List.set_cons_succ, List.set_cons_zero]
      have HB3 := hid (Bl.step HB2.out hC)
      clear hC
      go_wp2_with fail
      go_ret
      exact ⟨rfl, HB3.out⟩
  · have he' : (er != 0) = true := by simp [he]
    have hbad : (getB bs).2.2 ≠ 0 := by rw [HG.out]; exact he
    have hge := getB_err hbad
    rw [HG.out] at hge
    simp only [Prod.mk.injEq, and_true] at hge
    obtain ⟨rfl, rfl⟩ := hge
    have HBAD := hid hbad
    clear hbad he
    go_enter Try.func24, Try.ntmps24
    go_wp2_with fail
    refine HGT.out.mono ?_
    rintro e w1 ⟨v, rfl, hown, hok, hlen, hb⟩
    simp only at hown hok hlen ⊢
    have HB1 := hid hb
    have HR1 := hid (Hr.out.below hb)
    obtain ⟨lo, lc, rfl, _⟩ := hown.rd hok
    clear hown hok hb HGT HG hlen
    simp only [List.length_nil]
    go_wp2_with fail
    refine (some_to bo m bc bs w1 HR1.out HBAD.out).mono ?_
    rintro e w2 ⟨rfl, hb⟩
    have HB2 := hid (Bl.step HB1.out hb)
    clear hb
    go_wp2_with fail
    go_ret
    exact ⟨rfl, HB2.out⟩
end Go.Proofs.Ytfambbpggodlkaa
