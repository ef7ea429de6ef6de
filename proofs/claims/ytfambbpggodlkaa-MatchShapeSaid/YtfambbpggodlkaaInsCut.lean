/- Cut: an instruction whose list is not too long. -/
import Derived.Test.YtfambbpggodlkaaInsGetT
namespace Go.Proofs.Ytfambbpggodlkaa
open Go.RowKit

theorem Box4.mv4 {w w' : World} {p q : Nat} {op x y : Int} {ao : Option Addr} {n cap : Nat} (h : Box4 w q op x y ao n cap) (hm : Mv p w w') (hq : q ≠ p) : Box4 w' q op x y ao n cap :=
  ⟨hm.cell hq h.c0, hm.cell hq h.c1, hm.cell hq h.c2, hm.cell hq h.c3⟩

theorem get_fin3 {w w1 : World} {A : Nat} {z0 z1 z2 z3 : Value} (Q : Quad w1 A z0 z1 z2 z3) (hA : w.heap.size ≤ A) (HB : Below w.heap.size w w1) (u0 u1 u2 u3 : Value) :
    ∃ wf, ((((w1.setCell ⟨A, 0, none⟩ u0).setCell ⟨A, 1, none⟩ u1).setCell ⟨A, 2, none⟩ u2).setCell ⟨A, 3, none⟩ u3) = wf ∧ Quad wf A u0 u1 u2 u3 ∧ Below w.heap.size w wf ∧
      (∀ (E : TypeId) (k : IntKind) (base : Nat) (v : Value) (xs : List Int), A < base → Own E k base w1 v xs → Own E k base wf v xs) :=
  ⟨_, rfl, Q.setAll u0 u1 u2 u3, Bl.set (Bl.set (Bl.set (Bl.set HB hA _) hA _) hA _) hA _,
   fun _ _ _ _ _ hb h => (((h.mv (Mv.set A 0 _ u0) hb).mv (Mv.set A 1 _ u1) hb).mv (Mv.set A 2 _ u2) hb).mv (Mv.set A 3 _ u3) hb⟩

set_option maxHeartbeats 1000000 in
theorem cut_to (op p q : Int) (ao : Option Addr) (n cap : Nat) (l : List Int) (w : World) (hr : Rd .i64 w ao n cap l) :
    Calls Try.prog 25 #[iv op p q ao n cap] w fun e w' => ∃ lo ln lc, e = .returned (iv op p q lo ln lc) ∧ Own 3 .i64 w.heap.size w' (.slice lo ln lc) (l.take 55) ∧ Below w.heap.size w w' := by
  have hn63 : n ≤ 9223372036854775807 := by have h1 := hr.le; have h2 := hr.max; unfold maxLen at h2; omega
  have Hr := hid hr
  have Hx := hid hr.len
  clear hr
  obtain ⟨w0, hw0⟩ : ∃ w0, w0 = ((w.alloc (.cells #[.int .i64 op, .int .i64 p, .int .i64 q, .slice ao n cap] 39)).alloc (.cells #[.int .i64 0, .int .i64 0, .int .i64 0, .slice none 0 0] 39)).alloc (.cells #[.int .i64 op, .int .i64 p, .int .i64 q, .slice none 0 0] 39) := ⟨_, rfl⟩
  obtain ⟨X, hX⟩ : ∃ X, X = w.heap.size + 1 + 1 := ⟨_, rfl⟩
  obtain ⟨B, hB⟩ : ∃ B, B = w.heap.size + 1 + 1 + 1 := ⟨_, rfl⟩
  have HX0 : Hid (Quad w0 X (.int .i64 op) (.int .i64 p) (.int .i64 q) (.slice none 0 0)) := by
    rw [hw0, hX]
    have := Quad.new ((w.alloc (.cells #[.int .i64 op, .int .i64 p, .int .i64 q, .slice ao n cap] 39)).alloc (.cells #[.int .i64 0, .int .i64 0, .int .i64 0, .slice none 0 0] 39)) (.int .i64 op) (.int .i64 p) (.int .i64 q) (.slice none 0 0) 39
    exact hid (by simpa using this)
  have HA0 : Hid (Quad w0 (w.heap.size + 1) (.int .i64 0) (.int .i64 0) (.int .i64 0) (.slice none 0 0)) := by
    rw [hw0]
    have := (Quad.new (w.alloc (.cells #[.int .i64 op, .int .i64 p, .int .i64 q, .slice ao n cap] 39)) (.int .i64 0) (.int .i64 0) (.int .i64 0) (.slice none 0 0) 39).below (Bl.alloc (Bl.refl _) (.cells #[.int .i64 op, .int .i64 p, .int .i64 q, .slice none 0 0] 39))
    exact hid (by simpa using this)
  have HB0 : Hid (Box4 w0 w.heap.size op p q ao n cap) := by
    rw [hw0]
    exact hid (((Box4.new w op p q ao n cap 39).below (Bl.alloc (Bl.refl _) _)).below (Bl.alloc (Bl.refl _) _))
  have hBl0 : Hid (Below w.heap.size w w0) := by
    rw [hw0]
    exact hid (Bl.alloc (Bl.alloc (Bl.alloc (Bl.refl w) _) _) _)
  have hB0 : Hid (B ≤ w0.heap.size) := by
    rw [hw0, hB]
    exact hid (by simp)
  have HW := hid hw0
  have HXE := hid hX
  have hAX : w.heap.size + 1 ≠ X := by omega
  have hxX : w.heap.size ≠ X := by omega
  have hwX : w.heap.size < X := by omega
  have hXB : X < B := by omega
  have hAB : w.heap.size + 1 < B := by omega
  have hxB : w.heap.size < B := by omega
  have hwB : w.heap.size ≤ B := by omega
  clear hw0 hX hB
  go_enter Try.func25, Try.ntmps25
  go_wp2_with fail
  rw [← HW.out, ← HXE.out]
  go_loopw [4] (fun i wr => ∃ k : Nat, k ≤ n ∧ k ≤ 55 ∧ i = .int .i64 k ∧ ∃ (lo : Option Addr) (lc : Nat), Own 3 .i64 B wr (.slice lo k lc) (l.take k) ∧ Quad wr X (.int .i64 op) (.int .i64 p) (.int .i64 q) (.slice lo k lc) ∧ Quad wr (w.heap.size + 1) (.int .i64 0) (.int .i64 0) (.int .i64 0) (.slice none 0 0) ∧
      Box4 wr w.heap.size op p q ao n cap ∧ B ≤ wr.heap.size ∧ Below w.heap.size w wr) (fun i _ => 55 - (intOf i).toNat)
  case atStart => exact ⟨0, Nat.zero_le _, Nat.zero_le _, rfl, none, 0, by simpa using Own.nil _ _ _ _, HX0.out, HA0.out, HB0.out, hB0.out, hBl0.out⟩
  case round =>
    obtain ⟨k, hkn, hk55, rfl, lo, lc, hown', hx', ha', hb', hBr, hBl⟩ := hrel
    have hown := hid hown'
    have HX := hid hx'
    have HA := hid ha'
    have HB4 := hid hb'
    obtain ⟨c0, c1, c2, c3⟩ := hb'
    obtain ⟨x0, x1, x2, x3, f0, f1, f2, f3⟩ := hx'
    obtain ⟨a0, a1, a2, a3, g0, g1, g2, g3⟩ := ha'
    clear hown'
    by_cases hk : k < n ∧ k < 55
    · obtain ⟨hk, hk5⟩ := hk
      obtain ⟨b, off, rfl, hc⟩ := (Hr.out.below hBl).at (by omega)
      have hck := hc k hk
      have hkl : k < l.length := by rw [Hx.out]; exact hk
      obtain ⟨x, hxk⟩ : ∃ x, x = l.getD k 0 := ⟨_, rfl⟩
      have hs := take_snoc hkl
      rw [← hxk] at hck hs
      have hlb := World.block_lt_of_cell? wr _ hck
      have HWX : Hid ((Lit.int .i64 x).wf = true) := hid (by rw [hxk]; exact Hr.out.wf _ (Hr.out.mem hk))
      have Htk0 : (l.take k).length = k := by simp; omega
      obtain ⟨ys, hys⟩ : ∃ ys, ys = l.take k := ⟨_, rfl⟩
      rw [← hys] at hown Htk0 hs
      have Htk : Hid (ys.length = k) := hid Htk0
      have Hs := hid hs
      clear Htk0 hys
      have hXr := HX.out.lt
      have hAr := HA.out.lt
      have hxr := HB4.out.lt
      clear hc hxk hs
      go_wp2_with fail
      refine wp_region_below_tail 8 (by kernel_rfl) [Is ?vA0, Is (.slice lo k lc), Is ?vA2, Is (.slice (some ⟨b, off, none⟩) n cap), Is (.int .i64 k), Is ?vA5, Is (.int .i64 x), IsRd .i64 [x]] [0, 1, 2, 3, 4, 5, 6, 7] rfl (by kernel_rfl) rfl (by kernel_rfl) ?hopA ?hstA ?hendA
      case hopA =>
        refine ⟨⟨⟨_, _, _, _, _, _⟩, _, Is ?vA0, none, [], [(3, .pointer (some ⟨X, 0, none⟩))], rfl, rfl, rfl, rfl, rfl, ⟨⟨by kernel_rfl, rfl⟩, trivial⟩, ?_⟩, ?_⟩
        · intro a w1 hC e3
          refine Or.inl ⟨_, ?_, rfl⟩
          go_simp
          first | (go_bits; rfl) | rfl | (rw [if_pos (by omega)])
        refine ⟨⟨⟨_, _, _, _, _, _⟩, _, Is (.slice lo k lc), none, [(some 23, Is ?vA0)], [], rfl, rfl, rfl, rfl, rfl, trivial, ?_⟩, ?_⟩
        · intro a w1 hC  (h0 : a.tmps.getD 23 undef = _)
          refine Or.inl ⟨.slice lo k lc, ?_, rfl⟩
          have hcw0 := (HX.out.below hC).c3
          go_simp
        refine ⟨⟨⟨_, _, _, _, _, _⟩, _, Is ?vA2, none, [], [(1, .pointer (some ⟨w.heap.size, 0, none⟩))], rfl, rfl, rfl, rfl, rfl, ⟨⟨by kernel_rfl, rfl⟩, trivial⟩, ?_⟩, ?_⟩
        · intro a w1 hC e1
          refine Or.inl ⟨_, ?_, rfl⟩
          go_simp
          first | (go_bits; rfl) | rfl | (rw [if_pos (by omega)])
        refine ⟨⟨⟨_, _, _, _, _, _⟩, _, Is (.slice (some ⟨b, off, none⟩) n cap), none, [(some 25, Is ?vA2)], [], rfl, rfl, rfl, rfl, rfl, trivial, ?_⟩, ?_⟩
        · intro a w1 hC  (h2 : a.tmps.getD 25 undef = _)
          refine Or.inl ⟨.slice (some ⟨b, off, none⟩) n cap, ?_, rfl⟩
          have hcw0 := (HB4.out.below hC).c3
          go_simp
        refine ⟨⟨⟨_, _, _, _, _, _⟩, _, Is (.int .i64 k), none, [], [(4, .int .i64 k)], rfl, rfl, rfl, rfl, rfl, ⟨⟨by kernel_rfl, rfl⟩, trivial⟩, ?_⟩, ?_⟩
        · intro a w1 hC e4
          refine Or.inl ⟨.int .i64 k, ?_, rfl⟩
          go_simp
        refine ⟨⟨⟨_, _, _, _, _, _⟩, _, Is ?vA5, none, [(some 26, Is (.slice (some ⟨b, off, none⟩) n cap)), (some 27, Is (.int .i64 k))], [], rfl, rfl, rfl, rfl, rfl, trivial, ?_⟩, ?_⟩
        · intro a w1 hC  (h3 : a.tmps.getD 26 undef = _) (h4 : a.tmps.getD 27 undef = _)
          refine Or.inl ⟨_, ?_, rfl⟩
          go_simp
          first | (go_bits; rfl) | rfl | (rw [if_pos (by omega)])
        refine ⟨⟨⟨_, _, _, _, _, _⟩, _, Is (.int .i64 x), none, [(some 28, Is ?vA5)], [], rfl, rfl, rfl, rfl, rfl, trivial, ?_⟩, ?_⟩
        · intro a w1 hC  (h5 : a.tmps.getD 28 undef = _)
          refine Or.inl ⟨.int .i64 x, ?_, rfl⟩
          have hcw0 := (hC.cell hlb).trans hck
          go_simp
        refine ⟨⟨⟨_, _, _, _, _, _⟩, _, IsRd .i64 [x], none, [(some 29, Is (.int .i64 x))], [], rfl, rfl, rfl, rfl, rfl, trivial, ?_⟩, ?_⟩
        · intro a w1 hC  (h6 : a.tmps.getD 29 undef = _)
          refine Or.inr (Or.inr ⟨.slice (some ⟨w1.heap.size, 0, none⟩) 1 1, w1.alloc (.cells #[.int .i64 x] 3), ?_, ⟨_, _, rfl, Rd.built _ _ _ _ HWX.out⟩, Bl.alloc (Bl.refl _) _⟩)
          rw [Array.getD_eq_getD_getElem?] at h6
          go_simp
        exact trivial
      case hstA => exact ⟨Stays.is _, Stays.is _, Stays.is _, Stays.is _, Stays.is _, Stays.is _, Stays.is _, Stays.rd _ _, trivial⟩
      case hendA =>
        intro w1 hC
        rintro _ rfl
        rintro _ rfl
        rintro _ rfl
        rintro _ rfl
        rintro _ rfl
        rintro _ rfl
        rintro _ rfl
        intro x7 h7
        obtain ⟨aoq, capq, rfl, hrq⟩ := h7
        simp only [Ends, Act.put, List.setIfInBounds_toArray, List.set_cons_succ, List.set_cons_zero, List.drop_succ_cons, List.drop_zero]
        have hown1 : Own 3 .i64 B w1 (.slice lo k lc) ys := Own.below hown.out hC (Nat.le_refl _)
        have HX1 := hid (HX.out.below hC)
        have HA1 := hid (HA.out.below hC)
        have HB1 := hid (HB4.out.below hC)
        have hBl1 := hid (hBl.trans (hC.mono hBl.size))
        have hB1 : B ≤ w1.heap.size := Nat.le_trans hBr hC.size
        have hx3 := HX1.out.c3
        have hf3 := HX1.out.f3
        clear hC
        go_wp2_with (at_builtin; refine wpList_append_rd rfl (.tmp 24) (.tmp 30) 35 rfl 3 .i64 B 8 Try.underlying35 infoInt _ _ rfl hown1 aoq _ capq _ rfl hrq (by have := Htk.out; simp; omega) (by have := Htk.out; simp; omega) hB1 ?_; intro v2 w2 h3 h4 _; obtain ⟨lo2, lc2, rfl, _⟩ := h3.rd; have hown2 := hid h3; have HX2 := hid (HX1.out.keep h4 hXB); have HA2 := hid (HA1.out.keep h4 hAB); have HB2 := hid (HB1.out.keep h4 hxB); have hBl2 := hid (hBl1.out.trans (h4.mono hwB)); have hB2 : B ≤ w2.heap.size := Nat.le_trans hB1 h4.size; have c32 := HX2.out.c3; have f32 := HX2.out.f3; have hl2 := HX2.out.lt; clear h3 h4)
        have hll : (ys ++ [x]).length = k + 1 := by simp [Htk.out]
        have HX3 := hid (HX2.out.set3 (.slice lo2 (ys ++ [x]).length lc2))
        have HA3 := hid (HA2.out.other hAX 3 (.slice lo2 (ys ++ [x]).length lc2))
        have HB3 := hid (HB2.out.mv4 (Mv.set X 3 w2 (.slice lo2 (ys ++ [x]).length lc2)) hxX)
        have Hown3 := hid (hown2.out.mv (Mv.set X 3 w2 (.slice lo2 (ys ++ [x]).length lc2)) hXB)
        have hBl3 := hid (hBl2.out.trans ((Mv.set X 3 w2 (.slice lo2 (ys ++ [x]).length lc2)).below (Nat.le_of_lt hwX) (Nat.le_trans hwB hB2)))
        rw [hll] at HX3 HA3 HB3 Hown3 hBl3
        rw [← Hs.out] at Hown3
        go_roundw
        case rel =>
          refine ⟨k + 1, by omega, by omega, by go_num, lo2, lc2, ?_⟩
          simp only [Htk.out]
          exact ⟨Hown3.out, HX3.out, HA3.out, HB3.out, by simpa using hB2, hBl3.out⟩
        case measure => simp [intOf]; omega
    · have Htk : Hid (l.take 55 = l.take k) := hid (by
        rcases (show k = 55 ∨ (k ≤ 55 ∧ k = n) by omega) with e | ⟨e, e'⟩
        · rw [e]
        · rw [List.take_of_length_le (by rw [Hx.out]; omega), List.take_of_length_le (by rw [Hx.out]; omega)])
      obtain ⟨wf, hwf, ⟨q0, q1, q2, q3, _, _, _, _⟩, hbf, hof⟩ := get_fin3 (w := w) HA.out (Nat.le_succ _) hBl (.int .i64 op) (.int .i64 p) (.int .i64 q) (.slice lo k lc)
      have Hof := hid (hof 3 .i64 _ _ _ hAB hown.out)
      have Q := hid (And.intro (And.intro q0 q1) (And.intro q2 q3))
      have HWF := hid hwf
      have HBF := hid hbf
      clear hof hbf hwf q0 q1 q2 q3
      have hcc : k = n ∨ (k < n ∧ k = 55) := by omega
      have hAr := HA.out.lt
      clear hk
      rcases hcc with rfl | ⟨hk, rfl⟩
      all_goals
        go_wp2_with fail
        rw [HWF.out]
        obtain ⟨⟨q0, q1⟩, q2, q3⟩ := Q.out
        first
          | refine bodyPost_ret (v := iv op p q lo k lc) (by simp [results, Try.results25, go_sem, q0, q1, q2, q3]) rfl ⟨_, _, _, rfl, ?_, HBF.out⟩
          | refine bodyPost_ret (v := iv op p q lo 55 lc) (by simp [results, Try.results25, go_sem, q0, q1, q2, q3]) rfl ⟨_, _, _, rfl, ?_, HBF.out⟩
        first
          | exact Hof.out.lift hwB
          | (rw [Htk.out]; exact Hof.out.lift hwB)
end Go.Proofs.Ytfambbpggodlkaa
