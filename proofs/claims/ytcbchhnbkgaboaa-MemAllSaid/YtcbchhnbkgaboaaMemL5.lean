/- mem's laws: MemNoughts. -/
import Derived.Test.YtcbchhnbkgaboaaMemL3
import Derived.Test.YtcbchhnbkgaboaaMemL2
import Derived.Test.YtcbchhnbkgaboaaRegion
namespace Go.Proofs.Ytcbchhnbkgaboaa
open Go.RowKit

/-- The first k bytes are x, the others noughts. -/
def repK (x : Int) (k : Nat) : List Int := List.replicate k x ++ zer (256 - k)
theorem repK_len (x : Int) (k : Nat) (h : k ≤ 256) : (repK x k).length = 256 := by
  simp [repK, zer_len]; omega
theorem repK_set (x : Int) (k : Nat) (h : k < 256) : (repK x k).set k x = repK x (k + 1) := by
  unfold repK
  rw [List.set_append_right _ _ (by simp), List.length_replicate, Nat.sub_self, List.replicate_succ', List.append_assoc]
  congr 1
  unfold zer
  rw [show 256 - k = (256 - (k + 1)) + 1 by omega, List.replicate_succ]
  rfl
theorem repK_get (x : Int) (k j : Nat) : (repK x k).getD j 0 = if j < k then x else 0 := by
  unfold repK
  rw [List.getD_eq_getElem?_getD, List.getElem?_append, List.length_replicate]
  split
  · next h => simp [h]
  · rw [← List.getD_eq_getElem?_getD]; exact zer_get _ _
theorem eq_zer {xs : List Int} {n : Nat} (hl : xs.length = n) (h : ∀ j, j < n → xs.getD j 0 = 0) : xs = zer n := by
  apply List.ext_getElem
  · rw [hl, zer_len]
  · intro j h1 h2
    have h3 := h j (by omega)
    have h4 := zer_get n j
    simp only [List.getD_eq_getElem?_getD, List.getElem?_eq_getElem h1, List.getElem?_eq_getElem h2, Option.getD_some] at h3 h4
    rw [h3, h4]
theorem list_ext {xs ys : List Int} {n : Nat} (hl : xs.length = n) (hl2 : ys.length = n) (h : ∀ j, j < n → xs.getD j 0 = ys.getD j 0) : xs = ys := by
  apply List.ext_getElem (by omega)
  intro j h1 h2
  have h3 := h j (by omega)
  simpa only [List.getD_eq_getElem?_getD, List.getElem?_eq_getElem h1, List.getElem?_eq_getElem h2, Option.getD_some] using h3

set_option maxRecDepth 100000 in
set_option maxHeartbeats 4000000 in
theorem memNoughts_walk (x n : Int) (w : World) (hx : 0 ≤ x ∧ x < 256) : Calls Try.prog 7 #[.int .u8 x, .int .i64 n] w fun e w' => e = .returned (.bool true) ∧ Below w.heap.size w w' := by
  go_enter Try.func7, Try.ntmps7
  go_wp2_with fail
  refine (begun_to w).mono ?_
  rintro e w1 ⟨rfl, hb⟩
  have HB := hid hb
  clear hb
  by_cases hr : n < 1 ∨ 15 < n
  · rcases hr with h | h
    all_goals
      go_wp2_with fail
      all_goals
        go_ret
        exact ⟨rfl, HB.out⟩
  obtain ⟨n, rfl⟩ : ∃ y : Nat, n = y := ⟨n.toNat, by omega⟩
  have hr1 : (1 : Int) ≤ n := by omega
  have hr2 : (n : Int) ≤ 15 := by omega
  clear hr
  go_wp2_with fail
  refine (new_to 1 (-1) w1 (by decide)).mono ?_
  rintro e w2 ⟨rfl, hM, hb⟩
  obtain ⟨M, hMM⟩ : ∃ M, M = newM (1 : Nat) (-1) := ⟨_, rfl⟩
  obtain ⟨g, hgg⟩ : ∃ g, g = w1.heap.size + 1 := ⟨_, rfl⟩
  have hg : w.heap.size ≤ g := by have := HB.out.size; omega
  rw [← hgg, ← hMM] at hM
  rw [← hgg]
  clear hgg
  have hp1 : M.p = 1 := by rw [hMM]; rfl
  have hq1 : M.q = 16 := by rw [hMM]; rfl
  have hc1 : ∀ j, M.c.getD j 0 = 0 := fun j => by rw [hMM]; exact zer_get _ _
  have HMF := hid (And.intro hp1 (And.intro hq1 hc1))
  have hgw : w.heap.size ≤ w2.heap.size := by have := HB.out.size; have := hb.size; omega
  replace HB := hid (HB.out.trans (hb.mono HB.out.size))
  have HM := hid hM
  clear hM hb hMM hp1 hq1 hc1
  go_wp2_with (with_reducible refine wpList_make (o := ⟨some 23, _, _, _, _, none⟩) rfl 28 5 (.const (.int .i64 256)) (.const (.int .i64 256)) rfl 256 (by decide) ?hmk ?_)
  case hmk => exact make256 _
  intro w3 h3
  obtain ⟨gp, hgp⟩ : ∃ gp, gp = w2.heap.size := ⟨_, rfl⟩
  have hO := h3.out.1
  replace HM := hid (HM.out.bl h3.out.2)
  replace HB := hid (HB.out.trans (h3.out.2.mono HB.out.size))
  rw [← hgp] at hO hgw ⊢
  have hgng : gp ≠ g := fun e => hO.ne_blk HM.out.blk (by decide) (by rw [e]; rfl)
  have HO : Hid (Own 5 .u8 gp w3 (.slice (some ⟨gp, 0, none⟩) 256 256) (repK x 0)) := hid hO
  clear h3 hgp hO
  go_wp2_with fail
  go_loopw [26] (fun i wr => ∃ k : Nat, k ≤ 256 ∧ i = .int .i64 k ∧ Own 5 .u8 gp wr (.slice (some ⟨gp, 0, none⟩) 256 256) (repK x k) ∧ MemAt wr g M ∧ Below w.heap.size w wr) (fun i _ => 256 - (intOf i).toNat)
  case atStart => exact ⟨0, Nat.zero_le _, rfl, HO.out, HM.out, HB.out⟩
  case round =>
    clear HO HM HB
    obtain ⟨k, hk, rfl, hO, hM, hB⟩ := hrel
    have hl := repK_len x k hk
    by_cases hlt : k < 256
    · have c1 := (hO.cell k (by omega)).1
      have f1 := (hO.cell k (by omega)).2.1
      have HO := hid (And.intro (hO.set k x (WalkArith.wf_u8 (by omega))) (And.intro (hM.far (p := ⟨gp, k, none⟩) (Ne.symm hgng) (.int .u8 x)) (hB.setCell (p := ⟨gp, k, none⟩) hgw (.int .u8 x))))
      rw [repK_set x k hlt] at HO
      clear hO hM hB hl
      go_wp2_with fail
      go_roundw
      case rel => exact ⟨k + 1, by omega, by go_num, HO.out⟩
      case measure => simp [intOf]; omega
    obtain rfl : k = 256 := by omega
    obtain ⟨xs, hxs⟩ : ∃ xs, xs = repK x 256 := ⟨_, rfl⟩
    have hxg : ∀ j, j < 256 → xs.getD j 0 = x := fun j hj => by rw [hxs, repK_get, if_pos hj]
    rw [← hxs] at hO hl
    have HXG := hid (And.intro hxg hl)
    clear hxs hxg hl hlt hk
    have hst := setPage_to g M 0 ⟨gp, 0, none⟩ 256 xs wr hM (by rw [HMF.out.1]; decide) hO.rd_at
    have HP := hid hO
    have HB := hid hB
    have HOK := hid hM.ok
    have HMW := hid hM.blk
    clear hO hM hB
    go_wp2_with fail
    refine hst.mono ?_
    rintro e w4 ⟨rfl, hM, hW⟩
    have hgr := grow_to g _ n w4 hM (by show (M.p : Int) + n ≤ M.q; rw [HMF.out.1, HMF.out.2.1]; omega)
    rw [show ((setPageM M 0 xs).p : Int) = 1 by show ((M.p : Nat) : Int) = 1; rw [HMF.out.1]; rfl] at hgr
    replace HP := hid (HP.out.wr hW (HP.out.ne_blk HMW.out (by decide)))
    replace HB := hid (HB.out.trans (hW.below HB.out.size hg))
    replace HMW := hid hM.blk
    clear hst hM hW
    go_wp2_with fail
    refine hgr.mono ?_
    rintro e w5 ⟨rfl, hM, hW⟩
    replace HP := hid (HP.out.wr hW (HP.out.ne_blk HMW.out (by decide)))
    replace HB := hid (HB.out.trans (hW.below HB.out.size hg))
    clear HMW
    obtain ⟨M3, hM3⟩ : ∃ M3, M3 = growM (setPageM M 0 xs) n := ⟨_, rfl⟩
    have hp3 : M3.p = 1 + n := by rw [hM3]; show M.p + n = _; rw [HMF.out.1]
    have hc3 : ∀ j, M3.c.getD j 0 = if j < 256 then x else 0 := fun j => by
      rw [hM3]
      show (splice M.c (256 * 0) xs).getD j 0 = _
      rw [splice_getD _ _ _ _ (by rw [HOK.out.cl, HXG.out.2]; decide), HXG.out.2]
      by_cases hj : j < 256
      · rw [if_pos (by omega), if_pos hj]
        exact HXG.out.1 _ (by omega)
      · rw [if_neg (by omega), if_neg hj]
        exact HMF.out.2.2 j
    rw [← hM3] at hM
    have HC3 := hid (And.intro hp3 hc3)
    have HM := hid hM
    clear hgr hM hW hM3 hp3 hc3
    go_wp2_with fail
    go_loopw [9] (fun i wr => ∃ k : Nat, 1 ≤ k ∧ k ≤ n + 1 ∧ i = .int .i64 k ∧ MemAt wr g M3 ∧ Own 5 .u8 gp wr (.slice (some ⟨gp, 0, none⟩) 256 256) xs ∧ Below w.heap.size w wr) (fun i _ => (n + 1) - (intOf i).toNat)
    case atStart => exact ⟨1, by omega, by omega, rfl, HM.out, HP.out, HB.out⟩
    clear HM HP HB
    obtain ⟨k, hk1, hk, rfl, hM, hP, hB⟩ := hrel
    have HM := hid hM
    have HP := hid hP
    have HB := hid hB
    clear hM hP hB
    by_cases hlt : k ≤ n
    · have hkp : k < M3.p := by rw [HC3.out.1]; omega
      obtain ⟨Z, hZ⟩ : ∃ Z, Z = zer 256 := ⟨_, rfl⟩
      have hpg : pageM M3 k = Z := by
        rw [hZ]
        refine eq_zer (pageM_len HM.out.ok k (by omega)) fun j hj => ?_
        rw [pageM_get k j hj, HC3.out.2, if_neg (by omega)]
      have HPG := hid hpg
      have HZL : Hid (Z.length = 256) := hid (by rw [hZ]; exact zer_len _)
      have HZ := hid hZ
      clear hpg hZ
      go_wp2_with fail
      refine wp_region_below (by kernel_rfl) [Is (.pointer (some ⟨g, 0, none⟩)), Is (.int .i64 (k : Int)), IsRd .u8 Z, Is (.string (strOfNums Z)), IsRd .u8 Z, Is (.string (strOfNums Z)), Is (.bool false)] _ rfl (by kernel_rfl) rfl ?hopA ?hstA ?hendA
      case hopA =>
        refine ⟨rq _ _ _ [(6, .pointer (some ⟨g, 0, none⟩))] ⟨⟨by kernel_rfl, rfl⟩, trivial⟩ ?_, ?_⟩
        · intro a w1 hC e6
          refine Or.inl ⟨.pointer (some ⟨g, 0, none⟩), ?_, rfl⟩
          go_simp
        refine ⟨rq _ _ _ [(9, .int .i64 (k : Int))] ⟨⟨by kernel_rfl, rfl⟩, trivial⟩ ?_, ?_⟩
        · intro a w1 hC e9
          refine Or.inl ⟨.int .i64 (k : Int), ?_, rfl⟩
          go_simp
        refine ⟨rq _ _ _ [] trivial ?_, ?_⟩
        · intro a w1 hC  (h0 : a.tmps.getD 49 undef = _) (h1 : a.tmps.getD 50 undef = _)
          refine Or.inr (Or.inl ⟨20, #[.pointer (some ⟨g, 0, none⟩), .int .i64 (k : Int)], ?_, ?_⟩)
          · go_simp
          · refine (pg_to g _ k w1 (HM.out.bl hC) hkp).mono ?_
            rintro e w2 ⟨vv, rfl, hown, hbel⟩
            rw [HPG.out] at hown
            obtain ⟨ao1, cap1, rfl, hrd⟩ := hown.rd
            exact ⟨_, rfl, ⟨ao1, cap1, rfl, hrd⟩, hbel⟩
        refine ⟨rq _ _ _ [] trivial ?_, ?_⟩
        · intro a w1 hC  h2
          obtain ⟨ao1, cap1, e5, hrd⟩ := h2
          have e5 : a.tmps.getD 51 undef = _ := e5
          refine Or.inl ⟨.string (strOfNums Z), ?_, rfl⟩
          have hcv := conv_str (P := Try.prog) hrd 28 9 5 Try.underlying28 Try.underlying5 Try.underlying9
          go_simp
        refine ⟨rq _ _ _ [] trivial ?_, ?_⟩
        · intro a w1 hC
          have hmk := make256 w1
          rw [← HZ.out] at hmk
          refine Or.inr (Or.inr ⟨.slice (some ⟨w1.heap.size, 0, none⟩) 256 256, w1.alloc (.cells (Z.map (Value.int .u8)).toArray 5), ?_, ?_, Bl.alloc (Bl.refl _) _⟩)
          · go_simp
          · have h := (Own.noughts (E := 5) (n := 256) (Nat.le_refl w1.heap.size) (by decide)).rd_at
            rw [← HZ.out] at h
            exact ⟨_, _, by rw [HZL.out], by rw [HZL.out]; exact h⟩
        refine ⟨rq _ _ _ [] trivial ?_, ?_⟩
        · intro a w1 hC  h4
          obtain ⟨ao1, cap1, e5, hrd⟩ := h4
          have e5 : a.tmps.getD 53 undef = _ := e5
          refine Or.inl ⟨.string (strOfNums Z), ?_, rfl⟩
          have hcv := conv_str (P := Try.prog) hrd 28 9 5 Try.underlying28 Try.underlying5 Try.underlying9
          go_simp
        refine ⟨rq _ _ _ [] trivial ?_, ?_⟩
        · intro a w1 hC  (h3 : a.tmps.getD 52 undef = _) (h5 : a.tmps.getD 54 undef = _)
          refine Or.inl ⟨.bool false, ?_, rfl⟩
          go_simp
        exact trivial
      case hstA => repeat (first | exact trivial | refine ⟨Stays.is _, ?_⟩ | refine ⟨Stays.rd _ _, ?_⟩)
      case hendA =>
        intro w1 hC
        rintro _ rfl _ rfl
        intro x2 h2
        rintro _ rfl
        intro x4 h4
        rintro _ rfl _ rfl
        simp only [Ends, Act.put, List.setIfInBounds_toArray, List.set_cons_succ, List.set_cons_zero]
        replace HM := hid (HM.out.bl hC)
        replace HP := hid (HP.out.below hC (Nat.le_refl _))
        replace HB := hid (HB.out.trans (hC.mono HB.out.size))
        clear hC
        go_wp2_with fail
        go_roundw
        case rel => exact ⟨k + 1, by omega, by omega, by go_num, HM.out, HP.out, HB.out⟩
        case measure => simp [intOf]; omega
    have hk2 : k = n + 1 := by omega
    have hp3 := HC3.out.1
    have hld := load_to g M3 255 4 wr HM.out (by decide) (by omega)
    rw [show ((numM M3.c 255 4 : Nat) : Int) = x by
      simp only [numM, HC3.out.2]
      simp
      omega] at hld
    have hp0 : 0 < M3.p := by omega
    have hpg : pageM M3 0 = xs := list_ext (pageM_len HM.out.ok 0 (by decide)) HXG.out.2 fun j hj => by
      rw [pageM_get 0 j hj, HC3.out.2, if_pos (by omega), HXG.out.1 j hj]
    have HP0 := hid hpg
    clear hpg hp3
    go_wp2_with fail
    refine hld.mono ?_
    rintro e w' ⟨rfl, rfl⟩
    clear hld
    go_wp2_with fail
    refine wp_region_below (by kernel_rfl) [Is (.bool true), Is (.bool true), Is (.int .u64 x), Is (.int .u8 x), Is (.int .u64 x), Is (.bool true), Is (.bool true), Is (.bool true), Is (.pointer (some ⟨g, 0, none⟩)), IsRd .u8 xs, Is (.string (strOfNums xs)), Is (.slice (some ⟨gp, 0, none⟩) 256 256), Is (.string (strOfNums xs)), Is (.bool true), Is (.bool true), Is (.bool true)] _ rfl (by kernel_rfl) rfl ?hopB ?hstB ?hendB
    case hopB =>
      refine ⟨rq _ _ _ [(11, .bool true)] ⟨⟨by kernel_rfl, rfl⟩, trivial⟩ ?_, ?_⟩
      · intro a w1 hC e11
        refine Or.inl ⟨.bool true, ?_, rfl⟩
        go_simp
      refine ⟨rq _ _ _ [] trivial ?_, ?_⟩
      · intro a w1 hC  (h0 : a.tmps.getD 61 undef = _)
        refine Or.inl ⟨.bool true, ?_, rfl⟩
        go_simp
      refine ⟨rq _ _ _ [(10, .int .u64 x)] ⟨⟨by kernel_rfl, rfl⟩, trivial⟩ ?_, ?_⟩
      · intro a w1 hC e10 (h1 : a.tmps.getD 62 undef = _)
        refine Or.inl ⟨h1, ?_⟩
        refine Or.inl ⟨.int .u64 x, ?_, rfl⟩
        go_simp
      refine ⟨rq _ _ _ [(0, .int .u8 x)] ⟨⟨by kernel_rfl, rfl⟩, trivial⟩ ?_, ?_⟩
      · intro a w1 hC e0 (h1 : a.tmps.getD 62 undef = _)
        refine Or.inl ⟨h1, ?_⟩
        refine Or.inl ⟨.int .u8 x, ?_, rfl⟩
        go_simp
      refine ⟨rq _ _ _ [] trivial ?_, ?_⟩
      · intro a w1 hC  (h3 : a.tmps.getD 64 undef = _) (h1 : a.tmps.getD 62 undef = _)
        refine Or.inl ⟨h1, ?_⟩
        refine Or.inl ⟨.int .u64 x, ?_, rfl⟩
        go_simp
        exact IntWalk.u64_in _ (by omega)
      refine ⟨rq _ _ _ [] trivial ?_, ?_⟩
      · intro a w1 hC  (h2 : a.tmps.getD 63 undef = _) (h4 : a.tmps.getD 65 undef = _) (h1 : a.tmps.getD 62 undef = _)
        refine Or.inl ⟨h1, ?_⟩
        refine Or.inl ⟨.bool true, ?_, rfl⟩
        go_simp
      refine ⟨rq _ _ _ [] trivial ?_, ?_⟩
      · intro a w1 hC  (h1 : a.tmps.getD 62 undef = _) (h5 : a.tmps.getD 66 undef = _)
        refine Or.inl ⟨.bool true, ?_, rfl⟩
        go_simp
      refine ⟨rq _ _ _ [] trivial ?_, ?_⟩
      · intro a w1 hC  (h6 : a.tmps.getD 67 undef = _) (h1 : a.tmps.getD 62 undef = _)
        refine Or.inl ⟨.bool true, ?_, rfl⟩
        go_simp
      refine ⟨rq _ _ _ [(6, .pointer (some ⟨g, 0, none⟩))] ⟨⟨by kernel_rfl, rfl⟩, trivial⟩ ?_, ?_⟩
      · intro a w1 hC e6 (h7 : a.tmps.getD 68 undef = _)
        refine Or.inl ⟨h7, ?_⟩
        refine Or.inl ⟨.pointer (some ⟨g, 0, none⟩), ?_, rfl⟩
        go_simp
      refine ⟨rq _ _ _ [] trivial ?_, ?_⟩
      · intro a w1 hC  (h8 : a.tmps.getD 69 undef = _) (h7 : a.tmps.getD 68 undef = _) _
        refine Or.inl ⟨h7, ?_⟩
        refine Or.inr (Or.inl ⟨20, #[.pointer (some ⟨g, 0, none⟩), .int .i64 0], ?_, ?_⟩)
        · go_simp
        · refine (pg_to g _ 0 w1 (HM.out.bl hC) hp0).mono ?_
          rintro e w2 ⟨vv, rfl, hown, hbel⟩
          rw [HP0.out] at hown
          obtain ⟨ao1, cap1, rfl, hrd⟩ := hown.rd
          exact ⟨_, rfl, ⟨ao1, cap1, rfl, hrd⟩, hbel⟩
      refine ⟨rq _ _ _ [] trivial ?_, ?_⟩
      · intro a w1 hC  h9 (h7 : a.tmps.getD 68 undef = _)
        refine Or.inl ⟨h7, ?_⟩
        obtain ⟨ao1, cap1, e5, hrd⟩ := h9
        have e5 : a.tmps.getD 70 undef = _ := e5
        refine Or.inl ⟨.string (strOfNums xs), ?_, rfl⟩
        have hcv := conv_str (P := Try.prog) hrd 28 9 5 Try.underlying28 Try.underlying5 Try.underlying9
        go_simp
      refine ⟨rq _ _ _ [(7, .slice (some ⟨gp, 0, none⟩) 256 256)] ⟨⟨by kernel_rfl, rfl⟩, trivial⟩ ?_, ?_⟩
      · intro a w1 hC e7 (h7 : a.tmps.getD 68 undef = _)
        refine Or.inl ⟨h7, ?_⟩
        refine Or.inl ⟨.slice (some ⟨gp, 0, none⟩) 256 256, ?_, rfl⟩
        go_simp
      refine ⟨rq _ _ _ [] trivial ?_, ?_⟩
      · intro a w1 hC  (h11 : a.tmps.getD 72 undef = _) (h7 : a.tmps.getD 68 undef = _)
        refine Or.inl ⟨h7, ?_⟩
        refine Or.inl ⟨.string (strOfNums xs), ?_, rfl⟩
        have hrd := (HP.out.below hC (Nat.le_refl _)).rd_at
        have hcv := conv_str (P := Try.prog) hrd 28 9 5 Try.underlying28 Try.underlying5 Try.underlying9
        go_simp
      refine ⟨rq _ _ _ [] trivial ?_, ?_⟩
      · intro a w1 hC  (h10 : a.tmps.getD 71 undef = _) (h12 : a.tmps.getD 73 undef = _) (h7 : a.tmps.getD 68 undef = _)
        refine Or.inl ⟨h7, ?_⟩
        refine Or.inl ⟨.bool true, ?_, rfl⟩
        go_simp
      refine ⟨rq _ _ _ [] trivial ?_, ?_⟩
      · intro a w1 hC  (h7 : a.tmps.getD 68 undef = _) (h13 : a.tmps.getD 74 undef = _)
        refine Or.inl ⟨.bool true, ?_, rfl⟩
        go_simp
      refine ⟨rq _ _ _ [] trivial ?_, ?_⟩
      · intro a w1 hC  (h14 : a.tmps.getD 75 undef = _) h9 (h0 : a.tmps.getD 61 undef = _) (h1 : a.tmps.getD 62 undef = _) (h2 : a.tmps.getD 63 undef = _) (h3 : a.tmps.getD 64 undef = _) (h4 : a.tmps.getD 65 undef = _) (h5 : a.tmps.getD 66 undef = _) (h6 : a.tmps.getD 67 undef = _) (h7 : a.tmps.getD 68 undef = _) (h8 : a.tmps.getD 69 undef = _) _ (h10 : a.tmps.getD 71 undef = _) (h11 : a.tmps.getD 72 undef = _) (h12 : a.tmps.getD 73 undef = _) (h13 : a.tmps.getD 74 undef = _) _
        refine Or.inl ⟨.bool true, ?_, rfl⟩
        go_simp
      exact trivial
    case hstB => repeat (first | exact trivial | refine ⟨Stays.is _, ?_⟩ | refine ⟨Stays.rd _ _, ?_⟩)
    case hendB =>
      intro w1 hC
      rintro _ rfl _ rfl _ rfl _ rfl _ rfl _ rfl _ rfl _ rfl _ rfl
      intro x9 h9
      rintro _ rfl _ rfl _ rfl _ rfl _ rfl _ rfl
      simp only [Ends, Act.put, List.setIfInBounds_toArray, List.set_cons_succ, List.set_cons_zero]
      replace HB := hid (HB.out.trans (hC.mono HB.out.size))
      clear hC
      go_wp2_with fail
      go_ret
      exact ⟨rfl, HB.out⟩
end Go.Proofs.Ytcbchhnbkgaboaa
