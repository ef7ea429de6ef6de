/- mem's laws: same. -/
import Derived.Test.YtcbchhnbkgaboaaMemMA
import Derived.WalkSpells
namespace Go.Proofs.Ytcbchhnbkgaboaa
open Go.RowKit

set_option maxRecDepth 100000 in
set_option maxHeartbeats 4000000 in
theorem same_to (g : Nat) (M : MM) (ao : Option Addr) (n cap : Nat) (xs : List Int) (w : World) (hM : MemAt w g M) (hx : Rd .u8 w ao n cap xs) (hn : n = 256 * M.p) (he : xs = M.c.take n) :
    Calls Try.prog 18 #[.pointer (some ⟨g, 0, none⟩), .slice ao n cap, .agg (M.d.map Value.bool).toArray] w fun e w' => e = .returned (.bool true) ∧ Below w.heap.size w w' := by
  have hp := hM.ok.pl
  have hcap := hx.cap63
  have hle := hx.le
  obtain ⟨D, hD⟩ : ∃ D, D = M.d.map Value.bool := ⟨_, rfl⟩
  rw [← hD]
  have hDB := Blk.new w 29 D
  obtain ⟨gd, hgd⟩ : ∃ gd, gd = w.heap.size := ⟨_, rfl⟩
  have HM0 := hid (hM.alloc (.cells D.toArray 29))
  have HX0 := hid (hx.below (Bl.alloc (Bl.refl w) (.cells D.toArray 29)))
  have HB := hid (Bl.alloc (Bl.refl w) (.cells D.toArray 29))
  rw [← hgd] at hDB
  have HD := hid hDB
  have HDD := hid hD
  have HN := hid (And.intro hn he)
  have hq : (n : Int) / 256 = M.p := by omega
  have hne := fun w => run_neq_slice_nil_any (P := Try.prog) w 28 5 none 0 0 0 0 Try.underlying28
  clear hM hx hDB hD hn he
  go_enter Try.func18, Try.ntmps18
  go_wp2_with fail
  rw [← hgd]
  generalize w.alloc (.cells D.toArray 29) = wA at HM0 HX0 HB HD ⊢
  have HM := HM0
  have HX := HX0
  clear HM0 HX0 hgd
  refine (pages_to g M wA HM.out).mono ?_
  rintro e w' ⟨rfl, rfl⟩
  go_wp2_with fail
  refine (pg_no g M (-1) wA HM.out (by omega)).mono ?_
  rintro e w' ⟨rfl, rfl⟩
  go_wp2_with fail
  refine (pg_no g M (M.p : Int) wA HM.out (by omega)).mono ?_
  rintro e w' ⟨rfl, rfl⟩
  go_wp2_with fail
  go_loopw [8, 9] (fun v i wr => ∃ p : Nat, p ≤ M.p ∧ i = .int .i64 p ∧ Own 3 .i64 wA.heap.size wr v (dirtyK M.d p) ∧ Below wA.heap.size wA wr) (fun _ i _ => M.p - (intOf i).toNat)
  case atStart => exact ⟨0, Nat.zero_le _, rfl, Own.nil _ _ _ _, Bl.refl _⟩
  case round =>
    have HB0 := HB
    clear HB
    obtain ⟨p, hk, rfl, hO, hB⟩ := hrel
    have HW := hid hO
    have HB := hid hB
    clear hO hB
    by_cases hkp : p < M.p
    · have hdl := HM.out.ok.dl
      have hcl := HM.out.ok.cl
      obtain ⟨Z, hZ⟩ : ∃ Z, pageM M p = Z := ⟨_, rfl⟩
      have hzl : Z.length = 256 := by rw [← hZ]; exact pageM_len HM.out.ok p (by omega)
      obtain ⟨T, hT⟩ : ∃ T : Nat, T = 256 * p := ⟨_, rfl⟩
      obtain ⟨U, hU⟩ : ∃ U : Nat, U = T + 256 := ⟨_, rfl⟩
      have hUn : U ≤ n := by have := HN.out.1; omega
      have hw1 : IntKind.i64.wrap (256 * (p : Int)) = (T : Int) := by rw [IntWalk.i64_in _ (by omega)]; omega
      have hw2 : IntKind.i64.wrap ((T : Int) + 256) = (U : Int) := by rw [IntWalk.i64_in _ (by omega)]; omega
      have hcut := run_cut (P := Try.prog) 28 Try.underlying28 (s := 1) (fun _ => rfl) ao n cap (T : Int) (U : Int) T U rfl rfl (by omega) (by omega)
      have hzr := (HX.out.below HB.out).cut T U (by omega) hUn
      rw [show U - T = 256 by omega] at hcut hzr
      have e : (xs.take U).drop T = Z := by
        rw [HN.out.2, List.take_take, Nat.min_eq_left hUn, List.drop_take, show U - T = 256 by omega, ← hZ, hT]
        rfl
      rw [e] at hzr
      obtain ⟨ct, hct⟩ : ∃ ct, cutAt ao T cap = ct := ⟨_, rfl⟩
      obtain ⟨cc, hcc⟩ : ∃ cc, cap - T = cc := ⟨_, rfl⟩
      rw [show cutAt ao T cap 1 = ct from hct, hcc] at hcut
      rw [hct, hcc] at hzr
      have HZR := hid hzr
      have HPG := hid hZ
      have HZL := hid hzl
      have c4 : wA.cell? ⟨gd, p, none⟩ = some (.bool (M.d.getD p false)) := (HD.out.cell p).trans (by rw [HDD.out]; simp [List.getD, hdl, show p < 16 by omega])
      have HC4 := hid c4
      clear hZ hzl hzr hU hT e hct hcc hdl hcl c4 hUn
      go_wp2_with fail
      refine wp_region_below (by kernel_rfl) [Is (.pointer (some ⟨g, 0, none⟩)), Is (.int .i64 (p : Int)), IsRd .u8 Z, Is (.string (strOfNums Z)), Is (.slice ao n cap), Is (.int .i64 (p : Int)), Is (.int .i64 (T : Int)), Is (.int .i64 (p : Int)), Is (.int .i64 (T : Int)), Is (.int .i64 (U : Int)), Is (.slice ct 256 cc), Is (.string (strOfNums Z)), Is (.bool false)] _ rfl (by kernel_rfl) rfl ?hopA ?hstA ?hendA
      case hopA =>
        refine ⟨rq _ _ _ [(0, .pointer (some ⟨g, 0, none⟩))] ⟨⟨by kernel_rfl, rfl⟩, trivial⟩ ?_, ?_⟩
        · intro a w1 hC e0
          refine Or.inl ⟨.pointer (some ⟨g, 0, none⟩), ?_, rfl⟩
          go_simp
        refine ⟨rq _ _ _ [(9, .int .i64 (p : Int))] ⟨⟨by kernel_rfl, rfl⟩, trivial⟩ ?_, ?_⟩
        · intro a w1 hC e9
          refine Or.inl ⟨.int .i64 (p : Int), ?_, rfl⟩
          go_simp
        refine ⟨rq _ _ _ [] trivial ?_, ?_⟩
        · intro a w1 hC  (h0 : a.tmps.getD 35 undef = _) (h1 : a.tmps.getD 36 undef = _)
          refine Or.inr (Or.inl ⟨20, #[.pointer (some ⟨g, 0, none⟩), .int .i64 (p : Int)], ?_, ?_⟩)
          · go_simp
          · refine (pg_to g _ p w1 (HM.out.bl (HB.out.trans (hC.mono HB.out.size))) hkp).mono ?_
            rintro e w2 ⟨vv, rfl, hown, hbel⟩
            rw [HPG.out] at hown
            obtain ⟨ao1, cap1, rfl, hrd⟩ := hown.rd
            exact ⟨_, rfl, ⟨ao1, cap1, rfl, hrd⟩, hbel⟩
        refine ⟨rq _ _ _ [] trivial ?_, ?_⟩
        · intro a w1 hC  h2
          obtain ⟨ao1, cap1, e5, hrd⟩ := h2
          have e5 : a.tmps.getD 37 undef = _ := e5
          refine Or.inl ⟨.string (strOfNums Z), ?_, rfl⟩
          have hcv := conv_str (P := Try.prog) hrd 28 9 5 Try.underlying28 Try.underlying5 Try.underlying9
          go_simp
        refine ⟨rq _ _ _ [(1, .slice ao n cap)] ⟨⟨by kernel_rfl, rfl⟩, trivial⟩ ?_, ?_⟩
        · intro a w1 hC e1
          refine Or.inl ⟨.slice ao n cap, ?_, rfl⟩
          go_simp
        refine ⟨rq _ _ _ [(9, .int .i64 (p : Int))] ⟨⟨by kernel_rfl, rfl⟩, trivial⟩ ?_, ?_⟩
        · intro a w1 hC e9
          refine Or.inl ⟨.int .i64 (p : Int), ?_, rfl⟩
          go_simp
        refine ⟨rq _ _ _ [] trivial ?_, ?_⟩
        · intro a w1 hC  (h5 : a.tmps.getD 40 undef = _)
          refine Or.inl ⟨.int .i64 (T : Int), ?_, rfl⟩
          go_simp
        refine ⟨rq _ _ _ [(9, .int .i64 (p : Int))] ⟨⟨by kernel_rfl, rfl⟩, trivial⟩ ?_, ?_⟩
        · intro a w1 hC e9
          refine Or.inl ⟨.int .i64 (p : Int), ?_, rfl⟩
          go_simp
        refine ⟨rq _ _ _ [] trivial ?_, ?_⟩
        · intro a w1 hC  (h7 : a.tmps.getD 42 undef = _)
          refine Or.inl ⟨.int .i64 (T : Int), ?_, rfl⟩
          go_simp
        refine ⟨rq _ _ _ [] trivial ?_, ?_⟩
        · intro a w1 hC  (h8 : a.tmps.getD 43 undef = _)
          refine Or.inl ⟨.int .i64 (U : Int), ?_, rfl⟩
          go_simp
        refine ⟨rq _ _ _ [] trivial ?_, ?_⟩
        · intro a w1 hC  (h4 : a.tmps.getD 39 undef = _) (h6 : a.tmps.getD 41 undef = _) (h9 : a.tmps.getD 44 undef = _)
          refine Or.inl ⟨.slice ct 256 cc, ?_, rfl⟩
          have hct := hcut w1
          go_simp
        refine ⟨rq _ _ _ [] trivial ?_, ?_⟩
        · intro a w1 hC  (h10 : a.tmps.getD 45 undef = _)
          refine Or.inl ⟨.string (strOfNums Z), ?_, rfl⟩
          have hrd := HZR.out.below hC
          have hcv := conv_str (P := Try.prog) hrd 28 9 5 Try.underlying28 Try.underlying5 Try.underlying9
          go_simp
        refine ⟨rq _ _ _ [] trivial ?_, ?_⟩
        · intro a w1 hC  (h3 : a.tmps.getD 38 undef = _) (h11 : a.tmps.getD 46 undef = _)
          refine Or.inl ⟨.bool false, ?_, rfl⟩
          go_simp
        exact trivial
      case hstA => repeat (first | exact trivial | refine ⟨Stays.is _, ?_⟩ | refine ⟨Stays.rd _ _, ?_⟩)
      case hendA =>
        intro w1 hC
        rintro _ rfl _ rfl
        intro x2 h2
        rintro _ rfl _ rfl _ rfl _ rfl _ rfl _ rfl _ rfl _ rfl _ rfl _ rfl
        simp only [Ends, Act.put, List.setIfInBounds_toArray, List.set_cons_succ, List.set_cons_zero]
        replace HW := hid (HW.out.below hC (Nat.le_refl _))
        replace HB := hid (HB.out.trans (hC.mono HB.out.size))
        clear hC hcut hw1 hw2
        have hln := dirtyK_len M.d p
        obtain ⟨m, hm⟩ : ∃ m, (dirtyK M.d p).length = m := ⟨_, rfl⟩
        rw [hm] at hln
        have HMM := hid hm
        have c4 : w1.cell? ⟨gd, p, none⟩ = some (.bool (M.d.getD p false)) := (HB.out.cell (p := ⟨gd, p, none⟩) HD.out.lt).trans HC4.out
        clear hm
        cases hd : M.d.getD p false with
        | false =>
          rw [hd] at c4
          have HS := hid (dirtyK_no M.d p hd)
          clear hd HC4
          go_wp2_with fail
          go_roundw
          case rel => exact ⟨p + 1, by omega, by go_num, by rw [HS.out]; exact HW.out, HB.out⟩
          case measure => simp [intOf]; omega
        | true =>
          rw [hd] at c4
          have HS := hid (dirtyK_yes M.d p hd)
          have hsz := HB.out.size
          clear hd HC4
          go_wp2_with (at_builtin; apply stopHere)
          refine hid ?_
          refine wpList_append_rd rfl (.tmp 51) (.tmp 53) 41 rfl 3 .i64 wA.heap.size 8 Try.underlying41 info3 _ _ rfl (HW.out.alloc _) _ 1 1 [(p : Int)] rfl (Rd.built _ .i64 3 p (WalkArith.wf_i64 (by omega))) (by rw [HMM.out]; omega) (by rw [HMM.out]; omega) (by simp; omega) ?_
          intro v w3 q1 q2 _
          have H := hid (And.intro q1 ((Below.alloc HB.out hsz (.cells #[.int .i64 (p : Int)] 3)).trans q2))
          clear q1 q2 c4 hsz
          go_wp2_with fail
          go_roundw
          case rel => exact ⟨p + 1, by omega, by go_num, by rw [HS.out]; exact H.out.1, H.out.2⟩
          case measure => simp [intOf]; omega
    obtain rfl : p = M.p := by omega
    have hdi := dirty_to g M wr (HM.out.bl HB.out)
    go_wp2_with fail
    refine hdi.mono ?_
    rintro e w4 ⟨v2, rfl, hO2, hb⟩
    have hO1 := HW.out.below hb (Nat.le_refl _)
    obtain ⟨m, hm⟩ : ∃ m, (dirtyK M.d M.p).length = m := ⟨_, rfl⟩
    have hm16 : m ≤ 16 := by have := dirtyK_len M.d M.p; omega
    obtain ⟨a1, c1, rfl, hr1⟩ := hO1.rd
    obtain ⟨a2, c2, rfl, hr2⟩ := hO2.rd
    have HBB := hid (HB0.out.trans ((HB.out.mono HB0.out.size).trans (hb.mono (Nat.le_trans HB0.out.size HB.out.size))))
    rw [hm] at hr1 hr2
    rw [hm]
    have HR := hid (And.intro hr1 hr2)
    have k1 := hr1.le
    have k2 := hr2.le
    have k3 := hr1.cap63
    have k4 := hr2.cap63
    clear hO1 hO2 hb hdi HW HB HB0 hr1 hr2 hm
    go_wp2_with fail
    go_loopw [11] (fun i wr => ∃ j : Nat, j ≤ m ∧ i = .int .i64 j ∧ Below w4.heap.size w4 wr) (fun i _ => m - (intOf i).toNat)
    case atStart => exact ⟨0, Nat.zero_le _, rfl, Bl.refl _⟩
    obtain ⟨j, hj, rfl, hB⟩ := hrel
    have HB2 := hid hB
    clear hB
    by_cases hjm : j < m
    · obtain ⟨b1, o1, rfl, d1⟩ := (HR.out.1.below HB2.out).at (by omega)
      obtain ⟨b2, o2, rfl, d2⟩ := (HR.out.2.below HB2.out).at (by omega)
      have e1 := d1 j hjm
      have e2 := d2 j hjm
      have hl1 := World.block_lt_of_cell? _ _ e1
      have hl2 := World.block_lt_of_cell? _ _ e2
      have i0 : (0 : Int) ≤ (j : Int) := by omega
      have i1 : (j : Int) < (m : Int) := by omega
      clear d1 d2
      go_wp2_with fail
      go_quiet (fail)
      go_wp2_with fail
      go_roundw
      case rel => exact ⟨j + 1, by omega, by go_num, HB2.out.trans ((below_drewN _ _ _).mono HB2.out.size)⟩
      case measure => simp [intOf]; omega
    · go_wp2_with fail
      go_ret
      exact ⟨by simp, HBB.out.trans (HB2.out.mono HBB.out.size)⟩
end Go.Proofs.Ytcbchhnbkgaboaa
