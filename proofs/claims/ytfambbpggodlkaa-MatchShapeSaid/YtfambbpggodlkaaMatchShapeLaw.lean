/- MatchShape: the walk. -/
import Derived.Test.YtfambbpggodlkaaCodeShapeW
import Derived.Test.YtfambbpggodlkaaCodeTargets
import Derived.Deep.QuietTactic
import Derived.BigQuiet
import Derived.IntWalk
namespace Go.Proofs.Ytfambbpggodlkaa
open Go.RowKit Go.Maps

theorem keyed3 : Keyed Try.prog 3 := int_keyed Try.underlying3
theorem zero3 (w : World) : (zeroValue 3).run Try.prog w = .ok (.int .i64 0) w := by kernel_rfl

set_option maxRecDepth 100000 in
set_option maxHeartbeats 16000000 in
theorem matchShape_walk (lo : Option Addr) (n cap : Nat) (zs : List Int) (w : World) (hr : Rd .i64 w lo n cap zs) :
    Calls Try.prog 10 #[.slice lo n cap] w fun e w' => e = .returned (.bool true) ∧ Below w.heap.size w w' := by
  have hle := hr.le
  have hc63 := hr.cap63
  have Hr := hid hr
  clear hr
  have hmm := @run_makeMap Try.prog
  go_enter Try.func10, Try.ntmps10
  go_wp2_with fail
  refine (begun6_to _).mono ?_
  rintro e w0 ⟨rfl, hb⟩
  have Hr0 := hid (Hr.out.below hb)
  have HB0 := hid hb
  clear hb Hr
  have HS0 : Hid (ShP w0.heap.size (w0.alloc (.map #[] 0)) w0.heap.size (.slice none 0 0) (.slice none 0 0) [] [] 0 (.map [])) :=
    hid ⟨OwnP.nil _ _, OwnC.nil _ _ _ _, World.ownsMap_made _ _ _ _, by simp [Value.ownBlock], by simp [Value.ownBlock], by simp [Value.ownBlock], Nat.le_refl _⟩
  go_wp2_with fail
  go_loopw [4, 5, 7, 8] (fun v4 v5 d i wr => ∃ (k : Nat) (X : List Int) (s : Ns) (D : DataW Unit) (q : Nat), i = .int .i64 k ∧ k ≤ 60 ∧ X.length = k ∧ q ≤ k ∧ d = .int .i64 (s.op.length : Int) ∧ s.op.length ≤ 20 ∧ Hid (Sh X s D) ∧ ShP w0.heap.size wr w0.heap.size v4 v5 X (opnAt s) q D ∧ Below w0.heap.size w0 wr) (fun _ _ _ i _ => 60 - (intOf i).toNat)
  case atStart => exact ⟨0, [], nsStart, .map [], 0, rfl, by omega, rfl, by omega, rfl, by simp [nsStart], hid Sh.start, HS0.out, Bl.alloc (Bl.refl w0) _⟩
  case round =>
    obtain ⟨k, X, s, D, q, rfl, hk60, hXl, hqk, rfl, hd20, HSH, hP, hb⟩ := hrel
    have HP := hid hP
    have HB := hid hb
    have hsz := hb.size
    obtain ⟨⟨ao, ac, rfl⟩, bo, bc, rfl, p1, p2, p3⟩ := hP.shape
    obtain ⟨dn, hdn⟩ : ∃ dn, dn = s.op.length := ⟨_, rfl⟩
    have hol : (opnAt s).length = dn := by simp [opnAt, hdn]
    rw [hol] at HP p1 p3 ⊢
    rw [hXl] at HP ⊢
    rw [← hdn] at hd20 ⊢
    have HDN := hid hdn
    have HXL := hid hXl
    have P3 := hid p3
    have HOL := hid hol
    clear hP hb hdn hXl p3 hol HS0
    by_cases hkn : k < n ∧ k < 60
    · obtain ⟨hkn1, hkn2⟩ := hkn
      obtain ⟨b, off, rfl, hc⟩ := Hr0.out.at (by omega)
      have c00 := hc k hkn1
      have hbl := World.block_lt_of_cell? w0 _ c00
      have hzb := bounds_i64 (Hr0.out.wf _ (Hr0.out.mem hkn1))
      obtain ⟨z, hzz⟩ : ∃ z, z = zs.getD k 0 := ⟨_, rfl⟩
      rw [← hzz] at c00 hzb
      have c0 := (HB.out.cell (p := ⟨b, off + k, none⟩) hbl).trans c00
      have C00 := hid c00
      have hdm := Int.tmod_add_mul_tdiv z 4
      obtain ⟨y0, hy0⟩ : ∃ y0, z.tmod 4 = y0 := ⟨_, rfl⟩
      have hy0b : -3 ≤ y0 ∧ y0 ≤ 3 := by
        have h1 := Int.tmod_lt_of_pos z (show (0 : Int) < 4 by decide)
        have h2 := Int.lt_tmod_of_pos z (show (0 : Int) < 4 by decide)
        omega
      obtain ⟨t0, ht0⟩ : ∃ t0, z.tdiv 4 = t0 := ⟨_, rfl⟩
      rw [hy0, ht0] at hdm
      have ht0b : -9223372036854775808 ≤ t0 ∧ t0 ≤ 9223372036854775807 := by omega
      obtain ⟨t1, ht1⟩ : ∃ t1, t0.tmod 3 = t1 := ⟨_, rfl⟩
      have ht1b : -2 ≤ t1 ∧ t1 ≤ 2 := by
        have h1 := Int.tmod_lt_of_pos t0 (show (0 : Int) < 3 by decide)
        have h2 := Int.lt_tmod_of_pos t0 (show (0 : Int) < 3 by decide)
        omega
      obtain ⟨t2, ht2⟩ : ∃ t2, (t1 + 3) % 3 = t2 := ⟨_, rfl⟩
      have ht2b : 0 ≤ t2 ∧ t2 ≤ 2 := by omega
      obtain ⟨y, hy⟩ : ∃ y, (y0 + 4) % 4 = y := ⟨_, rfl⟩
      have hyb : 0 ≤ y ∧ y ≤ 3 := by omega
      obtain ⟨xo, hxo⟩ : ∃ xo, xo = 2 + t2 := ⟨_, rfl⟩
      have HXO : Hid (begins xo = true ∧ xo = 2 + t2) := hid ⟨by
        have : xo = 2 ∨ xo = 3 ∨ xo = 4 := by omega
        rcases this with rfl | rfl | rfl <;> rfl, hxo⟩
      have hxo2 := hxo.symm
      have HC := hid hc
      have hkn1i : (k : Int) < n := by omega
      have hkn2i : (k : Int) < 60 := by omega
      have hszr := HB.out.size
      clear hc hzz hdm hxo c00
      by_cases hpush : y = 0 ∧ dn < 20
      · obtain ⟨rfl, hd⟩ := hpush
        have hdi : (dn : Int) < 20 := by omega
        have hro := (HP.out.alloc (.cells #[.int .i64 k] 3)).open'.rowN (n := dn) (by simp [HOL.out])
        have HRO := hid hro
        clear hro
        obtain ⟨i0, hi0, hz0, hz1, hz2⟩ := info_parts infoInt
        go_wp2_with (at_builtin; apply stopHere)
        refine hid ?_
        refine wpList_append_lies _ rfl (.tmp 46) (.tmp 49) 35 rfl w0.heap.size 3 i0 _ 1 8 Try.underlying35 hi0 hz0 hz1 hz2 rfl (by decide) (.slice bo dn bc) dn _ rfl HRO.out ⟨wr.heap.size, 0, none⟩ 1 1 [.int .i64 k] rfl rfl (World.news_of_block (heap_alloc_new wr _)) (by simp [Value.oneCell']) (by decide) (by unfold maxLen; omega) (by omega) (by simp; omega) (wr.alloc (.cells #[.int .i64 k] 3)).heap.size rfl ?_
        intro g cap2 w2 o2 g2 hg2 _
        have hT := (HP.out.alloc (.cells #[.int .i64 k] 3)).openApp HOL.out.symm o2 g2 hg2
        have HP2 := hid hT.1
        have HB2 := hid ((Below.alloc HB.out hszr (.cells #[.int .i64 k] 3)).trans hT.2)
        have c02 := (HB2.out.cell (p := ⟨b, off + k, none⟩) hbl).trans C00.out
        have hsz2 := HB2.out.size
        clear hT o2 g2 hg2 c0 HRO HP hi0 hz0 hz1 hz2
        go_wp2_with (first
          | (at_builtin; refine wpList_app_bareF rfl (.tmp 51) (.tmp 62) rfl w0.heap.size _ _ rfl (HP2.out.alloc _).body xo w2.heap.size rfl (World.news_of_block (heap_alloc_new w2 _)) (by rw [List.length_map, HXL.out]; omega) (by simp; omega) ?_; intro v4 w3 o3 g3 y3; have hU := (HP2.out.alloc (.cells #[.int .i64 xo, .int .i64 0, .int .i64 0, .slice none 0 0] 39)).bodyApp o3 g3 y3; have HP3 := hid hU.1; have HB3 := hid ((Below.alloc HB2.out hsz2 (.cells #[.int .i64 xo, .int .i64 0, .int .i64 0, .slice none 0 0] 39)).trans hU.2); clear hU o3 g3 y3)
          | fail)
        go_roundw
        case rel =>
          have hinv := NsInv.of _ _ rfl _ HSH.out.run
          refine ⟨k + 1, X ++ [xo], ⟨s.bl ++ [⟨(X.length : Int), -1, -1⟩], (s.bl.length, xo == 4) :: s.op⟩, D, q, by go_num, by omega, by simp [HXL.out], by omega, by simp only [List.length_cons, ← HDN.out]; go_num, by simp only [List.length_cons, ← HDN.out]; omega, hid (HSH.out.push HXO.out.1 (by rw [← HDN.out]; omega)), ?_, HB3.out⟩
          rw [opnAt_push (fun p hp => (hinv.opn p hp).1)]
          simp only [HXL.out]
          exact HP3.out
        case measure => simp [intOf]; omega
      · by_cases hpop : y = 1 ∧ 0 < dn
        · obtain ⟨rfl, hd⟩ := hpop
          have hdi : (0 : Int) < dn := by omega
          obtain ⟨so, hso⟩ : ∃ so, s.op = so := ⟨_, rfl⟩
          cases so with
          | nil => exfalso; have := HDN.out; rw [hso] at this; simp at this; omega
          | cons p r =>
            obtain ⟨k0, f⟩ := p
            have hinv := NsInv.of _ _ rfl _ HSH.out.run
            obtain ⟨g1, _, _⟩ := hinv.opn (k0, f) (by rw [hso]; simp)
            simp only at g1
            have hlo := hinv.lo k0 g1
            obtain ⟨m, hm⟩ : ∃ m, m = r.length := ⟨_, rfl⟩
            have hdm : dn = m + 1 := by rw [HDN.out, hso, hm]; rfl
            subst hdm
            obtain ⟨g, rfl⟩ := P3.out (by omega)
            obtain ⟨n0, hn0⟩ : ∃ n0, n0 = (s.bl.getD k0 default).at' := ⟨_, rfl⟩
            obtain ⟨O, hO⟩ : ∃ O, O = r.map fun p => (s.bl.getD p.1 default).at' := ⟨_, rfl⟩
            have hop : opnAt s = n0 :: O := by rw [opnAt, hso, hO, hn0]; rfl
            have hmO : m = O.length := by rw [hO, hm]; simp
            rw [hop] at HP
            rw [← hn0] at hlo
            have t1 := HP.out.top hmO
            have hw1 : (Lit.int .i64 n0).wf = true := WalkArith.wf_i64 ⟨by omega, by have := HXL.out; omega⟩
            have hw2 : (Lit.int .i64 (k : Int)).wf = true := WalkArith.wf_i64 ⟨by omega, by omega⟩
            have hkey : keyOf Try.prog 3 (.int .i64 n0) = some (.int .i64 n0) := keyOf_int_mk Try.underlying3 hw1
            have hm1 : (m : Int) + 1 - 1 = m := by omega
            have HKEY := hid hkey
            have HW2 := hid hw2
            have HG1 := hid g1
            have HSO := hid hso
            have HN0 := hid hn0
            have HO := hid hO
            have HMO := hid hmO
            have HM := hid hm
            clear hkey hw1 hw2 g1 hso hn0 hO hop hmO hm hinv hlo
            go_wp2_with (first
              | (at_mapUpdate; refine wpList_mapUpdate_own _ rfl _ _ _ 56 rfl 3 3 keyed3 Try.underlying56 _ w0.heap.size q _ rfl HP.out.map (by unfold maxLen; omega) _ _ _ rfl rfl HKEY.out _ [] (plainElem_int Try.underlying3 HW2.out) ?_; intro w2 o2 g2; have hT := HP.out.put o2 g2; have HP2 := hid (hT.1.cut HMO.out); have HB2 := hid (HB.out.trans hT.2); have hsz2 := HB2.out.size; clear hT o2 g2 t1)
              | (at_builtin; refine wpList_app_bareF rfl (.tmp 87) (.tmp 89) rfl w0.heap.size _ _ rfl (HP2.out.alloc _).body 11 w2.heap.size rfl (World.news_of_block (heap_alloc_new w2 _)) (by rw [List.length_map, HXL.out]; omega) (by simp; omega) ?_; intro v4 w3 o3 g3 y3; have hU := (HP2.out.alloc (.cells #[.int .i64 11, .int .i64 0, .int .i64 0, .slice none 0 0] 39)).bodyApp o3 g3 y3; have HP3 := hid hU.1; have HB3 := hid ((Below.alloc HB2.out hsz2 (.cells #[.int .i64 11, .int .i64 0, .int .i64 0, .slice none 0 0] 39)).trans hU.2); clear hU o3 g3 y3)
              | fail)
            go_roundw
            case rel =>
              have hsh := HSH.out.pop HSO.out
              refine ⟨k + 1, X ++ [11], ⟨nsEnd s k0 (X.length : Int), r⟩, _, q + 1, by go_num, by omega, by simp [HXL.out], by omega, by first | (simp only [← HM.out]; done) | (simp only [← HM.out]; go_num), by simp only [← HM.out]; omega, hid hsh, ?_, HB3.out⟩
              · rw [opnAt_pop HG1.out, ← HO.out, HXL.out, ← HN0.out]
                exact HP3.out
            case measure => simp [intOf]; omega
        · have hcs : (y = 0 ∧ 20 ≤ dn) ∨ (y = 1 ∧ dn = 0) ∨ (y ≠ 0 ∧ y ≠ 1) := by omega
          have hle : OwnP w0.heap.size wr (.slice ao k ac) (X.map bare) := HP.out.body
          clear hpush hpop hle
          rcases hcs with ⟨rfl, hd⟩ | ⟨rfl, hd⟩ | ⟨hd0, hd1⟩
          · have hdi : ¬ (dn : Int) < 20 := by omega
            go_wp2_with (first
              | (at_builtin; refine wpList_app_bareF rfl (.tmp 35) (.tmp 37) rfl w0.heap.size _ _ rfl (HP.out.alloc _).body 1 wr.heap.size rfl (World.news_of_block (heap_alloc_new wr _)) (by rw [List.length_map, HXL.out]; omega) (by simp; omega) ?_; intro v4 w3 o3 g3 y3; have hU := (HP.out.alloc (.cells #[.int .i64 1, .int .i64 0, .int .i64 0, .slice none 0 0] 39)).bodyApp o3 g3 y3; have HP3 := hid hU.1; have HB3 := hid ((Below.alloc HB.out hszr (.cells #[.int .i64 1, .int .i64 0, .int .i64 0, .slice none 0 0] 39)).trans hU.2); clear hU o3 g3 y3)
              | fail)
            go_roundw
            case rel => exact ⟨k + 1, X ++ [1], s, D, q, by go_num, by omega, by simp [HXL.out], by omega, by rw [← HDN.out], by rw [← HDN.out]; omega, hid HSH.out.nop, HP3.out, HB3.out⟩
            case measure => simp [intOf]; omega
          · have hdi : ¬ (0 : Int) < dn := by omega
            clear hd
            go_wp2_with (first
              | (at_builtin; refine wpList_app_bareF rfl (.tmp 35) (.tmp 37) rfl w0.heap.size _ _ rfl (HP.out.alloc _).body 1 wr.heap.size rfl (World.news_of_block (heap_alloc_new wr _)) (by rw [List.length_map, HXL.out]; omega) (by simp; omega) ?_; intro v4 w3 o3 g3 y3; have hU := (HP.out.alloc (.cells #[.int .i64 1, .int .i64 0, .int .i64 0, .slice none 0 0] 39)).bodyApp o3 g3 y3; have HP3 := hid hU.1; have HB3 := hid ((Below.alloc HB.out hszr (.cells #[.int .i64 1, .int .i64 0, .int .i64 0, .slice none 0 0] 39)).trans hU.2); clear hU o3 g3 y3)
              | fail)
            go_roundw
            case rel => exact ⟨k + 1, X ++ [1], s, D, q, by go_num, by omega, by simp [HXL.out], by omega, by rw [← HDN.out], by rw [← HDN.out]; omega, hid HSH.out.nop, HP3.out, HB3.out⟩
            case measure => simp [intOf]; omega
          · have hd0' : (y == 0) = false := by simp [hd0]
            have hd1' : (y == 1) = false := by simp [hd1]
            go_wp2_with (first
              | (at_builtin; refine wpList_app_bareF rfl (.tmp 35) (.tmp 37) rfl w0.heap.size _ _ rfl (HP.out.alloc _).body 1 wr.heap.size rfl (World.news_of_block (heap_alloc_new wr _)) (by rw [List.length_map, HXL.out]; omega) (by simp; omega) ?_; intro v4 w3 o3 g3 y3; have hU := (HP.out.alloc (.cells #[.int .i64 1, .int .i64 0, .int .i64 0, .slice none 0 0] 39)).bodyApp o3 g3 y3; have HP3 := hid hU.1; have HB3 := hid ((Below.alloc HB.out hszr (.cells #[.int .i64 1, .int .i64 0, .int .i64 0, .slice none 0 0] 39)).trans hU.2); clear hU o3 g3 y3)
              | fail)
            go_roundw
            case rel => exact ⟨k + 1, X ++ [1], s, D, q, by go_num, by omega, by simp [HXL.out], by omega, by rw [← HDN.out], by rw [← HDN.out]; omega, hid HSH.out.nop, HP3.out, HB3.out⟩
            case measure => simp [intOf]; omega
    · have hcs : ¬ (k : Int) < n ∨ ((k : Int) < n ∧ ¬ (k : Int) < 60) := by omega
      obtain ⟨wo, hwo⟩ : ∃ wo : World, wo = wr := ⟨_, rfl⟩
      subst hwo
      clear hkn
      rcases hcs with h1 | ⟨h1, h2⟩
      all_goals
        as_aux_lemma =>
          go_wp2_with fail
          go_loopw [4, 5, 7] (fun v4 v5 d wr => ∃ (X : List Int) (s : Ns) (D : DataW Unit) (q : Nat), d = .int .i64 (s.op.length : Int) ∧ X.length + s.op.length ≤ 80 ∧ s.op.length ≤ 20 ∧ q ≤ X.length ∧ Hid (Sh X s D) ∧ ShP w0.heap.size wr w0.heap.size v4 v5 X (opnAt s) q D ∧ Below w0.heap.size w0 wr) (fun _ _ d _ => (intOf d).toNat)
          case atStart => exact ⟨X, s, D, q, by rw [← HDN.out], by rw [← HDN.out, HXL.out]; omega, by rw [← HDN.out]; exact hd20, by rw [HXL.out]; exact hqk, HSH, HP.out, HB.out⟩
          case round =>
            clear HSH HP HB HDN HXL P3 HOL hd20 hqk hk60 p1 p2 hsz
            obtain ⟨X, s, D, q, rfl, hx80, hd20, hqx, HSH, hP, hb⟩ := hrel
            have HP := hid hP
            have HB := hid hb
            have hszr := hb.size
            obtain ⟨⟨ao, ac, rfl⟩, bo, bc, rfl, p1, p2, p3⟩ := hP.shape
            obtain ⟨dn, hdn⟩ : ∃ dn, dn = s.op.length := ⟨_, rfl⟩
            obtain ⟨xl, hxl⟩ : ∃ xl, xl = X.length := ⟨_, rfl⟩
            have hol : (opnAt s).length = dn := by simp [opnAt, hdn]
            rw [hol] at HP p1 p3 ⊢
            rw [← hxl] at HP hx80 hqx ⊢
            rw [← hdn] at hd20 hx80 ⊢
            have HDN := hid hdn
            have HXL := hid hxl.symm
            have P3 := hid p3
            have HOL := hid hol
            clear hP hb hdn hxl p3 hol
            by_cases hd : 0 < dn
            · have hdi : (0 : Int) < dn := by omega
              obtain ⟨so, hso⟩ : ∃ so, s.op = so := ⟨_, rfl⟩
              cases so with
              | nil => exfalso; have := HDN.out; rw [hso] at this; simp at this; omega
              | cons p r =>
                obtain ⟨k0, f⟩ := p
                have hinv := NsInv.of _ _ rfl _ HSH.out.run
                obtain ⟨g1, _, _⟩ := hinv.opn (k0, f) (by rw [hso]; simp)
                simp only at g1
                have hlo := hinv.lo k0 g1
                obtain ⟨m, hm⟩ : ∃ m, m = r.length := ⟨_, rfl⟩
                have hdm : dn = m + 1 := by rw [HDN.out, hso, hm]; rfl
                subst hdm
                obtain ⟨g, rfl⟩ := P3.out (by omega)
                obtain ⟨n0, hn0⟩ : ∃ n0, n0 = (s.bl.getD k0 default).at' := ⟨_, rfl⟩
                obtain ⟨O, hO⟩ : ∃ O, O = r.map fun p => (s.bl.getD p.1 default).at' := ⟨_, rfl⟩
                have hop : opnAt s = n0 :: O := by rw [opnAt, hso, hO, hn0]; rfl
                have hmO : m = O.length := by rw [hO, hm]; simp
                rw [hop] at HP
                rw [← hn0] at hlo
                have t1 := HP.out.top hmO
                have hw1 : (Lit.int .i64 n0).wf = true := WalkArith.wf_i64 ⟨by omega, by have := HXL.out; omega⟩
                have hw2 : (Lit.int .i64 (xl : Int)).wf = true := WalkArith.wf_i64 ⟨by omega, by omega⟩
                have hkey : keyOf Try.prog 3 (.int .i64 n0) = some (.int .i64 n0) := keyOf_int_mk Try.underlying3 hw1
                have hm1 : (m : Int) + 1 - 1 = m := by omega
                have HKEY := hid hkey
                have HW2 := hid hw2
                have HG1 := hid g1
                have HSO := hid hso
                have HN0 := hid hn0
                have HO := hid hO
                have HMO := hid hmO
                have HM := hid hm
                clear hkey hw1 hw2 g1 hso hn0 hO hop hmO hm hinv hlo
                go_wp2_with (first
                  | (at_mapUpdate; refine wpList_mapUpdate_own _ rfl _ _ _ 56 rfl 3 3 keyed3 Try.underlying56 _ w0.heap.size q _ rfl HP.out.map (by unfold maxLen; omega) _ _ _ rfl rfl HKEY.out _ [] (plainElem_int Try.underlying3 HW2.out) ?_; intro w2 o2 g2; have hT := HP.out.put o2 g2; have HP2 := hid (hT.1.cut HMO.out); have HB2 := hid (HB.out.trans hT.2); have hsz2 := HB2.out.size; clear hT o2 g2 t1)
                  | (at_builtin; refine wpList_app_bareF rfl (.tmp 109) (.tmp 111) rfl w0.heap.size _ _ rfl (HP2.out.alloc _).body 11 w2.heap.size rfl (World.news_of_block (heap_alloc_new w2 _)) (by rw [List.length_map, HXL.out]; omega) (by simp; omega) ?_; intro v4 w3 o3 g3 y3; have hU := (HP2.out.alloc (.cells #[.int .i64 11, .int .i64 0, .int .i64 0, .slice none 0 0] 39)).bodyApp o3 g3 y3; have HP3 := hid hU.1; have HB3 := hid ((Below.alloc HB2.out hsz2 (.cells #[.int .i64 11, .int .i64 0, .int .i64 0, .slice none 0 0] 39)).trans hU.2); clear hU o3 g3 y3)
                  | fail)
                go_roundw
                case rel =>
                  have hsh := HSH.out.pop HSO.out
                  refine ⟨X ++ [11], ⟨nsEnd s k0 (X.length : Int), r⟩, _, q + 1, by first | (simp only [← HM.out]; done) | (simp only [← HM.out]; go_num), by simp only [← HM.out, List.length_append, HXL.out]; simp; omega, by simp only [← HM.out]; omega, by simp only [List.length_append, HXL.out]; simp; omega, hid hsh, ?_, HB3.out⟩
                  · rw [opnAt_pop HG1.out, ← HO.out, HXL.out, ← HN0.out]
                    exact HP3.out
                case measure => simp [intOf]
            · have hd0 : dn = 0 := by omega
              subst hd0
              have hso : s.op = [] := List.eq_nil_of_length_eq_zero HDN.out.symm
              have hF := fits_some HSH.out.run HDN.out.symm (by rw [HXL.out]; omega)
              have HFT := hid (fits_iff.1 hF)
              have hsize := HSH.out.size
              rw [hso] at hsize
              have HSIZE : Hid (Maps.size D = s.bl.length) := hid (by simpa using hsize)
              obtain ⟨ao', ac', hv4, hr4⟩ := HP.out.body.rd (bare_ok X)
              rw [List.length_map, HXL.out] at hv4 hr4
              cases hv4
              have HR4 := hid hr4
              have HFF := hid hF
              clear hso hF hsize hr4 P3 HOL HDN p1 p2 hd
              go_wp2_with fail
              refine (match_to _ ao xl ac _ wr HR4.out).mono ?_
              rintro e w5 ⟨v5, rfl, hv5, hb⟩
              rw [opsI_bare, HFF.out, Option.getD_some] at hv5
              rw [opsI_bare, HFF.out, Option.isSome_some]
              obtain ⟨mo, mc, rfl, r1, r2, r3⟩ := hv5.shape
              rw [List.length_map] at hv5 r1 r3 ⊢
              obtain ⟨bn, hbn⟩ : ∃ bn, bn = s.bl.length := ⟨_, rfl⟩
              rw [← hbn] at hv5 r1 r3 ⊢
              have HBN := hid hbn
              have HV5 := hid hv5
              have R3 := hid r3
              have HP5 := hid (HP.out.below hb)
              have HR5 := hid (HR4.out.below hb)
              have HB5 := hid (HB.out.trans (hb.mono hszr))
              have hsz5 := HB5.out.size
              have hbn80 : bn ≤ 80 := by
                have h1 := HFT.out.inv.few
                simp only at h1
                have := HXL.out
                omega
              have hmlen := fun ty => HP5.out.map.len (t := 56) Try.underlying56 ty
              rw [HSIZE.out, ← hbn] at hmlen
              have HFF2 := hid HFF.out
              clear hv5 hb hbn r3 HR4 HP HB HFF
              go_wp2_with fail
              obtain ⟨wo, hwo⟩ : ∃ wo : World, wo = wr := ⟨_, rfl⟩
              subst hwo
              go_loopw [12] (fun i wx => ∃ j : Nat, j ≤ bn ∧ i = .int .i64 j ∧ Below w5.heap.size w5 wx) (fun i _ => bn - (intOf i).toNat)
              case atStart => exact ⟨0, Nat.zero_le _, rfl, Below.refl _ _⟩
              case round =>
                obtain ⟨j, hj, rfl, hb⟩ := hrel
                have HBX := hid hb
                clear hb
                by_cases hjb : j < bn
                · obtain ⟨gb, rfl⟩ := R3.out (by omega)
                  have hjl : j < s.bl.length := by rw [← HBN.out]; exact hjb
                  obtain ⟨a0, a1, a2, _, _⟩ := blk_cells (HV5.out.below HBX.out (Nat.le_refl _)) hjl
                  have hcl := HFT.out.closed j hjl
                  have hels := HSH.out.els j hjl
                  have hatk := HSH.out.at' j hjl (by omega)
                  have htop := tgt_top HFT.out HSH.out.els hjl
                  rw [HXL.out] at hcl
                  obtain ⟨pa, hpa⟩ := Int.eq_ofNat_of_zero_le hcl.1
                  obtain ⟨pe, hpe⟩ := Int.eq_ofNat_of_zero_le (show 0 ≤ (s.bl.getD j default).en by omega)
                  rw [hels] at a1
                  rw [if_neg (by omega), hpe] at a2
                  rw [hpa] at a0
                  rw [hpa, hpe] at hcl hatk htop
                  obtain ⟨ep, hep⟩ : ∃ ep : Nat, pe = ep + 1 := ⟨pe - 1, by omega⟩
                  have he1 : (pe : Int) - 1 = (ep : Int) := by omega
                  rw [he1] at htop
                  have hez : IntKind.i64.wrap ((pe : Int) - 1) = (ep : Int) := by rw [he1]; exact IntWalk.i64_in _ (by omega)
                  have hepx : ep < xl := by omega
                  have hw1 : (Lit.int .i64 (pa : Int)).wf = true := WalkArith.wf_i64 ⟨by omega, by omega⟩
                  have hkey : keyOf Try.prog 3 (.int .i64 (pa : Int)) = some (.int .i64 (pa : Int)) := keyOf_int_mk Try.underlying3 hw1
                  have hlk : ∀ m, (Instr.lookup 56 (.map (some w0.heap.size)) (.int .i64 (pa : Int)) false).run Try.prog (wr.drewN m) = .ok (.int .i64 (pe : Int)) (wr.drewN m) := by
                    intro m
                    have hpx := (HP5.out.below HBX.out).below (below_drewN wr.heap.size wr m)
                    obtain ⟨c, hrun, hat, _⟩ := hpx.map.lookup_int keyed3 Try.underlying56 Try.underlying3 (zero3 _) hkey
                    rw [hrun]
                    have := hatk (.lit (.int .i64 0))
                    rw [this] at hat
                    have h2 : (pe : Int) = c := by
                      simp [key] at hat
                      exact hat
                    rw [h2]
                  have HTOP := hid htop
                  have HLK := hid hlk
                  have hae : pa < pe := by omega
                  have hsz : w5.heap.size ≤ wr.heap.size := HBX.out.size
                  have hpe80 : pe < 80 := by omega
                  have HPA := hid hpa
                  have HPE := hid hpe
                  clear hels hatk htop hcl hpe hep hw1 hkey hlk hpa
                  have hjcs : (¬ (0 : Int) < j) ∨ ((0 : Int) < j ∧ ∃ (kp pb : Nat), (kp : Int) = (j : Int) - 1 ∧ pb < pa ∧ wr.cell? ⟨gb, kp * 3, none⟩ = some (.int .i64 (pb : Int))) := by
                    by_cases h0 : 0 < j
                    · refine .inr ⟨by omega, j - 1, ((s.bl.getD (j - 1) default).at').toNat, by omega, ?_, ?_⟩
                      · have h1 := HFT.out.inv.inc (j - 1) j (by omega) hjl
                        have h2 := (HFT.out.closed (j - 1) (by omega)).1
                        simp only at h1
                        have := HPA.out
                        omega
                      · obtain ⟨b0, _, _, _, _⟩ := blk_cells (HV5.out.below HBX.out (Nat.le_refl _)) (k := j - 1) (by omega)
                        rw [b0]
                        have h2 := (HFT.out.closed (j - 1) (by omega)).1
                        rw [Int.toNat_of_nonneg h2]
                    · exact .inl (by omega)
                  have finish : True := trivial
                  have hjbi : (j : Int) < bn := by omega
                  clear hjl
                  have hlk := HLK.out
                  have hlk0 := HLK.out 0
                  rcases hjcs with hj0 | ⟨hj0, kp, pb, hkp, hpb, b0⟩
                  rotate_left
                  have hd1 : decide ((0 : Int) < (j : Int)) = true := by simp; omega
                  have hd2 : decide (0 < j) = true := by simp; omega
                  have hk1 : IntKind.i64.wrap ((j : Int) - 1) = (kp : Int) := by rw [hkp]; exact IntWalk.i64_in _ (by omega)
                  have hk2 : (j : Int) - 1 = (kp : Int) := hkp.symm
                  have hk3 : (kp : Int) < bn := by omega
                  have hk4 : ¬ ((pa : Int) ≤ (pb : Int)) := by omega
                  have hk5 : decide (pa ≤ pb) = false := by simp; omega
                  clear hkp
                  go_wp2_with fail
                  go_quiet (fail)
                  clear hd1 hd2 hj0 hk1 hk2 hk3 hk4 hk5 b0
                  rotate_left
                  have hd1 : decide ((0 : Int) < (j : Int)) = false := by simpa using hj0
                  have hd2 : decide (0 < j) = false := by simp; omega
                  go_wp2_with fail
                  go_quiet (fail)
                  clear hd1 hd2 hj0
                  all_goals
                    clear a0 a1 hlk hlk0 hez HLK
                    go_wp2_with fail
                    refine (targets_to _ _ xl ac _ (ep : Int) _ (HR5.out.below (HBX.out.trans (below_drewN _ _ _)))).mono ?_
                    rintro e w7 ⟨v7, rfl, ht, hb⟩
                    clear a2
                    have HB7 := hid ((HBX.out.trans (below_drewN _ _ _)).trans (hb.mono (Nat.le_trans hsz (below_drewN 0 _ _).size)))
                    rw [opsI_bare, HFF2.out, Option.getD_some] at ht
                    obtain ⟨to, tc, rfl, hrt⟩ := ht.rd
                    obtain ⟨ts, hts⟩ : ∃ ts, ts = tgt s.bl (ep : Int) := ⟨_, rfl⟩
                    have htop := HTOP.out
                    rw [← hts] at hrt htop ⊢
                    obtain ⟨tn, htn⟩ : ∃ tn, tn = ts.length := ⟨_, rfl⟩
                    rw [← htn] at hrt htop ⊢
                    have HT := hid hrt
                    obtain ⟨a0, _, a2, _, _⟩ := blk_cells (HV5.out.below HB7.out (Nat.le_refl _)) (k := j) (by rw [← HBN.out]; exact hjb)
                    rw [HPA.out] at a0
                    rw [HPE.out, if_neg (by omega)] at a2
                    obtain ⟨bx, ox, _, _, _, hao, x0, _⟩ := (HR5.out.below HB7.out).cell ep hepx
                    obtain ⟨x1, hx1⟩ : ∃ x1, x1 = ((X.map bare).getD ep default).op := ⟨_, rfl⟩
                    rw [← hx1] at x0
                    have hez : IntKind.i64.wrap ((pe : Int) - 1) = (ep : Int) := by rw [he1]; exact IntWalk.i64_in _ (by omega)
                    have hez2 : IntKind.i64.wrap (ep : Int) = (ep : Int) := IntWalk.i64_in _ (by omega)
                    have hepxi : (ep : Int) < xl := by omega
                    have HTOP2 := hid htop
                    subst hao
                    clear ht hb hrt hts htn hx1 htop
                    have hcs : (¬ pa < ep) ∨ (pa < ep ∧ (x1 == 1) = false) ∨ (pa < ep ∧ x1 = 1) := by
                      by_cases h0 : pa < ep
                      · by_cases h1 : x1 = 1
                        · exact .inr (.inr ⟨h0, h1⟩)
                        · exact .inr (.inl ⟨h0, by simp [h1]⟩)
                      · exact .inl h0
                    rcases hcs with g0 | ⟨g0, g1⟩ | ⟨g0, g1⟩
                    · have g2 : decide (pa < ep) = false := by simp; omega
                      have g3 : ¬ ((pa : Int) < (ep : Int)) := by omega
                      go_wp2_with fail
                      go_quiet (fail)
                      go_wp2_with fail
                      go_roundw
                      case rel => exact ⟨j + 1, by omega, by go_num, HB7.out.trans (below_drewN _ _ _)⟩
                      case measure => simp [intOf]; omega
                    · have g2 : decide (pa < ep) = true := by simp; omega
                      have g3 : (pa : Int) < (ep : Int) := by omega
                      go_wp2_with fail
                      go_quiet (fail)
                      go_wp2_with fail
                      go_roundw
                      case rel => exact ⟨j + 1, by omega, by go_num, HB7.out.trans (below_drewN _ _ _)⟩
                      case measure => simp [intOf]; omega
                    · subst g1
                      have g2 : decide (pa < ep) = true := by simp; omega
                      have g3 : (pa : Int) < (ep : Int) := by omega
                      obtain ⟨ht1, ht2⟩ := HTOP2.out (by omega)
                      obtain ⟨tb, toff, rfl, hc⟩ := HT.out.at ht1
                      have c0 := hc 0 ht1
                      rw [ht2, Nat.add_zero] at c0
                      have g4 : ((tn : Int) == 0) = false := by simp; omega
                      have g5 : (0 : Int) < tn := by omega
                      clear hc ht1 ht2
                      go_wp2_with fail
                      go_quiet (fail)
                      go_wp2_with fail
                      go_roundw
                      case rel => exact ⟨j + 1, by omega, by go_num, HB7.out.trans (below_drewN _ _ _)⟩
                      case measure => simp [intOf]; omega
                · have hjb' : j = bn := by omega
                  subst hjb'
                  go_wp2_with fail
                  go_ret
                  exact ⟨rfl, HB0.out.trans ((HB5.out.trans (HBX.out.mono hsz5)).mono HB0.out.size)⟩
end Go.Proofs.Ytfambbpggodlkaa
