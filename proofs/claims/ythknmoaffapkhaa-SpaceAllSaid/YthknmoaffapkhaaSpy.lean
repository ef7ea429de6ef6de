/- space's laws: SpaceAll. -/
import Derived.Test.YthknmoaffapkhaaSpA8
import Derived.Deep.CutBlock
namespace Go.Proofs.Ythknmoaffapkhaa
open Go.RowKit Go.Maps
set_option linter.unusedVariables false

theorem blkRd {w : World} {g n : Nat} {T : List Int} (h : Blk w g 3 (T.map (Value.int .i64))) (hn : T.length = n) (hn16 : n ≤ 65536) (hw : ∀ f ∈ T, -1 ≤ f ∧ f ≤ 999) : Rd .i64 w (some ⟨g, 0, none⟩) n n T := by
  refine ⟨hn, Nat.le_refl _, by unfold maxLen; omega, (fun h => by cases h), fun ad ha i hi => ?_, fun x hx => WalkArith.wf_i64 (by have := hw x hx; omega)⟩
  cases ha
  rw [Addr.add_lit, Nat.zero_add, h.cell]
  simp [List.getD, show i < T.length by omega]
theorem OwnC.setN {E : TypeId} {B g i n cap : Nat} {w : World} {X : List (Int × Int)} (h : OwnC E 2 B w (.slice (some ⟨g, 0, none⟩) n cap) (X.map vc)) (hi : i < X.length) (y : Int) :
    OwnC E 2 B (w.setCell ⟨g, i * 2 + 1, none⟩ (.int .i64 y)) (.slice (some ⟨g, 0, none⟩) n cap) ((X.set i ((X.getD i (0, 0)).1, y)).map vc) := by
  have hg1 := h.set i 1 (.int .i64 y) (by simpa using hi) (by decide)
  have e3 : (X.set i ((X.getD i (0, 0)).1, y)).map vc = (X.map vc).set i (((X.map vc).getD i []).set 1 (.int .i64 y)) := by
    rw [List.map_set]
    congr 1
    simp [List.getD, hi, vc]
  rw [e3]
  exact hg1
theorem elem_ways (T : List Int) (n : Nat) (hT : T.length = n) (hTw : ∀ f ∈ T, -1 ≤ f ∧ f ≤ 999) (at' : Int) :
    (at' < 0 ∧ elemIs T at' = false ∧ elemF T at' = 0) ∨ (0 ≤ at' ∧ (n : Int) ≤ at' ∧ elemIs T at' = false ∧ elemF T at' = 0) ∨
    (∃ j : Nat, at' = j ∧ j < n ∧ T.getD j 0 = -1 ∧ elemIs T at' = false ∧ elemF T at' = 0) ∨ (∃ j : Nat, at' = j ∧ j < n ∧ 0 ≤ T.getD j 0 ∧ elemIs T at' = true ∧ elemF T at' = T.getD j 0) := by
  unfold elemF elemIs
  by_cases h0 : at' < 0
  · exact .inl ⟨h0, by simp; omega, by rw [if_neg (by simp; omega)]⟩
  · by_cases h1 : (n : Int) ≤ at'
    · exact .inr (.inl ⟨by omega, h1, by simp; omega, by rw [if_neg (by simp; omega)]⟩)
    · obtain ⟨j, rfl⟩ : ∃ j : Nat, at' = j := ⟨at'.toNat, by omega⟩
      have hj : j < n := by omega
      simp only [Int.toNat_natCast]
      have hm : T.getD j 0 ∈ T := by
        have : j < T.length := by omega
        simp [List.getD, this]
      have hb := hTw _ hm
      by_cases e : T.getD j 0 = -1
      · exact .inr (.inr (.inl ⟨j, rfl, hj, e, by simp only [e]; simp, by rw [if_neg (by simp only [e]; simp)]⟩))
      · have ht : decide (0 ≤ (j : Int) ∧ (j : Int) < (T.length : Int) ∧ T.getD j 0 ≠ -1) = true := by rw [decide_eq_true_eq]; exact ⟨by omega, by omega, e⟩
        exact .inr (.inr (.inr ⟨j, rfl, hj, by omega, ht, by rw [if_pos ht]⟩))
theorem blk_of_row {w : World} {base : Nat} {E : TypeId} {g n : Nat} {cs : List Value} (h : w.ownsRow base E 1 (.slice (some ⟨g, 0, none⟩) n n) n cs) : Blk w g E cs := by
  rcases h.2 with ⟨h', _⟩ | ⟨g', cap, cur, hv, _, hh, _, _, hsz, htake⟩
  · simp at h'
  · simp only [Value.slice.injEq, Option.some.injEq, Addr.mk.injEq] at hv
    obtain ⟨⟨rfl, _⟩, _, rfl⟩ := hv
    have e : cur.toList = cs := by
      rw [List.take_of_length_le (by rw [Array.length_toList, hsz]; exact Nat.le_refl _)] at htake
      exact htake
    unfold Blk
    rw [hh, ← e]
set_option maxRecDepth 1000000 in
set_option maxHeartbeats 16000000 in
theorem spaceAll_walk (table : Int) (go : Option Addr) (gen gcap : Nat) (gz : List (List Int)) (oo : Option Addr) (on ocap : Nat) (os : List OpM) (at' : Int) (w : World) (hg : RdS [.i64, .i64] w go gen gcap gz) (ho : RdO w oo on ocap os) (ha : (Lit.int .i64 at').wf = true) :
    Calls Try.prog 3 #[.int .i64 table, .slice go gen gcap, .slice oo on ocap, .int .i64 at'] w fun e w' => e = .returned (.bool true) ∧ Below w.heap.size w w' := by
  have gl63 := hg.cap63
  have gle := hg.le
  have HG := hid hg
  have HOP := hid ho
  have ole := ho.le
  have omx := ho.max
  have ol63 : ocap ≤ 9223372036854775807 := by unfold maxLen at omx; omega
  have HAT := hid ha
  clear hg ho ha omx
  go_enter Try.func3, Try.ntmps3
  go_wp2_with fail
  refine (begun_to w).mono ?_
  rintro e w1 ⟨rfl, hbb⟩
  have HB := hid hbb
  clear hbb
  by_cases hr : table < 0 ∨ 16 < table
  · by_cases h1 : table < 0
    · go_wp2_with fail
      go_ret
      exact ⟨rfl, HB.out⟩
    · have h2 : 16 < table := by omega
      go_wp2_with fail
      go_ret
      exact ⟨rfl, HB.out⟩
  obtain ⟨n, rfl⟩ : ∃ y : Nat, table = y := ⟨table.toNat, by omega⟩
  have hn2 : (n : Int) ≤ 16 := by omega
  clear hr
  have d1 : decide ((n : Int) < 0) = false := by simp
  have d2 : decide ((16 : Int) < (n : Int)) = false := by simp; omega
  obtain ⟨hb, hhb⟩ : ∃ hb : Bool, decide (0 < n) = hb := ⟨_, rfl⟩
  have HHB : Hid (hb = true ∨ n = 0) := hid (by rw [← hhb]; simp; omega)
  go_upto_block 0 with fail
  clear d1 d2 hhb
  have hgm1 : w.heap.size ≤ w1.heap.size := HB.out.size
  have hL0 : L1 w.heap.size w1.heap.size hb n (w1.alloc (.cells (modL hb n (.slice none 0 0)).toArray 36)) (.slice none 0 0) (.slice none 0 0) [] [] := ⟨Blk.new _ _ _, OwnC.nil _ _ _ _, OwnC.nil _ _ _ _, hgm1⟩
  replace HB := hid (HB.out.trans ((Bl.alloc (Bl.refl w1) (.cells (modL hb n (.slice none 0 0)).toArray 36)).mono hgm1))
  simp only [modL] at hL0 HB
  have HL := hid hL0
  clear hL0
  generalize w1.alloc _ = w2 at HL HB ⊢
  obtain ⟨gm, hgm⟩ : ∃ gm, w1.heap.size = gm := ⟨_, rfl⟩
  rw [hgm] at HL hgm1
  rw [hgm]
  clear hgm
  obtain ⟨K, hK⟩ : ∃ K, K = min gen 10 := ⟨_, rfl⟩
  have hKg : K ≤ gen := by omega
  have hK10 : K ≤ 10 := by omega
  have HK := hid hK
  clear hK
  go_cut [11, 12] from 47 to 78 (fun v i wc => i = .int .i64 (K : Int) ∧ Hid ((∃ gv, L1 w.heap.size gm hb n wc v gv (gvs gz K) (gvs gz K)) ∧ Below w.heap.size w wc))
  case first =>
    go_wp2_with fail
    go_loopw [11, 12] (fun v i wr => ∃ (k : Nat) (gv : Value), k ≤ K ∧ i = .int .i64 k ∧ L1 w.heap.size gm hb n wr v gv (gvs gz k) (gvs gz k) ∧ Below w.heap.size w wr) (fun _ i _ => K - (intOf i).toNat)
    case atStart => exact ⟨0, _, Nat.zero_le _, rfl, HL.out, HB.out⟩
    case round =>
      clear HL HB
      obtain ⟨k, gl, hk, rfl, hL, hB⟩ := hrel
      by_cases hlt : k < K
      · have hkg : k < gen := by omega
        obtain ⟨b, off, rfl, hc⟩ := (HG.out).at (by omega) (by decide)
        have c0 := hc k hkg 0 (by decide)
        have c1 := hc k hkg 1 (by decide)
        rw [show [IntKind.i64, IntKind.i64].length = 2 by rfl, show (off + (k * 2 + 0) : Nat) = off + k * 2 by omega, show [IntKind.i64, IntKind.i64].getD 0 .i64 = .i64 by rfl] at c0
        rw [show [IntKind.i64, IntKind.i64].length = 2 by rfl, show (off + (k * 2 + 1) : Nat) = off + k * 2 + 1 by omega, show [IntKind.i64, IntKind.i64].getD 1 .i64 = .i64 by rfl] at c1
        have hbw : b < w.heap.size := World.block_lt_of_cell? _ _ c0
        obtain ⟨x, hx⟩ : ∃ x, gv gz k = x := ⟨_, rfl⟩
        rw [show (gz.getD k []).getD 0 0 = x.1 by rw [← hx]; rfl] at c0
        rw [show (gz.getD k []).getD 1 0 = x.2 by rw [← hx]; rfl] at c1
        have b0 := (hB.cell (p := ⟨b, off + k * 2, none⟩) hbw).trans c0
        have b1 := (hB.cell (p := ⟨b, off + k * 2 + 1, none⟩) hbw).trans c1
        have hbwr : b < wr.heap.size := Nat.lt_of_lt_of_le hbw hB.size
        have hlen := gvs_len gz k
        have d1 : decide ((k : Int) < (gen : Int)) = true := by simp; omega
        have d2 : decide ((k : Int) < 10) = true := by simp; omega
        have hmay := refMay_any x.1 x.2 wr
        obtain ⟨ok, hok⟩ : ∃ ok, okv x.1 x.2 = ok := ⟨_, rfl⟩
        rw [hok] at hmay
        cases ok
        · have hno := gvs_no gz k (by rw [hx]; exact hok)
          have HL := hid hL
          have HB := hid hB
          clear c0 c1 hc hx hL hB hok hlen
          go_wp2_with fail
          refine hmay.mono ?_
          rintro e w3 ⟨rfl, hb3⟩
          replace HL := hid (HL.out.bl hb3)
          replace HB := hid (HB.out.trans (hb3.mono HB.out.size))
          clear hb3 hmay b0 b1
          go_wp2_with fail
          go_roundw
          case rel => exact ⟨k + 1, gl, by omega, by go_num, by rw [hno]; exact HL.out, HB.out⟩
          case measure => simp [intOf]; omega
        · have hyes := gvs_yes gz k (by rw [hx]; exact hok)
          rw [hx] at hyes
          have HL := hid hL
          have HB := hid hB
          have HYE := hid (And.intro hyes hlen)
          have HC := hid (And.intro c0 c1)
          clear c0 c1 hc hx hL hB hok hlen hyes
          go_wp2_with fail
          refine hmay.mono ?_
          rintro e w3 ⟨rfl, hb3⟩
          replace HL := hid (HL.out.bl hb3)
          replace HB := hid (HB.out.trans (hb3.mono HB.out.size))
          have e0 := (hb3.cell (p := ⟨b, off + k * 2, none⟩) hbwr).trans b0
          have e1 := (hb3.cell (p := ⟨b, off + k * 2 + 1, none⟩) hbwr).trans b1
          have hbw3 : b < w3.heap.size := Nat.lt_of_lt_of_le hbwr hb3.size
          clear hb3 hmay b0 b1
          have HNW := hid (World.news_of_block (heap_alloc_new w3 (.cells #[.int .i64 x.1, .int .i64 x.2] 39)))
          have hs3 : w.heap.size ≤ w3.heap.size := HB.out.size
          go_wp2_with (at_builtin; refine wpList_append_c rfl (.tmp 62) (.tmp 67) 22 rfl 39 _ w.heap.size 2 16 Try.underlying22 infoV rfl (by decide) u11 ((gvs gz k).map vc) rfl (HL.out.vo.alloc (.cells #[.int .i64 x.1, .int .i64 x.2] 39)) w3.heap.size (vc x) rfl rfl HNW.out (by simp [vc, Value.oneCell']) (by rw [List.length_map]; have := HYE.out.2; omega) (by rw [List.length_map]; have := HYE.out.2; omega) (by simp; omega) ?_; intro v' w4 h1 h2; apply stopHere)
          refine hid ?_
          have hL4 := (HL.out.alloc (.cells #[.int .i64 x.1, .int .i64 x.2] 39)).pushV h1 h2
          have hB4 : Below w.heap.size w w4 := (HB.out.trans ((Bl.alloc (Bl.refl w3) (.cells #[.int .i64 x.1, .int .i64 x.2] 39)).mono hs3)).trans ((Below.refl w.heap.size _).grown h2 (by simp; omega) (fun q hq => (HL.out.vo.lt q hq).1))
          obtain ⟨qo, qc, eq, hq1, hq2, _⟩ := hL4.go.shape
          obtain ⟨m, hm⟩ : ∃ m, (gvs gz k).length = m := ⟨_, rfl⟩
          rw [List.length_map, hm] at eq hq1
          subst eq
          have hm10 : m ≤ 10 := by have := HYE.out.2; omega
          have b0 := (hB4.cell (p := ⟨b, off + k * 2, none⟩) hbw).trans HC.out.1
          have b1 := (hB4.cell (p := ⟨b, off + k * 2 + 1, none⟩) hbw).trans HC.out.2
          have hbw4 : b < w4.heap.size := Nat.lt_of_lt_of_le hbw hB4.size
          have m9 : w4.cell? ⟨gm, 9, none⟩ = some (.slice qo m qc) := hL4.m.cell 9
          have hgm4 := hL4.m.lt
          have hs4 : w.heap.size ≤ w4.heap.size := hB4.size
          have HNW2 : Hid (∀ j u, (gc x)[j]? = some u → (w4.drew.alloc (.cells #[.bool false, .int .i64 x.1, .int .i64 x.2] 41)).cell? ((⟨w4.heap.size, 0, none⟩ : Addr).add j) = some u) := hid (World.news_of_block (heap_alloc_new w4.drew (.cells #[.bool false, .int .i64 x.1, .int .i64 x.2] 41)))
          have hbel : Below w4.heap.size w4 (w4.drew.alloc (.cells #[.bool false, .int .i64 x.1, .int .i64 x.2] 41)) := Bl.alloc (Bl.refl w4).drew _
          have HBE := hid hbel
          have hro := hL4.go.rowN (n := m) (by rw [List.length_map]; exact hm)
          have HRO := hid hro
          have HL4 := hid (And.intro hL4 hm)
          replace HB := hid hB4
          obtain ⟨i1, hi1, hy0, hy1, hy2⟩ := info_parts infoG
          clear hL4 hB4 h1 h2 hbel hro hm e0 e1 HL HNW hbw3 hs3
          go_wp2_with fail
          go_region_law (refine step_append_lies _ rfl (.tmp 70) (.tmp 76) 30 rfl w.heap.size 41 i1 _ 3 24 Try.underlying30 hi1 hy0 hy1 hy2 rfl (by decide) (.slice qo m qc) m _ rfl (HRO.out.drew.alloc _) ⟨w4.heap.size, 0, none⟩ 1 1 (gc x) rfl rfl HNW2.out (by simp [gc, Value.oneCell']) (by decide) (by unfold maxLen; omega) (by omega) (by simp; omega) (w4.heap.size + 1) (by simp) ?_; intro g cap2 w5 o2 g2 hg2 _
                         have hM := hid (L1.pushG (cap := cap2) (x := x) HL4.out.1 HBE.out hs4 (by omega) (by rw [HL4.out.2]; exact o2) g2 hg2)
                         have m1 : w5.cell? ⟨gm, 9, none⟩ = some (.slice qo m qc) := hM.out.1
                         have m2 : w5.frozen? ⟨gm, 9, none⟩ = false := hM.out.2.1
                         clear o2 g2 hg2)
          all_goals
            obtain ⟨hB2, hL2⟩ := hM.out.2.2
            rw [← HYE.out.1, HL4.out.2] at hL2
            rw [HL4.out.2] at hB2
            have H := hid (And.intro hL2 (HB.out.trans hB2))
            clear hL2 hB2 hM m1 m2 b0 b1 m9 HNW2 HBE HL4 HRO
            generalize w5.setCell ⟨gm, 9, none⟩ (.slice (some ⟨g, 0, none⟩) (m + 1) cap2) = w6 at H ⊢
            go_wp2_with fail
            go_roundw
            case rel => exact ⟨k + 1, _, by omega, by go_num, H.out⟩
            case measure => simp [intOf]; omega
      · obtain rfl : K = k := by omega
        have H := hid (And.intro (show ∃ gv, L1 w.heap.size gm hb n wr u11 gv (gvs gz K) (gvs gz K) from ⟨gl, hL⟩) hB)
        clear hL hB hlt hk
        by_cases hq : K < gen
        · have d1 : decide ((K : Int) < (gen : Int)) = true := by simp; omega
          have d2 : decide ((K : Int) < 10) = false := by have := HK.out; simp; omega
          go_wp2_with fail
          go_meet
          case rel => exact ⟨rfl, H⟩
        · have d1 : decide ((K : Int) < (gen : Int)) = false := by simp; omega
          go_wp2_with fail
          go_meet
          case rel => exact ⟨rfl, H⟩
  case rest =>
    obtain ⟨rfl, H⟩ := hcut
    clear HL HB
    obtain ⟨⟨gl, hL⟩, hB⟩ := H.out
    obtain ⟨vo, vcap, rfl, hvc1, hvc2, _⟩ := hL.vo.shape
    obtain ⟨m, hm⟩ : ∃ m, (gvs gz K).length = m := ⟨_, rfl⟩
    have hm10 : m ≤ 10 := by have := gvs_len gz K; omega
    rw [List.length_map, hm] at hvc1 hL ⊢
    have HL := hid hL
    have HB := hid hB
    have HM := hid hm
    clear H hL hB hm
    obtain ⟨i0, hi, hz0, hz1, hz2⟩ := info_parts infoI
    have hby : i0.bytes * n ≤ 281474976710656 := by rw [hz2]; omega
    go_wp2_with (at_make; refine wpList_make_full _ rfl _ _ 29 rfl wc.heap.size 3 i0 (.int .i64 0) 1 Try.underlying29 hi hz0 hz1 _ _ _ _ n rfl rfl rfl rfl hby (by unfold maxLen; omega) (Nat.le_refl _) ?_; intro w3 hrow hg1; apply stopHere)
    refine hid ?_
    have hO := own_made hrow
    have hb3 : Below wc.heap.size wc w3 := (Below.refl _ _).grown hg1 (Nat.le_refl _) (fun b hb => by cases hb)
    have hg3 : wc.heap.size < w3.heap.size := (hO.lt _ rfl).2
    have HO := hid (And.intro hO hb3)
    clear hrow hg1 hO hb3 hi hz0 hz1 hz2 hby
    obtain ⟨ge, hge⟩ : ∃ ge, wc.heap.size = ge := ⟨_, rfl⟩
    have hge0 : w.heap.size ≤ ge := by rw [← hge]; exact HB.out.size
    rw [hge] at HO hg3 ⊢
    have HGE := hid hge
    clear hge
    go_wp2_with fail
    go_loopw [83] (fun i wr => ∃ k : Nat, k ≤ n ∧ i = .int .i64 k ∧ Own 3 .i64 ge wr (.slice (some ⟨ge, 0, none⟩) n n) (fillI n k) ∧ Below ge wc wr ∧ ge < wr.heap.size) (fun i _ => n - (intOf i).toNat)
    case atStart => exact ⟨0, Nat.zero_le _, rfl, HO.out.1, HO.out.2, hg3⟩
    case round =>
      clear HO hg3
      obtain ⟨k, hk, rfl, hO, hB, hg3⟩ := hrel
      have hfl := fillI_len n k hk
      by_cases hlt : k < n
      · have c1 := (hO.cell k (by omega)).1
        have f1 := (hO.cell k (by omega)).2.1
        have hO2 := hO.set k (-1) (by decide)
        rw [fillI_set n k hlt] at hO2
        have HO := hid (And.intro hO2 (And.intro (Below.setCell hB (p := ⟨ge, k, none⟩) (Nat.le_refl _) (.int .i64 (-1))) (show ge < (wr.setCell ⟨ge, k, none⟩ (.int .i64 (-1))).heap.size by simpa using hg3)))
        clear hO hO2 hB hfl
        go_wp2_with fail
        go_roundw
        case rel => exact ⟨k + 1, by omega, by go_num, HO.out⟩
        case measure => simp [intOf]; omega
      obtain rfl : n = k := by omega
      rw [fillI_all] at hO
      obtain ⟨T0, hT0⟩ : ∃ T0, T0 = List.replicate n (-1 : Int) := ⟨_, rfl⟩
      have hT0l : T0.length = n := by rw [hT0]; simp
      have hT0w : ∀ f ∈ T0, -1 ≤ f ∧ f ≤ 999 := fun f hf => by rw [hT0] at hf; rw [(List.mem_replicate.1 hf).2]; decide
      rw [← hT0] at hO
      have hblk : Blk wr ge 3 (T0.map (Value.int .i64)) := blk_of_row (by have := hO.row; rwa [hT0l] at this)
      have hLw := HL.out.bl (show Below wc.heap.size wc wr by rw [HGE.out]; exact hB)
      have hBw := HB.out.trans ((show Below wc.heap.size wc wr by rw [HGE.out]; exact hB).mono HB.out.size)
      obtain ⟨gao, gcap', rfl, hgc1, hgc2, _⟩ := hLw.go.shape
      have hrdc := hLw.go.rdC
      have hmm : (List.map gc (gvs gz K)).length = m := by rw [List.length_map]; exact HM.out
      rw [hmm] at hLw hrdc hgc1
      obtain ⟨_, _, eg, hrd⟩ := hrdc
      injection eg with eg1 _ eg3
      subst eg1 eg3
      have c0 := hLw.m.cell 0
      have c1 := hLw.m.cell 1
      have c2 := hLw.m.cell 2
      have c3 := hLw.m.cell 3
      have c4 := hLw.m.cell 4
      have c5 := hLw.m.cell 5
      have c6 := hLw.m.cell 6
      have c7 := hLw.m.cell 7
      have c8 := hLw.m.cell 8
      have c9 := hLw.m.cell 9
      have c10 := hLw.m.cell 10
      have c11 := hLw.m.cell 11
      have c12 := hLw.m.cell 12
      have c13 := hLw.m.cell 13
      simp only [modL, List.getElem?_cons_zero, List.getElem?_cons_succ] at c0 c1 c2 c3 c4 c5 c6 c7 c8 c9 c10 c11 c12 c13
      have hnew := new_to hb n 0 (by omega) HHB.out gao gcap' (gvs gz K) (by rw [HM.out]; omega) wr (by rw [HM.out]; exact hrd)
      rw [HM.out] at hnew
      have HV0 := hid (And.intro hblk (And.intro hLw.vo (And.intro hBw (And.intro hT0l (And.intro hT0w hT0)))))
      clear hfl hlt hk hO hB hT0 hT0l hT0w hblk hLw hBw hrd hmm HL HB
      go_wp2_with fail
      refine hnew.mono ?_
      rintro e w5 ⟨S, rfl, hS, hb5⟩
      clear hnew c0 c1 c2 c3 c4 c5 c6 c7 c8 c9 c10 c11 c12 c13
      obtain ⟨B, hBB⟩ : ∃ B, wr.heap.size = B := ⟨_, rfl⟩
      obtain ⟨q1, q2, q3, q4, q5, q6⟩ := HV0.out
      rw [← q6] at hS
      have HA : Hid (MA w5 w.heap.size B ge n S 0 T0 (gvs gz K) (.slice vo m vcap)) := hid ⟨by rw [← hBB]; exact hS, q1.bl hb5, q2.below hb5 (Nat.le_refl _), by rw [← hBB]; exact hg3, fun q hq => by rw [← hBB]; exact (q2.lt q hq).2, hge0, by rw [← hBB]; exact q3.size, q4, q5, by rw [← hBB]; exact hb5.size⟩
      have HB := hid (q3.trans (hb5.mono q3.size))
      clear hS hb5 q1 q2 q3 q4 q5 q6 hBB HV0 hg3
      go_wp2_with fail
      refine wp_loop (AI w oo on ocap n B ge m vcap vo S at') (fun a _ => Amu a) ?_ (fun a w'' hI => all_round HOP (by omega) (by omega) hvc1 hvc2 ?_ a w'' hI)
      · exact ⟨rfl, rfl, rfl, rfl, rfl, rfl, rfl, rfl, 0, 0, T0, gvs gz K, Nat.zero_le _, Nat.zero_le _, Nat.zero_le _, HM.out, rfl, HA.out, HB.out⟩
      clear HA HB
      intro a' w' hX
      obtain ⟨hd, hs, e0, e3, e11, e13, e15, nb, T, V, hVm, hA, hB⟩ := hX
      obtain ⟨t, ds⟩ := a'
      simp only at hd hs e0 e3 e11 e13 e15
      subst hd
      have ht := frame_of hs
      obtain ⟨U, hU⟩ : ∃ U : Nat → Value, U = fun i => t.getD i undef := ⟨_, rfl⟩
      rw [← hU, allFrame] at ht
      have hu : ∀ i, t.getD i undef = U i := fun i => by rw [hU]
      rw [hu] at e0 e3 e11 e13 e15
      clear hU hu hs
      subst ht
      rw [e0, e3, e11, e13, e15]
      clear e0 e3 e11 e13 e15
      have HVm := hid hVm
      have HA := hid hA
      have HB := hid hB
      clear hVm hA hB
      obtain ⟨wl, hwl⟩ : ∃ wl, wl = w' := ⟨_, rfl⟩
      subst hwl
      have hsl : w.heap.size ≤ wl.heap.size := HB.out.size
      go_wp2_with fail
      refine (globals_to HA.out.s).mono ?_
      rintro e w6 ⟨v, rfl, hO, hb⟩
      obtain ⟨lo, lc, rfl, hlc1, hlc2, _⟩ := hO.shape
      rw [List.length_map, HVm.out] at hlc1 hO ⊢
      have HLL := hid (And.intro hO hb)
      have HA6 := hid (HA.out.bl hb)
      clear hO hb
      go_wp2_with fail
      refine (elems_to HA6.out.s (fun f hf => WalkArith.wf_i64 (by have := HA6.out.hTw f hf; omega))).mono ?_
      rintro e w7 ⟨v2, rfl, hV, hb⟩
      obtain ⟨vo2, vc2, rfl, hrV⟩ := hV.rd
      have hA7 := HA6.out.bl hb
      have heq := eqInts_to _ _ _ _ _ _ T T true (by simp) w7 hrV (blkRd hA7.e HA6.out.hT (by omega) HA6.out.hTw)
      replace HLL := hid (And.intro (HLL.out.1.below hb (Nat.le_refl _)) (HLL.out.2.trans (hb.mono HLL.out.2.size)))
      clear hV hrV hA7 hb HA6
      go_wp2_with fail
      refine heq.mono ?_
      rintro e w8 ⟨rfl, hb⟩
      replace HLL := hid (And.intro (HLL.out.1.below hb (Nat.le_refl _)) (HLL.out.2.trans (hb.mono HLL.out.2.size)))
      clear hb heq
      go_wp2_with fail
      go_loopw [23] (fun i wr => ∃ (k : Nat) (X : List (Int × Int)), k ≤ m ∧ i = .int .i64 k ∧ X.length = m ∧ Hid (∀ j, k ≤ j → j < m → X.getD j (0, 0) = V.getD j (0, 0)) ∧ OwnC 39 2 wl.heap.size wr (.slice lo m lc) (X.map vc) ∧ Below wl.heap.size wl wr) (fun i _ => m - (intOf i).toNat)
      case atStart => exact ⟨0, V, Nat.zero_le _, rfl, HVm.out, hid (fun _ _ _ => rfl), HLL.out⟩
      case round =>
        clear HLL
        obtain ⟨k, X, hk, rfl, hXl, HXV, hO, hB⟩ := hrel
        have hA := HA.out.bl hB
        by_cases hlt : k < m
        · obtain ⟨x, hx⟩ : ∃ x, V.getD k (0, 0) = x := ⟨_, rfl⟩
          have hgl := global_to hA.s k (by rw [HVm.out]; exact hlt)
          rw [hx] at hgl
          obtain ⟨ao, cap', ev, _, _, hv3⟩ := hA.va.shape
          simp only [List.length_map, HVm.out] at ev hv3
          obtain ⟨gv, rfl⟩ := hv3 (by omega)
          injection ev with ev1 _ ev3
          subst ev1 ev3
          obtain ⟨ao, cap', ev, _, _, hv3⟩ := hO.shape
          simp only [List.length_map, hXl] at ev hv3
          obtain ⟨gl2, rfl⟩ := hv3 (by omega)
          injection ev with ev1 _ ev3
          subst ev1 ev3
          have HO := hid (And.intro hO (And.intro hB (And.intro hA (And.intro hXl hx))))
          clear hO hB hA hXl hx hv3
          go_wp2_with fail
          refine hgl.mono ?_
          rintro e w9 ⟨rfl, hb⟩
          have hbe := (Bl.alloc (Bl.refl w9) (.cells #[.int .i64 x.1, .int .i64 x.2] 39))
          have hb2 := hb.trans (hbe.mono hb.size)
          have hpr := Pair.new w9 (.int .i64 x.1) (.int .i64 x.2) 39 rfl
          have hA9 := HO.out.2.2.1.bl hb2
          have hO9 := HO.out.1.below hb2 (Nat.le_refl _)
          have hB9 := HO.out.2.1.trans (hb2.mono HO.out.2.1.size)
          obtain ⟨bx, hbx⟩ : ∃ bx, w9.heap.size = bx := ⟨_, rfl⟩
          have hbw : bx < (w9.alloc (.cells #[.int .i64 x.1, .int .i64 x.2] 39)).heap.size := by rw [← hbx]; simp
          rw [hbx] at hpr
          have HPR := hid (And.intro hpr (And.intro hA9 (And.intro hO9 hB9)))
          clear hb hbe hb2 hpr hA9 hO9 hB9 hgl
          go_wp2_with fail
          clear hbx
          generalize w9.alloc (.cells #[.int .i64 x.1, .int .i64 x.2] 39) = w10 at HPR hbw ⊢
          obtain ⟨hpr, hA, hO, hB⟩ := HPR.out
          have hkV : k < V.length := by rw [HVm.out]; exact hlt
          have hkX : k < X.length := by rw [HO.out.2.2.2.1]; exact hlt
          have hXk : X.getD k (0, 0) = x := (HXV.out k (Nat.le_refl _) hlt).trans HO.out.2.2.2.2
          have p0 := hpr.c0
          have p1 := hpr.c1
          have v0 := hA.va.cell k 0 (u := .int .i64 x.1) (by simpa using hkV) (by rw [vc_get V k hkV, HO.out.2.2.2.2]; rfl)
          have v1 := hA.va.cell k 1 (u := .int .i64 x.2) (by simpa using hkV) (by rw [vc_get V k hkV, HO.out.2.2.2.2]; rfl)
          have l1 := hO.cell k 1 (u := .int .i64 x.2) (by simpa using hkX) (by rw [vc_get X k hkX, hXk]; rfl)
          have a0 : w10.cell? ⟨gv, k * 2, none⟩ = some (.int .i64 x.1) := v0.1
          have a1 := v1.1
          have b1 := l1.1
          have fb1 := l1.2.1
          have hgvw : gv < w10.heap.size := v0.2.2.1
          have hglw : gl2 < w10.heap.size := l1.2.2.1
          have hm63 : m ≤ 9223372036854775807 := by omega
          obtain ⟨y, hy⟩ : ∃ y, IntKind.i64.wrap (x.2 + 1) = y := ⟨_, rfl⟩
          have hO2 := (hO.drew).setN hkX y
          rw [hXk] at hO2
          clear v0 v1 l1 hpr hA
          have HBX := hid (And.intro hO hB)
          clear hO hB hO2
          go_quiet (fail)
          have hO2 := (HBX.out.1.below (below_drewN w10.heap.size w10 nq) (Nat.le_refl _)).setN hkX y
          rw [hXk] at hO2
          have hB2 := Below.setCell (HBX.out.2.trans ((below_drewN w10.heap.size w10 nq).mono HBX.out.2.size)) (p := ⟨gl2, k * 2 + 1, none⟩) (HBX.out.1.lt gl2 rfl).1 (.int .i64 y)
          have H := hid (And.intro hO2 hB2)
          have HXN : Hid ((X.set k (x.1, y)).length = m ∧ ∀ j, k + 1 ≤ j → j < m → (X.set k (x.1, y)).getD j (0, 0) = V.getD j (0, 0)) := hid ⟨by rw [List.length_set]; exact HO.out.2.2.2.1, fun j h1 h2 => by
            have e : (X.set k (x.1, y)).getD j (0, 0) = X.getD j (0, 0) := by simp [List.getD, show k ≠ j by omega]
            rw [e]; exact HXV.out j (by omega) h2⟩
          clear hO2 hB2 HPR HBX
          go_wp2_with fail
          go_roundw
          case rel => exact ⟨k + 1, _, by omega, by go_num, HXN.out.1, hid HXN.out.2, H.out⟩
          case measure => simp [intOf]; omega
        obtain rfl : m = k := by omega
        replace HA := hid hA
        replace HB := hid (HB.out.trans (hB.mono hsl))
        clear hO hB hA HXV hXl hlt hk
        obtain ⟨w4, rfl⟩ : ∃ w4 : World, w4 = wr := ⟨_, rfl⟩
        go_wp2_with fail
        have hel := elem_to HA.out.s at' HAT.out
        have hways := elem_ways T n HA.out.hT HA.out.hTw at'
        obtain ⟨I, hI⟩ : ∃ I, elemIs T at' = I := ⟨_, rfl⟩
        obtain ⟨f, hf⟩ : ∃ f, elemF T at' = f := ⟨_, rfl⟩
        rw [hI, hf] at hel
        simp only [hI, hf] at hways
        clear hI hf
        refine hel.mono ?_
        rintro e w' ⟨rfl, rfl⟩
        clear hel
        rcases hways with ⟨h1, rfl, rfl⟩ | ⟨h1, h2, rfl, rfl⟩ | ⟨j, rfl, h1, h2, rfl, rfl⟩ | ⟨j, rfl, h1, h2, rfl, rfl⟩
        · have d1 : decide ((0 : Int) ≤ at') = false := by simp; omega
          have hpos : w.heap.size ≤ w4.heap.size := HB.out.size
          go_wp2_with fail
          refine (global_no HA.out.s (-1) (.inl (by decide))).mono ?_
          rintro e w6 ⟨rfl, hb⟩
          replace HA := hid ((HA.out.bl hb).bl (Bl.alloc (Bl.refl w6) (.cells #[.int .i64 0, .int .i64 0] 39)))
          replace HB := hid (HB.out.trans ((hb.trans ((Bl.alloc (Bl.refl w6) (.cells #[.int .i64 0, .int .i64 0] 39)).mono hb.size)).mono hpos))
          clear hb hpos
          go_wp2_with fail
          generalize w6.alloc (.cells #[.int .i64 0, .int .i64 0] 39) = w7 at HA HB ⊢
          have hpos : w.heap.size ≤ w7.heap.size := HB.out.size
          refine (global_no HA.out.s m (.inr (by rw [HVm.out]; exact Int.le_refl _))).mono ?_
          rintro e w8 ⟨rfl, hb⟩
          replace HA := hid ((HA.out.bl hb).bl (Bl.alloc (Bl.refl w8) (.cells #[.int .i64 0, .int .i64 0] 39)))
          replace HB := hid (HB.out.trans ((hb.trans ((Bl.alloc (Bl.refl w8) (.cells #[.int .i64 0, .int .i64 0] 39)).mono hb.size)).mono hpos))
          clear hb hpos
          go_wp2_with fail
          generalize w8.alloc (.cells #[.int .i64 0, .int .i64 0] 39) = w9 at HA HB ⊢
          refine (globals_to HA.out.s).mono ?_
          rintro e w10 ⟨v, rfl, hO, hb⟩
          obtain ⟨ao, cp, rfl, hr1⟩ := hO.rdC
          obtain ⟨ao2, cp2, ev2, hr2⟩ := (HA.out.bl hb).va.rdC
          simp only [List.length_map, HVm.out] at hr1 hr2 ev2 ⊢
          injection ev2 with ev21 _ ev23
          subst ev21 ev23
          replace HB := hid (HB.out.trans (hb.mono HB.out.size))
          have hsm := same_to _ _ _ _ _ V w10 hr1 hr2
          clear hO hb hr1 hr2 HA
          go_wp2_with fail
          refine hsm.mono ?_
          rintro e w11 ⟨rfl, hb⟩
          replace HB := hid (HB.out.trans (hb.mono HB.out.size))
          clear hb hsm
          go_wp2_with fail
          go_ret
          exact ⟨rfl, HB.out⟩
        · have d1 : decide ((0 : Int) ≤ at') = true := by simp; omega
          have d2 : decide (at' < (n : Int)) = false := by simp; omega
          have hpos : w.heap.size ≤ w4.heap.size := HB.out.size
          go_wp2_with fail
          refine (global_no HA.out.s (-1) (.inl (by decide))).mono ?_
          rintro e w6 ⟨rfl, hb⟩
          replace HA := hid ((HA.out.bl hb).bl (Bl.alloc (Bl.refl w6) (.cells #[.int .i64 0, .int .i64 0] 39)))
          replace HB := hid (HB.out.trans ((hb.trans ((Bl.alloc (Bl.refl w6) (.cells #[.int .i64 0, .int .i64 0] 39)).mono hb.size)).mono hpos))
          clear hb hpos
          go_wp2_with fail
          generalize w6.alloc (.cells #[.int .i64 0, .int .i64 0] 39) = w7 at HA HB ⊢
          have hpos : w.heap.size ≤ w7.heap.size := HB.out.size
          refine (global_no HA.out.s m (.inr (by rw [HVm.out]; exact Int.le_refl _))).mono ?_
          rintro e w8 ⟨rfl, hb⟩
          replace HA := hid ((HA.out.bl hb).bl (Bl.alloc (Bl.refl w8) (.cells #[.int .i64 0, .int .i64 0] 39)))
          replace HB := hid (HB.out.trans ((hb.trans ((Bl.alloc (Bl.refl w8) (.cells #[.int .i64 0, .int .i64 0] 39)).mono hb.size)).mono hpos))
          clear hb hpos
          go_wp2_with fail
          generalize w8.alloc (.cells #[.int .i64 0, .int .i64 0] 39) = w9 at HA HB ⊢
          refine (globals_to HA.out.s).mono ?_
          rintro e w10 ⟨v, rfl, hO, hb⟩
          obtain ⟨ao, cp, rfl, hr1⟩ := hO.rdC
          obtain ⟨ao2, cp2, ev2, hr2⟩ := (HA.out.bl hb).va.rdC
          simp only [List.length_map, HVm.out] at hr1 hr2 ev2 ⊢
          injection ev2 with ev21 _ ev23
          subst ev21 ev23
          replace HB := hid (HB.out.trans (hb.mono HB.out.size))
          have hsm := same_to _ _ _ _ _ V w10 hr1 hr2
          clear hO hb hr1 hr2 HA
          go_wp2_with fail
          refine hsm.mono ?_
          rintro e w11 ⟨rfl, hb⟩
          replace HB := hid (HB.out.trans (hb.mono HB.out.size))
          clear hb hsm
          go_wp2_with fail
          go_ret
          exact ⟨rfl, HB.out⟩
        · have d1 : decide ((0 : Int) ≤ (j : Int)) = true := by simp
          have d2 : decide ((j : Int) < (n : Int)) = true := by simp; omega
          have cc := HA.out.e.cell j
          have hcj : (T.map (Value.int .i64))[j]? = some (.int .i64 (-1)) := by
            have : j < T.length := by rw [HA.out.hT]; exact h1
            rw [← h2]; simp [List.getD, this]
          rw [hcj] at cc
          have hge4 := HA.out.e.lt
          have hpos : w.heap.size ≤ w4.heap.size := HB.out.size
          go_wp2_with fail
          refine (global_no HA.out.s (-1) (.inl (by decide))).mono ?_
          rintro e w6 ⟨rfl, hb⟩
          replace HA := hid ((HA.out.bl hb).bl (Bl.alloc (Bl.refl w6) (.cells #[.int .i64 0, .int .i64 0] 39)))
          replace HB := hid (HB.out.trans ((hb.trans ((Bl.alloc (Bl.refl w6) (.cells #[.int .i64 0, .int .i64 0] 39)).mono hb.size)).mono hpos))
          clear hb hpos cc hcj hge4
          go_wp2_with fail
          generalize w6.alloc (.cells #[.int .i64 0, .int .i64 0] 39) = w7 at HA HB ⊢
          have hpos : w.heap.size ≤ w7.heap.size := HB.out.size
          refine (global_no HA.out.s m (.inr (by rw [HVm.out]; exact Int.le_refl _))).mono ?_
          rintro e w8 ⟨rfl, hb⟩
          replace HA := hid ((HA.out.bl hb).bl (Bl.alloc (Bl.refl w8) (.cells #[.int .i64 0, .int .i64 0] 39)))
          replace HB := hid (HB.out.trans ((hb.trans ((Bl.alloc (Bl.refl w8) (.cells #[.int .i64 0, .int .i64 0] 39)).mono hb.size)).mono hpos))
          clear hb hpos
          go_wp2_with fail
          generalize w8.alloc (.cells #[.int .i64 0, .int .i64 0] 39) = w9 at HA HB ⊢
          refine (globals_to HA.out.s).mono ?_
          rintro e w10 ⟨v, rfl, hO, hb⟩
          obtain ⟨ao, cp, rfl, hr1⟩ := hO.rdC
          obtain ⟨ao2, cp2, ev2, hr2⟩ := (HA.out.bl hb).va.rdC
          simp only [List.length_map, HVm.out] at hr1 hr2 ev2 ⊢
          injection ev2 with ev21 _ ev23
          subst ev21 ev23
          replace HB := hid (HB.out.trans (hb.mono HB.out.size))
          have hsm := same_to _ _ _ _ _ V w10 hr1 hr2
          clear hO hb hr1 hr2 HA
          go_wp2_with fail
          refine hsm.mono ?_
          rintro e w11 ⟨rfl, hb⟩
          replace HB := hid (HB.out.trans (hb.mono HB.out.size))
          clear hb hsm
          go_wp2_with fail
          go_ret
          exact ⟨rfl, HB.out⟩
        · have d1 : decide ((0 : Int) ≤ (j : Int)) = true := by simp
          have d2 : decide ((j : Int) < (n : Int)) = true := by simp; omega
          have cc := HA.out.e.cell j
          obtain ⟨f, hf⟩ : ∃ f, T.getD j 0 = f := ⟨_, rfl⟩
          have hcj : (T.map (Value.int .i64))[j]? = some (.int .i64 f) := by
            have : j < T.length := by rw [HA.out.hT]; exact h1
            rw [← hf]; simp [List.getD, this]
          rw [hcj] at cc
          rw [hf] at h2 ⊢
          have d3 : decide ((0 : Int) ≤ f) = true := by simp; omega
          have hge4 := HA.out.e.lt
          have HCJ := hid hcj
          clear hf
          have hpos : w.heap.size ≤ w4.heap.size := HB.out.size
          go_wp2_with fail
          refine (global_no HA.out.s (-1) (.inl (by decide))).mono ?_
          rintro e w6 ⟨rfl, hb⟩
          replace HA := hid ((HA.out.bl hb).bl (Bl.alloc (Bl.refl w6) (.cells #[.int .i64 0, .int .i64 0] 39)))
          replace HB := hid (HB.out.trans ((hb.trans ((Bl.alloc (Bl.refl w6) (.cells #[.int .i64 0, .int .i64 0] 39)).mono hb.size)).mono hpos))
          clear hb hpos cc hcj hge4
          go_wp2_with fail
          generalize w6.alloc (.cells #[.int .i64 0, .int .i64 0] 39) = w7 at HA HB ⊢
          have hpos : w.heap.size ≤ w7.heap.size := HB.out.size
          refine (global_no HA.out.s m (.inr (by rw [HVm.out]; exact Int.le_refl _))).mono ?_
          rintro e w8 ⟨rfl, hb⟩
          replace HA := hid ((HA.out.bl hb).bl (Bl.alloc (Bl.refl w8) (.cells #[.int .i64 0, .int .i64 0] 39)))
          replace HB := hid (HB.out.trans ((hb.trans ((Bl.alloc (Bl.refl w8) (.cells #[.int .i64 0, .int .i64 0] 39)).mono hb.size)).mono hpos))
          clear hb hpos
          have cc := HA.out.e.cell j
          rw [HCJ.out] at cc
          have hge4 := HA.out.e.lt
          go_wp2_with fail
          generalize w8.alloc (.cells #[.int .i64 0, .int .i64 0] 39) = w9 at HA HB ⊢
          refine (globals_to HA.out.s).mono ?_
          rintro e w10 ⟨v, rfl, hO, hb⟩
          obtain ⟨ao, cp, rfl, hr1⟩ := hO.rdC
          obtain ⟨ao2, cp2, ev2, hr2⟩ := (HA.out.bl hb).va.rdC
          simp only [List.length_map, HVm.out] at hr1 hr2 ev2 ⊢
          injection ev2 with ev21 _ ev23
          subst ev21 ev23
          replace HB := hid (HB.out.trans (hb.mono HB.out.size))
          have hsm := same_to _ _ _ _ _ V w10 hr1 hr2
          clear hO hb hr1 hr2 HA cc
          go_wp2_with fail
          refine hsm.mono ?_
          rintro e w11 ⟨rfl, hb⟩
          replace HB := hid (HB.out.trans (hb.mono HB.out.size))
          clear hb hsm
          go_wp2_with fail
          go_ret
          exact ⟨rfl, HB.out⟩
end Go.Proofs.Ythknmoaffapkhaa
