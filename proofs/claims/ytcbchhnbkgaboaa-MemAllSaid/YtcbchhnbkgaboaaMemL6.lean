/- mem's laws: MemMany. -/
import Derived.Test.YtcbchhnbkgaboaaMemMA
namespace Go.Proofs.Ytcbchhnbkgaboaa
open Go.RowKit

theorem alloc49 (w : World) : (Instr.alloc 49 true (.tuple #[])).run Try.prog w = .ok (.pointer (some ⟨w.heap.size, 0, none⟩)) (w.alloc (.cells ((zer 1024).map (Value.int .u8)).toArray 49)) := by kernel_rfl
theorem alloc50 (w : World) : (Instr.alloc 50 true (.tuple #[])).run Try.prog w = .ok (.pointer (some ⟨w.heap.size, 0, none⟩)) (w.alloc (.cells ((fls 4).map Value.bool).toArray 50)) := by kernel_rfl
theorem zer_take (n m : Nat) (h : m ≤ n) : (zer n).take m = zer m := by
  unfold zer
  rw [List.take_replicate, Nat.min_eq_left h]
theorem take_getD {α : Type} (xs : List α) (n j : Nat) (d : α) (h : j < n) : (xs.take n).getD j d = xs.getD j d := by
  simp [List.getD, h]
/-- One byte stored. -/
theorem storeM_one (M : MM) (m x : Nat) (hx : x < 256) : storeM M m 1 x = { M with c := M.c.set m (x : Int), d := M.d.set (m / 256) true } := by
  simp only [storeM, bytM, Nat.pow_zero, Nat.div_one, Nat.add_zero, Nat.add_sub_cancel, List.set_set]
  rw [Nat.mod_eq_of_lt hx]

set_option maxRecDepth 100000 in
set_option maxHeartbeats 4000000 in
theorem memMany_walk (aa : Option Addr) (na ca : Nat) (ats : List Int) (ax : Option Addr) (nx cx : Nat) (xs : List Int) (w : World) (ha : Rd .i64 w aa na ca ats) (hx : Rd .u8 w ax nx cx xs) :
    Calls Try.prog 9 #[.slice aa na ca, .slice ax nx cx] w fun e w' => e = .returned (.bool true) ∧ Below w.heap.size w w' := by
  have la := ha.le
  have lx := hx.le
  have ma := ha.cap63
  have mx := hx.cap63
  have HA := hid ha
  have HX := hid hx
  clear ha hx
  go_enter Try.func9, Try.ntmps9
  go_wp2_with fail
  refine (begun_to w).mono ?_
  rintro e w1 ⟨rfl, hb⟩
  have HB := hid hb
  clear hb
  go_wp2_with fail
  refine (new_to 4 (-1) w1 (by decide)).mono ?_
  rintro e w2 ⟨rfl, hM, hb⟩
  obtain ⟨M, hMM⟩ : ∃ M, M = newM (4 : Nat) (-1) := ⟨_, rfl⟩
  obtain ⟨g, hgg⟩ : ∃ g, g = w1.heap.size + 1 := ⟨_, rfl⟩
  have hg : w.heap.size ≤ g := by have := HB.out.size; omega
  rw [← hgg, ← hMM] at hM
  rw [← hgg]
  clear hgg
  have hp1 : M.p = 4 := by rw [hMM]; rfl
  have hc1 : zer 1024 = M.c.take 1024 := by rw [hMM]; exact (zer_take 4096 1024 (by decide)).symm
  have hd1 : fls 4 = M.d.take 4 := by rw [hMM]; rfl
  have HMF := hid (And.intro hp1 (And.intro hc1 hd1))
  replace HB := hid (HB.out.trans (hb.mono HB.out.size))
  have hgw : w.heap.size ≤ w2.heap.size := HB.out.size
  have HM := hid hM
  clear hM hb hMM hp1 hc1 hd1
  go_wp2_with (with_reducible refine wpList_var (o := ⟨some 7, .alloc 49, _, _, _, none⟩) rfl 49 rfl _ (alloc49 _) ?_)
  intro w3 h3
  obtain ⟨gb, hgb⟩ : ∃ gb, gb = w2.heap.size := ⟨_, rfl⟩
  have hO := h3.out.1
  replace HM := hid (HM.out.bl h3.out.2)
  replace HB := hid (HB.out.trans (h3.out.2.mono HB.out.size))
  rw [← hgb] at hO hgw ⊢
  rw [HMF.out.2.1] at hO
  have HBB := hid hO
  clear h3 hgb hO
  have hgw3 : w.heap.size ≤ w3.heap.size := HB.out.size
  go_wp2_with (with_reducible refine wpList_var (o := ⟨some 8, .alloc 50, _, _, _, none⟩) rfl 50 rfl _ (alloc50 _) ?_)
  intro w4 h4
  obtain ⟨gd, hgd⟩ : ∃ gd, gd = w3.heap.size := ⟨_, rfl⟩
  have hO := h4.out.1
  replace HM := hid (HM.out.bl h4.out.2)
  replace HBB := hid (HBB.out.bl h4.out.2)
  replace HB := hid (HB.out.trans (h4.out.2.mono HB.out.size))
  rw [← hgd] at hO hgw3 ⊢
  rw [HMF.out.2.2] at hO
  have HBD := hid hO
  have n1 : gb ≠ g := HBB.out.ne_ HM.out.blk (by decide)
  have n2 : gd ≠ g := HBD.out.ne_ HM.out.blk (by decide)
  have n3 : gb ≠ gd := HBB.out.ne_ HBD.out (by decide)
  have HN := hid (And.intro n1 (And.intro n2 n3))
  have HP := hid HMF.out.1
  clear h4 hgd hO n1 n2 n3 HMF
  go_wp2_with fail
  go_loopw [9] (fun i wr => ∃ (k : Nat) (M : MM), k ≤ na ∧ k ≤ nx ∧ k ≤ 60 ∧ i = .int .i64 k ∧ M.p = 4 ∧ MemAt wr g M ∧ Blk wr gb 49 ((M.c.take 1024).map (Value.int .u8)) ∧ Blk wr gd 50 ((M.d.take 4).map Value.bool) ∧ Below w.heap.size w wr) (fun i _ => 60 - (intOf i).toNat)
  case atStart => exact ⟨0, M, Nat.zero_le _, Nat.zero_le _, Nat.zero_le _, rfl, HP.out, HM.out, HBB.out, HBD.out, HB.out⟩
  case round =>
    clear HM HBB HBD HB HP
    obtain ⟨k, M, hk1, hk2, hk3, rfl, hp, hM, hBB, hBD, hB⟩ := hrel
    have HP := hid hp
    have HM := hid hM
    have HBB := hid hBB
    have HBD := hid hBD
    have HB := hid hB
    clear hp hM hBB hBD hB
    by_cases hlt : k < na ∧ k < nx ∧ k < 60
    · obtain ⟨h1, h2, h3⟩ := hlt
      obtain ⟨ba, oa, rfl, hca⟩ := HA.out.at (by omega)
      obtain ⟨bx, ox, rfl, hcx⟩ := HX.out.at (by omega)
      have hc := (HB.out.cell (World.block_lt_of_cell? _ _ (hca k h1))).trans (hca k h1)
      have hc2 := (HB.out.cell (World.block_lt_of_cell? _ _ (hcx k h2))).trans (hcx k h2)
      have hlb : bx < w.heap.size := World.block_lt_of_cell? _ _ (hcx k h2)
      have hwx := u8_of_wf (HX.out.wf _ (HX.out.mem h2))
      obtain ⟨y, hy⟩ : ∃ y : Nat, xs.getD k 0 = y := ⟨(xs.getD k 0).toNat, by omega⟩
      rw [hy] at hc2 hwx
      have hy1 : (y : Int) < 256 := hwx.2
      obtain ⟨x, hx⟩ : ∃ x, ats.getD k 0 = x := ⟨_, rfl⟩
      rw [hx] at hc
      obtain ⟨t1, t2⟩ := rem_in x 1024 (by decide)
      obtain ⟨t, ht⟩ : ∃ t, x.tmod 1024 = t := ⟨_, rfl⟩
      rw [ht] at t1 t2
      obtain ⟨m, hm⟩ : ∃ m : Nat, t % 1024 = m := ⟨(t % 1024).toNat, by omega⟩
      have hm8 : m < 1024 := by omega
      have hco := store_to g M m 1 y wr HM.out (by decide) (by rw [HP.out]; omega) (by omega)
      rw [storeM_one M m y (by omega)] at hco
      have HCX := hid hc2
      clear hx hcx hy hca hwx
      go_wp2_with fail
      refine hco.mono ?_
      rintro e w5 ⟨rfl, hM, hW⟩
      clear hco hc hc2 ht
      have hc2 := (hW.cell (p := ⟨bx, ox + k, none⟩) (World.block_lt_of_cell? _ _ HCX.out) (by simp only; omega)).trans HCX.out
      replace HBB := hid (HBB.out.grown hW (by simpa using HN.out.1))
      replace HBD := hid (HBD.out.grown hW (by simpa using HN.out.2.1))
      replace HB := hid (HB.out.trans (hW.below HB.out.size hg))
      replace HM := hid hM
      have hcl := HM.out.ok.cl
      have hdl := HM.out.ok.dl
      simp only [List.length_set] at hcl hdl
      have c3 : w5.cell? ⟨gb, m, none⟩ = some (.int .u8 ((M.c.take 1024).getD m 0)) := (HBB.out.cell m).trans (by simp [List.getD, hcl, hm8])
      have f3 := HBB.out.frozen m
      obtain ⟨q, hq⟩ : ∃ q : Nat, m / 256 = q := ⟨_, rfl⟩
      have eq : (m : Int) / 256 = q := by omega
      have hq4 : q < 4 := by omega
      have h5 := HBB.out.set m (.int .u8 y)
      have h6 := HBD.out.far (p := ⟨gb, m, none⟩) (Ne.symm HN.out.2.2) (.int .u8 y)
      have c4 : (w5.setCell ⟨gb, m, none⟩ (.int .u8 y)).cell? ⟨gd, q, none⟩ = some (.bool ((M.d.take 4).getD q false)) := (h6.cell q).trans (by simp [List.getD, hdl, hq4])
      have f4 := h6.frozen q
      have c5 : w5.cell? ⟨gd, q, none⟩ = some (.bool ((M.d.take 4).getD q false)) := (HBD.out.cell q).trans (by simp [List.getD, hdl, hq4])
      have f5 := HBD.out.frozen q
      have n3 := HN.out.2.2
      have h7 := h5.far (p := ⟨gd, q, none⟩) HN.out.2.2 (.bool true)
      have h8 := h6.set q (.bool true)
      have h9 := (HM.out.far (p := ⟨gb, m, none⟩) (Ne.symm HN.out.1) (.int .u8 y)).far (p := ⟨gd, q, none⟩) (Ne.symm HN.out.2.1) (.bool true)
      have h10 := (HB.out.setCell (p := ⟨gb, m, none⟩) hgw (.int .u8 y)).setCell (p := ⟨gd, q, none⟩) hgw3 (.bool true)
      rw [← List.map_set, ← take_set] at h7 h8
      rw [hq] at h9
      have HF := hid (And.intro h9 (And.intro h7 (And.intro h8 h10)))
      clear hM hW hcl hdl hq h5 h6 h7 h8 h9 h10 HM HBB HBD HB HCX
      go_wp2_with fail
      go_roundw
      case rel => exact ⟨k + 1, { M with c := M.c.set m (y : Int), d := M.d.set q true }, by omega, by omega, by omega, by go_num, HP.out, HF.out.1, HF.out.2.1, HF.out.2.2.1, HF.out.2.2.2⟩
      case measure => simp [intOf]; omega
    have hw4 := HM.out.ok.wf
    have HWF := hid hw4
    clear hw4
    have hgo : ¬ (k : Int) < na ∨ (¬ ¬ (k : Int) < na ∧ ¬ (k : Int) < nx) ∨ (¬ ¬ (k : Int) < na ∧ ¬ ¬ (k : Int) < nx ∧ ¬ k < 60) := by omega
    clear hlt
    rcases hgo with h1 | ⟨h1, h2⟩ | ⟨h1, h2, h3⟩
    all_goals
      go_wp2_with fail
      go_loopw [11, 12] (fun x i wr => ∃ p : Nat, p ≤ 4 ∧ i = .int .i64 p ∧ x = .int .i64 ((dirtyK M.d p).length : Int) ∧ MemAt wr g M ∧ Blk wr gb 49 ((M.c.take 1024).map (Value.int .u8)) ∧ Blk wr gd 50 ((M.d.take 4).map Value.bool) ∧ Below w.heap.size w wr) (fun _ i _ => 4 - (intOf i).toNat)
      case atStart => exact ⟨0, Nat.zero_le _, rfl, rfl, HM.out, HBB.out, HBD.out, HB.out⟩
      clear HM HBB HBD HB
      obtain ⟨p, hp, rfl, rfl, hM, hBB, hBD, hB⟩ := hrel
      have hdl := hM.ok.dl
      have hcl := hM.ok.cl
      have hln := dirtyK_len M.d p
      obtain ⟨n, hn⟩ : ∃ n, (dirtyK M.d p).length = n := ⟨_, rfl⟩
      rw [hn] at hln ⊢
      have HNN := hid hn
      have HM := hid hM
      have HBB := hid hBB
      have HBD := hid hBD
      have HB := hid hB
      clear hn hM hBB hBD hB
      by_cases hp4 : p < 4
      · have hkp : p < M.p := by rw [HP.out]; exact hp4
        obtain ⟨Z, hZ⟩ : ∃ Z, pageM M p = Z := ⟨_, rfl⟩
        have hzl : Z.length = 256 := by rw [← hZ]; exact pageM_len HM.out.ok p (by omega)
        obtain ⟨T, hT⟩ : ∃ T : Nat, T = 256 * p := ⟨_, rfl⟩
        obtain ⟨U, hU⟩ : ∃ U : Nat, U = T + 256 := ⟨_, rfl⟩
        have hw1 : IntKind.i64.wrap (256 * (p : Int)) = (T : Int) := by rw [IntWalk.i64_in _ (by omega)]; omega
        have hw2 : IntKind.i64.wrap ((T : Int) + 256) = (U : Int) := by rw [IntWalk.i64_in _ (by omega)]; omega
        have hcut := fun w => run_cutAlh (P := Try.prog) 49 Try.underlying49 (fun _ => rfl) gb 0 1024 rfl .i64 .i64 (T : Int) (U : Int) T U rfl rfl (by omega) (by omega) (by omega) w
        rw [Nat.zero_add, show U - T = 256 by omega] at hcut
        have hzr : Rd .u8 wr (some ⟨gb, T, none⟩) Z.length (1024 - T) Z := by
          have h := HBB.out.rd (wf_of_u8 fun x hx => HWF.out x (List.mem_of_mem_take hx)) T 256 (by simp [hcl]; omega) (by simp [hcl])
          rw [show (M.c.take 1024).length = 1024 by simp [hcl]] at h
          rw [hzl]
          have e : ((M.c.take 1024).drop T).take 256 = Z := by
            rw [← hZ, List.drop_take, List.take_take, Nat.min_eq_left (by omega), hT]
            rfl
          rwa [e] at h
        rw [hzl] at hzr
        have HZR := hid hzr
        have HPG := hid hZ
        have HZL := hid hzl
        clear hZ hzl hzr hU hT
        have c4 : wr.cell? ⟨gd, p, none⟩ = some (.bool (M.d.getD p false)) := (HBD.out.cell p).trans (by simp [List.getD, hdl, hp4, show p < 16 by omega])
        clear hdl hcl
        cases hd : M.d.getD p false with
        | true =>
          rw [hd] at c4
          have hs := dirtyK_yes M.d p hd
          have HS : Hid ((dirtyK M.d (p + 1)).length = n + 1) := hid (by rw [hs, List.length_append, HNN.out]; rfl)
          clear hs hd
          go_wp2_with fail
          refine wp_region_below (by kernel_rfl) [Is (.pointer (some ⟨g, 0, none⟩)), Is (.int .i64 (p : Int)), IsRd .u8 Z, Is (.string (strOfNums Z)), Is (.int .i64 (p : Int)), Is (.int .i64 (T : Int)), Is (.int .i64 (p : Int)), Is (.int .i64 (T : Int)), Is (.int .i64 (U : Int)), Is (.slice (some ⟨gb, T, none⟩) 256 (1024 - T)), Is (.string (strOfNums Z)), Is (.bool false)] _ rfl (by kernel_rfl) rfl ?hopA ?hstA ?hendA
          case hopA =>
            refine ⟨rq _ _ _ [(6, .pointer (some ⟨g, 0, none⟩))] ⟨⟨by kernel_rfl, rfl⟩, trivial⟩ ?_, ?_⟩
            · intro a w1 hC e6
              refine Or.inl ⟨.pointer (some ⟨g, 0, none⟩), ?_, rfl⟩
              go_simp
            refine ⟨rq _ _ _ [(12, .int .i64 (p : Int))] ⟨⟨by kernel_rfl, rfl⟩, trivial⟩ ?_, ?_⟩
            · intro a w1 hC e12
              refine Or.inl ⟨.int .i64 (p : Int), ?_, rfl⟩
              go_simp
            refine ⟨rq _ _ _ [] trivial ?_, ?_⟩
            · intro a w1 hC  (h0 : a.tmps.getD 68 undef = _) (h1 : a.tmps.getD 69 undef = _)
              refine Or.inr (Or.inl ⟨20, #[.pointer (some ⟨g, 0, none⟩), .int .i64 (p : Int)], ?_, ?_⟩)
              · go_simp
              · refine (pg_to g _ p w1 (HM.out.bl hC) hkp).mono ?_
                rintro e w2 ⟨vv, rfl, hown, hbel⟩
                rw [HPG.out] at hown
                obtain ⟨ao1, cap1, rfl, hrd⟩ := hown.rd
                exact ⟨_, rfl, ⟨ao1, cap1, rfl, hrd⟩, hbel⟩
            refine ⟨rq _ _ _ [] trivial ?_, ?_⟩
            · intro a w1 hC  h2
              obtain ⟨ao1, cap1, e5, hrd⟩ := h2
              have e5 : a.tmps.getD 70 undef = _ := e5
              refine Or.inl ⟨.string (strOfNums Z), ?_, rfl⟩
              have hcv := conv_str (P := Try.prog) hrd 28 9 5 Try.underlying28 Try.underlying5 Try.underlying9
              go_simp
            refine ⟨rq _ _ _ [(12, .int .i64 (p : Int))] ⟨⟨by kernel_rfl, rfl⟩, trivial⟩ ?_, ?_⟩
            · intro a w1 hC e12
              refine Or.inl ⟨.int .i64 (p : Int), ?_, rfl⟩
              go_simp
            refine ⟨rq _ _ _ [] trivial ?_, ?_⟩
            · intro a w1 hC  (h4 : a.tmps.getD 72 undef = _)
              refine Or.inl ⟨.int .i64 (T : Int), ?_, rfl⟩
              go_simp
            refine ⟨rq _ _ _ [(12, .int .i64 (p : Int))] ⟨⟨by kernel_rfl, rfl⟩, trivial⟩ ?_, ?_⟩
            · intro a w1 hC e12
              refine Or.inl ⟨.int .i64 (p : Int), ?_, rfl⟩
              go_simp
            refine ⟨rq _ _ _ [] trivial ?_, ?_⟩
            · intro a w1 hC  (h6 : a.tmps.getD 74 undef = _)
              refine Or.inl ⟨.int .i64 (T : Int), ?_, rfl⟩
              go_simp
            refine ⟨rq _ _ _ [] trivial ?_, ?_⟩
            · intro a w1 hC  (h7 : a.tmps.getD 75 undef = _)
              refine Or.inl ⟨.int .i64 (U : Int), ?_, rfl⟩
              go_simp
            refine ⟨rq _ _ _ [(7, .pointer (some ⟨gb, 0, none⟩))] ⟨⟨by kernel_rfl, rfl⟩, trivial⟩ ?_, ?_⟩
            · intro a w1 hC e7 (h5 : a.tmps.getD 73 undef = _) (h8 : a.tmps.getD 76 undef = _)
              refine Or.inl ⟨.slice (some ⟨gb, T, none⟩) 256 (1024 - T), ?_, rfl⟩
              have hct := hcut w1
              go_simp
            refine ⟨rq _ _ _ [] trivial ?_, ?_⟩
            · intro a w1 hC  (h9 : a.tmps.getD 77 undef = _)
              refine Or.inl ⟨.string (strOfNums Z), ?_, rfl⟩
              have hrd := HZR.out.below hC
              have hcv := conv_str (P := Try.prog) hrd 28 9 5 Try.underlying28 Try.underlying5 Try.underlying9
              go_simp
            refine ⟨rq _ _ _ [] trivial ?_, ?_⟩
            · intro a w1 hC  (h3 : a.tmps.getD 71 undef = _) (h10 : a.tmps.getD 78 undef = _)
              refine Or.inl ⟨.bool false, ?_, rfl⟩
              go_simp
            exact trivial
          case hstA => repeat (first | exact trivial | refine ⟨Stays.is _, ?_⟩ | refine ⟨Stays.rd _ _, ?_⟩)
          case hendA =>
            intro w1 hC
            rintro _ rfl _ rfl
            intro x2 h2
            rintro _ rfl _ rfl _ rfl _ rfl _ rfl _ rfl _ rfl _ rfl _ rfl
            simp only [Ends, Act.put, List.setIfInBounds_toArray, List.set_cons_succ, List.set_cons_zero]
            replace HM := hid (HM.out.bl hC)
            replace HBB := hid (HBB.out.bl hC)
            replace HBD := hid (HBD.out.bl hC)
            replace HB := hid (HB.out.trans (hC.mono HB.out.size))
            clear hC hcut hw1 hw2
            go_wp2_with fail
            go_roundw
            case rel => exact ⟨p + 1, by omega, by go_num, by rw [HS.out]; go_num, HM.out, HBB.out, HBD.out, HB.out⟩
            case measure => simp [intOf]; omega
        | false =>
          rw [hd] at c4
          have hs := dirtyK_no M.d p hd
          have HS : Hid ((dirtyK M.d (p + 1)).length = n) := hid (by rw [hs, HNN.out])
          clear hs hd
          go_wp2_with fail
          refine wp_region_below (by kernel_rfl) [Is (.pointer (some ⟨g, 0, none⟩)), Is (.int .i64 (p : Int)), IsRd .u8 Z, Is (.string (strOfNums Z)), Is (.int .i64 (p : Int)), Is (.int .i64 (T : Int)), Is (.int .i64 (p : Int)), Is (.int .i64 (T : Int)), Is (.int .i64 (U : Int)), Is (.slice (some ⟨gb, T, none⟩) 256 (1024 - T)), Is (.string (strOfNums Z)), Is (.bool false)] _ rfl (by kernel_rfl) rfl ?hopB ?hstB ?hendB
          case hopB =>
            refine ⟨rq _ _ _ [(6, .pointer (some ⟨g, 0, none⟩))] ⟨⟨by kernel_rfl, rfl⟩, trivial⟩ ?_, ?_⟩
            · intro a w1 hC e6
              refine Or.inl ⟨.pointer (some ⟨g, 0, none⟩), ?_, rfl⟩
              go_simp
            refine ⟨rq _ _ _ [(12, .int .i64 (p : Int))] ⟨⟨by kernel_rfl, rfl⟩, trivial⟩ ?_, ?_⟩
            · intro a w1 hC e12
              refine Or.inl ⟨.int .i64 (p : Int), ?_, rfl⟩
              go_simp
            refine ⟨rq _ _ _ [] trivial ?_, ?_⟩
            · intro a w1 hC  (h0 : a.tmps.getD 68 undef = _) (h1 : a.tmps.getD 69 undef = _)
              refine Or.inr (Or.inl ⟨20, #[.pointer (some ⟨g, 0, none⟩), .int .i64 (p : Int)], ?_, ?_⟩)
              · go_simp
              · refine (pg_to g _ p w1 (HM.out.bl hC) hkp).mono ?_
                rintro e w2 ⟨vv, rfl, hown, hbel⟩
                rw [HPG.out] at hown
                obtain ⟨ao1, cap1, rfl, hrd⟩ := hown.rd
                exact ⟨_, rfl, ⟨ao1, cap1, rfl, hrd⟩, hbel⟩
            refine ⟨rq _ _ _ [] trivial ?_, ?_⟩
            · intro a w1 hC  h2
              obtain ⟨ao1, cap1, e5, hrd⟩ := h2
              have e5 : a.tmps.getD 70 undef = _ := e5
              refine Or.inl ⟨.string (strOfNums Z), ?_, rfl⟩
              have hcv := conv_str (P := Try.prog) hrd 28 9 5 Try.underlying28 Try.underlying5 Try.underlying9
              go_simp
            refine ⟨rq _ _ _ [(12, .int .i64 (p : Int))] ⟨⟨by kernel_rfl, rfl⟩, trivial⟩ ?_, ?_⟩
            · intro a w1 hC e12
              refine Or.inl ⟨.int .i64 (p : Int), ?_, rfl⟩
              go_simp
            refine ⟨rq _ _ _ [] trivial ?_, ?_⟩
            · intro a w1 hC  (h4 : a.tmps.getD 72 undef = _)
              refine Or.inl ⟨.int .i64 (T : Int), ?_, rfl⟩
              go_simp
            refine ⟨rq _ _ _ [(12, .int .i64 (p : Int))] ⟨⟨by kernel_rfl, rfl⟩, trivial⟩ ?_, ?_⟩
            · intro a w1 hC e12
              refine Or.inl ⟨.int .i64 (p : Int), ?_, rfl⟩
              go_simp
            refine ⟨rq _ _ _ [] trivial ?_, ?_⟩
            · intro a w1 hC  (h6 : a.tmps.getD 74 undef = _)
              refine Or.inl ⟨.int .i64 (T : Int), ?_, rfl⟩
              go_simp
            refine ⟨rq _ _ _ [] trivial ?_, ?_⟩
            · intro a w1 hC  (h7 : a.tmps.getD 75 undef = _)
              refine Or.inl ⟨.int .i64 (U : Int), ?_, rfl⟩
              go_simp
            refine ⟨rq _ _ _ [(7, .pointer (some ⟨gb, 0, none⟩))] ⟨⟨by kernel_rfl, rfl⟩, trivial⟩ ?_, ?_⟩
            · intro a w1 hC e7 (h5 : a.tmps.getD 73 undef = _) (h8 : a.tmps.getD 76 undef = _)
              refine Or.inl ⟨.slice (some ⟨gb, T, none⟩) 256 (1024 - T), ?_, rfl⟩
              have hct := hcut w1
              go_simp
            refine ⟨rq _ _ _ [] trivial ?_, ?_⟩
            · intro a w1 hC  (h9 : a.tmps.getD 77 undef = _)
              refine Or.inl ⟨.string (strOfNums Z), ?_, rfl⟩
              have hrd := HZR.out.below hC
              have hcv := conv_str (P := Try.prog) hrd 28 9 5 Try.underlying28 Try.underlying5 Try.underlying9
              go_simp
            refine ⟨rq _ _ _ [] trivial ?_, ?_⟩
            · intro a w1 hC  (h3 : a.tmps.getD 71 undef = _) (h10 : a.tmps.getD 78 undef = _)
              refine Or.inl ⟨.bool false, ?_, rfl⟩
              go_simp
            exact trivial
          case hstB => repeat (first | exact trivial | refine ⟨Stays.is _, ?_⟩ | refine ⟨Stays.rd _ _, ?_⟩)
          case hendB =>
            intro w1 hC
            rintro _ rfl _ rfl
            intro x2 h2
            rintro _ rfl _ rfl _ rfl _ rfl _ rfl _ rfl _ rfl _ rfl _ rfl
            simp only [Ends, Act.put, List.setIfInBounds_toArray, List.set_cons_succ, List.set_cons_zero]
            replace HM := hid (HM.out.bl hC)
            replace HBB := hid (HBB.out.bl hC)
            replace HBD := hid (HBD.out.bl hC)
            replace HB := hid (HB.out.trans (hC.mono HB.out.size))
            clear hC hcut hw1 hw2
            go_wp2_with fail
            go_roundw
            case rel => exact ⟨p + 1, by omega, by go_num, by rw [HS.out], HM.out, HBB.out, HBD.out, HB.out⟩
            case measure => simp [intOf]; omega
      · obtain rfl : p = 4 := by omega
        have hdi := dirty_to g M wr HM.out
        rw [HP.out] at hdi
        clear hdl hcl
        go_wp2_with fail
        refine hdi.mono ?_
        rintro e w6 ⟨v, rfl, hO, hb⟩
        obtain ⟨ao, cap, rfl, hrd⟩ := hO.rd
        rw [HNN.out]
        replace HB := hid (HB.out.trans (hb.mono HB.out.size))
        clear hrd hO hb hdi
        go_wp2_with fail
        go_ret
        exact ⟨by simp, HB.out⟩
end Go.Proofs.Ytcbchhnbkgaboaa
