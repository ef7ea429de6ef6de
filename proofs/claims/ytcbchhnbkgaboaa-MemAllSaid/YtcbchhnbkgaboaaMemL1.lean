/- mem's laws: MemNone, MemGrowth. -/
import Derived.Test.YtcbchhnbkgaboaaMemB
namespace Go.Proofs.Ytcbchhnbkgaboaa
open Go.RowKit

theorem load_nil (w : World) : Calls Try.prog 15 #[.pointer none, .int .i64 0, .int .i64 1] w fun e w' => e = .returned (.tuple #[.int .u64 0, .bool false]) ∧ w = w' := by
  have hs := has_nil 0 1 w rfl rfl
  go_enter Try.func15, Try.ntmps15
  go_wp2_with fail
  refine hs.mono ?_
  rintro e w' ⟨rfl, rfl⟩
  go_wp2_with fail
  go_ret2
  exact ⟨rfl, rfl⟩
theorem store_nil (x : Int) (w : World) : Calls Try.prog 14 #[.pointer none, .int .i64 0, .int .i64 1, .int .u64 x] w fun e w' => e = .returned (.bool false) ∧ w = w' := by
  have hs := has_nil 0 1 w rfl rfl
  go_enter Try.func14, Try.ntmps14
  go_wp2_with fail
  refine hs.mono ?_
  rintro e w' ⟨rfl, rfl⟩
  go_wp2_with fail
  go_ret
  exact ⟨rfl, rfl⟩
theorem make256 (w : World) : (Instr.makeSlice 28 (.int .i64 256) (.int .i64 256)).run Try.prog w = .ok (.slice (some ⟨w.heap.size, 0, none⟩) 256 256) (w.alloc (.cells ((zer 256).map (Value.int .u8)).toArray 5)) := by kernel_rfl
set_option maxHeartbeats 1000000 in
theorem memNone_walk (w : World) : Calls Try.prog 5 #[] w fun e w' => e = .returned (.bool true) ∧ Below w.heap.size w w' := by
  have he := fun w => Lib.run_eql_slice_nil (P := Try.prog) w 28 5 none 0 0 0 0 Try.underlying28
  have hmk := make256
  go_enter Try.func5, Try.ntmps5
  go_wp2_with fail
  refine (load_nil w).mono ?_
  rintro e w' ⟨rfl, rfl⟩
  go_wp2_with fail
  refine (clean_nil w).mono ?_
  rintro e w' ⟨rfl, rfl⟩
  go_wp2_with fail
  refine (begun_to w).mono ?_
  rintro e w1 ⟨rfl, hb⟩
  have HB := hid hb
  clear hb
  go_wp2_with fail
  refine (pages_nil w1).mono ?_
  rintro e w' ⟨rfl, rfl⟩
  go_wp2_with fail
  refine (grow_nil 0 w1).mono ?_
  rintro e w' ⟨rfl, rfl⟩
  go_wp2_with fail
  refine (store_nil 1 w1).mono ?_
  rintro e w' ⟨rfl, rfl⟩
  go_wp2_with fail
  refine (pg_nil 0 w1).mono ?_
  rintro e w' ⟨rfl, rfl⟩
  go_wp2_with fail
  refine (setPage_nil 0 _ _).mono ?_
  rintro e w2 ⟨rfl, hw⟩
  replace HB := hid (HB.out.trans (show Below w.heap.size w1 w2 by rw [← hw]; exact (Bl.alloc (Bl.refl _) _).mono HB.out.size))
  clear hw
  go_wp2_with fail
  refine (dirty_nil w2).mono ?_
  rintro e w' ⟨rfl, rfl⟩
  go_wp2_with fail
  go_ret
  exact ⟨rfl, HB.out⟩

theorem rem_in (x : Int) (m : Int) (h : 0 < m) : -m < x.tmod m ∧ x.tmod m < m := ⟨Int.lt_tmod_of_pos _ h, Int.tmod_lt_of_pos _ h⟩
set_option maxHeartbeats 1000000 in
theorem memGrowth_walk (lo hi : Int) (ao : Option Addr) (n cap : Nat) (xs : List Int) (w : World) (hx : Rd .i64 w ao n cap xs) :
    Calls Try.prog 6 #[.int .i64 lo, .int .i64 hi, .slice ao n cap] w fun e w' => e = .returned (.bool true) ∧ Below w.heap.size w w' := by
  have HX := hid hx
  have hn := hx.cap63
  have hn2 := hx.le
  clear hx
  go_enter Try.func6, Try.ntmps6
  go_wp2_with fail
  refine (begun_to w).mono ?_
  rintro e w1 ⟨rfl, hb⟩
  have HB := hid hb
  clear hb
  by_cases hr : lo < 0 ∨ 16 < lo ∨ hi < -1 ∨ 20 < hi
  · rcases hr with h | h | h | h
    all_goals
      go_wp2_with fail
      all_goals
        go_ret
        exact ⟨rfl, HB.out⟩
  · obtain ⟨p, rfl⟩ : ∃ p : Nat, lo = p := ⟨lo.toNat, by omega⟩
    have hr1 : ¬ 16 < (p : Int) := by omega
    have hr2 : ¬ hi < -1 := by omega
    have hr3 : ¬ 20 < hi := by omega
    clear hr
    go_wp2_with fail
    refine (new_to p hi w1 (by omega)).mono ?_
    rintro e w2 ⟨rfl, hM, hb⟩
    obtain ⟨g, hgg⟩ : ∃ g, g = w1.heap.size + 1 := ⟨_, rfl⟩
    have hg : w.heap.size ≤ g := by have := HB.out.size; omega
    rw [← hgg] at hM ⊢
    clear hgg
    replace HB := hid (HB.out.trans (hb.mono HB.out.size))
    have HM := hid hM
    clear hM hb
    obtain ⟨q, hq, hq16, hqm⟩ : ∃ q : Int, (newM p hi).q = q ∧ q ≤ 16 ∧ ((0 ≤ hi ∧ (if hi < 16 then hi else 16) = q) ∨ (hi = -1 ∧ q = 16)) := by
      refine ⟨_, rfl, (newM_ok p hi (by omega)).ql, ?_⟩
      simp only [newM]
      by_cases h : hi = -1
      · simp [h]
      · left
        rw [if_neg h]
        refine ⟨by omega, ?_⟩
        split <;> omega
    have HQ := hid hq
    clear hq
    by_cases h0 : 0 ≤ hi
    · obtain ⟨_, hqe⟩ : 0 ≤ hi ∧ (if hi < 16 then hi else 16) = q := by omega
      clear hqm
      go_wp2_with fail
      go_loopw [10, 11] (fun x i wr => ∃ (k : Nat) (M : MM), k ≤ n ∧ k ≤ 20 ∧ i = .int .i64 k ∧ x = .int .i64 (M.p : Int) ∧ M.q = q ∧ MemAt wr g M ∧ Below w.heap.size w wr) (fun _ i _ => n - (intOf i).toNat)
      case atStart => exact ⟨0, _, Nat.zero_le _, Nat.zero_le _, rfl, rfl, HQ.out, HM.out, HB.out⟩
      case round =>
        clear HM HB HQ
        obtain ⟨k, M, hk, hk20, rfl, rfl, hq, hM, hB⟩ := hrel
        have hp := hM.ok.pl
        have HM := hid hM
        have HB := hid hB
        have HQ := hid hq
        clear hM hB hq
        by_cases hlt : k < n ∧ k < 20
        · obtain ⟨h1, h2⟩ := hlt
          obtain ⟨bx, ox, rfl, hcx⟩ := HX.out.at (by omega)
          have hc := (HB.out.cell (World.block_lt_of_cell? _ _ (hcx k h1))).trans (hcx k h1)
          obtain ⟨x, hx⟩ : ∃ x, xs.getD k 0 = x := ⟨_, rfl⟩
          rw [hx] at hc
          obtain ⟨t1, t2⟩ := rem_in x 8 (by decide)
          obtain ⟨t, ht⟩ : ∃ t, x.tmod 8 = t := ⟨_, rfl⟩
          rw [ht] at t1 t2
          obtain ⟨m, hm⟩ : ∃ m : Nat, (t + 8) % 8 = m := ⟨((t + 8) % 8).toNat, by omega⟩
          have hm8 : m < 8 := by omega
          clear hx hcx
          have et : ∀ y : Int, y = (m : Int) → y = (m : Int) := fun _ h => h
          by_cases hgr : (M.p : Int) + m ≤ q
          · have hco := grow_to g M m wr HM.out (by rw [HQ.out]; exact hgr)
            clear et
            go_wp2_with fail
            refine hco.mono ?_
            rintro e w3 ⟨rfl, hM, hW⟩
            clear hc
            replace HB := hid (HB.out.trans (hW.below HB.out.size hg))
            replace HQ : Hid ((growM M m).q = q) := hid HQ.out
            have HMN := hid hM
            have hpp := pages_to g _ w3 hM
            rw [show (((growM M m).p : Nat) : Int) = (M.p : Int) + m by simp [growM]] at hpp
            clear hM hW hco
            go_wp2_with fail
            refine hpp.mono ?_
            rintro e w' ⟨rfl, rfl⟩
            clear hpp
            go_wp2_with fail
            go_roundw
            case rel => exact ⟨k + 1, growM M m, by omega, by omega, by go_num, by simp [growM], HQ.out, HMN.out, HB.out⟩
            case measure => simp [intOf]; omega
          · have hco := grow_no g M m wr HM.out (by unfold mayM; rw [HQ.out]; simp; omega)
            clear et
            go_wp2_with fail
            refine hco.mono ?_
            rintro e w3 ⟨rfl, hb⟩
            clear hc
            replace HB := hid (HB.out.trans (hb.mono HB.out.size))
            replace HM := hid (HM.out.bl hb)
            have hpp := pages_to g _ w3 HM.out
            clear hb hco
            go_wp2_with fail
            refine hpp.mono ?_
            rintro e w' ⟨rfl, rfl⟩
            clear hpp
            go_wp2_with fail
            go_roundw
            case rel => exact ⟨k + 1, M, by omega, by omega, by go_num, rfl, HQ.out, HM.out, HB.out⟩
            case measure => simp [intOf]; omega
        · by_cases hlt1 : k < n
          · have h20 : ¬ k < 20 := by omega
            clear hlt
            go_wp2_with fail
            go_ret
            exact ⟨rfl, HB.out⟩
          · clear hlt
            go_wp2_with fail
            go_ret
            exact ⟨rfl, HB.out⟩
    · obtain ⟨rfl, rfl⟩ : hi = -1 ∧ q = 16 := by omega
      clear hqm
      go_wp2_with fail
      go_loopw [10, 11] (fun x i wr => ∃ (k : Nat) (M : MM), k ≤ n ∧ k ≤ 20 ∧ i = .int .i64 k ∧ x = .int .i64 (M.p : Int) ∧ M.q = 16 ∧ MemAt wr g M ∧ Below w.heap.size w wr) (fun _ i _ => n - (intOf i).toNat)
      case atStart => exact ⟨0, _, Nat.zero_le _, Nat.zero_le _, rfl, rfl, HQ.out, HM.out, HB.out⟩
      case round =>
        clear HM HB HQ
        obtain ⟨k, M, hk, hk20, rfl, rfl, hq, hM, hB⟩ := hrel
        have hp := hM.ok.pl
        have HM := hid hM
        have HB := hid hB
        have HQ := hid hq
        clear hM hB hq
        by_cases hlt : k < n ∧ k < 20
        · obtain ⟨h1, h2⟩ := hlt
          obtain ⟨bx, ox, rfl, hcx⟩ := HX.out.at (by omega)
          have hc := (HB.out.cell (World.block_lt_of_cell? _ _ (hcx k h1))).trans (hcx k h1)
          obtain ⟨x, hx⟩ : ∃ x, xs.getD k 0 = x := ⟨_, rfl⟩
          rw [hx] at hc
          obtain ⟨t1, t2⟩ := rem_in x 8 (by decide)
          obtain ⟨t, ht⟩ : ∃ t, x.tmod 8 = t := ⟨_, rfl⟩
          rw [ht] at t1 t2
          obtain ⟨m, hm⟩ : ∃ m : Nat, (t + 8) % 8 = m := ⟨((t + 8) % 8).toNat, by omega⟩
          have hm8 : m < 8 := by omega
          clear hx hcx
          have et : ∀ y : Int, y = (m : Int) → y = (m : Int) := fun _ h => h
          by_cases hgr : (M.p : Int) + m ≤ 16
          · have hco := grow_to g M m wr HM.out (by rw [HQ.out]; exact hgr)
            clear et
            go_wp2_with fail
            refine hco.mono ?_
            rintro e w3 ⟨rfl, hM, hW⟩
            clear hc
            replace HB := hid (HB.out.trans (hW.below HB.out.size hg))
            replace HQ : Hid ((growM M m).q = 16) := hid HQ.out
            have HMN := hid hM
            have hpp := pages_to g _ w3 hM
            rw [show (((growM M m).p : Nat) : Int) = (M.p : Int) + m by simp [growM]] at hpp
            clear hM hW hco
            go_wp2_with fail
            refine hpp.mono ?_
            rintro e w' ⟨rfl, rfl⟩
            clear hpp
            go_wp2_with fail
            go_roundw
            case rel => exact ⟨k + 1, growM M m, by omega, by omega, by go_num, by simp [growM], HQ.out, HMN.out, HB.out⟩
            case measure => simp [intOf]; omega
          · have hco := grow_no g M m wr HM.out (by unfold mayM; rw [HQ.out]; simp; omega)
            clear et
            go_wp2_with fail
            refine hco.mono ?_
            rintro e w3 ⟨rfl, hb⟩
            clear hc
            replace HB := hid (HB.out.trans (hb.mono HB.out.size))
            replace HM := hid (HM.out.bl hb)
            have hpp := pages_to g _ w3 HM.out
            clear hb hco
            go_wp2_with fail
            refine hpp.mono ?_
            rintro e w' ⟨rfl, rfl⟩
            clear hpp
            go_wp2_with fail
            go_roundw
            case rel => exact ⟨k + 1, M, by omega, by omega, by go_num, rfl, HQ.out, HM.out, HB.out⟩
            case measure => simp [intOf]; omega
        · by_cases hlt1 : k < n
          · have h20 : ¬ k < 20 := by omega
            clear hlt
            go_wp2_with fail
            go_ret
            exact ⟨rfl, HB.out⟩
          · clear hlt
            go_wp2_with fail
            go_ret
            exact ⟨rfl, HB.out⟩
end Go.Proofs.Ytcbchhnbkgaboaa
