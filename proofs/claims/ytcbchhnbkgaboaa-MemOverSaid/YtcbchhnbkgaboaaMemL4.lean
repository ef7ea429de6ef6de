/- mem's laws: MemOver. -/
import Derived.Test.YtcbchhnbkgaboaaMemL3
namespace Go.Proofs.Ytcbchhnbkgaboaa
open Go.RowKit

theorem and_mask (x i : Nat) (hi : i < 64) (m : Int) (hm : m = 2 ^ i - 1) : bits .and .u64 (x : Int) m = ((x % 2 ^ i : Nat) : Int) := by
  subst hm
  rw [bits_and_mask .u64 i hi (fun n h0 h1 => IntWalk.u64_in n ⟨h0, by
    have := two_pow_le (show i ≤ 63 by omega)
    have e : (2 : Int) ^ 63 = 9223372036854775808 := by decide
    omega⟩)]
  simp
set_option maxHeartbeats 4000000 in
set_option maxRecDepth 100000 in
theorem memOver_walk (p a : Int) (x : Int) (w : World) (hx : 0 ≤ x ∧ x < 2 ^ 64) : Calls Try.prog 4 #[.int .i64 p, .int .i64 a, .int .u64 x] w fun e w' => e = .returned (.bool true) ∧ Below w.heap.size w w' := by
  obtain ⟨x, rfl⟩ : ∃ y : Nat, x = y := ⟨x.toNat, by omega⟩
  have hx2 : x < 2 ^ 64 := by omega
  have HX := hid hx2
  clear hx hx2
  go_enter Try.func4, Try.ntmps4
  go_wp2_with fail
  refine (begun_to w).mono ?_
  rintro e w1 ⟨rfl, hb⟩
  have HB := hid hb
  clear hb
  by_cases hr : p < 1 ∨ 16 < p ∨ a < 0 ∨ 4096 < a
  · rcases hr with h | h | h | h
    all_goals
      go_wp2_with fail
      all_goals
        go_ret
        exact ⟨rfl, HB.out⟩
  · obtain ⟨a, rfl⟩ : ∃ y : Nat, a = y := ⟨a.toNat, by omega⟩
    obtain ⟨p, rfl⟩ : ∃ y : Nat, p = y := ⟨p.toNat, by omega⟩
    have hr1 : (1 : Int) ≤ p := by omega
    have hr2 : (p : Int) ≤ 16 := by omega
    have hr3 : (a : Int) ≤ 4096 := by omega
    clear hr
    go_wp2_with fail
    refine (new_to p (-1) w1 (by omega)).mono ?_
    rintro e w2 ⟨rfl, hM, hb⟩
    obtain ⟨M, hMM⟩ : ∃ M, M = newM p (-1) := ⟨_, rfl⟩
    obtain ⟨g, hgg⟩ : ∃ g, g = w1.heap.size + 1 := ⟨_, rfl⟩
    have hg : w.heap.size ≤ g := by have := HB.out.size; omega
    rw [← hgg, ← hMM] at hM
    rw [← hgg]
    clear hgg
    have hp1 : M.p = p := by rw [hMM]; rfl
    replace HB := hid (HB.out.trans (hb.mono HB.out.size))
    have HM := hid hM
    have HP := hid hp1
    have hgl : w2.heap.size ≠ g := by have := hM.lt; omega
    have HG := hid hgl
    clear hM hb hMM hp1 hgl
    go_wp2_with fail
    obtain ⟨T, hT⟩ : ∃ T : Nat, (256 : Int) * (p : Int) = T := ⟨256 * p, by simp⟩
    have hTb : (T : Int) ≤ 4096 := by omega
    go_loopw [40] (fun i wr => ∃ (k : Nat) (M : MM), k ≤ 3 ∧ i = .int .i64 k ∧ MemAt wr g M ∧ M.p = p ∧ Below w.heap.size w wr ∧ wr.cell? ⟨w2.heap.size, 0, none⟩ = some (.int .i64 8) ∧ wr.cell? ⟨w2.heap.size, 1, none⟩ = some (.int .i64 4) ∧ wr.cell? ⟨w2.heap.size, 2, none⟩ = some (.int .i64 1)) (fun i _ => (3 - intOf i).toNat)
    case atStart =>
      refine ⟨0, M, by omega, rfl, HM.out.alloc _, HP.out, HB.out.alloc HB.out.size _, ?_, ?_, ?_⟩
      all_goals
        go_simp
    case round =>
      clear HM HB HP
      obtain ⟨k, M, hk, rfl, hM, hp, hB, hc0, hc1, hc2⟩ := hrel
      have hgl : w2.heap.size ≠ g := HG.out
      have HM := hid hM
      have HP := hid hp
      have HB := hid hB
      have HC := hid (And.intro hc0 (And.intro hc1 hc2))
      clear hM hp hB hc0 hc1 hc2
      have h32 := and_mask x 32 (by decide) 4294967295 (by decide)
      have h8 := and_mask x 8 (by decide) 255 (by decide)
      by_cases hk3 : k < 3
      · have hkk : k = 0 ∨ k = 1 ∨ k = 2 := by omega
        clear hk hk3
        rcases hkk with rfl | rfl | rfl
        · have hc := HC.out.1
          by_cases hin : a + 8 ≤ 256 * p
          · have hI : (a : Int) + 8 ≤ (T : Int) := by omega
            have hst := store_to g M a 8 x wr HM.out (by omega) (by rw [HP.out]; exact hin) HX.out
            go_wp2_with fail
            refine hst.mono ?_
            rintro e w3 ⟨rfl, hM, hW⟩
            have hne := hW
            have hld := load_to g _ a 8 w3 hM (by omega) (by show _ ≤ 256 * M.p; rw [HP.out]; exact hin)
            have hn := numM_byt M.c a x 8 (by rw [HM.out.ok.cl]; omega) 0 8 (by omega)
            rw [Nat.pow_zero, Nat.div_one, Nat.add_zero] at hn
            rw [show numM (storeM M a 8 x).c a 8 = x % 256 ^ 8 from hn, Nat.mod_eq_of_lt (show x < 256 ^ 8 from HX.out)] at hld
            replace HM := hid hM
            replace HP : Hid ((storeM M a 8 x).p = p) := hid HP.out
            replace HB := hid (HB.out.trans (hW.below HB.out.size hg))
            replace HC : Hid (_ ∧ _ ∧ _) := hid ⟨(hW.cell (p := ⟨w2.heap.size, 0, none⟩) (World.block_lt_of_cell? _ _ HC.out.1) hgl).trans HC.out.1, (hW.cell (p := ⟨w2.heap.size, 1, none⟩) (World.block_lt_of_cell? _ _ HC.out.2.1) hgl).trans HC.out.2.1, (hW.cell (p := ⟨w2.heap.size, 2, none⟩) (World.block_lt_of_cell? _ _ HC.out.2.2) hgl).trans HC.out.2.2⟩
            clear hM hW hne hst hn hin hc
            go_wp2_with fail
            refine hld.mono ?_
            rintro e w' ⟨rfl, rfl⟩
            clear hld
            go_wp2_with fail
            go_roundw
            case rel => exact ⟨1, _, by omega, by simp, HM.out, HP.out, HB.out, HC.out⟩
            case measure => simp [intOf]
          · have hI : ¬ (a : Int) + 8 ≤ (T : Int) := by omega
            have hhas : hasM M (a : Int) 8 = false := by unfold hasM; rw [HP.out]; simp; omega
            have hst := store_no g M a 8 x wr HM.out hhas
            have hld := load_no g M a 8 wr HM.out hhas
            go_wp2_with fail
            refine hst.mono ?_
            rintro e w' ⟨rfl, rfl⟩
            clear hst hin hc hhas
            go_wp2_with fail
            refine hld.mono ?_
            rintro e w' ⟨rfl, rfl⟩
            clear hld
            go_wp2_with fail
            go_roundw
            case rel => exact ⟨1, M, by omega, by simp, HM.out, HP.out, HB.out, HC.out⟩
            case measure => simp [intOf]
        · have hc := HC.out.2.1
          by_cases hin : a + 4 ≤ 256 * p
          · have hI : (a : Int) + 4 ≤ (T : Int) := by omega
            have hst := store_to g M a 4 x wr HM.out (by omega) (by rw [HP.out]; exact hin) HX.out
            go_wp2_with fail
            refine hst.mono ?_
            rintro e w3 ⟨rfl, hM, hW⟩
            have hne := hW
            have hld := load_to g _ a 4 w3 hM (by omega) (by show _ ≤ 256 * M.p; rw [HP.out]; exact hin)
            have hn := numM_byt M.c a x 4 (by rw [HM.out.ok.cl]; omega) 0 4 (by omega)
            rw [Nat.pow_zero, Nat.div_one, Nat.add_zero] at hn
            rw [show numM (storeM M a 4 x).c a 4 = x % 256 ^ 4 from hn, show (256 : Nat) ^ 4 = 2 ^ 32 by decide] at hld
            replace HM := hid hM
            replace HP : Hid ((storeM M a 4 x).p = p) := hid HP.out
            replace HB := hid (HB.out.trans (hW.below HB.out.size hg))
            replace HC : Hid (_ ∧ _ ∧ _) := hid ⟨(hW.cell (p := ⟨w2.heap.size, 0, none⟩) (World.block_lt_of_cell? _ _ HC.out.1) hgl).trans HC.out.1, (hW.cell (p := ⟨w2.heap.size, 1, none⟩) (World.block_lt_of_cell? _ _ HC.out.2.1) hgl).trans HC.out.2.1, (hW.cell (p := ⟨w2.heap.size, 2, none⟩) (World.block_lt_of_cell? _ _ HC.out.2.2) hgl).trans HC.out.2.2⟩
            clear hM hW hne hst hn hin hc
            go_wp2_with fail
            refine hld.mono ?_
            rintro e w' ⟨rfl, rfl⟩
            clear hld
            go_wp2_with fail
            go_roundw
            case rel => exact ⟨2, _, by omega, by simp, HM.out, HP.out, HB.out, HC.out⟩
            case measure => simp [intOf]
          · have hI : ¬ (a : Int) + 4 ≤ (T : Int) := by omega
            have hhas : hasM M (a : Int) 4 = false := by unfold hasM; rw [HP.out]; simp; omega
            have hst := store_no g M a 4 x wr HM.out hhas
            have hld := load_no g M a 4 wr HM.out hhas
            go_wp2_with fail
            refine hst.mono ?_
            rintro e w' ⟨rfl, rfl⟩
            clear hst hin hc hhas
            go_wp2_with fail
            refine hld.mono ?_
            rintro e w' ⟨rfl, rfl⟩
            clear hld
            go_wp2_with fail
            go_roundw
            case rel => exact ⟨2, M, by omega, by simp, HM.out, HP.out, HB.out, HC.out⟩
            case measure => simp [intOf]
        · have hc := HC.out.2.2
          by_cases hin : a + 1 ≤ 256 * p
          · have hI : (a : Int) + 1 ≤ (T : Int) := by omega
            have hst := store_to g M a 1 x wr HM.out (by omega) (by rw [HP.out]; exact hin) HX.out
            go_wp2_with fail
            refine hst.mono ?_
            rintro e w3 ⟨rfl, hM, hW⟩
            have hne := hW
            have hld := load_to g _ a 1 w3 hM (by omega) (by show _ ≤ 256 * M.p; rw [HP.out]; exact hin)
            have hn := numM_byt M.c a x 1 (by rw [HM.out.ok.cl]; omega) 0 1 (by omega)
            rw [Nat.pow_zero, Nat.div_one, Nat.add_zero] at hn
            rw [show numM (storeM M a 1 x).c a 1 = x % 256 ^ 1 from hn, show (256 : Nat) ^ 1 = 2 ^ 8 by decide] at hld
            replace HM := hid hM
            replace HP : Hid ((storeM M a 1 x).p = p) := hid HP.out
            replace HB := hid (HB.out.trans (hW.below HB.out.size hg))
            replace HC : Hid (_ ∧ _ ∧ _) := hid ⟨(hW.cell (p := ⟨w2.heap.size, 0, none⟩) (World.block_lt_of_cell? _ _ HC.out.1) hgl).trans HC.out.1, (hW.cell (p := ⟨w2.heap.size, 1, none⟩) (World.block_lt_of_cell? _ _ HC.out.2.1) hgl).trans HC.out.2.1, (hW.cell (p := ⟨w2.heap.size, 2, none⟩) (World.block_lt_of_cell? _ _ HC.out.2.2) hgl).trans HC.out.2.2⟩
            clear hM hW hne hst hn hin hc
            go_wp2_with fail
            refine hld.mono ?_
            rintro e w' ⟨rfl, rfl⟩
            clear hld
            go_wp2_with fail
            go_roundw
            case rel => exact ⟨3, _, by omega, by simp, HM.out, HP.out, HB.out, HC.out⟩
            case measure => simp [intOf]
          · have hI : ¬ (a : Int) + 1 ≤ (T : Int) := by omega
            have hhas : hasM M (a : Int) 1 = false := by unfold hasM; rw [HP.out]; simp; omega
            have hst := store_no g M a 1 x wr HM.out hhas
            have hld := load_no g M a 1 wr HM.out hhas
            go_wp2_with fail
            refine hst.mono ?_
            rintro e w' ⟨rfl, rfl⟩
            clear hst hin hc hhas
            go_wp2_with fail
            refine hld.mono ?_
            rintro e w' ⟨rfl, rfl⟩
            clear hld
            go_wp2_with fail
            go_roundw
            case rel => exact ⟨3, M, by omega, by simp, HM.out, HP.out, HB.out, HC.out⟩
            case measure => simp [intOf]
      · obtain rfl : k = 3 := by omega
        clear hk hk3
        have hl1 := load_no g M 4611686018427387904 8 wr HM.out (by unfold hasM; rw [HP.out]; simp; omega)
        have hl2 := load_no g M (-1) 1 wr HM.out (by unfold hasM; simp)
        go_wp2_with fail
        refine hl1.mono ?_
        rintro e w' ⟨rfl, rfl⟩
        go_wp2_with fail
        refine hl2.mono ?_
        rintro e w' ⟨rfl, rfl⟩
        go_wp2_with fail
        go_ret
        exact ⟨rfl, HB.out⟩
end Go.Proofs.Ytcbchhnbkgaboaa
