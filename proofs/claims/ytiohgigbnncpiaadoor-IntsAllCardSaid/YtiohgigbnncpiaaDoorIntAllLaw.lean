/- Any instruction, of any values. -/
import Derived.Test.YtiohgigbnncpiaaDoorIntRefSpec
namespace Go.Proofs.YtiohgigbnncpiaaDoor
open Go.RowKit

theorem kinds_le {b c r : Int} {nk : Nat} {t : Bool} (h : kindsS b c = (nk, r, t)) : nk ≤ 2 := by
  unfold kindsS at h
  by_cases b1 : b = 69
  · rw [if_pos b1] at h; cases h; decide
  rw [if_neg b1] at h
  by_cases b2 : 70 ≤ b ∧ b ≤ 79
  · rw [if_pos b2] at h; cases h; decide
  rw [if_neg b2] at h
  by_cases b3 : 103 ≤ b ∧ b ≤ 105
  · rw [if_pos b3] at h; cases h; decide
  rw [if_neg b3] at h
  by_cases b4 : 106 ≤ b ∧ b ≤ 120
  · rw [if_pos b4] at h; cases h; decide
  rw [if_neg b4] at h
  by_cases b5 : b = 167
  · rw [if_pos b5] at h; cases h; decide
  rw [if_neg b5] at h
  by_cases b6 : b = 172 ∨ b = 173
  · rw [if_pos b6] at h; cases h; decide
  rw [if_neg b6] at h
  cases h; decide

set_option maxRecDepth 20000 in
set_option maxHeartbeats 4000000 in
theorem intsAll_walk (op k n k' m : Int) (hn : In64 n) (hm : In64 m) (w : World) (hL : Laid w) :
    Calls Tryd.prog 3 #[.int .i64 op, av k n, av k' m] w fun e w' => e = .returned (.bool true) ∧ Below w.heap.size w w' := by
  obtain ⟨c, b, hcls⟩ : ∃ c b, cls op = (c, b) := ⟨_, _, rfl⟩
  obtain ⟨nk, rk, tk, hkd⟩ : ∃ nk r ok, kindsS b c = (nk, r, ok) := ⟨_, _, _, rfl⟩
  obtain ⟨kf, hkk⟩ : ∃ kf, (if nk = 0 then 0 else c) = kf := ⟨_, rfl⟩
  obtain ⟨A, V, T, hS⟩ : ∃ A V T, twoS op k n k' m = (A, V, T) := ⟨_, _, _, rfl⟩
  obtain ⟨A', V', T', hO⟩ : ∃ A V T, oneS op k n = (A, V, T) := ⟨_, _, _, rfl⟩
  have hnk := kinds_le hkd
  have hK := fun w => kinds_to op c b nk rk tk hcls hkd w
  rw [hkk] at hK
  have HK := hid hK
  have HS := hid hS
  have HO := hid hO
  have Hcls := hid hcls
  have Hkd := hid hkd
  have Hkk := hid hkk
  have Rn := hid hn
  have Rm := hid hm
  clear hK hS hO hcls hkd hkk hn hm
  have HL := hid hL
  clear hL
  cases tk
  all_goals
    go_enter Tryd.func3, Tryd.ntmps3
    go_wp2_with fail
    refine (begun_any _ (HL.out.below (Bl.alloc (Bl.alloc (Bl.refl _) _) _))).mono ?_
    rintro e w1 ⟨rfl, b1⟩
    have A_1 := hid (((Pair.new _ _ _ _ (p := w.heap.size) (by simp)).alloc _).below b1)
    have B_1 := hid (((Pair.new _ _ _ _ (p := w.heap.size + 1) (by simp))).below b1)
    have BL1 := hid (Bl.step (Bl.alloc (Bl.alloc (Bl.refl _) _) _) b1)
    clear b1
    obtain ⟨Ac0, Ac1, -, -⟩ := A_1.out
    have Alt : w.heap.size < w1.heap.size := World.block_lt_of_cell? _ _ Ac0
    obtain ⟨Bc0, Bc1, -, -⟩ := B_1.out
    have Blt : w.heap.size + 1 < w1.heap.size := World.block_lt_of_cell? _ _ Bc0
    go_wp2_with fail
    refine (one_to _ _ _ _ _ _ Rn.out HO.out _ (HL.out.below BL1.out)).mono ?_
    rintro e w2 ⟨rfl, b2⟩
    have A_2 := hid ((A_1.out).below b2)
    have B_2 := hid ((B_1.out).below b2)
    have BL2 := hid (Bl.step BL1.out b2)
    clear b2 Ac0 Ac1 Alt Bc0 Bc1 Blt A_1 B_1 BL1
    obtain ⟨Ac0, Ac1, -, -⟩ := A_2.out
    have Alt : w.heap.size < w2.heap.size := World.block_lt_of_cell? _ _ Ac0
    obtain ⟨Bc0, Bc1, -, -⟩ := B_2.out
    have Blt : w.heap.size + 1 < w2.heap.size := World.block_lt_of_cell? _ _ Bc0
    go_wp2_with fail
    refine (refOne_to _ _ _ _ _ _ Rn.out HO.out _).mono ?_
    rintro e w3 ⟨rfl, b3⟩
    have A_3 := hid ((A_2.out.alloc _).below b3)
    have B_3 := hid ((B_2.out.alloc _).below b3)
    have X_3 := hid (((Pair.new _ _ _ _ (p := w2.heap.size) (by simp))).below b3)
    have BL3 := hid (Bl.step (Bl.alloc BL2.out _) b3)
    clear b3 Ac0 Ac1 Alt Bc0 Bc1 Blt A_2 B_2 BL2
    obtain ⟨Ac0, Ac1, -, -⟩ := A_3.out
    have Alt : w.heap.size < w3.heap.size := World.block_lt_of_cell? _ _ Ac0
    obtain ⟨Bc0, Bc1, -, -⟩ := B_3.out
    have Blt : w.heap.size + 1 < w3.heap.size := World.block_lt_of_cell? _ _ Bc0
    obtain ⟨Xc0, Xc1, -, -⟩ := X_3.out
    have Xlt : w2.heap.size < w3.heap.size := World.block_lt_of_cell? _ _ Xc0
    go_wp2_with fail
    refine (two_to _ _ _ _ _ _ _ _ Rn.out Rm.out HS.out _).mono ?_
    rintro e w4 ⟨rfl, b4⟩
    have A_4 := hid ((A_3.out.alloc _).below b4)
    have B_4 := hid ((B_3.out.alloc _).below b4)
    have X_4 := hid ((X_3.out.alloc _).below b4)
    have Y_4 := hid (((Pair.new _ _ _ _ (p := w3.heap.size) (by simp))).below b4)
    have BL4 := hid (Bl.step (Bl.alloc BL3.out _) b4)
    clear b4 Ac0 Ac1 Alt Bc0 Bc1 Blt Xc0 Xc1 Xlt A_3 B_3 X_3 BL3
    obtain ⟨Ac0, Ac1, -, -⟩ := A_4.out
    have Alt : w.heap.size < w4.heap.size := World.block_lt_of_cell? _ _ Ac0
    obtain ⟨Bc0, Bc1, -, -⟩ := B_4.out
    have Blt : w.heap.size + 1 < w4.heap.size := World.block_lt_of_cell? _ _ Bc0
    obtain ⟨Xc0, Xc1, -, -⟩ := X_4.out
    have Xlt : w2.heap.size < w4.heap.size := World.block_lt_of_cell? _ _ Xc0
    obtain ⟨Yc0, Yc1, -, -⟩ := Y_4.out
    have Ylt : w3.heap.size < w4.heap.size := World.block_lt_of_cell? _ _ Yc0
    go_wp2_with fail
    refine (refTwo_to _ _ _ _ _ _ _ _ Rn.out Rm.out HS.out _).mono ?_
    rintro e w5 ⟨rfl, b5⟩
    have A_5 := hid ((A_4.out.alloc _).below b5)
    have B_5 := hid ((B_4.out.alloc _).below b5)
    have X_5 := hid ((X_4.out.alloc _).below b5)
    have Y_5 := hid ((Y_4.out.alloc _).below b5)
    have U_5 := hid (((Pair.new _ _ _ _ (p := w4.heap.size) (by simp))).below b5)
    have BL5 := hid (Bl.step (Bl.alloc BL4.out _) b5)
    clear b5 Ac0 Ac1 Alt Bc0 Bc1 Blt Xc0 Xc1 Xlt Yc0 Yc1 Ylt A_4 B_4 X_4 Y_4 BL4
    obtain ⟨Ac0, Ac1, -, -⟩ := A_5.out
    have Alt : w.heap.size < w5.heap.size := World.block_lt_of_cell? _ _ Ac0
    obtain ⟨Bc0, Bc1, -, -⟩ := B_5.out
    have Blt : w.heap.size + 1 < w5.heap.size := World.block_lt_of_cell? _ _ Bc0
    obtain ⟨Xc0, Xc1, -, -⟩ := X_5.out
    have Xlt : w2.heap.size < w5.heap.size := World.block_lt_of_cell? _ _ Xc0
    obtain ⟨Yc0, Yc1, -, -⟩ := Y_5.out
    have Ylt : w3.heap.size < w5.heap.size := World.block_lt_of_cell? _ _ Yc0
    obtain ⟨Uc0, Uc1, -, -⟩ := U_5.out
    have Ult : w4.heap.size < w5.heap.size := World.block_lt_of_cell? _ _ Uc0
    go_wp2_with fail
    refine (HK.out _).mono ?_
    rintro e w6 ⟨ao, cap, rfl, hr6, b6⟩
    have A_6 := hid ((A_5.out.alloc _).below b6)
    have X_6 := hid ((X_5.out.alloc _).below b6)
    have Y_6 := hid ((Y_5.out.alloc _).below b6)
    have U_6 := hid ((U_5.out.alloc _).below b6)
    have V_6 := hid ((Pair.new _ _ _ _ (p := w5.heap.size) (by simp)).below b6)
    have BL6 := hid (Bl.step (Bl.alloc BL5.out _) b6)
    have R6 := hid hr6
    clear b6 hr6 Ac0 Ac1 Alt Bc0 Bc1 Blt Xc0 Xc1 Xlt Yc0 Yc1 Ylt Uc0 Uc1 Ult A_5 B_5 X_5 Y_5 U_5 BL5
    obtain ⟨Ac0, Ac1, -, -⟩ := A_6.out
    go_wp2_with fail
    refine (refKinds_to _ _ _ _ _ _ _ Hcls.out Hkd.out Hkk.out _).mono ?_
    rintro e w' ⟨rfl, rfl⟩
    go_wp2_with fail
    refine wp_region_quiet_below (by kernel_rfl) (by kernel_rfl) ?_
    have hbc := fun (q : Bw w6) => And.intro (A_6.out.below q.h).c0 (A_6.out.below q.h).c1
    simp only [forall_and] at hbc
    obtain ⟨hb1, hb2⟩ := hbc
    repeat (go_big_quiet_step (fail))
    go_big_quiet_step ((go_at_call 21; exact Calls.bw (may_any k n Rn.out _)))
    repeat (go_big_quiet_step (fail))
    go_big_quiet_step ((go_at_call 22; exact Calls.bw (refMay_any k n _)))
    repeat (go_big_quiet_step (fail))
    refine wpQuiet_nil ?_
    rintro _ ⟨q, rfl⟩
    obtain ⟨w7, hw7⟩ : ∃ w7 : World, w7 = q.w := ⟨_, rfl⟩
    have X_7 := hid (X_6.out.below q.h)
    have Y_7 := hid (Y_6.out.below q.h)
    have U_7 := hid (U_6.out.below q.h)
    have V_7 := hid (V_6.out.below q.h)
    have BL7 := hid (Bl.step BL6.out q.h)
    have R7 := hid (R6.out.below q.h)
    rw [← hw7] at X_7 Y_7 U_7 V_7 BL7 R7 ⊢
    clear hw7 q hb1 hb2 Ac0 Ac1 A_6 X_6 Y_6 U_6 V_6 BL6 R6
    go_wp2_with fail
    go_loop [23] (fun i => ∃ j : Nat, j ≤ nk ∧ i = .int .i64 j) (fun i => nk - (intOf i).toNat)
    case atStart => exact ⟨0, Nat.zero_le _, rfl⟩
    case round =>
      obtain ⟨j, hj, rfl⟩ := hrel
      by_cases hlt : j < nk
      · obtain ⟨bb, off, rfl, hcell⟩ := R7.out.at (by omega)
        have hck : w7.cell? ⟨bb, off + j, none⟩ = some (.int .i64 kf) := by
          have := hcell j hlt
          rw [this]
          simp [List.getD, hlt]
        clear hcell
        go_wp2_with fail
        go_round
        case rel => exact ⟨j + 1, by omega, by go_num⟩
        case measure => simp [intOf]; omega
      · obtain rfl : j = nk := by omega
        obtain ⟨Xc0, Xc1, -, -⟩ := X_7.out
        obtain ⟨Yc0, Yc1, -, -⟩ := Y_7.out
        go_wp2_with fail
        refine (eq_same _ _ _).mono ?_
        rintro e w8 ⟨rfl, b8⟩
        have BL8 := hid (Bl.step BL7.out b8)
        obtain ⟨Uc0, Uc1, -, -⟩ := U_7.out.below b8
        obtain ⟨Vc0, Vc1, -, -⟩ := V_7.out.below b8
        clear b8 Xc0 Xc1 Yc0 Yc1
        go_wp2_with fail
        refine (eq_same _ _ _).mono ?_
        rintro e w9 ⟨rfl, b9⟩
        have BL9 := hid (Bl.step BL8.out b9)
        clear b9 Uc0 Uc1 Vc0 Vc1
        go_wp2_with fail
        go_ret
        exact ⟨by simp, BL9.out⟩
end Go.Proofs.YtiohgigbnncpiaaDoor
