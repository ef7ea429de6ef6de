/- The opening of the laws of ints: some sums. -/
import Derived.Test.YtiohgigbnncpiaaDoorIntSpec
namespace Go.Proofs.YtiohgigbnncpiaaDoor
open Go.RowKit

set_option maxRecDepth 20000 in
set_option maxHeartbeats 1000000 in
theorem begun_any (w : World) (hL : Laid w) : Calls Tryd.prog 14 #[] w fun e w' => e = .returned (.bool true) ∧ Below w.heap.size w w' := by
  have HL := hid hL
  clear hL
  go_enter Tryd.func14, Tryd.ntmps14
  go_wp2_with fail
  refine (i32_any _ _).mono ?_
  rintro e w1 ⟨rfl, b1⟩
  have BL1 := hid (Bl.step (Bl.refl _) b1)
  clear b1
  go_wp2_with fail
  refine (i32_any _ _).mono ?_
  rintro e w2 ⟨rfl, b2⟩
  have BL2 := hid (Bl.step BL1.out b2)
  clear b2 BL1
  go_wp2_with fail
  refine (two_to 106 1 2147483647 1 1 1 (-2147483648) 0 (by decide) (by decide) (by decide +kernel) _).mono ?_
  rintro e w3 ⟨rfl, b3⟩
  have BL3 := hid (Bl.step BL2.out b3)
  clear b3 BL2
  go_wp2_with fail
  refine (i64_any _ _).mono ?_
  rintro e w4 ⟨rfl, b4⟩
  have A_4 := hid (((Pair.new _ _ _ _ (p := w3.heap.size) (by simp))).below b4)
  have BL4 := hid (Bl.step (Bl.alloc BL3.out _) b4)
  clear b4 BL3
  obtain ⟨Ac0, Ac1, -, -⟩ := A_4.out
  have Alt : w3.heap.size < w4.heap.size := World.block_lt_of_cell? _ _ Ac0
  go_wp2_with fail
  refine (i64_any _ _).mono ?_
  rintro e w5 ⟨rfl, b5⟩
  have A_5 := hid ((A_4.out).below b5)
  have BL5 := hid (Bl.step BL4.out b5)
  clear b5 Ac0 Ac1 Alt A_4 BL4
  obtain ⟨Ac0, Ac1, -, -⟩ := A_5.out
  have Alt : w3.heap.size < w5.heap.size := World.block_lt_of_cell? _ _ Ac0
  go_wp2_with fail
  refine (two_to 127 2 (-9223372036854775808) 2 (-1) 0 0 3 (by decide) (by decide) (by decide +kernel) _).mono ?_
  rintro e w6 ⟨rfl, b6⟩
  have A_6 := hid ((A_5.out).below b6)
  have BL6 := hid (Bl.step BL5.out b6)
  clear b6 Ac0 Ac1 Alt A_5 BL5
  obtain ⟨Ac0, Ac1, -, -⟩ := A_6.out
  have Alt : w3.heap.size < w6.heap.size := World.block_lt_of_cell? _ _ Ac0
  go_wp2_with fail
  refine (i32_any _ _).mono ?_
  rintro e w7 ⟨rfl, b7⟩
  have A_7 := hid ((A_6.out.alloc _).below b7)
  have Z_7 := hid (((Pair.new _ _ _ _ (p := w6.heap.size) (by simp))).below b7)
  have BL7 := hid (Bl.step (Bl.alloc BL6.out _) b7)
  clear b7 Ac0 Ac1 Alt A_6 BL6
  obtain ⟨Ac0, Ac1, -, -⟩ := A_7.out
  have Alt : w3.heap.size < w7.heap.size := World.block_lt_of_cell? _ _ Ac0
  obtain ⟨Zc0, Zc1, -, -⟩ := Z_7.out
  have Zlt : w6.heap.size < w7.heap.size := World.block_lt_of_cell? _ _ Zc0
  go_wp2_with fail
  refine (one_to 103 1 1 1 31 true (by decide) (by decide +kernel) _ (HL.out.below BL7.out)).mono ?_
  rintro e w8 ⟨rfl, b8⟩
  have A_8 := hid ((A_7.out).below b8)
  have Z_8 := hid ((Z_7.out).below b8)
  have BL8 := hid (Bl.step BL7.out b8)
  clear b8 Ac0 Ac1 Alt Zc0 Zc1 Zlt A_7 Z_7 BL7
  obtain ⟨Ac0, Ac1, -, -⟩ := A_8.out
  have Alt : w3.heap.size < w8.heap.size := World.block_lt_of_cell? _ _ Ac0
  obtain ⟨Zc0, Zc1, -, -⟩ := Z_8.out
  have Zlt : w6.heap.size < w8.heap.size := World.block_lt_of_cell? _ _ Zc0
  go_wp2_with fail
  have hkk := kinds_to 167 2 167 1 1 true (by decide +kernel) (by decide +kernel)
  refine (hkk _).mono ?_
  rintro e w9 ⟨ao, cap, rfl, hr9, b9⟩
  have A_9 := hid ((A_8.out.alloc _).below b9)
  have B_9 := hid ((Pair.new _ _ _ _ (p := w8.heap.size) (by simp)).below b9)
  have BL9 := hid (Bl.step (Bl.alloc BL8.out _) b9)
  obtain ⟨bb, off, rfl, hcell⟩ := hr9.at (by decide)
  have hcell0 : w9.cell? ⟨bb, off, none⟩ = some (.int .i64 2) := hcell 0 (by decide)
  clear b9 hr9 hcell Ac0 Ac1 Zc0 Zc1 A_8 Z_8 BL8 hkk
  obtain ⟨Ac0, Ac1, -, -⟩ := A_9.out
  obtain ⟨Bc0, Bc1, -, -⟩ := B_9.out
  go_wp2_with fail
  refine (i32_any _ _).mono ?_
  rintro e w10 ⟨rfl, b10⟩
  have BL10 := hid (Bl.step BL9.out b10)
  clear b10 BL9
  go_wp2_with fail
  refine (may_any 1 (-2147483648) (by decide) _).mono ?_
  rintro e w11 ⟨rfl, b11⟩
  have BL11 := hid (Bl.step BL10.out b11)
  clear b11 BL10
  rw [show okv 1 (-2147483648) = true from by decide]
  go_wp2_with fail
  refine (i32_any _ _).mono ?_
  rintro e w12 ⟨rfl, b12⟩
  have BL12 := hid (Bl.step BL11.out b12)
  clear b12 BL11
  go_wp2_with fail
  refine (may_any 1 2147483648 (by decide) _).mono ?_
  rintro e w13 ⟨rfl, b13⟩
  have BL13 := hid (Bl.step BL12.out b13)
  clear b13 BL12
  rw [show okv 1 2147483648 = false from by decide]
  go_wp2_with fail
  refine (wrap_one 4294967295 _).mono ?_
  rintro e w14 ⟨rfl, b14⟩
  have BL14 := hid (Bl.step BL13.out b14)
  clear b14 BL13
  rw [show sg 1 4294967295 = -1 from by decide]
  have hfd : ∀ w : World, (Instr.field 23 (av 1 (-1)) 1).run Tryd.prog w = .ok (.int .i64 (-1)) w := fun _ => by kernel_rfl
  go_wp2_with fail
  go_ret
  exact ⟨by simp, BL14.out⟩
end Go.Proofs.YtiohgigbnncpiaaDoor
