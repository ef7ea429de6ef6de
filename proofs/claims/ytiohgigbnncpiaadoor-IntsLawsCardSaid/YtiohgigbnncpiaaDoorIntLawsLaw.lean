/- What is added is taken away again; a quotient times the divisor and the rest is what was divided; turned there and back. -/
import Derived.Test.YtiohgigbnncpiaaDoorIntLawsMath
namespace Go.Proofs.YtiohgigbnncpiaaDoor
open Go.RowKit

set_option maxRecDepth 20000 in
set_option maxHeartbeats 4000000 in
theorem intsLaws_walk1 (a b : Int) (ha : In64 a) (hb : In64 b) (w : World) (hL : Laid w) :
    Calls Tryd.prog 6 #[.int .i64 a, .int .i64 b, .bool false] w fun e w' => e = .returned (.bool true) ∧ Below w.heap.size w w' := by
  obtain ⟨x, hx⟩ : ∃ x, sg 1 a = x := ⟨_, rfl⟩
  obtain ⟨y, hy⟩ : ∃ x, sg 1 b = x := ⟨_, rfl⟩
  obtain ⟨ox, rx, oy, ry⟩ : okv 1 x = true ∧ In64 x ∧ okv 1 y = true ∧ In64 y := by rw [← hx, ← hy]; exact ⟨okv_sg _ _ (by decide), in64_sg _ _, okv_sg _ _ (by decide), in64_sg _ _⟩
  have ix := sg_id 1 x ox rx
  obtain ⟨S, hS⟩ : ∃ z, sg 1 (wrap64 (x + y)) = z := ⟨_, rfl⟩
  obtain ⟨oS, rS⟩ : okv 1 S = true ∧ In64 S := by rw [← hS]; exact ⟨okv_sg _ _ (by decide), in64_sg _ _⟩
  have hB : sg 1 (wrap64 (S - y)) = x := sub_back 1 x y S ix hS
  obtain ⟨L, hL3⟩ : ∃ z, sg 1 (calcS 119 x y (un 1 x) 32 (un 1 y % 32)) = z := ⟨_, rfl⟩
  obtain ⟨oL, rL⟩ : okv 1 L = true ∧ In64 L := by rw [← hL3]; exact ⟨okv_sg _ _ (by decide), in64_sg _ _⟩
  have hR : sg 1 (calcS 120 L y (un 1 L) 32 (un 1 y % 32)) = x := rot_back 1 x y L 32 (by decide) ix hL3
  have H1 : Hid (twoS 106 1 x 1 y = (1, S, 0)) := hid (by rw [twoS_mid (c := 1) (b := 106) (by decide) ox oy, mid_calc _ _ _ _ (by decide) (by decide), calc_add, hS])
  have H2 : Hid (twoS 107 1 S 1 y = (1, x, 0)) := hid (by rw [twoS_mid (c := 1) (b := 107) (by decide) oS oy, mid_calc _ _ _ _ (by decide) (by decide), calc_sub, hB])
  have H3 : Hid (twoS 119 1 x 1 y = (1, L, 0)) := hid (by rw [twoS_mid (c := 1) (b := 119) (by decide) ox oy, mid_calc _ _ _ _ (by decide) (by decide)]; exact congrArg (fun z => (1, z, (0 : Int))) hL3)
  have H4 : Hid (twoS 120 1 L 1 y = (1, x, 0)) := hid (by rw [twoS_mid (c := 1) (b := 120) (by decide) oL oy, mid_calc _ _ _ _ (by decide) (by decide)]; exact congrArg (fun z => (1, z, (0 : Int))) hR)
  have Hx := hid hx
  have Hy := hid hy
  have Rx := hid rx
  have Ry := hid ry
  have Rs := hid rS
  have Rl := hid rL
  have Ha := hid ha
  have Hb := hid hb
  have Ix := hid ix
  have Ox := hid ox
  have Oy := hid oy
  clear hx hy hS hB hL3 hR oS rS oL rL ha hb ix ox oy rx ry
  have HL := hid hL
  clear hL
  go_enter Tryd.func6, Tryd.ntmps6
  go_wp2_with fail
  refine (begun_any _ HL.out).mono ?_
  rintro e w1 ⟨rfl, b1⟩
  have BL1 := hid (Bl.step (Bl.refl _) b1)
  clear b1
  go_wp2_with fail
  refine (refWrap_to 1 a x (by decide) Ha.out Hx.out _).mono ?_
  rintro e w2 ⟨rfl, b2⟩
  have BL2 := hid (Bl.step BL1.out b2)
  clear b2 BL1
  go_wp2_with fail
  refine (refWrap_to 1 b y (by decide) Hb.out Hy.out _).mono ?_
  rintro e w3 ⟨rfl, b3⟩
  have BL3 := hid (Bl.step BL2.out b3)
  clear b3 BL2
  go_wp2_with fail
  refine (two_to _ _ _ _ _ _ _ _ Rx.out Ry.out H1.out _).mono ?_
  rintro e w4 ⟨rfl, b4⟩
  have X_4 := hid (((Pair.new _ _ _ _ (p := w3.heap.size) (by simp)).alloc _).below b4)
  have Y_4 := hid (((Pair.new _ _ _ _ (p := w3.heap.size + 1) (by simp))).below b4)
  have BL4 := hid (Bl.step (Bl.alloc (Bl.alloc BL3.out _) _) b4)
  clear b4 BL3
  obtain ⟨Xc0, Xc1, -, -⟩ := X_4.out
  have Xlt : w3.heap.size < w4.heap.size := World.block_lt_of_cell? _ _ Xc0
  obtain ⟨Yc0, Yc1, -, -⟩ := Y_4.out
  have Ylt : w3.heap.size + 1 < w4.heap.size := World.block_lt_of_cell? _ _ Yc0
  go_wp2_with fail
  refine (two_to _ _ _ _ _ _ _ _ Rs.out Ry.out H2.out _).mono ?_
  rintro e w5 ⟨rfl, b5⟩
  have X_5 := hid ((X_4.out.alloc _).below b5)
  have Y_5 := hid ((Y_4.out.alloc _).below b5)
  have S_5 := hid (((Pair.new _ _ _ _ (p := w4.heap.size) (by simp))).below b5)
  have BL5 := hid (Bl.step (Bl.alloc BL4.out _) b5)
  clear b5 Xc0 Xc1 Xlt Yc0 Yc1 Ylt X_4 Y_4 BL4
  obtain ⟨Xc0, Xc1, -, -⟩ := X_5.out
  have Xlt : w3.heap.size < w5.heap.size := World.block_lt_of_cell? _ _ Xc0
  obtain ⟨Yc0, Yc1, -, -⟩ := Y_5.out
  have Ylt : w3.heap.size + 1 < w5.heap.size := World.block_lt_of_cell? _ _ Yc0
  obtain ⟨Sc0, Sc1, -, -⟩ := S_5.out
  have Slt : w4.heap.size < w5.heap.size := World.block_lt_of_cell? _ _ Sc0
  go_wp2_with fail
  refine (two_to _ _ _ _ _ _ _ _ Rx.out Ry.out H3.out _).mono ?_
  rintro e w6 ⟨rfl, b6⟩
  have X_6 := hid ((X_5.out.alloc _).below b6)
  have Y_6 := hid ((Y_5.out.alloc _).below b6)
  have S_6 := hid ((S_5.out.alloc _).below b6)
  have B_6 := hid (((Pair.new _ _ _ _ (p := w5.heap.size) (by simp))).below b6)
  have BL6 := hid (Bl.step (Bl.alloc BL5.out _) b6)
  clear b6 Xc0 Xc1 Xlt Yc0 Yc1 Ylt Sc0 Sc1 Slt X_5 Y_5 S_5 BL5
  obtain ⟨Xc0, Xc1, -, -⟩ := X_6.out
  have Xlt : w3.heap.size < w6.heap.size := World.block_lt_of_cell? _ _ Xc0
  obtain ⟨Yc0, Yc1, -, -⟩ := Y_6.out
  have Ylt : w3.heap.size + 1 < w6.heap.size := World.block_lt_of_cell? _ _ Yc0
  obtain ⟨Sc0, Sc1, -, -⟩ := S_6.out
  have Slt : w4.heap.size < w6.heap.size := World.block_lt_of_cell? _ _ Sc0
  obtain ⟨Bc0, Bc1, -, -⟩ := B_6.out
  have Blt : w5.heap.size < w6.heap.size := World.block_lt_of_cell? _ _ Bc0
  go_wp2_with fail
  refine (two_to _ _ _ _ _ _ _ _ Rl.out Ry.out H4.out _).mono ?_
  rintro e w7 ⟨rfl, b7⟩
  have X_7 := hid ((X_6.out.alloc _).below b7)
  have Y_7 := hid ((Y_6.out.alloc _).below b7)
  have S_7 := hid ((S_6.out.alloc _).below b7)
  have B_7 := hid ((B_6.out.alloc _).below b7)
  have L_7 := hid (((Pair.new _ _ _ _ (p := w6.heap.size) (by simp))).below b7)
  have BL7 := hid (Bl.step (Bl.alloc BL6.out _) b7)
  clear b7 Xc0 Xc1 Xlt Yc0 Yc1 Ylt Sc0 Sc1 Slt Bc0 Bc1 Blt X_6 Y_6 S_6 B_6 BL6
  obtain ⟨Xc0, Xc1, -, -⟩ := X_7.out
  have Xlt : w3.heap.size < w7.heap.size := World.block_lt_of_cell? _ _ Xc0
  obtain ⟨Yc0, Yc1, -, -⟩ := Y_7.out
  have Ylt : w3.heap.size + 1 < w7.heap.size := World.block_lt_of_cell? _ _ Yc0
  obtain ⟨Sc0, Sc1, -, -⟩ := S_7.out
  have Slt : w4.heap.size < w7.heap.size := World.block_lt_of_cell? _ _ Sc0
  obtain ⟨Bc0, Bc1, -, -⟩ := B_7.out
  have Blt : w5.heap.size < w7.heap.size := World.block_lt_of_cell? _ _ Bc0
  obtain ⟨Lc0, Lc1, -, -⟩ := L_7.out
  have Llt : w6.heap.size < w7.heap.size := World.block_lt_of_cell? _ _ Lc0
  go_wp2_with fail
  refine (eq_same _ _ _).mono ?_
  rintro e w8 ⟨rfl, b8⟩
  have X_8 := hid ((X_7.out.alloc _).below b8)
  have Y_8 := hid ((Y_7.out.alloc _).below b8)
  have S_8 := hid ((S_7.out.alloc _).below b8)
  have B_8 := hid ((B_7.out.alloc _).below b8)
  have L_8 := hid ((L_7.out.alloc _).below b8)
  have R_8 := hid (((Pair.new _ _ _ _ (p := w7.heap.size) (by simp))).below b8)
  have BL8 := hid (Bl.step (Bl.alloc BL7.out _) b8)
  clear b8 Xc0 Xc1 Xlt Yc0 Yc1 Ylt Sc0 Sc1 Slt Bc0 Bc1 Blt Lc0 Lc1 Llt X_7 Y_7 S_7 B_7 L_7 BL7
  obtain ⟨Xc0, Xc1, -, -⟩ := X_8.out
  have Xlt : w3.heap.size < w8.heap.size := World.block_lt_of_cell? _ _ Xc0
  obtain ⟨Yc0, Yc1, -, -⟩ := Y_8.out
  have Ylt : w3.heap.size + 1 < w8.heap.size := World.block_lt_of_cell? _ _ Yc0
  obtain ⟨Sc0, Sc1, -, -⟩ := S_8.out
  have Slt : w4.heap.size < w8.heap.size := World.block_lt_of_cell? _ _ Sc0
  obtain ⟨Bc0, Bc1, -, -⟩ := B_8.out
  have Blt : w5.heap.size < w8.heap.size := World.block_lt_of_cell? _ _ Bc0
  obtain ⟨Lc0, Lc1, -, -⟩ := L_8.out
  have Llt : w6.heap.size < w8.heap.size := World.block_lt_of_cell? _ _ Lc0
  obtain ⟨Rc0, Rc1, -, -⟩ := R_8.out
  have Rlt : w7.heap.size < w8.heap.size := World.block_lt_of_cell? _ _ Rc0
  go_wp2_with fail
  refine (eq_same _ _ _).mono ?_
  rintro e w9 ⟨rfl, b9⟩
  have X_9 := hid ((X_8.out).below b9)
  have Y_9 := hid ((Y_8.out).below b9)
  have S_9 := hid ((S_8.out).below b9)
  have B_9 := hid ((B_8.out).below b9)
  have L_9 := hid ((L_8.out).below b9)
  have R_9 := hid ((R_8.out).below b9)
  have BL9 := hid (Bl.step BL8.out b9)
  clear b9 Xc0 Xc1 Xlt Yc0 Yc1 Ylt Sc0 Sc1 Slt Bc0 Bc1 Blt Lc0 Lc1 Llt Rc0 Rc1 Rlt X_8 Y_8 S_8 B_8 L_8 R_8 BL8
  obtain ⟨Xc0, Xc1, -, -⟩ := X_9.out
  have Xlt : w3.heap.size < w9.heap.size := World.block_lt_of_cell? _ _ Xc0
  obtain ⟨Yc0, Yc1, -, -⟩ := Y_9.out
  have Ylt : w3.heap.size + 1 < w9.heap.size := World.block_lt_of_cell? _ _ Yc0
  obtain ⟨Sc0, Sc1, -, -⟩ := S_9.out
  have Slt : w4.heap.size < w9.heap.size := World.block_lt_of_cell? _ _ Sc0
  obtain ⟨Bc0, Bc1, -, -⟩ := B_9.out
  have Blt : w5.heap.size < w9.heap.size := World.block_lt_of_cell? _ _ Bc0
  obtain ⟨Lc0, Lc1, -, -⟩ := L_9.out
  have Llt : w6.heap.size < w9.heap.size := World.block_lt_of_cell? _ _ Lc0
  obtain ⟨Rc0, Rc1, -, -⟩ := R_9.out
  have Rlt : w7.heap.size < w9.heap.size := World.block_lt_of_cell? _ _ Rc0
  go_wp2_with fail
  obtain ⟨wo, hwo⟩ : ∃ wo : World, wo = w9 := ⟨_, rfl⟩
  have X_w := hid X_9.out
  have Y_w := hid Y_9.out
  have BLw := hid BL9.out
  rw [← hwo] at X_w Y_w BLw ⊢
  clear hwo Xc0 Xc1 Xlt Yc0 Yc1 Ylt Sc0 Sc1 Slt Bc0 Bc1 Blt Lc0 Lc1 Llt Rc0 Rc1 Rlt X_9 Y_9 S_9 B_9 L_9 R_9 BL9 H1 H2 H3 H4
  go_loopw [20] (fun v wr => ∃ j : Nat, j ≤ 2 ∧ v = .int .i64 j ∧ Hid (Pair wr w3.heap.size (.int .i64 1) (.int .i64 x)) ∧ Hid (Pair wr (w3.heap.size + 1) (.int .i64 1) (.int .i64 y)) ∧ Hid (Below w.heap.size w wr)) (fun v _ => 2 - (intOf v).toNat)
  case atStart => exact ⟨0, by decide, rfl, X_w, Y_w, BLw⟩
  case round =>
    obtain ⟨j, hj, rfl, X_30, Y_30, BL30⟩ := hrel
    clear X_w Y_w BLw
    obtain ⟨Xc0, Xc1, -, -⟩ := X_30.out
    have Xlt : w3.heap.size < wr.heap.size := World.block_lt_of_cell? _ _ Xc0
    obtain ⟨Yc0, Yc1, -, -⟩ := Y_30.out
    have Ylt : w3.heap.size + 1 < wr.heap.size := World.block_lt_of_cell? _ _ Yc0
    rcases (show j = 0 ∨ j = 1 ∨ j = 2 by omega) with rfl | rfl | rfl
    · have ox := Ox.out
      have oy := Oy.out
      by_cases h0 : y = 0
      · have Z1 : Hid (twoS 109 1 x 1 y = (0, 0, 2)) := hid (by rw [twoS_mid (c := 1) (b := 109) (by decide) ox oy, mid_div _ _ _ _ (by decide)]; unfold divS; rw [if_pos h0])
        have Z2 : Hid (twoS 111 1 x 1 y = (0, 0, 2)) := hid (by rw [twoS_mid (c := 1) (b := 111) (by decide) ox oy, mid_div _ _ _ _ (by decide)]; unfold divS; rw [if_pos h0])
        have hy0 : (y == 0) = true := by simp [h0]
        clear h0 ox oy
        go_wp2_with fail
        refine (two_to _ _ _ _ _ _ _ _ Rx.out Ry.out Z1.out _).mono ?_
        rintro e w31 ⟨rfl, b31⟩
        have X_31 := hid ((X_30.out).below b31)
        have Y_31 := hid ((Y_30.out).below b31)
        have BL31 := hid (Bl.step BL30.out b31)
        clear b31 Xc0 Xc1 Xlt Yc0 Yc1 Ylt X_30 Y_30 BL30
        obtain ⟨Xc0, Xc1, -, -⟩ := X_31.out
        have Xlt : w3.heap.size < w31.heap.size := World.block_lt_of_cell? _ _ Xc0
        obtain ⟨Yc0, Yc1, -, -⟩ := Y_31.out
        have Ylt : w3.heap.size + 1 < w31.heap.size := World.block_lt_of_cell? _ _ Yc0
        go_wp2_with fail
        refine (two_to _ _ _ _ _ _ _ _ Rx.out Ry.out Z2.out _).mono ?_
        rintro e w32 ⟨rfl, b32⟩
        have X_32 := hid ((X_31.out.alloc _).below b32)
        have Y_32 := hid ((Y_31.out.alloc _).below b32)
        have Q_32 := hid (((Pair.new _ _ _ _ (p := w31.heap.size) (by simp))).below b32)
        have BL32 := hid (Bl.step (Bl.alloc BL31.out _) b32)
        clear b32 Xc0 Xc1 Xlt Yc0 Yc1 Ylt X_31 Y_31 BL31
        obtain ⟨Xc0, Xc1, -, -⟩ := X_32.out
        have Xlt : w3.heap.size < w32.heap.size := World.block_lt_of_cell? _ _ Xc0
        obtain ⟨Yc0, Yc1, -, -⟩ := Y_32.out
        have Ylt : w3.heap.size + 1 < w32.heap.size := World.block_lt_of_cell? _ _ Yc0
        obtain ⟨Qc0, Qc1, -, -⟩ := Q_32.out
        have Qlt : w31.heap.size < w32.heap.size := World.block_lt_of_cell? _ _ Qc0
        go_wp2_with fail
        go_roundw
        case rel => exact ⟨1, by decide, rfl, hid (X_32.out.alloc _), hid (Y_32.out.alloc _), hid (Bl.alloc BL32.out _)⟩
        case measure => simp [intOf]
      · have hy0 : (y == 0) = false := by simp [h0]
        have O2 : Hid (twoS 111 1 x 1 y = (1, sg 1 (x.tmod y), 0)) := hid (by rw [twoS_mid (c := 1) (b := 111) (by decide) ox oy, mid_div _ _ _ _ (by decide)]; unfold divS; rw [if_neg h0, if_neg (by decide), if_neg (by decide), if_pos rfl])
        by_cases ho : x = (if (1 : Int) = 1 then -2147483648 else -9223372036854775808) ∧ y = -1
        · have O1 : Hid (twoS 109 1 x 1 y = (0, 0, 3)) := hid (by rw [twoS_mid (c := 1) (b := 109) (by decide) ox oy, mid_div _ _ _ _ (by decide)]; unfold divS; rw [if_neg h0, if_pos rfl, if_pos ho])
          clear h0 ox oy ho
          go_wp2_with fail
          refine (two_to _ _ _ _ _ _ _ _ Rx.out Ry.out O1.out _).mono ?_
          rintro e w31 ⟨rfl, b31⟩
          have X_31 := hid ((X_30.out).below b31)
          have Y_31 := hid ((Y_30.out).below b31)
          have BL31 := hid (Bl.step BL30.out b31)
          clear b31 Xc0 Xc1 Xlt Yc0 Yc1 Ylt X_30 Y_30 BL30
          obtain ⟨Xc0, Xc1, -, -⟩ := X_31.out
          have Xlt : w3.heap.size < w31.heap.size := World.block_lt_of_cell? _ _ Xc0
          obtain ⟨Yc0, Yc1, -, -⟩ := Y_31.out
          have Ylt : w3.heap.size + 1 < w31.heap.size := World.block_lt_of_cell? _ _ Yc0
          go_wp2_with fail
          refine (two_to _ _ _ _ _ _ _ _ Rx.out Ry.out O2.out _).mono ?_
          rintro e w32 ⟨rfl, b32⟩
          have X_32 := hid ((X_31.out.alloc _).below b32)
          have Y_32 := hid ((Y_31.out.alloc _).below b32)
          have Q_32 := hid (((Pair.new _ _ _ _ (p := w31.heap.size) (by simp))).below b32)
          have BL32 := hid (Bl.step (Bl.alloc BL31.out _) b32)
          clear b32 Xc0 Xc1 Xlt Yc0 Yc1 Ylt X_31 Y_31 BL31
          obtain ⟨Xc0, Xc1, -, -⟩ := X_32.out
          have Xlt : w3.heap.size < w32.heap.size := World.block_lt_of_cell? _ _ Xc0
          obtain ⟨Yc0, Yc1, -, -⟩ := Y_32.out
          have Ylt : w3.heap.size + 1 < w32.heap.size := World.block_lt_of_cell? _ _ Yc0
          obtain ⟨Qc0, Qc1, -, -⟩ := Q_32.out
          have Qlt : w31.heap.size < w32.heap.size := World.block_lt_of_cell? _ _ Qc0
          go_wp2_with fail
          go_roundw
          case rel => exact ⟨1, by decide, rfl, hid (X_32.out.alloc _), hid (Y_32.out.alloc _), hid (Bl.alloc BL32.out _)⟩
          case measure => simp [intOf]
        · obtain ⟨Q, hQ⟩ : ∃ z, sg 1 (wrap64 (x.tdiv y)) = z := ⟨_, rfl⟩
          obtain ⟨M, hM⟩ : ∃ z, sg 1 (x.tmod y) = z := ⟨_, rfl⟩
          obtain ⟨P, hP⟩ : ∃ z, sg 1 (wrap64 (Q * y)) = z := ⟨_, rfl⟩
          have hN : sg 1 (wrap64 (P + M)) = x := quot_back 1 x y (x.tdiv y) (x.tmod y) Q M P (by rw [Int.mul_comm, Int.mul_tdiv_add_tmod]; exact Ix.out) (by rw [← hQ, sg_wrap64]) hM hP
          obtain ⟨oQ, rQ⟩ : okv 1 Q = true ∧ In64 Q := by rw [← hQ]; exact ⟨okv_sg _ _ (by decide), in64_sg _ _⟩
          obtain ⟨oM, rM⟩ : okv 1 M = true ∧ In64 M := by rw [← hM]; exact ⟨okv_sg _ _ (by decide), in64_sg _ _⟩
          obtain ⟨oP, rP⟩ : okv 1 P = true ∧ In64 P := by rw [← hP]; exact ⟨okv_sg _ _ (by decide), in64_sg _ _⟩
          have A1 : Hid (twoS 109 1 x 1 y = (1, Q, 0)) := hid (by rw [twoS_mid (c := 1) (b := 109) (by decide) ox oy, mid_div _ _ _ _ (by decide)]; unfold divS; rw [if_neg h0, if_pos rfl, if_neg ho, hQ])
          have A2 : Hid (twoS 111 1 x 1 y = (1, M, 0)) := hid (by rw [O2.out, hM])
          have A3 : Hid (twoS 108 1 Q 1 y = (1, P, 0)) := hid (by rw [twoS_mid (c := 1) (b := 108) (by decide) oQ oy, mid_calc _ _ _ _ (by decide) (by decide), calc_mul, hP])
          have A4 : Hid (twoS 106 1 P 1 M = (1, x, 0)) := hid (by rw [twoS_mid (c := 1) (b := 106) (by decide) oP oM, mid_calc _ _ _ _ (by decide) (by decide), calc_add, hN])
          have RAq := hid rQ
          have RAp := hid rP
          have RAm := hid rM
          clear h0 ox oy ho hQ hM hP hN oQ oM oP rQ rM rP O2
          go_wp2_with fail
          refine (two_to _ _ _ _ _ _ _ _ Rx.out Ry.out A1.out _).mono ?_
          rintro e w31 ⟨rfl, b31⟩
          have X_31 := hid ((X_30.out).below b31)
          have Y_31 := hid ((Y_30.out).below b31)
          have BL31 := hid (Bl.step BL30.out b31)
          clear b31 Xc0 Xc1 Xlt Yc0 Yc1 Ylt X_30 Y_30 BL30
          obtain ⟨Xc0, Xc1, -, -⟩ := X_31.out
          have Xlt : w3.heap.size < w31.heap.size := World.block_lt_of_cell? _ _ Xc0
          obtain ⟨Yc0, Yc1, -, -⟩ := Y_31.out
          have Ylt : w3.heap.size + 1 < w31.heap.size := World.block_lt_of_cell? _ _ Yc0
          go_wp2_with fail
          refine (two_to _ _ _ _ _ _ _ _ Rx.out Ry.out A2.out _).mono ?_
          rintro e w32 ⟨rfl, b32⟩
          have X_32 := hid ((X_31.out.alloc _).below b32)
          have Y_32 := hid ((Y_31.out.alloc _).below b32)
          have Q_32 := hid (((Pair.new _ _ _ _ (p := w31.heap.size) (by simp))).below b32)
          have BL32 := hid (Bl.step (Bl.alloc BL31.out _) b32)
          clear b32 Xc0 Xc1 Xlt Yc0 Yc1 Ylt X_31 Y_31 BL31
          obtain ⟨Xc0, Xc1, -, -⟩ := X_32.out
          have Xlt : w3.heap.size < w32.heap.size := World.block_lt_of_cell? _ _ Xc0
          obtain ⟨Yc0, Yc1, -, -⟩ := Y_32.out
          have Ylt : w3.heap.size + 1 < w32.heap.size := World.block_lt_of_cell? _ _ Yc0
          obtain ⟨Qc0, Qc1, -, -⟩ := Q_32.out
          have Qlt : w31.heap.size < w32.heap.size := World.block_lt_of_cell? _ _ Qc0
          go_wp2_with fail
          refine (two_to _ _ _ _ _ _ _ _ RAq.out Ry.out A3.out _).mono ?_
          rintro e w33 ⟨rfl, b33⟩
          have X_33 := hid ((X_32.out.alloc _).below b33)
          have Y_33 := hid ((Y_32.out.alloc _).below b33)
          have Q_33 := hid ((Q_32.out.alloc _).below b33)
          have M_33 := hid (((Pair.new _ _ _ _ (p := w32.heap.size) (by simp))).below b33)
          have BL33 := hid (Bl.step (Bl.alloc BL32.out _) b33)
          clear b33 Xc0 Xc1 Xlt Yc0 Yc1 Ylt Qc0 Qc1 Qlt X_32 Y_32 Q_32 BL32
          obtain ⟨Xc0, Xc1, -, -⟩ := X_33.out
          have Xlt : w3.heap.size < w33.heap.size := World.block_lt_of_cell? _ _ Xc0
          obtain ⟨Yc0, Yc1, -, -⟩ := Y_33.out
          have Ylt : w3.heap.size + 1 < w33.heap.size := World.block_lt_of_cell? _ _ Yc0
          obtain ⟨Qc0, Qc1, -, -⟩ := Q_33.out
          have Qlt : w31.heap.size < w33.heap.size := World.block_lt_of_cell? _ _ Qc0
          obtain ⟨Mc0, Mc1, -, -⟩ := M_33.out
          have Mlt : w32.heap.size < w33.heap.size := World.block_lt_of_cell? _ _ Mc0
          go_wp2_with fail
          refine (two_to _ _ _ _ _ _ _ _ RAp.out RAm.out A4.out _).mono ?_
          rintro e w34 ⟨rfl, b34⟩
          have X_34 := hid ((X_33.out.alloc _).below b34)
          have Y_34 := hid ((Y_33.out.alloc _).below b34)
          have Q_34 := hid ((Q_33.out.alloc _).below b34)
          have M_34 := hid ((M_33.out.alloc _).below b34)
          have P_34 := hid (((Pair.new _ _ _ _ (p := w33.heap.size) (by simp))).below b34)
          have BL34 := hid (Bl.step (Bl.alloc BL33.out _) b34)
          clear b34 Xc0 Xc1 Xlt Yc0 Yc1 Ylt Qc0 Qc1 Qlt Mc0 Mc1 Mlt X_33 Y_33 Q_33 M_33 BL33
          obtain ⟨Xc0, Xc1, -, -⟩ := X_34.out
          have Xlt : w3.heap.size < w34.heap.size := World.block_lt_of_cell? _ _ Xc0
          obtain ⟨Yc0, Yc1, -, -⟩ := Y_34.out
          have Ylt : w3.heap.size + 1 < w34.heap.size := World.block_lt_of_cell? _ _ Yc0
          obtain ⟨Qc0, Qc1, -, -⟩ := Q_34.out
          have Qlt : w31.heap.size < w34.heap.size := World.block_lt_of_cell? _ _ Qc0
          obtain ⟨Mc0, Mc1, -, -⟩ := M_34.out
          have Mlt : w32.heap.size < w34.heap.size := World.block_lt_of_cell? _ _ Mc0
          obtain ⟨Pc0, Pc1, -, -⟩ := P_34.out
          have Plt : w33.heap.size < w34.heap.size := World.block_lt_of_cell? _ _ Pc0
          go_wp2_with fail
          refine (eq_same _ _ _).mono ?_
          rintro e w35 ⟨rfl, b35⟩
          have X_35 := hid ((X_34.out.alloc _).below b35)
          have Y_35 := hid ((Y_34.out.alloc _).below b35)
          have Q_35 := hid ((Q_34.out.alloc _).below b35)
          have M_35 := hid ((M_34.out.alloc _).below b35)
          have P_35 := hid ((P_34.out.alloc _).below b35)
          have N_35 := hid (((Pair.new _ _ _ _ (p := w34.heap.size) (by simp))).below b35)
          have BL35 := hid (Bl.step (Bl.alloc BL34.out _) b35)
          clear b35 Xc0 Xc1 Xlt Yc0 Yc1 Ylt Qc0 Qc1 Qlt Mc0 Mc1 Mlt Pc0 Pc1 Plt X_34 Y_34 Q_34 M_34 P_34 BL34
          obtain ⟨Xc0, Xc1, -, -⟩ := X_35.out
          have Xlt : w3.heap.size < w35.heap.size := World.block_lt_of_cell? _ _ Xc0
          obtain ⟨Yc0, Yc1, -, -⟩ := Y_35.out
          have Ylt : w3.heap.size + 1 < w35.heap.size := World.block_lt_of_cell? _ _ Yc0
          obtain ⟨Qc0, Qc1, -, -⟩ := Q_35.out
          have Qlt : w31.heap.size < w35.heap.size := World.block_lt_of_cell? _ _ Qc0
          obtain ⟨Mc0, Mc1, -, -⟩ := M_35.out
          have Mlt : w32.heap.size < w35.heap.size := World.block_lt_of_cell? _ _ Mc0
          obtain ⟨Pc0, Pc1, -, -⟩ := P_35.out
          have Plt : w33.heap.size < w35.heap.size := World.block_lt_of_cell? _ _ Pc0
          obtain ⟨Nc0, Nc1, -, -⟩ := N_35.out
          have Nlt : w34.heap.size < w35.heap.size := World.block_lt_of_cell? _ _ Nc0
          go_wp2_with fail
          go_roundw
          case rel => exact ⟨1, by decide, rfl, hid X_35.out, hid Y_35.out, hid BL35.out⟩
          case measure => simp [intOf]
    · have ox := Ox.out
      have oy := Oy.out
      by_cases h0 : y = 0
      · have Z1 : Hid (twoS 110 1 x 1 y = (0, 0, 2)) := hid (by rw [twoS_mid (c := 1) (b := 110) (by decide) ox oy, mid_div _ _ _ _ (by decide)]; unfold divS; rw [if_pos h0])
        have Z2 : Hid (twoS 112 1 x 1 y = (0, 0, 2)) := hid (by rw [twoS_mid (c := 1) (b := 112) (by decide) ox oy, mid_div _ _ _ _ (by decide)]; unfold divS; rw [if_pos h0])
        have hy0 : (y == 0) = true := by simp [h0]
        clear h0 ox oy
        go_wp2_with fail
        refine (two_to _ _ _ _ _ _ _ _ Rx.out Ry.out Z1.out _).mono ?_
        rintro e w31 ⟨rfl, b31⟩
        have X_31 := hid ((X_30.out).below b31)
        have Y_31 := hid ((Y_30.out).below b31)
        have BL31 := hid (Bl.step BL30.out b31)
        clear b31 Xc0 Xc1 Xlt Yc0 Yc1 Ylt X_30 Y_30 BL30
        obtain ⟨Xc0, Xc1, -, -⟩ := X_31.out
        have Xlt : w3.heap.size < w31.heap.size := World.block_lt_of_cell? _ _ Xc0
        obtain ⟨Yc0, Yc1, -, -⟩ := Y_31.out
        have Ylt : w3.heap.size + 1 < w31.heap.size := World.block_lt_of_cell? _ _ Yc0
        go_wp2_with fail
        refine (two_to _ _ _ _ _ _ _ _ Rx.out Ry.out Z2.out _).mono ?_
        rintro e w32 ⟨rfl, b32⟩
        have X_32 := hid ((X_31.out.alloc _).below b32)
        have Y_32 := hid ((Y_31.out.alloc _).below b32)
        have Q_32 := hid (((Pair.new _ _ _ _ (p := w31.heap.size) (by simp))).below b32)
        have BL32 := hid (Bl.step (Bl.alloc BL31.out _) b32)
        clear b32 Xc0 Xc1 Xlt Yc0 Yc1 Ylt X_31 Y_31 BL31
        obtain ⟨Xc0, Xc1, -, -⟩ := X_32.out
        have Xlt : w3.heap.size < w32.heap.size := World.block_lt_of_cell? _ _ Xc0
        obtain ⟨Yc0, Yc1, -, -⟩ := Y_32.out
        have Ylt : w3.heap.size + 1 < w32.heap.size := World.block_lt_of_cell? _ _ Yc0
        obtain ⟨Qc0, Qc1, -, -⟩ := Q_32.out
        have Qlt : w31.heap.size < w32.heap.size := World.block_lt_of_cell? _ _ Qc0
        go_wp2_with fail
        go_roundw
        case rel => exact ⟨2, by decide, rfl, hid (X_32.out.alloc _), hid (Y_32.out.alloc _), hid (Bl.alloc BL32.out _)⟩
        case measure => simp [intOf]
      · have hy0 : (y == 0) = false := by simp [h0]
        obtain ⟨Q, hQ⟩ : ∃ z, sg 1 (wrap64 (un 1 x / un 1 y)) = z := ⟨_, rfl⟩
        obtain ⟨M, hM⟩ : ∃ z, sg 1 (wrap64 (un 1 x % un 1 y)) = z := ⟨_, rfl⟩
        obtain ⟨P, hP⟩ : ∃ z, sg 1 (wrap64 (Q * y)) = z := ⟨_, rfl⟩
        have hN : sg 1 (wrap64 (P + M)) = x := quot_back 1 x y (un 1 x / un 1 y) (un 1 x % un 1 y) Q M P (by rw [uquot]; exact Ix.out) (by rw [← hQ, sg_wrap64]) (by rw [← hM, sg_wrap64]) hP
        obtain ⟨oQ, rQ⟩ : okv 1 Q = true ∧ In64 Q := by rw [← hQ]; exact ⟨okv_sg _ _ (by decide), in64_sg _ _⟩
        obtain ⟨oM, rM⟩ : okv 1 M = true ∧ In64 M := by rw [← hM]; exact ⟨okv_sg _ _ (by decide), in64_sg _ _⟩
        obtain ⟨oP, rP⟩ : okv 1 P = true ∧ In64 P := by rw [← hP]; exact ⟨okv_sg _ _ (by decide), in64_sg _ _⟩
        have A1 : Hid (twoS 110 1 x 1 y = (1, Q, 0)) := hid (by rw [twoS_mid (c := 1) (b := 110) (by decide) ox oy, mid_div _ _ _ _ (by decide)]; unfold divS; rw [if_neg h0, if_neg (by decide), if_pos rfl, hQ])
        have A2 : Hid (twoS 112 1 x 1 y = (1, M, 0)) := hid (by rw [twoS_mid (c := 1) (b := 112) (by decide) ox oy, mid_div _ _ _ _ (by decide)]; unfold divS; rw [if_neg h0, if_neg (by decide), if_neg (by decide), if_neg (by decide), hM])
        have A3 : Hid (twoS 108 1 Q 1 y = (1, P, 0)) := hid (by rw [twoS_mid (c := 1) (b := 108) (by decide) oQ oy, mid_calc _ _ _ _ (by decide) (by decide), calc_mul, hP])
        have A4 : Hid (twoS 106 1 P 1 M = (1, x, 0)) := hid (by rw [twoS_mid (c := 1) (b := 106) (by decide) oP oM, mid_calc _ _ _ _ (by decide) (by decide), calc_add, hN])
        have RAq := hid rQ
        have RAp := hid rP
        have RAm := hid rM
        clear h0 ox oy hQ hM hP hN oQ oM oP rQ rM rP
        go_wp2_with fail
        refine (two_to _ _ _ _ _ _ _ _ Rx.out Ry.out A1.out _).mono ?_
        rintro e w31 ⟨rfl, b31⟩
        have X_31 := hid ((X_30.out).below b31)
        have Y_31 := hid ((Y_30.out).below b31)
        have BL31 := hid (Bl.step BL30.out b31)
        clear b31 Xc0 Xc1 Xlt Yc0 Yc1 Ylt X_30 Y_30 BL30
        obtain ⟨Xc0, Xc1, -, -⟩ := X_31.out
        have Xlt : w3.heap.size < w31.heap.size := World.block_lt_of_cell? _ _ Xc0
        obtain ⟨Yc0, Yc1, -, -⟩ := Y_31.out
        have Ylt : w3.heap.size + 1 < w31.heap.size := World.block_lt_of_cell? _ _ Yc0
        go_wp2_with fail
        refine (two_to _ _ _ _ _ _ _ _ Rx.out Ry.out A2.out _).mono ?_
        rintro e w32 ⟨rfl, b32⟩
        have X_32 := hid ((X_31.out.alloc _).below b32)
        have Y_32 := hid ((Y_31.out.alloc _).below b32)
        have Q_32 := hid (((Pair.new _ _ _ _ (p := w31.heap.size) (by simp))).below b32)
        have BL32 := hid (Bl.step (Bl.alloc BL31.out _) b32)
        clear b32 Xc0 Xc1 Xlt Yc0 Yc1 Ylt X_31 Y_31 BL31
        obtain ⟨Xc0, Xc1, -, -⟩ := X_32.out
        have Xlt : w3.heap.size < w32.heap.size := World.block_lt_of_cell? _ _ Xc0
        obtain ⟨Yc0, Yc1, -, -⟩ := Y_32.out
        have Ylt : w3.heap.size + 1 < w32.heap.size := World.block_lt_of_cell? _ _ Yc0
        obtain ⟨Qc0, Qc1, -, -⟩ := Q_32.out
        have Qlt : w31.heap.size < w32.heap.size := World.block_lt_of_cell? _ _ Qc0
        go_wp2_with fail
        refine (two_to _ _ _ _ _ _ _ _ RAq.out Ry.out A3.out _).mono ?_
        rintro e w33 ⟨rfl, b33⟩
        have X_33 := hid ((X_32.out.alloc _).below b33)
        have Y_33 := hid ((Y_32.out.alloc _).below b33)
        have Q_33 := hid ((Q_32.out.alloc _).below b33)
        have M_33 := hid (((Pair.new _ _ _ _ (p := w32.heap.size) (by simp))).below b33)
        have BL33 := hid (Bl.step (Bl.alloc BL32.out _) b33)
        clear b33 Xc0 Xc1 Xlt Yc0 Yc1 Ylt Qc0 Qc1 Qlt X_32 Y_32 Q_32 BL32
        obtain ⟨Xc0, Xc1, -, -⟩ := X_33.out
        have Xlt : w3.heap.size < w33.heap.size := World.block_lt_of_cell? _ _ Xc0
        obtain ⟨Yc0, Yc1, -, -⟩ := Y_33.out
        have Ylt : w3.heap.size + 1 < w33.heap.size := World.block_lt_of_cell? _ _ Yc0
        obtain ⟨Qc0, Qc1, -, -⟩ := Q_33.out
        have Qlt : w31.heap.size < w33.heap.size := World.block_lt_of_cell? _ _ Qc0
        obtain ⟨Mc0, Mc1, -, -⟩ := M_33.out
        have Mlt : w32.heap.size < w33.heap.size := World.block_lt_of_cell? _ _ Mc0
        go_wp2_with fail
        refine (two_to _ _ _ _ _ _ _ _ RAp.out RAm.out A4.out _).mono ?_
        rintro e w34 ⟨rfl, b34⟩
        have X_34 := hid ((X_33.out.alloc _).below b34)
        have Y_34 := hid ((Y_33.out.alloc _).below b34)
        have Q_34 := hid ((Q_33.out.alloc _).below b34)
        have M_34 := hid ((M_33.out.alloc _).below b34)
        have P_34 := hid (((Pair.new _ _ _ _ (p := w33.heap.size) (by simp))).below b34)
        have BL34 := hid (Bl.step (Bl.alloc BL33.out _) b34)
        clear b34 Xc0 Xc1 Xlt Yc0 Yc1 Ylt Qc0 Qc1 Qlt Mc0 Mc1 Mlt X_33 Y_33 Q_33 M_33 BL33
        obtain ⟨Xc0, Xc1, -, -⟩ := X_34.out
        have Xlt : w3.heap.size < w34.heap.size := World.block_lt_of_cell? _ _ Xc0
        obtain ⟨Yc0, Yc1, -, -⟩ := Y_34.out
        have Ylt : w3.heap.size + 1 < w34.heap.size := World.block_lt_of_cell? _ _ Yc0
        obtain ⟨Qc0, Qc1, -, -⟩ := Q_34.out
        have Qlt : w31.heap.size < w34.heap.size := World.block_lt_of_cell? _ _ Qc0
        obtain ⟨Mc0, Mc1, -, -⟩ := M_34.out
        have Mlt : w32.heap.size < w34.heap.size := World.block_lt_of_cell? _ _ Mc0
        obtain ⟨Pc0, Pc1, -, -⟩ := P_34.out
        have Plt : w33.heap.size < w34.heap.size := World.block_lt_of_cell? _ _ Pc0
        go_wp2_with fail
        refine (eq_same _ _ _).mono ?_
        rintro e w35 ⟨rfl, b35⟩
        have X_35 := hid ((X_34.out.alloc _).below b35)
        have Y_35 := hid ((Y_34.out.alloc _).below b35)
        have Q_35 := hid ((Q_34.out.alloc _).below b35)
        have M_35 := hid ((M_34.out.alloc _).below b35)
        have P_35 := hid ((P_34.out.alloc _).below b35)
        have N_35 := hid (((Pair.new _ _ _ _ (p := w34.heap.size) (by simp))).below b35)
        have BL35 := hid (Bl.step (Bl.alloc BL34.out _) b35)
        clear b35 Xc0 Xc1 Xlt Yc0 Yc1 Ylt Qc0 Qc1 Qlt Mc0 Mc1 Mlt Pc0 Pc1 Plt X_34 Y_34 Q_34 M_34 P_34 BL34
        obtain ⟨Xc0, Xc1, -, -⟩ := X_35.out
        have Xlt : w3.heap.size < w35.heap.size := World.block_lt_of_cell? _ _ Xc0
        obtain ⟨Yc0, Yc1, -, -⟩ := Y_35.out
        have Ylt : w3.heap.size + 1 < w35.heap.size := World.block_lt_of_cell? _ _ Yc0
        obtain ⟨Qc0, Qc1, -, -⟩ := Q_35.out
        have Qlt : w31.heap.size < w35.heap.size := World.block_lt_of_cell? _ _ Qc0
        obtain ⟨Mc0, Mc1, -, -⟩ := M_35.out
        have Mlt : w32.heap.size < w35.heap.size := World.block_lt_of_cell? _ _ Mc0
        obtain ⟨Pc0, Pc1, -, -⟩ := P_35.out
        have Plt : w33.heap.size < w35.heap.size := World.block_lt_of_cell? _ _ Pc0
        obtain ⟨Nc0, Nc1, -, -⟩ := N_35.out
        have Nlt : w34.heap.size < w35.heap.size := World.block_lt_of_cell? _ _ Nc0
        go_wp2_with fail
        go_roundw
        case rel => exact ⟨2, by decide, rfl, hid X_35.out, hid Y_35.out, hid BL35.out⟩
        case measure => simp [intOf]
    · go_wp2_with fail
      go_ret
      exact ⟨by simp, BL30.out⟩
set_option maxRecDepth 20000 in
set_option maxHeartbeats 4000000 in
theorem intsLaws_walk2 (a b : Int) (ha : In64 a) (hb : In64 b) (w : World) (hL : Laid w) :
    Calls Tryd.prog 6 #[.int .i64 a, .int .i64 b, .bool true] w fun e w' => e = .returned (.bool true) ∧ Below w.heap.size w w' := by
  obtain ⟨x, hx⟩ : ∃ x, sg 2 a = x := ⟨_, rfl⟩
  obtain ⟨y, hy⟩ : ∃ x, sg 2 b = x := ⟨_, rfl⟩
  obtain ⟨ox, rx, oy, ry⟩ : okv 2 x = true ∧ In64 x ∧ okv 2 y = true ∧ In64 y := by rw [← hx, ← hy]; exact ⟨okv_sg _ _ (by decide), in64_sg _ _, okv_sg _ _ (by decide), in64_sg _ _⟩
  have ix := sg_id 2 x ox rx
  obtain ⟨S, hS⟩ : ∃ z, sg 2 (wrap64 (x + y)) = z := ⟨_, rfl⟩
  obtain ⟨oS, rS⟩ : okv 2 S = true ∧ In64 S := by rw [← hS]; exact ⟨okv_sg _ _ (by decide), in64_sg _ _⟩
  have hB : sg 2 (wrap64 (S - y)) = x := sub_back 2 x y S ix hS
  obtain ⟨L, hL3⟩ : ∃ z, sg 2 (calcS 119 x y (un 2 x) 64 (un 2 y % 64)) = z := ⟨_, rfl⟩
  obtain ⟨oL, rL⟩ : okv 2 L = true ∧ In64 L := by rw [← hL3]; exact ⟨okv_sg _ _ (by decide), in64_sg _ _⟩
  have hR : sg 2 (calcS 120 L y (un 2 L) 64 (un 2 y % 64)) = x := rot_back 2 x y L 64 (by decide) ix hL3
  have H1 : Hid (twoS 124 2 x 2 y = (2, S, 0)) := hid (by rw [twoS_mid (c := 2) (b := 106) (by decide) ox oy, mid_calc _ _ _ _ (by decide) (by decide), calc_add, hS])
  have H2 : Hid (twoS 125 2 S 2 y = (2, x, 0)) := hid (by rw [twoS_mid (c := 2) (b := 107) (by decide) oS oy, mid_calc _ _ _ _ (by decide) (by decide), calc_sub, hB])
  have H3 : Hid (twoS 137 2 x 2 y = (2, L, 0)) := hid (by rw [twoS_mid (c := 2) (b := 119) (by decide) ox oy, mid_calc _ _ _ _ (by decide) (by decide)]; exact congrArg (fun z => (2, z, (0 : Int))) hL3)
  have H4 : Hid (twoS 138 2 L 2 y = (2, x, 0)) := hid (by rw [twoS_mid (c := 2) (b := 120) (by decide) oL oy, mid_calc _ _ _ _ (by decide) (by decide)]; exact congrArg (fun z => (2, z, (0 : Int))) hR)
  have Hx := hid hx
  have Hy := hid hy
  have Rx := hid rx
  have Ry := hid ry
  have Rs := hid rS
  have Rl := hid rL
  have Ha := hid ha
  have Hb := hid hb
  have Ix := hid ix
  have Ox := hid ox
  have Oy := hid oy
  clear hx hy hS hB hL3 hR oS rS oL rL ha hb ix ox oy rx ry
  have HL := hid hL
  clear hL
  go_enter Tryd.func6, Tryd.ntmps6
  go_wp2_with fail
  refine (begun_any _ HL.out).mono ?_
  rintro e w1 ⟨rfl, b1⟩
  have BL1 := hid (Bl.step (Bl.refl _) b1)
  clear b1
  go_wp2_with fail
  refine (refWrap_to 2 a x (by decide) Ha.out Hx.out _).mono ?_
  rintro e w2 ⟨rfl, b2⟩
  have BL2 := hid (Bl.step BL1.out b2)
  clear b2 BL1
  go_wp2_with fail
  refine (refWrap_to 2 b y (by decide) Hb.out Hy.out _).mono ?_
  rintro e w3 ⟨rfl, b3⟩
  have BL3 := hid (Bl.step BL2.out b3)
  clear b3 BL2
  go_wp2_with fail
  refine (two_to _ _ _ _ _ _ _ _ Rx.out Ry.out H1.out _).mono ?_
  rintro e w4 ⟨rfl, b4⟩
  have X_4 := hid (((Pair.new _ _ _ _ (p := w3.heap.size) (by simp)).alloc _).below b4)
  have Y_4 := hid (((Pair.new _ _ _ _ (p := w3.heap.size + 1) (by simp))).below b4)
  have BL4 := hid (Bl.step (Bl.alloc (Bl.alloc BL3.out _) _) b4)
  clear b4 BL3
  obtain ⟨Xc0, Xc1, -, -⟩ := X_4.out
  have Xlt : w3.heap.size < w4.heap.size := World.block_lt_of_cell? _ _ Xc0
  obtain ⟨Yc0, Yc1, -, -⟩ := Y_4.out
  have Ylt : w3.heap.size + 1 < w4.heap.size := World.block_lt_of_cell? _ _ Yc0
  go_wp2_with fail
  refine (two_to _ _ _ _ _ _ _ _ Rs.out Ry.out H2.out _).mono ?_
  rintro e w5 ⟨rfl, b5⟩
  have X_5 := hid ((X_4.out.alloc _).below b5)
  have Y_5 := hid ((Y_4.out.alloc _).below b5)
  have S_5 := hid (((Pair.new _ _ _ _ (p := w4.heap.size) (by simp))).below b5)
  have BL5 := hid (Bl.step (Bl.alloc BL4.out _) b5)
  clear b5 Xc0 Xc1 Xlt Yc0 Yc1 Ylt X_4 Y_4 BL4
  obtain ⟨Xc0, Xc1, -, -⟩ := X_5.out
  have Xlt : w3.heap.size < w5.heap.size := World.block_lt_of_cell? _ _ Xc0
  obtain ⟨Yc0, Yc1, -, -⟩ := Y_5.out
  have Ylt : w3.heap.size + 1 < w5.heap.size := World.block_lt_of_cell? _ _ Yc0
  obtain ⟨Sc0, Sc1, -, -⟩ := S_5.out
  have Slt : w4.heap.size < w5.heap.size := World.block_lt_of_cell? _ _ Sc0
  go_wp2_with fail
  refine (two_to _ _ _ _ _ _ _ _ Rx.out Ry.out H3.out _).mono ?_
  rintro e w6 ⟨rfl, b6⟩
  have X_6 := hid ((X_5.out.alloc _).below b6)
  have Y_6 := hid ((Y_5.out.alloc _).below b6)
  have S_6 := hid ((S_5.out.alloc _).below b6)
  have B_6 := hid (((Pair.new _ _ _ _ (p := w5.heap.size) (by simp))).below b6)
  have BL6 := hid (Bl.step (Bl.alloc BL5.out _) b6)
  clear b6 Xc0 Xc1 Xlt Yc0 Yc1 Ylt Sc0 Sc1 Slt X_5 Y_5 S_5 BL5
  obtain ⟨Xc0, Xc1, -, -⟩ := X_6.out
  have Xlt : w3.heap.size < w6.heap.size := World.block_lt_of_cell? _ _ Xc0
  obtain ⟨Yc0, Yc1, -, -⟩ := Y_6.out
  have Ylt : w3.heap.size + 1 < w6.heap.size := World.block_lt_of_cell? _ _ Yc0
  obtain ⟨Sc0, Sc1, -, -⟩ := S_6.out
  have Slt : w4.heap.size < w6.heap.size := World.block_lt_of_cell? _ _ Sc0
  obtain ⟨Bc0, Bc1, -, -⟩ := B_6.out
  have Blt : w5.heap.size < w6.heap.size := World.block_lt_of_cell? _ _ Bc0
  go_wp2_with fail
  refine (two_to _ _ _ _ _ _ _ _ Rl.out Ry.out H4.out _).mono ?_
  rintro e w7 ⟨rfl, b7⟩
  have X_7 := hid ((X_6.out.alloc _).below b7)
  have Y_7 := hid ((Y_6.out.alloc _).below b7)
  have S_7 := hid ((S_6.out.alloc _).below b7)
  have B_7 := hid ((B_6.out.alloc _).below b7)
  have L_7 := hid (((Pair.new _ _ _ _ (p := w6.heap.size) (by simp))).below b7)
  have BL7 := hid (Bl.step (Bl.alloc BL6.out _) b7)
  clear b7 Xc0 Xc1 Xlt Yc0 Yc1 Ylt Sc0 Sc1 Slt Bc0 Bc1 Blt X_6 Y_6 S_6 B_6 BL6
  obtain ⟨Xc0, Xc1, -, -⟩ := X_7.out
  have Xlt : w3.heap.size < w7.heap.size := World.block_lt_of_cell? _ _ Xc0
  obtain ⟨Yc0, Yc1, -, -⟩ := Y_7.out
  have Ylt : w3.heap.size + 1 < w7.heap.size := World.block_lt_of_cell? _ _ Yc0
  obtain ⟨Sc0, Sc1, -, -⟩ := S_7.out
  have Slt : w4.heap.size < w7.heap.size := World.block_lt_of_cell? _ _ Sc0
  obtain ⟨Bc0, Bc1, -, -⟩ := B_7.out
  have Blt : w5.heap.size < w7.heap.size := World.block_lt_of_cell? _ _ Bc0
  obtain ⟨Lc0, Lc1, -, -⟩ := L_7.out
  have Llt : w6.heap.size < w7.heap.size := World.block_lt_of_cell? _ _ Lc0
  go_wp2_with fail
  refine (eq_same _ _ _).mono ?_
  rintro e w8 ⟨rfl, b8⟩
  have X_8 := hid ((X_7.out.alloc _).below b8)
  have Y_8 := hid ((Y_7.out.alloc _).below b8)
  have S_8 := hid ((S_7.out.alloc _).below b8)
  have B_8 := hid ((B_7.out.alloc _).below b8)
  have L_8 := hid ((L_7.out.alloc _).below b8)
  have R_8 := hid (((Pair.new _ _ _ _ (p := w7.heap.size) (by simp))).below b8)
  have BL8 := hid (Bl.step (Bl.alloc BL7.out _) b8)
  clear b8 Xc0 Xc1 Xlt Yc0 Yc1 Ylt Sc0 Sc1 Slt Bc0 Bc1 Blt Lc0 Lc1 Llt X_7 Y_7 S_7 B_7 L_7 BL7
  obtain ⟨Xc0, Xc1, -, -⟩ := X_8.out
  have Xlt : w3.heap.size < w8.heap.size := World.block_lt_of_cell? _ _ Xc0
  obtain ⟨Yc0, Yc1, -, -⟩ := Y_8.out
  have Ylt : w3.heap.size + 1 < w8.heap.size := World.block_lt_of_cell? _ _ Yc0
  obtain ⟨Sc0, Sc1, -, -⟩ := S_8.out
  have Slt : w4.heap.size < w8.heap.size := World.block_lt_of_cell? _ _ Sc0
  obtain ⟨Bc0, Bc1, -, -⟩ := B_8.out
  have Blt : w5.heap.size < w8.heap.size := World.block_lt_of_cell? _ _ Bc0
  obtain ⟨Lc0, Lc1, -, -⟩ := L_8.out
  have Llt : w6.heap.size < w8.heap.size := World.block_lt_of_cell? _ _ Lc0
  obtain ⟨Rc0, Rc1, -, -⟩ := R_8.out
  have Rlt : w7.heap.size < w8.heap.size := World.block_lt_of_cell? _ _ Rc0
  go_wp2_with fail
  refine (eq_same _ _ _).mono ?_
  rintro e w9 ⟨rfl, b9⟩
  have X_9 := hid ((X_8.out).below b9)
  have Y_9 := hid ((Y_8.out).below b9)
  have S_9 := hid ((S_8.out).below b9)
  have B_9 := hid ((B_8.out).below b9)
  have L_9 := hid ((L_8.out).below b9)
  have R_9 := hid ((R_8.out).below b9)
  have BL9 := hid (Bl.step BL8.out b9)
  clear b9 Xc0 Xc1 Xlt Yc0 Yc1 Ylt Sc0 Sc1 Slt Bc0 Bc1 Blt Lc0 Lc1 Llt Rc0 Rc1 Rlt X_8 Y_8 S_8 B_8 L_8 R_8 BL8
  obtain ⟨Xc0, Xc1, -, -⟩ := X_9.out
  have Xlt : w3.heap.size < w9.heap.size := World.block_lt_of_cell? _ _ Xc0
  obtain ⟨Yc0, Yc1, -, -⟩ := Y_9.out
  have Ylt : w3.heap.size + 1 < w9.heap.size := World.block_lt_of_cell? _ _ Yc0
  obtain ⟨Sc0, Sc1, -, -⟩ := S_9.out
  have Slt : w4.heap.size < w9.heap.size := World.block_lt_of_cell? _ _ Sc0
  obtain ⟨Bc0, Bc1, -, -⟩ := B_9.out
  have Blt : w5.heap.size < w9.heap.size := World.block_lt_of_cell? _ _ Bc0
  obtain ⟨Lc0, Lc1, -, -⟩ := L_9.out
  have Llt : w6.heap.size < w9.heap.size := World.block_lt_of_cell? _ _ Lc0
  obtain ⟨Rc0, Rc1, -, -⟩ := R_9.out
  have Rlt : w7.heap.size < w9.heap.size := World.block_lt_of_cell? _ _ Rc0
  go_wp2_with fail
  obtain ⟨wo, hwo⟩ : ∃ wo : World, wo = w9 := ⟨_, rfl⟩
  have X_w := hid X_9.out
  have Y_w := hid Y_9.out
  have BLw := hid BL9.out
  rw [← hwo] at X_w Y_w BLw ⊢
  clear hwo Xc0 Xc1 Xlt Yc0 Yc1 Ylt Sc0 Sc1 Slt Bc0 Bc1 Blt Lc0 Lc1 Llt Rc0 Rc1 Rlt X_9 Y_9 S_9 B_9 L_9 R_9 BL9 H1 H2 H3 H4
  go_loopw [20] (fun v wr => ∃ j : Nat, j ≤ 2 ∧ v = .int .i64 j ∧ Hid (Pair wr w3.heap.size (.int .i64 2) (.int .i64 x)) ∧ Hid (Pair wr (w3.heap.size + 1) (.int .i64 2) (.int .i64 y)) ∧ Hid (Below w.heap.size w wr)) (fun v _ => 2 - (intOf v).toNat)
  case atStart => exact ⟨0, by decide, rfl, X_w, Y_w, BLw⟩
  case round =>
    obtain ⟨j, hj, rfl, X_30, Y_30, BL30⟩ := hrel
    clear X_w Y_w BLw
    obtain ⟨Xc0, Xc1, -, -⟩ := X_30.out
    have Xlt : w3.heap.size < wr.heap.size := World.block_lt_of_cell? _ _ Xc0
    obtain ⟨Yc0, Yc1, -, -⟩ := Y_30.out
    have Ylt : w3.heap.size + 1 < wr.heap.size := World.block_lt_of_cell? _ _ Yc0
    rcases (show j = 0 ∨ j = 1 ∨ j = 2 by omega) with rfl | rfl | rfl
    · have ox := Ox.out
      have oy := Oy.out
      by_cases h0 : y = 0
      · have Z1 : Hid (twoS 127 2 x 2 y = (0, 0, 2)) := hid (by rw [twoS_mid (c := 2) (b := 109) (by decide) ox oy, mid_div _ _ _ _ (by decide)]; unfold divS; rw [if_pos h0])
        have Z2 : Hid (twoS 129 2 x 2 y = (0, 0, 2)) := hid (by rw [twoS_mid (c := 2) (b := 111) (by decide) ox oy, mid_div _ _ _ _ (by decide)]; unfold divS; rw [if_pos h0])
        have hy0 : (y == 0) = true := by simp [h0]
        clear h0 ox oy
        go_wp2_with fail
        refine (two_to _ _ _ _ _ _ _ _ Rx.out Ry.out Z1.out _).mono ?_
        rintro e w31 ⟨rfl, b31⟩
        have X_31 := hid ((X_30.out).below b31)
        have Y_31 := hid ((Y_30.out).below b31)
        have BL31 := hid (Bl.step BL30.out b31)
        clear b31 Xc0 Xc1 Xlt Yc0 Yc1 Ylt X_30 Y_30 BL30
        obtain ⟨Xc0, Xc1, -, -⟩ := X_31.out
        have Xlt : w3.heap.size < w31.heap.size := World.block_lt_of_cell? _ _ Xc0
        obtain ⟨Yc0, Yc1, -, -⟩ := Y_31.out
        have Ylt : w3.heap.size + 1 < w31.heap.size := World.block_lt_of_cell? _ _ Yc0
        go_wp2_with fail
        refine (two_to _ _ _ _ _ _ _ _ Rx.out Ry.out Z2.out _).mono ?_
        rintro e w32 ⟨rfl, b32⟩
        have X_32 := hid ((X_31.out.alloc _).below b32)
        have Y_32 := hid ((Y_31.out.alloc _).below b32)
        have Q_32 := hid (((Pair.new _ _ _ _ (p := w31.heap.size) (by simp))).below b32)
        have BL32 := hid (Bl.step (Bl.alloc BL31.out _) b32)
        clear b32 Xc0 Xc1 Xlt Yc0 Yc1 Ylt X_31 Y_31 BL31
        obtain ⟨Xc0, Xc1, -, -⟩ := X_32.out
        have Xlt : w3.heap.size < w32.heap.size := World.block_lt_of_cell? _ _ Xc0
        obtain ⟨Yc0, Yc1, -, -⟩ := Y_32.out
        have Ylt : w3.heap.size + 1 < w32.heap.size := World.block_lt_of_cell? _ _ Yc0
        obtain ⟨Qc0, Qc1, -, -⟩ := Q_32.out
        have Qlt : w31.heap.size < w32.heap.size := World.block_lt_of_cell? _ _ Qc0
        go_wp2_with fail
        go_roundw
        case rel => exact ⟨1, by decide, rfl, hid (X_32.out.alloc _), hid (Y_32.out.alloc _), hid (Bl.alloc BL32.out _)⟩
        case measure => simp [intOf]
      · have hy0 : (y == 0) = false := by simp [h0]
        have O2 : Hid (twoS 129 2 x 2 y = (2, sg 2 (x.tmod y), 0)) := hid (by rw [twoS_mid (c := 2) (b := 111) (by decide) ox oy, mid_div _ _ _ _ (by decide)]; unfold divS; rw [if_neg h0, if_neg (by decide), if_neg (by decide), if_pos rfl])
        by_cases ho : x = (if (2 : Int) = 1 then -2147483648 else -9223372036854775808) ∧ y = -1
        · have O1 : Hid (twoS 127 2 x 2 y = (0, 0, 3)) := hid (by rw [twoS_mid (c := 2) (b := 109) (by decide) ox oy, mid_div _ _ _ _ (by decide)]; unfold divS; rw [if_neg h0, if_pos rfl, if_pos ho])
          clear h0 ox oy ho
          go_wp2_with fail
          refine (two_to _ _ _ _ _ _ _ _ Rx.out Ry.out O1.out _).mono ?_
          rintro e w31 ⟨rfl, b31⟩
          have X_31 := hid ((X_30.out).below b31)
          have Y_31 := hid ((Y_30.out).below b31)
          have BL31 := hid (Bl.step BL30.out b31)
          clear b31 Xc0 Xc1 Xlt Yc0 Yc1 Ylt X_30 Y_30 BL30
          obtain ⟨Xc0, Xc1, -, -⟩ := X_31.out
          have Xlt : w3.heap.size < w31.heap.size := World.block_lt_of_cell? _ _ Xc0
          obtain ⟨Yc0, Yc1, -, -⟩ := Y_31.out
          have Ylt : w3.heap.size + 1 < w31.heap.size := World.block_lt_of_cell? _ _ Yc0
          go_wp2_with fail
          refine (two_to _ _ _ _ _ _ _ _ Rx.out Ry.out O2.out _).mono ?_
          rintro e w32 ⟨rfl, b32⟩
          have X_32 := hid ((X_31.out.alloc _).below b32)
          have Y_32 := hid ((Y_31.out.alloc _).below b32)
          have Q_32 := hid (((Pair.new _ _ _ _ (p := w31.heap.size) (by simp))).below b32)
          have BL32 := hid (Bl.step (Bl.alloc BL31.out _) b32)
          clear b32 Xc0 Xc1 Xlt Yc0 Yc1 Ylt X_31 Y_31 BL31
          obtain ⟨Xc0, Xc1, -, -⟩ := X_32.out
          have Xlt : w3.heap.size < w32.heap.size := World.block_lt_of_cell? _ _ Xc0
          obtain ⟨Yc0, Yc1, -, -⟩ := Y_32.out
          have Ylt : w3.heap.size + 1 < w32.heap.size := World.block_lt_of_cell? _ _ Yc0
          obtain ⟨Qc0, Qc1, -, -⟩ := Q_32.out
          have Qlt : w31.heap.size < w32.heap.size := World.block_lt_of_cell? _ _ Qc0
          go_wp2_with fail
          go_roundw
          case rel => exact ⟨1, by decide, rfl, hid (X_32.out.alloc _), hid (Y_32.out.alloc _), hid (Bl.alloc BL32.out _)⟩
          case measure => simp [intOf]
        · obtain ⟨Q, hQ⟩ : ∃ z, sg 2 (wrap64 (x.tdiv y)) = z := ⟨_, rfl⟩
          obtain ⟨M, hM⟩ : ∃ z, sg 2 (x.tmod y) = z := ⟨_, rfl⟩
          obtain ⟨P, hP⟩ : ∃ z, sg 2 (wrap64 (Q * y)) = z := ⟨_, rfl⟩
          have hN : sg 2 (wrap64 (P + M)) = x := quot_back 2 x y (x.tdiv y) (x.tmod y) Q M P (by rw [Int.mul_comm, Int.mul_tdiv_add_tmod]; exact Ix.out) (by rw [← hQ, sg_wrap64]) hM hP
          obtain ⟨oQ, rQ⟩ : okv 2 Q = true ∧ In64 Q := by rw [← hQ]; exact ⟨okv_sg _ _ (by decide), in64_sg _ _⟩
          obtain ⟨oM, rM⟩ : okv 2 M = true ∧ In64 M := by rw [← hM]; exact ⟨okv_sg _ _ (by decide), in64_sg _ _⟩
          obtain ⟨oP, rP⟩ : okv 2 P = true ∧ In64 P := by rw [← hP]; exact ⟨okv_sg _ _ (by decide), in64_sg _ _⟩
          have A1 : Hid (twoS 127 2 x 2 y = (2, Q, 0)) := hid (by rw [twoS_mid (c := 2) (b := 109) (by decide) ox oy, mid_div _ _ _ _ (by decide)]; unfold divS; rw [if_neg h0, if_pos rfl, if_neg ho, hQ])
          have A2 : Hid (twoS 129 2 x 2 y = (2, M, 0)) := hid (by rw [O2.out, hM])
          have A3 : Hid (twoS 126 2 Q 2 y = (2, P, 0)) := hid (by rw [twoS_mid (c := 2) (b := 108) (by decide) oQ oy, mid_calc _ _ _ _ (by decide) (by decide), calc_mul, hP])
          have A4 : Hid (twoS 124 2 P 2 M = (2, x, 0)) := hid (by rw [twoS_mid (c := 2) (b := 106) (by decide) oP oM, mid_calc _ _ _ _ (by decide) (by decide), calc_add, hN])
          have RAq := hid rQ
          have RAp := hid rP
          have RAm := hid rM
          clear h0 ox oy ho hQ hM hP hN oQ oM oP rQ rM rP O2
          go_wp2_with fail
          refine (two_to _ _ _ _ _ _ _ _ Rx.out Ry.out A1.out _).mono ?_
          rintro e w31 ⟨rfl, b31⟩
          have X_31 := hid ((X_30.out).below b31)
          have Y_31 := hid ((Y_30.out).below b31)
          have BL31 := hid (Bl.step BL30.out b31)
          clear b31 Xc0 Xc1 Xlt Yc0 Yc1 Ylt X_30 Y_30 BL30
          obtain ⟨Xc0, Xc1, -, -⟩ := X_31.out
          have Xlt : w3.heap.size < w31.heap.size := World.block_lt_of_cell? _ _ Xc0
          obtain ⟨Yc0, Yc1, -, -⟩ := Y_31.out
          have Ylt : w3.heap.size + 1 < w31.heap.size := World.block_lt_of_cell? _ _ Yc0
          go_wp2_with fail
          refine (two_to _ _ _ _ _ _ _ _ Rx.out Ry.out A2.out _).mono ?_
          rintro e w32 ⟨rfl, b32⟩
          have X_32 := hid ((X_31.out.alloc _).below b32)
          have Y_32 := hid ((Y_31.out.alloc _).below b32)
          have Q_32 := hid (((Pair.new _ _ _ _ (p := w31.heap.size) (by simp))).below b32)
          have BL32 := hid (Bl.step (Bl.alloc BL31.out _) b32)
          clear b32 Xc0 Xc1 Xlt Yc0 Yc1 Ylt X_31 Y_31 BL31
          obtain ⟨Xc0, Xc1, -, -⟩ := X_32.out
          have Xlt : w3.heap.size < w32.heap.size := World.block_lt_of_cell? _ _ Xc0
          obtain ⟨Yc0, Yc1, -, -⟩ := Y_32.out
          have Ylt : w3.heap.size + 1 < w32.heap.size := World.block_lt_of_cell? _ _ Yc0
          obtain ⟨Qc0, Qc1, -, -⟩ := Q_32.out
          have Qlt : w31.heap.size < w32.heap.size := World.block_lt_of_cell? _ _ Qc0
          go_wp2_with fail
          refine (two_to _ _ _ _ _ _ _ _ RAq.out Ry.out A3.out _).mono ?_
          rintro e w33 ⟨rfl, b33⟩
          have X_33 := hid ((X_32.out.alloc _).below b33)
          have Y_33 := hid ((Y_32.out.alloc _).below b33)
          have Q_33 := hid ((Q_32.out.alloc _).below b33)
          have M_33 := hid (((Pair.new _ _ _ _ (p := w32.heap.size) (by simp))).below b33)
          have BL33 := hid (Bl.step (Bl.alloc BL32.out _) b33)
          clear b33 Xc0 Xc1 Xlt Yc0 Yc1 Ylt Qc0 Qc1 Qlt X_32 Y_32 Q_32 BL32
          obtain ⟨Xc0, Xc1, -, -⟩ := X_33.out
          have Xlt : w3.heap.size < w33.heap.size := World.block_lt_of_cell? _ _ Xc0
          obtain ⟨Yc0, Yc1, -, -⟩ := Y_33.out
          have Ylt : w3.heap.size + 1 < w33.heap.size := World.block_lt_of_cell? _ _ Yc0
          obtain ⟨Qc0, Qc1, -, -⟩ := Q_33.out
          have Qlt : w31.heap.size < w33.heap.size := World.block_lt_of_cell? _ _ Qc0
          obtain ⟨Mc0, Mc1, -, -⟩ := M_33.out
          have Mlt : w32.heap.size < w33.heap.size := World.block_lt_of_cell? _ _ Mc0
          go_wp2_with fail
          refine (two_to _ _ _ _ _ _ _ _ RAp.out RAm.out A4.out _).mono ?_
          rintro e w34 ⟨rfl, b34⟩
          have X_34 := hid ((X_33.out.alloc _).below b34)
          have Y_34 := hid ((Y_33.out.alloc _).below b34)
          have Q_34 := hid ((Q_33.out.alloc _).below b34)
          have M_34 := hid ((M_33.out.alloc _).below b34)
          have P_34 := hid (((Pair.new _ _ _ _ (p := w33.heap.size) (by simp))).below b34)
          have BL34 := hid (Bl.step (Bl.alloc BL33.out _) b34)
          clear b34 Xc0 Xc1 Xlt Yc0 Yc1 Ylt Qc0 Qc1 Qlt Mc0 Mc1 Mlt X_33 Y_33 Q_33 M_33 BL33
          obtain ⟨Xc0, Xc1, -, -⟩ := X_34.out
          have Xlt : w3.heap.size < w34.heap.size := World.block_lt_of_cell? _ _ Xc0
          obtain ⟨Yc0, Yc1, -, -⟩ := Y_34.out
          have Ylt : w3.heap.size + 1 < w34.heap.size := World.block_lt_of_cell? _ _ Yc0
          obtain ⟨Qc0, Qc1, -, -⟩ := Q_34.out
          have Qlt : w31.heap.size < w34.heap.size := World.block_lt_of_cell? _ _ Qc0
          obtain ⟨Mc0, Mc1, -, -⟩ := M_34.out
          have Mlt : w32.heap.size < w34.heap.size := World.block_lt_of_cell? _ _ Mc0
          obtain ⟨Pc0, Pc1, -, -⟩ := P_34.out
          have Plt : w33.heap.size < w34.heap.size := World.block_lt_of_cell? _ _ Pc0
          go_wp2_with fail
          refine (eq_same _ _ _).mono ?_
          rintro e w35 ⟨rfl, b35⟩
          have X_35 := hid ((X_34.out.alloc _).below b35)
          have Y_35 := hid ((Y_34.out.alloc _).below b35)
          have Q_35 := hid ((Q_34.out.alloc _).below b35)
          have M_35 := hid ((M_34.out.alloc _).below b35)
          have P_35 := hid ((P_34.out.alloc _).below b35)
          have N_35 := hid (((Pair.new _ _ _ _ (p := w34.heap.size) (by simp))).below b35)
          have BL35 := hid (Bl.step (Bl.alloc BL34.out _) b35)
          clear b35 Xc0 Xc1 Xlt Yc0 Yc1 Ylt Qc0 Qc1 Qlt Mc0 Mc1 Mlt Pc0 Pc1 Plt X_34 Y_34 Q_34 M_34 P_34 BL34
          obtain ⟨Xc0, Xc1, -, -⟩ := X_35.out
          have Xlt : w3.heap.size < w35.heap.size := World.block_lt_of_cell? _ _ Xc0
          obtain ⟨Yc0, Yc1, -, -⟩ := Y_35.out
          have Ylt : w3.heap.size + 1 < w35.heap.size := World.block_lt_of_cell? _ _ Yc0
          obtain ⟨Qc0, Qc1, -, -⟩ := Q_35.out
          have Qlt : w31.heap.size < w35.heap.size := World.block_lt_of_cell? _ _ Qc0
          obtain ⟨Mc0, Mc1, -, -⟩ := M_35.out
          have Mlt : w32.heap.size < w35.heap.size := World.block_lt_of_cell? _ _ Mc0
          obtain ⟨Pc0, Pc1, -, -⟩ := P_35.out
          have Plt : w33.heap.size < w35.heap.size := World.block_lt_of_cell? _ _ Pc0
          obtain ⟨Nc0, Nc1, -, -⟩ := N_35.out
          have Nlt : w34.heap.size < w35.heap.size := World.block_lt_of_cell? _ _ Nc0
          go_wp2_with fail
          go_roundw
          case rel => exact ⟨1, by decide, rfl, hid X_35.out, hid Y_35.out, hid BL35.out⟩
          case measure => simp [intOf]
    · have ox := Ox.out
      have oy := Oy.out
      by_cases h0 : y = 0
      · have Z1 : Hid (twoS 128 2 x 2 y = (0, 0, 2)) := hid (by rw [twoS_mid (c := 2) (b := 110) (by decide) ox oy, mid_div _ _ _ _ (by decide)]; unfold divS; rw [if_pos h0])
        have Z2 : Hid (twoS 130 2 x 2 y = (0, 0, 2)) := hid (by rw [twoS_mid (c := 2) (b := 112) (by decide) ox oy, mid_div _ _ _ _ (by decide)]; unfold divS; rw [if_pos h0])
        have hy0 : (y == 0) = true := by simp [h0]
        clear h0 ox oy
        go_wp2_with fail
        refine (two_to _ _ _ _ _ _ _ _ Rx.out Ry.out Z1.out _).mono ?_
        rintro e w31 ⟨rfl, b31⟩
        have X_31 := hid ((X_30.out).below b31)
        have Y_31 := hid ((Y_30.out).below b31)
        have BL31 := hid (Bl.step BL30.out b31)
        clear b31 Xc0 Xc1 Xlt Yc0 Yc1 Ylt X_30 Y_30 BL30
        obtain ⟨Xc0, Xc1, -, -⟩ := X_31.out
        have Xlt : w3.heap.size < w31.heap.size := World.block_lt_of_cell? _ _ Xc0
        obtain ⟨Yc0, Yc1, -, -⟩ := Y_31.out
        have Ylt : w3.heap.size + 1 < w31.heap.size := World.block_lt_of_cell? _ _ Yc0
        go_wp2_with fail
        refine (two_to _ _ _ _ _ _ _ _ Rx.out Ry.out Z2.out _).mono ?_
        rintro e w32 ⟨rfl, b32⟩
        have X_32 := hid ((X_31.out.alloc _).below b32)
        have Y_32 := hid ((Y_31.out.alloc _).below b32)
        have Q_32 := hid (((Pair.new _ _ _ _ (p := w31.heap.size) (by simp))).below b32)
        have BL32 := hid (Bl.step (Bl.alloc BL31.out _) b32)
        clear b32 Xc0 Xc1 Xlt Yc0 Yc1 Ylt X_31 Y_31 BL31
        obtain ⟨Xc0, Xc1, -, -⟩ := X_32.out
        have Xlt : w3.heap.size < w32.heap.size := World.block_lt_of_cell? _ _ Xc0
        obtain ⟨Yc0, Yc1, -, -⟩ := Y_32.out
        have Ylt : w3.heap.size + 1 < w32.heap.size := World.block_lt_of_cell? _ _ Yc0
        obtain ⟨Qc0, Qc1, -, -⟩ := Q_32.out
        have Qlt : w31.heap.size < w32.heap.size := World.block_lt_of_cell? _ _ Qc0
        go_wp2_with fail
        go_roundw
        case rel => exact ⟨2, by decide, rfl, hid (X_32.out.alloc _), hid (Y_32.out.alloc _), hid (Bl.alloc BL32.out _)⟩
        case measure => simp [intOf]
      · have hy0 : (y == 0) = false := by simp [h0]
        obtain ⟨Q, hQ⟩ : ∃ z, sg 2 (wrap64 (un 2 x / un 2 y)) = z := ⟨_, rfl⟩
        obtain ⟨M, hM⟩ : ∃ z, sg 2 (wrap64 (un 2 x % un 2 y)) = z := ⟨_, rfl⟩
        obtain ⟨P, hP⟩ : ∃ z, sg 2 (wrap64 (Q * y)) = z := ⟨_, rfl⟩
        have hN : sg 2 (wrap64 (P + M)) = x := quot_back 2 x y (un 2 x / un 2 y) (un 2 x % un 2 y) Q M P (by rw [uquot]; exact Ix.out) (by rw [← hQ, sg_wrap64]) (by rw [← hM, sg_wrap64]) hP
        obtain ⟨oQ, rQ⟩ : okv 2 Q = true ∧ In64 Q := by rw [← hQ]; exact ⟨okv_sg _ _ (by decide), in64_sg _ _⟩
        obtain ⟨oM, rM⟩ : okv 2 M = true ∧ In64 M := by rw [← hM]; exact ⟨okv_sg _ _ (by decide), in64_sg _ _⟩
        obtain ⟨oP, rP⟩ : okv 2 P = true ∧ In64 P := by rw [← hP]; exact ⟨okv_sg _ _ (by decide), in64_sg _ _⟩
        have A1 : Hid (twoS 128 2 x 2 y = (2, Q, 0)) := hid (by rw [twoS_mid (c := 2) (b := 110) (by decide) ox oy, mid_div _ _ _ _ (by decide)]; unfold divS; rw [if_neg h0, if_neg (by decide), if_pos rfl, hQ])
        have A2 : Hid (twoS 130 2 x 2 y = (2, M, 0)) := hid (by rw [twoS_mid (c := 2) (b := 112) (by decide) ox oy, mid_div _ _ _ _ (by decide)]; unfold divS; rw [if_neg h0, if_neg (by decide), if_neg (by decide), if_neg (by decide), hM])
        have A3 : Hid (twoS 126 2 Q 2 y = (2, P, 0)) := hid (by rw [twoS_mid (c := 2) (b := 108) (by decide) oQ oy, mid_calc _ _ _ _ (by decide) (by decide), calc_mul, hP])
        have A4 : Hid (twoS 124 2 P 2 M = (2, x, 0)) := hid (by rw [twoS_mid (c := 2) (b := 106) (by decide) oP oM, mid_calc _ _ _ _ (by decide) (by decide), calc_add, hN])
        have RAq := hid rQ
        have RAp := hid rP
        have RAm := hid rM
        clear h0 ox oy hQ hM hP hN oQ oM oP rQ rM rP
        go_wp2_with fail
        refine (two_to _ _ _ _ _ _ _ _ Rx.out Ry.out A1.out _).mono ?_
        rintro e w31 ⟨rfl, b31⟩
        have X_31 := hid ((X_30.out).below b31)
        have Y_31 := hid ((Y_30.out).below b31)
        have BL31 := hid (Bl.step BL30.out b31)
        clear b31 Xc0 Xc1 Xlt Yc0 Yc1 Ylt X_30 Y_30 BL30
        obtain ⟨Xc0, Xc1, -, -⟩ := X_31.out
        have Xlt : w3.heap.size < w31.heap.size := World.block_lt_of_cell? _ _ Xc0
        obtain ⟨Yc0, Yc1, -, -⟩ := Y_31.out
        have Ylt : w3.heap.size + 1 < w31.heap.size := World.block_lt_of_cell? _ _ Yc0
        go_wp2_with fail
        refine (two_to _ _ _ _ _ _ _ _ Rx.out Ry.out A2.out _).mono ?_
        rintro e w32 ⟨rfl, b32⟩
        have X_32 := hid ((X_31.out.alloc _).below b32)
        have Y_32 := hid ((Y_31.out.alloc _).below b32)
        have Q_32 := hid (((Pair.new _ _ _ _ (p := w31.heap.size) (by simp))).below b32)
        have BL32 := hid (Bl.step (Bl.alloc BL31.out _) b32)
        clear b32 Xc0 Xc1 Xlt Yc0 Yc1 Ylt X_31 Y_31 BL31
        obtain ⟨Xc0, Xc1, -, -⟩ := X_32.out
        have Xlt : w3.heap.size < w32.heap.size := World.block_lt_of_cell? _ _ Xc0
        obtain ⟨Yc0, Yc1, -, -⟩ := Y_32.out
        have Ylt : w3.heap.size + 1 < w32.heap.size := World.block_lt_of_cell? _ _ Yc0
        obtain ⟨Qc0, Qc1, -, -⟩ := Q_32.out
        have Qlt : w31.heap.size < w32.heap.size := World.block_lt_of_cell? _ _ Qc0
        go_wp2_with fail
        refine (two_to _ _ _ _ _ _ _ _ RAq.out Ry.out A3.out _).mono ?_
        rintro e w33 ⟨rfl, b33⟩
        have X_33 := hid ((X_32.out.alloc _).below b33)
        have Y_33 := hid ((Y_32.out.alloc _).below b33)
        have Q_33 := hid ((Q_32.out.alloc _).below b33)
        have M_33 := hid (((Pair.new _ _ _ _ (p := w32.heap.size) (by simp))).below b33)
        have BL33 := hid (Bl.step (Bl.alloc BL32.out _) b33)
        clear b33 Xc0 Xc1 Xlt Yc0 Yc1 Ylt Qc0 Qc1 Qlt X_32 Y_32 Q_32 BL32
        obtain ⟨Xc0, Xc1, -, -⟩ := X_33.out
        have Xlt : w3.heap.size < w33.heap.size := World.block_lt_of_cell? _ _ Xc0
        obtain ⟨Yc0, Yc1, -, -⟩ := Y_33.out
        have Ylt : w3.heap.size + 1 < w33.heap.size := World.block_lt_of_cell? _ _ Yc0
        obtain ⟨Qc0, Qc1, -, -⟩ := Q_33.out
        have Qlt : w31.heap.size < w33.heap.size := World.block_lt_of_cell? _ _ Qc0
        obtain ⟨Mc0, Mc1, -, -⟩ := M_33.out
        have Mlt : w32.heap.size < w33.heap.size := World.block_lt_of_cell? _ _ Mc0
        go_wp2_with fail
        refine (two_to _ _ _ _ _ _ _ _ RAp.out RAm.out A4.out _).mono ?_
        rintro e w34 ⟨rfl, b34⟩
        have X_34 := hid ((X_33.out.alloc _).below b34)
        have Y_34 := hid ((Y_33.out.alloc _).below b34)
        have Q_34 := hid ((Q_33.out.alloc _).below b34)
        have M_34 := hid ((M_33.out.alloc _).below b34)
        have P_34 := hid (((Pair.new _ _ _ _ (p := w33.heap.size) (by simp))).below b34)
        have BL34 := hid (Bl.step (Bl.alloc BL33.out _) b34)
        clear b34 Xc0 Xc1 Xlt Yc0 Yc1 Ylt Qc0 Qc1 Qlt Mc0 Mc1 Mlt X_33 Y_33 Q_33 M_33 BL33
        obtain ⟨Xc0, Xc1, -, -⟩ := X_34.out
        have Xlt : w3.heap.size < w34.heap.size := World.block_lt_of_cell? _ _ Xc0
        obtain ⟨Yc0, Yc1, -, -⟩ := Y_34.out
        have Ylt : w3.heap.size + 1 < w34.heap.size := World.block_lt_of_cell? _ _ Yc0
        obtain ⟨Qc0, Qc1, -, -⟩ := Q_34.out
        have Qlt : w31.heap.size < w34.heap.size := World.block_lt_of_cell? _ _ Qc0
        obtain ⟨Mc0, Mc1, -, -⟩ := M_34.out
        have Mlt : w32.heap.size < w34.heap.size := World.block_lt_of_cell? _ _ Mc0
        obtain ⟨Pc0, Pc1, -, -⟩ := P_34.out
        have Plt : w33.heap.size < w34.heap.size := World.block_lt_of_cell? _ _ Pc0
        go_wp2_with fail
        refine (eq_same _ _ _).mono ?_
        rintro e w35 ⟨rfl, b35⟩
        have X_35 := hid ((X_34.out.alloc _).below b35)
        have Y_35 := hid ((Y_34.out.alloc _).below b35)
        have Q_35 := hid ((Q_34.out.alloc _).below b35)
        have M_35 := hid ((M_34.out.alloc _).below b35)
        have P_35 := hid ((P_34.out.alloc _).below b35)
        have N_35 := hid (((Pair.new _ _ _ _ (p := w34.heap.size) (by simp))).below b35)
        have BL35 := hid (Bl.step (Bl.alloc BL34.out _) b35)
        clear b35 Xc0 Xc1 Xlt Yc0 Yc1 Ylt Qc0 Qc1 Qlt Mc0 Mc1 Mlt Pc0 Pc1 Plt X_34 Y_34 Q_34 M_34 P_34 BL34
        obtain ⟨Xc0, Xc1, -, -⟩ := X_35.out
        have Xlt : w3.heap.size < w35.heap.size := World.block_lt_of_cell? _ _ Xc0
        obtain ⟨Yc0, Yc1, -, -⟩ := Y_35.out
        have Ylt : w3.heap.size + 1 < w35.heap.size := World.block_lt_of_cell? _ _ Yc0
        obtain ⟨Qc0, Qc1, -, -⟩ := Q_35.out
        have Qlt : w31.heap.size < w35.heap.size := World.block_lt_of_cell? _ _ Qc0
        obtain ⟨Mc0, Mc1, -, -⟩ := M_35.out
        have Mlt : w32.heap.size < w35.heap.size := World.block_lt_of_cell? _ _ Mc0
        obtain ⟨Pc0, Pc1, -, -⟩ := P_35.out
        have Plt : w33.heap.size < w35.heap.size := World.block_lt_of_cell? _ _ Pc0
        obtain ⟨Nc0, Nc1, -, -⟩ := N_35.out
        have Nlt : w34.heap.size < w35.heap.size := World.block_lt_of_cell? _ _ Nc0
        go_wp2_with fail
        go_roundw
        case rel => exact ⟨2, by decide, rfl, hid X_35.out, hid Y_35.out, hid BL35.out⟩
        case measure => simp [intOf]
    · go_wp2_with fail
      go_ret
      exact ⟨by simp, BL30.out⟩
theorem intsLaws_walk (a b : Int) (t : Bool) (ha : In64 a) (hb : In64 b) (w : World) (hL : Laid w) :
    Calls Tryd.prog 6 #[.int .i64 a, .int .i64 b, .bool t] w fun e w' => e = .returned (.bool true) ∧ Below w.heap.size w w' := by
  cases t
  · exact intsLaws_walk1 a b ha hb w hL
  · exact intsLaws_walk2 a b ha hb w hL
end Go.Proofs.YtiohgigbnncpiaaDoor
