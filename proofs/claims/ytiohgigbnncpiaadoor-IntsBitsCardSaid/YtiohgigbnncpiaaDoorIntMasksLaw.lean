/- And, or, xor: what is in both and what is in one alone is in one of both; twice xor is none. -/
import Derived.Test.YtiohgigbnncpiaaDoorIntLaw
namespace Go.Proofs.YtiohgigbnncpiaaDoor
open Go.RowKit

theorem and_add_or : ∀ X Y : Nat, (X &&& Y) + (X ||| Y) = X + Y := by
  intro X
  induction X using Nat.strongRecOn with
  | ind X ih =>
    intro Y
    by_cases h0 : X = 0
    · subst h0; simp
    · have i := ih (X / 2) (by omega) (Y / 2)
      have d1 := @Nat.and_div_two_pow X Y 1
      have d2 := @Nat.or_div_two_pow X Y 1
      have m1 := @Nat.and_mod_two_pow X Y 1
      have m2 := @Nat.or_mod_two_pow X Y 1
      rw [Nat.pow_one] at d1 d2 m1 m2
      rw [← d1, ← d2] at i
      have b : ∀ p q : Fin 2, (p.val &&& q.val) + (p.val ||| q.val) = p.val + q.val := by decide
      have b1 := b ⟨X % 2, by omega⟩ ⟨Y % 2, by omega⟩
      simp only at b1
      rw [← m1, ← m2] at b1
      omega
theorem bitsN_div {op : BinOp} (ho : op = .and ∨ op = .or ∨ op = .xor) (a b i : Nat) : bitsN op a b / 2 ^ i = bitsN op (a / 2 ^ i) (b / 2 ^ i) := by
  rcases ho with rfl | rfl | rfl
  · exact Nat.and_div_two_pow
  · exact Nat.or_div_two_pow
  · exact Nat.xor_div_two_pow
theorem bitsN_lt {op : BinOp} (ho : op = .and ∨ op = .or ∨ op = .xor) {a b : Nat} (ha : a < 18446744073709551616) (hb : b < 18446744073709551616) : bitsN op a b < 18446744073709551616 := by
  rw [show 18446744073709551616 = 2 ^ 64 from by decide] at *
  rcases ho with rfl | rfl | rfl
  · exact Nat.and_lt_two_pow _ hb
  · exact Nat.or_lt_two_pow ha hb
  · exact Nat.xor_lt_two_pow ha hb
/-- The bits of a number, as one from 0. -/
abbrev nn (x : Int) : Nat := (x % 18446744073709551616).toNat
theorem bits_low {op : BinOp} (ho : op = .and ∨ op = .or ∨ op = .xor) (x y : Int) : nn (bits op .i64 x y) = bitsN op (nn x) (nn y) := by
  have h := bitsN_lt ho (a := nn x) (b := nn y) (by unfold nn; omega) (by unfold nn; omega)
  rw [bits_nat ho .i64 rfl, IntKind.wrap_i64]
  unfold nn at *
  omega
theorem bits_nn {op : BinOp} (ho : op = .and ∨ op = .or ∨ op = .xor) (x y : Int) : bits op .i64 x y = IntKind.i64.wrap (bitsN op (nn x) (nn y) : Nat) := bits_nat ho .i64 rfl x y
theorem bits_ok {op : BinOp} (ho : op = .and ∨ op = .or ∨ op = .xor) (c x y : Int) (ox : okv c x = true) (oy : okv c y = true) (_rx : In64 x) (_ry : In64 y) : okv c (bits op .i64 x y) = true ∧ In64 (bits op .i64 x y) ∧ sg c (bits op .i64 x y) = bits op .i64 x y := by
  have r : In64 (bits op .i64 x y) := bits_i64_in _ _ _
  have o : okv c (bits op .i64 x y) = true := by
    rcases okv_kind ox with rfl | rfl
    · have d := bitsN_div ho (nn x) (nn y) 31
      rw [show (2 : Nat) ^ 31 = 2147483648 from by decide] at d
      have l := bits_low ho x y
      unfold okv at ox oy ⊢
      simp at ox oy ⊢
      have hx : nn x / 2147483648 = 0 ∨ nn x / 2147483648 = 8589934591 := by unfold nn; omega
      have hy : nn y / 2147483648 = 0 ∨ nn y / 2147483648 = 8589934591 := by unfold nn; omega
      have hz : nn (bits op .i64 x y) / 2147483648 = 0 ∨ nn (bits op .i64 x y) / 2147483648 = 8589934591 := by
        rw [l, d]
        rcases ho with rfl | rfl | rfl <;> rcases hx with hx | hx <;> rcases hy with hy | hy <;> rw [hx, hy] <;> decide
      unfold nn at hz
      unfold In64 at r
      omega
    · rfl
  exact ⟨o, r, sg_id _ _ o r⟩
theorem mask_sum (x y : Int) : (bits BinOp.and IntKind.i64 x y + bits BinOp.or IntKind.i64 x y) % 18446744073709551616 = (x + y) % 18446744073709551616 := by
  have h1 := bits_low (op := .and) (by simp) x y
  have h2 := bits_low (op := .or) (by simp) x y
  have h3 := and_add_or (nn x) (nn y)
  simp only [bitsN] at h1 h2
  unfold nn at *
  omega
theorem mask_or (x y : Int) : bits BinOp.or IntKind.i64 (bits BinOp.and IntKind.i64 x y) (bits BinOp.xor IntKind.i64 x y) = bits BinOp.or IntKind.i64 x y := by
  rw [bits_nn (by simp), bits_low (by simp), bits_low (by simp), bits_nn (by simp)]
  congr 2
  simp only [bitsN]
  apply Nat.eq_of_testBit_eq
  intro i
  simp only [Nat.testBit_or, Nat.testBit_and, Nat.testBit_xor]
  cases (nn x).testBit i <;> cases (nn y).testBit i <;> rfl
theorem mask_xor (x y : Int) (hx : In64 x) : bits BinOp.xor IntKind.i64 (bits BinOp.xor IntKind.i64 x y) y = x := by
  rw [bits_nn (by simp), bits_low (by simp)]
  simp only [bitsN]
  rw [Nat.xor_assoc, Nat.xor_self, Nat.xor_zero, IntKind.wrap_i64]
  unfold nn
  unfold In64 at hx
  omega

set_option maxRecDepth 20000 in
set_option maxHeartbeats 1000000 in
theorem intsMasks_walk (a b : Int) (t : Bool) (ha : In64 a) (hb : In64 b) (w : World) (hL : Laid w) :
    Calls Tryd.prog 9 #[.int .i64 a, .int .i64 b, .bool t] w fun e w' => e = .returned (.bool true) ∧ Below w.heap.size w w' := by
  cases t
  · skip
    obtain ⟨x, hx⟩ : ∃ x, sg 1 a = x := ⟨_, rfl⟩
    obtain ⟨y, hy⟩ : ∃ x, sg 1 b = x := ⟨_, rfl⟩
    obtain ⟨ox, rx, oy, ry⟩ : okv 1 x = true ∧ In64 x ∧ okv 1 y = true ∧ In64 y := by rw [← hx, ← hy]; exact ⟨okv_sg _ _ (by decide), in64_sg _ _, okv_sg _ _ (by decide), in64_sg _ _⟩
    obtain ⟨A, hA⟩ : ∃ z, bits BinOp.and IntKind.i64 x y = z := ⟨_, rfl⟩
    obtain ⟨O, hO⟩ : ∃ z, bits BinOp.or IntKind.i64 x y = z := ⟨_, rfl⟩
    obtain ⟨R, hR⟩ : ∃ z, bits BinOp.xor IntKind.i64 x y = z := ⟨_, rfl⟩
    obtain ⟨oA, rA, iA⟩ := bits_ok (op := .and) (by simp) 1 x y ox oy rx ry
    obtain ⟨oO, rO, iO⟩ := bits_ok (op := .or) (by simp) 1 x y ox oy rx ry
    obtain ⟨oR, rR, iR⟩ := bits_ok (op := .xor) (by simp) 1 x y ox oy rx ry
    have m1 := mask_sum x y
    have m2 := mask_or x y
    have m3 := mask_xor x y rx
    rw [hA] at oA rA iA m1 m2
    rw [hO] at oO rO iO m1 m2
    rw [hR] at oR rR iR m2 m3
    obtain ⟨S, hS⟩ : ∃ z, sg 1 (wrap64 (x + y)) = z := ⟨_, rfl⟩
    have hS2 : sg 1 (wrap64 (A + O)) = S := by rw [← hS, sg_wrap64, sg_wrap64]; exact sg_mod _ _ _ (by omega)
    have H1 : Hid (twoS 113 1 x 1 y = (1, A, 0)) := hid (by rw [twoS_mid (c := 1) (b := 113) (by decide) ox oy, mid_calc _ _ _ _ (by decide) (by decide), calc_and, hA, iA])
    have H2 : Hid (twoS 114 1 x 1 y = (1, O, 0)) := hid (by rw [twoS_mid (c := 1) (b := 114) (by decide) ox oy, mid_calc _ _ _ _ (by decide) (by decide), calc_or, hO, iO])
    have H3 : Hid (twoS 115 1 x 1 y = (1, R, 0)) := hid (by rw [twoS_mid (c := 1) (b := 115) (by decide) ox oy, mid_calc _ _ _ _ (by decide) (by decide), calc_xor, hR, iR])
    have H4 : Hid (twoS 106 1 A 1 O = (1, S, 0)) := hid (by rw [twoS_mid (c := 1) (b := 106) (by decide) oA oO, mid_calc _ _ _ _ (by decide) (by decide), calc_add, hS2])
    have H5 : Hid (twoS 106 1 x 1 y = (1, S, 0)) := hid (by rw [twoS_mid (c := 1) (b := 106) (by decide) ox oy, mid_calc _ _ _ _ (by decide) (by decide), calc_add, hS])
    have H6 : Hid (twoS 114 1 A 1 R = (1, O, 0)) := hid (by rw [twoS_mid (c := 1) (b := 114) (by decide) oA oR, mid_calc _ _ _ _ (by decide) (by decide), calc_or, m2, iO])
    have H7 : Hid (twoS 115 1 R 1 y = (1, x, 0)) := hid (by rw [twoS_mid (c := 1) (b := 115) (by decide) oR oy, mid_calc _ _ _ _ (by decide) (by decide), calc_xor, m3, sg_id _ _ ox rx])
    have Hx := hid hx
    have Hy := hid hy
    have Rx := hid rx
    have Ry := hid ry
    have Ra := hid rA
    have Ro := hid rO
    have Rr := hid rR
    have Ha := hid ha
    have Hb := hid hb
    clear hx hy ox oy rx ry oA oO oR rA rO rR iA iO iR m1 m2 m3 hS hS2 ha hb
    have HL := hid hL
    clear hL
    go_enter Tryd.func9, Tryd.ntmps9
    go_wp2_with fail
    refine (begun_any _ HL.out).mono ?_
    rintro e w1 ⟨rfl, b1⟩
    have BL1 := hid (Bl.step (Bl.refl _) b1)
    clear b1
    go_wp2_with fail
    refine (refWrap_to 1 a x (by decide) Ha.out Hx.out _).mono ?_
    rintro e w2 ⟨rfl, b2⟩
    have BL2 := hid (Bl.step BL1.out b2)
    clear b2 BL1
    go_wp2_with fail
    refine (refWrap_to 1 b y (by decide) Hb.out Hy.out _).mono ?_
    rintro e w3 ⟨rfl, b3⟩
    have BL3 := hid (Bl.step BL2.out b3)
    clear b3 BL2
    go_wp2_with fail
    refine (two_to _ _ _ _ _ _ _ _ Rx.out Ry.out H1.out _).mono ?_
    rintro e w4 ⟨rfl, b4⟩
    have X_4 := hid (((Pair.new _ _ _ _ (p := w3.heap.size) (by simp)).alloc _).below b4)
    have Y_4 := hid (((Pair.new _ _ _ _ (p := w3.heap.size + 1) (by simp))).below b4)
    have BL4 := hid (Bl.step (Bl.alloc (Bl.alloc BL3.out _) _) b4)
    clear b4 BL3
    obtain ⟨Xc0, Xc1, -, -⟩ := X_4.out
    have Xlt : w3.heap.size < w4.heap.size := World.block_lt_of_cell? _ _ Xc0
    obtain ⟨Yc0, Yc1, -, -⟩ := Y_4.out
    have Ylt : w3.heap.size + 1 < w4.heap.size := World.block_lt_of_cell? _ _ Yc0
    go_wp2_with fail
    refine (two_to _ _ _ _ _ _ _ _ Rx.out Ry.out H2.out _).mono ?_
    rintro e w5 ⟨rfl, b5⟩
    have X_5 := hid ((X_4.out.alloc _).below b5)
    have Y_5 := hid ((Y_4.out.alloc _).below b5)
    have A_5 := hid (((Pair.new _ _ _ _ (p := w4.heap.size) (by simp))).below b5)
    have BL5 := hid (Bl.step (Bl.alloc BL4.out _) b5)
    clear b5 Xc0 Xc1 Xlt Yc0 Yc1 Ylt X_4 Y_4 BL4
    obtain ⟨Xc0, Xc1, -, -⟩ := X_5.out
    have Xlt : w3.heap.size < w5.heap.size := World.block_lt_of_cell? _ _ Xc0
    obtain ⟨Yc0, Yc1, -, -⟩ := Y_5.out
    have Ylt : w3.heap.size + 1 < w5.heap.size := World.block_lt_of_cell? _ _ Yc0
    obtain ⟨Ac0, Ac1, -, -⟩ := A_5.out
    have Alt : w4.heap.size < w5.heap.size := World.block_lt_of_cell? _ _ Ac0
    go_wp2_with fail
    refine (two_to _ _ _ _ _ _ _ _ Rx.out Ry.out H3.out _).mono ?_
    rintro e w6 ⟨rfl, b6⟩
    have X_6 := hid ((X_5.out.alloc _).below b6)
    have Y_6 := hid ((Y_5.out.alloc _).below b6)
    have A_6 := hid ((A_5.out.alloc _).below b6)
    have O_6 := hid (((Pair.new _ _ _ _ (p := w5.heap.size) (by simp))).below b6)
    have BL6 := hid (Bl.step (Bl.alloc BL5.out _) b6)
    clear b6 Xc0 Xc1 Xlt Yc0 Yc1 Ylt Ac0 Ac1 Alt X_5 Y_5 A_5 BL5
    obtain ⟨Xc0, Xc1, -, -⟩ := X_6.out
    have Xlt : w3.heap.size < w6.heap.size := World.block_lt_of_cell? _ _ Xc0
    obtain ⟨Yc0, Yc1, -, -⟩ := Y_6.out
    have Ylt : w3.heap.size + 1 < w6.heap.size := World.block_lt_of_cell? _ _ Yc0
    obtain ⟨Ac0, Ac1, -, -⟩ := A_6.out
    have Alt : w4.heap.size < w6.heap.size := World.block_lt_of_cell? _ _ Ac0
    obtain ⟨Oc0, Oc1, -, -⟩ := O_6.out
    have Olt : w5.heap.size < w6.heap.size := World.block_lt_of_cell? _ _ Oc0
    go_wp2_with fail
    refine (two_to _ _ _ _ _ _ _ _ Ra.out Ro.out H4.out _).mono ?_
    rintro e w7 ⟨rfl, b7⟩
    have X_7 := hid ((X_6.out.alloc _).below b7)
    have Y_7 := hid ((Y_6.out.alloc _).below b7)
    have A_7 := hid ((A_6.out.alloc _).below b7)
    have O_7 := hid ((O_6.out.alloc _).below b7)
    have R_7 := hid (((Pair.new _ _ _ _ (p := w6.heap.size) (by simp))).below b7)
    have BL7 := hid (Bl.step (Bl.alloc BL6.out _) b7)
    clear b7 Xc0 Xc1 Xlt Yc0 Yc1 Ylt Ac0 Ac1 Alt Oc0 Oc1 Olt X_6 Y_6 A_6 O_6 BL6
    obtain ⟨Xc0, Xc1, -, -⟩ := X_7.out
    have Xlt : w3.heap.size < w7.heap.size := World.block_lt_of_cell? _ _ Xc0
    obtain ⟨Yc0, Yc1, -, -⟩ := Y_7.out
    have Ylt : w3.heap.size + 1 < w7.heap.size := World.block_lt_of_cell? _ _ Yc0
    obtain ⟨Ac0, Ac1, -, -⟩ := A_7.out
    have Alt : w4.heap.size < w7.heap.size := World.block_lt_of_cell? _ _ Ac0
    obtain ⟨Oc0, Oc1, -, -⟩ := O_7.out
    have Olt : w5.heap.size < w7.heap.size := World.block_lt_of_cell? _ _ Oc0
    obtain ⟨Rc0, Rc1, -, -⟩ := R_7.out
    have Rlt : w6.heap.size < w7.heap.size := World.block_lt_of_cell? _ _ Rc0
    go_wp2_with fail
    refine (two_to _ _ _ _ _ _ _ _ Rx.out Ry.out H5.out _).mono ?_
    rintro e w8 ⟨rfl, b8⟩
    have X_8 := hid ((X_7.out.alloc _).below b8)
    have Y_8 := hid ((Y_7.out.alloc _).below b8)
    have A_8 := hid ((A_7.out.alloc _).below b8)
    have O_8 := hid ((O_7.out.alloc _).below b8)
    have R_8 := hid ((R_7.out.alloc _).below b8)
    have S_8 := hid (((Pair.new _ _ _ _ (p := w7.heap.size) (by simp))).below b8)
    have BL8 := hid (Bl.step (Bl.alloc BL7.out _) b8)
    clear b8 Xc0 Xc1 Xlt Yc0 Yc1 Ylt Ac0 Ac1 Alt Oc0 Oc1 Olt Rc0 Rc1 Rlt X_7 Y_7 A_7 O_7 R_7 BL7
    obtain ⟨Xc0, Xc1, -, -⟩ := X_8.out
    have Xlt : w3.heap.size < w8.heap.size := World.block_lt_of_cell? _ _ Xc0
    obtain ⟨Yc0, Yc1, -, -⟩ := Y_8.out
    have Ylt : w3.heap.size + 1 < w8.heap.size := World.block_lt_of_cell? _ _ Yc0
    obtain ⟨Ac0, Ac1, -, -⟩ := A_8.out
    have Alt : w4.heap.size < w8.heap.size := World.block_lt_of_cell? _ _ Ac0
    obtain ⟨Oc0, Oc1, -, -⟩ := O_8.out
    have Olt : w5.heap.size < w8.heap.size := World.block_lt_of_cell? _ _ Oc0
    obtain ⟨Rc0, Rc1, -, -⟩ := R_8.out
    have Rlt : w6.heap.size < w8.heap.size := World.block_lt_of_cell? _ _ Rc0
    obtain ⟨Sc0, Sc1, -, -⟩ := S_8.out
    have Slt : w7.heap.size < w8.heap.size := World.block_lt_of_cell? _ _ Sc0
    go_wp2_with fail
    refine (two_to _ _ _ _ _ _ _ _ Ra.out Rr.out H6.out _).mono ?_
    rintro e w9 ⟨rfl, b9⟩
    have X_9 := hid ((X_8.out.alloc _).below b9)
    have Y_9 := hid ((Y_8.out.alloc _).below b9)
    have A_9 := hid ((A_8.out.alloc _).below b9)
    have O_9 := hid ((O_8.out.alloc _).below b9)
    have R_9 := hid ((R_8.out.alloc _).below b9)
    have S_9 := hid ((S_8.out.alloc _).below b9)
    have T_9 := hid (((Pair.new _ _ _ _ (p := w8.heap.size) (by simp))).below b9)
    have BL9 := hid (Bl.step (Bl.alloc BL8.out _) b9)
    clear b9 Xc0 Xc1 Xlt Yc0 Yc1 Ylt Ac0 Ac1 Alt Oc0 Oc1 Olt Rc0 Rc1 Rlt Sc0 Sc1 Slt X_8 Y_8 A_8 O_8 R_8 S_8 BL8
    obtain ⟨Xc0, Xc1, -, -⟩ := X_9.out
    have Xlt : w3.heap.size < w9.heap.size := World.block_lt_of_cell? _ _ Xc0
    obtain ⟨Yc0, Yc1, -, -⟩ := Y_9.out
    have Ylt : w3.heap.size + 1 < w9.heap.size := World.block_lt_of_cell? _ _ Yc0
    obtain ⟨Ac0, Ac1, -, -⟩ := A_9.out
    have Alt : w4.heap.size < w9.heap.size := World.block_lt_of_cell? _ _ Ac0
    obtain ⟨Oc0, Oc1, -, -⟩ := O_9.out
    have Olt : w5.heap.size < w9.heap.size := World.block_lt_of_cell? _ _ Oc0
    obtain ⟨Rc0, Rc1, -, -⟩ := R_9.out
    have Rlt : w6.heap.size < w9.heap.size := World.block_lt_of_cell? _ _ Rc0
    obtain ⟨Sc0, Sc1, -, -⟩ := S_9.out
    have Slt : w7.heap.size < w9.heap.size := World.block_lt_of_cell? _ _ Sc0
    obtain ⟨Tc0, Tc1, -, -⟩ := T_9.out
    have Tlt : w8.heap.size < w9.heap.size := World.block_lt_of_cell? _ _ Tc0
    go_wp2_with fail
    refine (two_to _ _ _ _ _ _ _ _ Rr.out Ry.out H7.out _).mono ?_
    rintro e w10 ⟨rfl, b10⟩
    have X_10 := hid ((X_9.out.alloc _).below b10)
    have Y_10 := hid ((Y_9.out.alloc _).below b10)
    have A_10 := hid ((A_9.out.alloc _).below b10)
    have O_10 := hid ((O_9.out.alloc _).below b10)
    have R_10 := hid ((R_9.out.alloc _).below b10)
    have S_10 := hid ((S_9.out.alloc _).below b10)
    have T_10 := hid ((T_9.out.alloc _).below b10)
    have U_10 := hid (((Pair.new _ _ _ _ (p := w9.heap.size) (by simp))).below b10)
    have BL10 := hid (Bl.step (Bl.alloc BL9.out _) b10)
    clear b10 Xc0 Xc1 Xlt Yc0 Yc1 Ylt Ac0 Ac1 Alt Oc0 Oc1 Olt Rc0 Rc1 Rlt Sc0 Sc1 Slt Tc0 Tc1 Tlt X_9 Y_9 A_9 O_9 R_9 S_9 T_9 BL9
    obtain ⟨Xc0, Xc1, -, -⟩ := X_10.out
    have Xlt : w3.heap.size < w10.heap.size := World.block_lt_of_cell? _ _ Xc0
    obtain ⟨Yc0, Yc1, -, -⟩ := Y_10.out
    have Ylt : w3.heap.size + 1 < w10.heap.size := World.block_lt_of_cell? _ _ Yc0
    obtain ⟨Ac0, Ac1, -, -⟩ := A_10.out
    have Alt : w4.heap.size < w10.heap.size := World.block_lt_of_cell? _ _ Ac0
    obtain ⟨Oc0, Oc1, -, -⟩ := O_10.out
    have Olt : w5.heap.size < w10.heap.size := World.block_lt_of_cell? _ _ Oc0
    obtain ⟨Rc0, Rc1, -, -⟩ := R_10.out
    have Rlt : w6.heap.size < w10.heap.size := World.block_lt_of_cell? _ _ Rc0
    obtain ⟨Sc0, Sc1, -, -⟩ := S_10.out
    have Slt : w7.heap.size < w10.heap.size := World.block_lt_of_cell? _ _ Sc0
    obtain ⟨Tc0, Tc1, -, -⟩ := T_10.out
    have Tlt : w8.heap.size < w10.heap.size := World.block_lt_of_cell? _ _ Tc0
    obtain ⟨Uc0, Uc1, -, -⟩ := U_10.out
    have Ult : w9.heap.size < w10.heap.size := World.block_lt_of_cell? _ _ Uc0
    go_wp2_with fail
    refine (eq_same _ _ _).mono ?_
    rintro e w11 ⟨rfl, b11⟩
    have X_11 := hid ((X_10.out.alloc _).below b11)
    have Y_11 := hid ((Y_10.out.alloc _).below b11)
    have A_11 := hid ((A_10.out.alloc _).below b11)
    have O_11 := hid ((O_10.out.alloc _).below b11)
    have R_11 := hid ((R_10.out.alloc _).below b11)
    have S_11 := hid ((S_10.out.alloc _).below b11)
    have T_11 := hid ((T_10.out.alloc _).below b11)
    have U_11 := hid ((U_10.out.alloc _).below b11)
    have V_11 := hid (((Pair.new _ _ _ _ (p := w10.heap.size) (by simp))).below b11)
    have BL11 := hid (Bl.step (Bl.alloc BL10.out _) b11)
    clear b11 Xc0 Xc1 Xlt Yc0 Yc1 Ylt Ac0 Ac1 Alt Oc0 Oc1 Olt Rc0 Rc1 Rlt Sc0 Sc1 Slt Tc0 Tc1 Tlt Uc0 Uc1 Ult X_10 Y_10 A_10 O_10 R_10 S_10 T_10 U_10 BL10
    obtain ⟨Xc0, Xc1, -, -⟩ := X_11.out
    have Xlt : w3.heap.size < w11.heap.size := World.block_lt_of_cell? _ _ Xc0
    obtain ⟨Yc0, Yc1, -, -⟩ := Y_11.out
    have Ylt : w3.heap.size + 1 < w11.heap.size := World.block_lt_of_cell? _ _ Yc0
    obtain ⟨Ac0, Ac1, -, -⟩ := A_11.out
    have Alt : w4.heap.size < w11.heap.size := World.block_lt_of_cell? _ _ Ac0
    obtain ⟨Oc0, Oc1, -, -⟩ := O_11.out
    have Olt : w5.heap.size < w11.heap.size := World.block_lt_of_cell? _ _ Oc0
    obtain ⟨Rc0, Rc1, -, -⟩ := R_11.out
    have Rlt : w6.heap.size < w11.heap.size := World.block_lt_of_cell? _ _ Rc0
    obtain ⟨Sc0, Sc1, -, -⟩ := S_11.out
    have Slt : w7.heap.size < w11.heap.size := World.block_lt_of_cell? _ _ Sc0
    obtain ⟨Tc0, Tc1, -, -⟩ := T_11.out
    have Tlt : w8.heap.size < w11.heap.size := World.block_lt_of_cell? _ _ Tc0
    obtain ⟨Uc0, Uc1, -, -⟩ := U_11.out
    have Ult : w9.heap.size < w11.heap.size := World.block_lt_of_cell? _ _ Uc0
    obtain ⟨Vc0, Vc1, -, -⟩ := V_11.out
    have Vlt : w10.heap.size < w11.heap.size := World.block_lt_of_cell? _ _ Vc0
    go_wp2_with fail
    refine (eq_same _ _ _).mono ?_
    rintro e w12 ⟨rfl, b12⟩
    have X_12 := hid ((X_11.out).below b12)
    have Y_12 := hid ((Y_11.out).below b12)
    have A_12 := hid ((A_11.out).below b12)
    have O_12 := hid ((O_11.out).below b12)
    have R_12 := hid ((R_11.out).below b12)
    have S_12 := hid ((S_11.out).below b12)
    have T_12 := hid ((T_11.out).below b12)
    have U_12 := hid ((U_11.out).below b12)
    have V_12 := hid ((V_11.out).below b12)
    have BL12 := hid (Bl.step BL11.out b12)
    clear b12 Xc0 Xc1 Xlt Yc0 Yc1 Ylt Ac0 Ac1 Alt Oc0 Oc1 Olt Rc0 Rc1 Rlt Sc0 Sc1 Slt Tc0 Tc1 Tlt Uc0 Uc1 Ult Vc0 Vc1 Vlt X_11 Y_11 A_11 O_11 R_11 S_11 T_11 U_11 V_11 BL11
    obtain ⟨Xc0, Xc1, -, -⟩ := X_12.out
    have Xlt : w3.heap.size < w12.heap.size := World.block_lt_of_cell? _ _ Xc0
    obtain ⟨Yc0, Yc1, -, -⟩ := Y_12.out
    have Ylt : w3.heap.size + 1 < w12.heap.size := World.block_lt_of_cell? _ _ Yc0
    obtain ⟨Ac0, Ac1, -, -⟩ := A_12.out
    have Alt : w4.heap.size < w12.heap.size := World.block_lt_of_cell? _ _ Ac0
    obtain ⟨Oc0, Oc1, -, -⟩ := O_12.out
    have Olt : w5.heap.size < w12.heap.size := World.block_lt_of_cell? _ _ Oc0
    obtain ⟨Rc0, Rc1, -, -⟩ := R_12.out
    have Rlt : w6.heap.size < w12.heap.size := World.block_lt_of_cell? _ _ Rc0
    obtain ⟨Sc0, Sc1, -, -⟩ := S_12.out
    have Slt : w7.heap.size < w12.heap.size := World.block_lt_of_cell? _ _ Sc0
    obtain ⟨Tc0, Tc1, -, -⟩ := T_12.out
    have Tlt : w8.heap.size < w12.heap.size := World.block_lt_of_cell? _ _ Tc0
    obtain ⟨Uc0, Uc1, -, -⟩ := U_12.out
    have Ult : w9.heap.size < w12.heap.size := World.block_lt_of_cell? _ _ Uc0
    obtain ⟨Vc0, Vc1, -, -⟩ := V_12.out
    have Vlt : w10.heap.size < w12.heap.size := World.block_lt_of_cell? _ _ Vc0
    go_wp2_with fail
    refine (eq_same _ _ _).mono ?_
    rintro e w13 ⟨rfl, b13⟩
    have X_13 := hid ((X_12.out).below b13)
    have Y_13 := hid ((Y_12.out).below b13)
    have A_13 := hid ((A_12.out).below b13)
    have O_13 := hid ((O_12.out).below b13)
    have R_13 := hid ((R_12.out).below b13)
    have S_13 := hid ((S_12.out).below b13)
    have T_13 := hid ((T_12.out).below b13)
    have U_13 := hid ((U_12.out).below b13)
    have V_13 := hid ((V_12.out).below b13)
    have BL13 := hid (Bl.step BL12.out b13)
    clear b13 Xc0 Xc1 Xlt Yc0 Yc1 Ylt Ac0 Ac1 Alt Oc0 Oc1 Olt Rc0 Rc1 Rlt Sc0 Sc1 Slt Tc0 Tc1 Tlt Uc0 Uc1 Ult Vc0 Vc1 Vlt X_12 Y_12 A_12 O_12 R_12 S_12 T_12 U_12 V_12 BL12
    obtain ⟨Xc0, Xc1, -, -⟩ := X_13.out
    have Xlt : w3.heap.size < w13.heap.size := World.block_lt_of_cell? _ _ Xc0
    obtain ⟨Yc0, Yc1, -, -⟩ := Y_13.out
    have Ylt : w3.heap.size + 1 < w13.heap.size := World.block_lt_of_cell? _ _ Yc0
    obtain ⟨Ac0, Ac1, -, -⟩ := A_13.out
    have Alt : w4.heap.size < w13.heap.size := World.block_lt_of_cell? _ _ Ac0
    obtain ⟨Oc0, Oc1, -, -⟩ := O_13.out
    have Olt : w5.heap.size < w13.heap.size := World.block_lt_of_cell? _ _ Oc0
    obtain ⟨Rc0, Rc1, -, -⟩ := R_13.out
    have Rlt : w6.heap.size < w13.heap.size := World.block_lt_of_cell? _ _ Rc0
    obtain ⟨Sc0, Sc1, -, -⟩ := S_13.out
    have Slt : w7.heap.size < w13.heap.size := World.block_lt_of_cell? _ _ Sc0
    obtain ⟨Tc0, Tc1, -, -⟩ := T_13.out
    have Tlt : w8.heap.size < w13.heap.size := World.block_lt_of_cell? _ _ Tc0
    obtain ⟨Uc0, Uc1, -, -⟩ := U_13.out
    have Ult : w9.heap.size < w13.heap.size := World.block_lt_of_cell? _ _ Uc0
    obtain ⟨Vc0, Vc1, -, -⟩ := V_13.out
    have Vlt : w10.heap.size < w13.heap.size := World.block_lt_of_cell? _ _ Vc0
    go_wp2_with fail
    go_ret
    exact ⟨by simp, BL13.out⟩
  · skip
    obtain ⟨x, hx⟩ : ∃ x, sg 2 a = x := ⟨_, rfl⟩
    obtain ⟨y, hy⟩ : ∃ x, sg 2 b = x := ⟨_, rfl⟩
    obtain ⟨ox, rx, oy, ry⟩ : okv 2 x = true ∧ In64 x ∧ okv 2 y = true ∧ In64 y := by rw [← hx, ← hy]; exact ⟨okv_sg _ _ (by decide), in64_sg _ _, okv_sg _ _ (by decide), in64_sg _ _⟩
    obtain ⟨A, hA⟩ : ∃ z, bits BinOp.and IntKind.i64 x y = z := ⟨_, rfl⟩
    obtain ⟨O, hO⟩ : ∃ z, bits BinOp.or IntKind.i64 x y = z := ⟨_, rfl⟩
    obtain ⟨R, hR⟩ : ∃ z, bits BinOp.xor IntKind.i64 x y = z := ⟨_, rfl⟩
    obtain ⟨oA, rA, iA⟩ := bits_ok (op := .and) (by simp) 2 x y ox oy rx ry
    obtain ⟨oO, rO, iO⟩ := bits_ok (op := .or) (by simp) 2 x y ox oy rx ry
    obtain ⟨oR, rR, iR⟩ := bits_ok (op := .xor) (by simp) 2 x y ox oy rx ry
    have m1 := mask_sum x y
    have m2 := mask_or x y
    have m3 := mask_xor x y rx
    rw [hA] at oA rA iA m1 m2
    rw [hO] at oO rO iO m1 m2
    rw [hR] at oR rR iR m2 m3
    obtain ⟨S, hS⟩ : ∃ z, sg 2 (wrap64 (x + y)) = z := ⟨_, rfl⟩
    have hS2 : sg 2 (wrap64 (A + O)) = S := by rw [← hS, sg_wrap64, sg_wrap64]; exact sg_mod _ _ _ (by omega)
    have H1 : Hid (twoS 131 2 x 2 y = (2, A, 0)) := hid (by rw [twoS_mid (c := 2) (b := 113) (by decide) ox oy, mid_calc _ _ _ _ (by decide) (by decide), calc_and, hA, iA])
    have H2 : Hid (twoS 132 2 x 2 y = (2, O, 0)) := hid (by rw [twoS_mid (c := 2) (b := 114) (by decide) ox oy, mid_calc _ _ _ _ (by decide) (by decide), calc_or, hO, iO])
    have H3 : Hid (twoS 133 2 x 2 y = (2, R, 0)) := hid (by rw [twoS_mid (c := 2) (b := 115) (by decide) ox oy, mid_calc _ _ _ _ (by decide) (by decide), calc_xor, hR, iR])
    have H4 : Hid (twoS 124 2 A 2 O = (2, S, 0)) := hid (by rw [twoS_mid (c := 2) (b := 106) (by decide) oA oO, mid_calc _ _ _ _ (by decide) (by decide), calc_add, hS2])
    have H5 : Hid (twoS 124 2 x 2 y = (2, S, 0)) := hid (by rw [twoS_mid (c := 2) (b := 106) (by decide) ox oy, mid_calc _ _ _ _ (by decide) (by decide), calc_add, hS])
    have H6 : Hid (twoS 132 2 A 2 R = (2, O, 0)) := hid (by rw [twoS_mid (c := 2) (b := 114) (by decide) oA oR, mid_calc _ _ _ _ (by decide) (by decide), calc_or, m2, iO])
    have H7 : Hid (twoS 133 2 R 2 y = (2, x, 0)) := hid (by rw [twoS_mid (c := 2) (b := 115) (by decide) oR oy, mid_calc _ _ _ _ (by decide) (by decide), calc_xor, m3, sg_id _ _ ox rx])
    have Hx := hid hx
    have Hy := hid hy
    have Rx := hid rx
    have Ry := hid ry
    have Ra := hid rA
    have Ro := hid rO
    have Rr := hid rR
    have Ha := hid ha
    have Hb := hid hb
    clear hx hy ox oy rx ry oA oO oR rA rO rR iA iO iR m1 m2 m3 hS hS2 ha hb
    have HL := hid hL
    clear hL
    go_enter Tryd.func9, Tryd.ntmps9
    go_wp2_with fail
    refine (begun_any _ HL.out).mono ?_
    rintro e w1 ⟨rfl, b1⟩
    have BL1 := hid (Bl.step (Bl.refl _) b1)
    clear b1
    go_wp2_with fail
    refine (refWrap_to 2 a x (by decide) Ha.out Hx.out _).mono ?_
    rintro e w2 ⟨rfl, b2⟩
    have BL2 := hid (Bl.step BL1.out b2)
    clear b2 BL1
    go_wp2_with fail
    refine (refWrap_to 2 b y (by decide) Hb.out Hy.out _).mono ?_
    rintro e w3 ⟨rfl, b3⟩
    have BL3 := hid (Bl.step BL2.out b3)
    clear b3 BL2
    go_wp2_with fail
    refine (two_to _ _ _ _ _ _ _ _ Rx.out Ry.out H1.out _).mono ?_
    rintro e w4 ⟨rfl, b4⟩
    have X_4 := hid (((Pair.new _ _ _ _ (p := w3.heap.size) (by simp)).alloc _).below b4)
    have Y_4 := hid (((Pair.new _ _ _ _ (p := w3.heap.size + 1) (by simp))).below b4)
    have BL4 := hid (Bl.step (Bl.alloc (Bl.alloc BL3.out _) _) b4)
    clear b4 BL3
    obtain ⟨Xc0, Xc1, -, -⟩ := X_4.out
    have Xlt : w3.heap.size < w4.heap.size := World.block_lt_of_cell? _ _ Xc0
    obtain ⟨Yc0, Yc1, -, -⟩ := Y_4.out
    have Ylt : w3.heap.size + 1 < w4.heap.size := World.block_lt_of_cell? _ _ Yc0
    go_wp2_with fail
    refine (two_to _ _ _ _ _ _ _ _ Rx.out Ry.out H2.out _).mono ?_
    rintro e w5 ⟨rfl, b5⟩
    have X_5 := hid ((X_4.out.alloc _).below b5)
    have Y_5 := hid ((Y_4.out.alloc _).below b5)
    have A_5 := hid (((Pair.new _ _ _ _ (p := w4.heap.size) (by simp))).below b5)
    have BL5 := hid (Bl.step (Bl.alloc BL4.out _) b5)
    clear b5 Xc0 Xc1 Xlt Yc0 Yc1 Ylt X_4 Y_4 BL4
    obtain ⟨Xc0, Xc1, -, -⟩ := X_5.out
    have Xlt : w3.heap.size < w5.heap.size := World.block_lt_of_cell? _ _ Xc0
    obtain ⟨Yc0, Yc1, -, -⟩ := Y_5.out
    have Ylt : w3.heap.size + 1 < w5.heap.size := World.block_lt_of_cell? _ _ Yc0
    obtain ⟨Ac0, Ac1, -, -⟩ := A_5.out
    have Alt : w4.heap.size < w5.heap.size := World.block_lt_of_cell? _ _ Ac0
    go_wp2_with fail
    refine (two_to _ _ _ _ _ _ _ _ Rx.out Ry.out H3.out _).mono ?_
    rintro e w6 ⟨rfl, b6⟩
    have X_6 := hid ((X_5.out.alloc _).below b6)
    have Y_6 := hid ((Y_5.out.alloc _).below b6)
    have A_6 := hid ((A_5.out.alloc _).below b6)
    have O_6 := hid (((Pair.new _ _ _ _ (p := w5.heap.size) (by simp))).below b6)
    have BL6 := hid (Bl.step (Bl.alloc BL5.out _) b6)
    clear b6 Xc0 Xc1 Xlt Yc0 Yc1 Ylt Ac0 Ac1 Alt X_5 Y_5 A_5 BL5
    obtain ⟨Xc0, Xc1, -, -⟩ := X_6.out
    have Xlt : w3.heap.size < w6.heap.size := World.block_lt_of_cell? _ _ Xc0
    obtain ⟨Yc0, Yc1, -, -⟩ := Y_6.out
    have Ylt : w3.heap.size + 1 < w6.heap.size := World.block_lt_of_cell? _ _ Yc0
    obtain ⟨Ac0, Ac1, -, -⟩ := A_6.out
    have Alt : w4.heap.size < w6.heap.size := World.block_lt_of_cell? _ _ Ac0
    obtain ⟨Oc0, Oc1, -, -⟩ := O_6.out
    have Olt : w5.heap.size < w6.heap.size := World.block_lt_of_cell? _ _ Oc0
    go_wp2_with fail
    refine (two_to _ _ _ _ _ _ _ _ Ra.out Ro.out H4.out _).mono ?_
    rintro e w7 ⟨rfl, b7⟩
    have X_7 := hid ((X_6.out.alloc _).below b7)
    have Y_7 := hid ((Y_6.out.alloc _).below b7)
    have A_7 := hid ((A_6.out.alloc _).below b7)
    have O_7 := hid ((O_6.out.alloc _).below b7)
    have R_7 := hid (((Pair.new _ _ _ _ (p := w6.heap.size) (by simp))).below b7)
    have BL7 := hid (Bl.step (Bl.alloc BL6.out _) b7)
    clear b7 Xc0 Xc1 Xlt Yc0 Yc1 Ylt Ac0 Ac1 Alt Oc0 Oc1 Olt X_6 Y_6 A_6 O_6 BL6
    obtain ⟨Xc0, Xc1, -, -⟩ := X_7.out
    have Xlt : w3.heap.size < w7.heap.size := World.block_lt_of_cell? _ _ Xc0
    obtain ⟨Yc0, Yc1, -, -⟩ := Y_7.out
    have Ylt : w3.heap.size + 1 < w7.heap.size := World.block_lt_of_cell? _ _ Yc0
    obtain ⟨Ac0, Ac1, -, -⟩ := A_7.out
    have Alt : w4.heap.size < w7.heap.size := World.block_lt_of_cell? _ _ Ac0
    obtain ⟨Oc0, Oc1, -, -⟩ := O_7.out
    have Olt : w5.heap.size < w7.heap.size := World.block_lt_of_cell? _ _ Oc0
    obtain ⟨Rc0, Rc1, -, -⟩ := R_7.out
    have Rlt : w6.heap.size < w7.heap.size := World.block_lt_of_cell? _ _ Rc0
    go_wp2_with fail
    refine (two_to _ _ _ _ _ _ _ _ Rx.out Ry.out H5.out _).mono ?_
    rintro e w8 ⟨rfl, b8⟩
    have X_8 := hid ((X_7.out.alloc _).below b8)
    have Y_8 := hid ((Y_7.out.alloc _).below b8)
    have A_8 := hid ((A_7.out.alloc _).below b8)
    have O_8 := hid ((O_7.out.alloc _).below b8)
    have R_8 := hid ((R_7.out.alloc _).below b8)
    have S_8 := hid (((Pair.new _ _ _ _ (p := w7.heap.size) (by simp))).below b8)
    have BL8 := hid (Bl.step (Bl.alloc BL7.out _) b8)
    clear b8 Xc0 Xc1 Xlt Yc0 Yc1 Ylt Ac0 Ac1 Alt Oc0 Oc1 Olt Rc0 Rc1 Rlt X_7 Y_7 A_7 O_7 R_7 BL7
    obtain ⟨Xc0, Xc1, -, -⟩ := X_8.out
    have Xlt : w3.heap.size < w8.heap.size := World.block_lt_of_cell? _ _ Xc0
    obtain ⟨Yc0, Yc1, -, -⟩ := Y_8.out
    have Ylt : w3.heap.size + 1 < w8.heap.size := World.block_lt_of_cell? _ _ Yc0
    obtain ⟨Ac0, Ac1, -, -⟩ := A_8.out
    have Alt : w4.heap.size < w8.heap.size := World.block_lt_of_cell? _ _ Ac0
    obtain ⟨Oc0, Oc1, -, -⟩ := O_8.out
    have Olt : w5.heap.size < w8.heap.size := World.block_lt_of_cell? _ _ Oc0
    obtain ⟨Rc0, Rc1, -, -⟩ := R_8.out
    have Rlt : w6.heap.size < w8.heap.size := World.block_lt_of_cell? _ _ Rc0
    obtain ⟨Sc0, Sc1, -, -⟩ := S_8.out
    have Slt : w7.heap.size < w8.heap.size := World.block_lt_of_cell? _ _ Sc0
    go_wp2_with fail
    refine (two_to _ _ _ _ _ _ _ _ Ra.out Rr.out H6.out _).mono ?_
    rintro e w9 ⟨rfl, b9⟩
    have X_9 := hid ((X_8.out.alloc _).below b9)
    have Y_9 := hid ((Y_8.out.alloc _).below b9)
    have A_9 := hid ((A_8.out.alloc _).below b9)
    have O_9 := hid ((O_8.out.alloc _).below b9)
    have R_9 := hid ((R_8.out.alloc _).below b9)
    have S_9 := hid ((S_8.out.alloc _).below b9)
    have T_9 := hid (((Pair.new _ _ _ _ (p := w8.heap.size) (by simp))).below b9)
    have BL9 := hid (Bl.step (Bl.alloc BL8.out _) b9)
    clear b9 Xc0 Xc1 Xlt Yc0 Yc1 Ylt Ac0 Ac1 Alt Oc0 Oc1 Olt Rc0 Rc1 Rlt Sc0 Sc1 Slt X_8 Y_8 A_8 O_8 R_8 S_8 BL8
    obtain ⟨Xc0, Xc1, -, -⟩ := X_9.out
    have Xlt : w3.heap.size < w9.heap.size := World.block_lt_of_cell? _ _ Xc0
    obtain ⟨Yc0, Yc1, -, -⟩ := Y_9.out
    have Ylt : w3.heap.size + 1 < w9.heap.size := World.block_lt_of_cell? _ _ Yc0
    obtain ⟨Ac0, Ac1, -, -⟩ := A_9.out
    have Alt : w4.heap.size < w9.heap.size := World.block_lt_of_cell? _ _ Ac0
    obtain ⟨Oc0, Oc1, -, -⟩ := O_9.out
    have Olt : w5.heap.size < w9.heap.size := World.block_lt_of_cell? _ _ Oc0
    obtain ⟨Rc0, Rc1, -, -⟩ := R_9.out
    have Rlt : w6.heap.size < w9.heap.size := World.block_lt_of_cell? _ _ Rc0
    obtain ⟨Sc0, Sc1, -, -⟩ := S_9.out
    have Slt : w7.heap.size < w9.heap.size := World.block_lt_of_cell? _ _ Sc0
    obtain ⟨Tc0, Tc1, -, -⟩ := T_9.out
    have Tlt : w8.heap.size < w9.heap.size := World.block_lt_of_cell? _ _ Tc0
    go_wp2_with fail
    refine (two_to _ _ _ _ _ _ _ _ Rr.out Ry.out H7.out _).mono ?_
    rintro e w10 ⟨rfl, b10⟩
    have X_10 := hid ((X_9.out.alloc _).below b10)
    have Y_10 := hid ((Y_9.out.alloc _).below b10)
    have A_10 := hid ((A_9.out.alloc _).below b10)
    have O_10 := hid ((O_9.out.alloc _).below b10)
    have R_10 := hid ((R_9.out.alloc _).below b10)
    have S_10 := hid ((S_9.out.alloc _).below b10)
    have T_10 := hid ((T_9.out.alloc _).below b10)
    have U_10 := hid (((Pair.new _ _ _ _ (p := w9.heap.size) (by simp))).below b10)
    have BL10 := hid (Bl.step (Bl.alloc BL9.out _) b10)
    clear b10 Xc0 Xc1 Xlt Yc0 Yc1 Ylt Ac0 Ac1 Alt Oc0 Oc1 Olt Rc0 Rc1 Rlt Sc0 Sc1 Slt Tc0 Tc1 Tlt X_9 Y_9 A_9 O_9 R_9 S_9 T_9 BL9
    obtain ⟨Xc0, Xc1, -, -⟩ := X_10.out
    have Xlt : w3.heap.size < w10.heap.size := World.block_lt_of_cell? _ _ Xc0
    obtain ⟨Yc0, Yc1, -, -⟩ := Y_10.out
    have Ylt : w3.heap.size + 1 < w10.heap.size := World.block_lt_of_cell? _ _ Yc0
    obtain ⟨Ac0, Ac1, -, -⟩ := A_10.out
    have Alt : w4.heap.size < w10.heap.size := World.block_lt_of_cell? _ _ Ac0
    obtain ⟨Oc0, Oc1, -, -⟩ := O_10.out
    have Olt : w5.heap.size < w10.heap.size := World.block_lt_of_cell? _ _ Oc0
    obtain ⟨Rc0, Rc1, -, -⟩ := R_10.out
    have Rlt : w6.heap.size < w10.heap.size := World.block_lt_of_cell? _ _ Rc0
    obtain ⟨Sc0, Sc1, -, -⟩ := S_10.out
    have Slt : w7.heap.size < w10.heap.size := World.block_lt_of_cell? _ _ Sc0
    obtain ⟨Tc0, Tc1, -, -⟩ := T_10.out
    have Tlt : w8.heap.size < w10.heap.size := World.block_lt_of_cell? _ _ Tc0
    obtain ⟨Uc0, Uc1, -, -⟩ := U_10.out
    have Ult : w9.heap.size < w10.heap.size := World.block_lt_of_cell? _ _ Uc0
    go_wp2_with fail
    refine (eq_same _ _ _).mono ?_
    rintro e w11 ⟨rfl, b11⟩
    have X_11 := hid ((X_10.out.alloc _).below b11)
    have Y_11 := hid ((Y_10.out.alloc _).below b11)
    have A_11 := hid ((A_10.out.alloc _).below b11)
    have O_11 := hid ((O_10.out.alloc _).below b11)
    have R_11 := hid ((R_10.out.alloc _).below b11)
    have S_11 := hid ((S_10.out.alloc _).below b11)
    have T_11 := hid ((T_10.out.alloc _).below b11)
    have U_11 := hid ((U_10.out.alloc _).below b11)
    have V_11 := hid (((Pair.new _ _ _ _ (p := w10.heap.size) (by simp))).below b11)
    have BL11 := hid (Bl.step (Bl.alloc BL10.out _) b11)
    clear b11 Xc0 Xc1 Xlt Yc0 Yc1 Ylt Ac0 Ac1 Alt Oc0 Oc1 Olt Rc0 Rc1 Rlt Sc0 Sc1 Slt Tc0 Tc1 Tlt Uc0 Uc1 Ult X_10 Y_10 A_10 O_10 R_10 S_10 T_10 U_10 BL10
    obtain ⟨Xc0, Xc1, -, -⟩ := X_11.out
    have Xlt : w3.heap.size < w11.heap.size := World.block_lt_of_cell? _ _ Xc0
    obtain ⟨Yc0, Yc1, -, -⟩ := Y_11.out
    have Ylt : w3.heap.size + 1 < w11.heap.size := World.block_lt_of_cell? _ _ Yc0
    obtain ⟨Ac0, Ac1, -, -⟩ := A_11.out
    have Alt : w4.heap.size < w11.heap.size := World.block_lt_of_cell? _ _ Ac0
    obtain ⟨Oc0, Oc1, -, -⟩ := O_11.out
    have Olt : w5.heap.size < w11.heap.size := World.block_lt_of_cell? _ _ Oc0
    obtain ⟨Rc0, Rc1, -, -⟩ := R_11.out
    have Rlt : w6.heap.size < w11.heap.size := World.block_lt_of_cell? _ _ Rc0
    obtain ⟨Sc0, Sc1, -, -⟩ := S_11.out
    have Slt : w7.heap.size < w11.heap.size := World.block_lt_of_cell? _ _ Sc0
    obtain ⟨Tc0, Tc1, -, -⟩ := T_11.out
    have Tlt : w8.heap.size < w11.heap.size := World.block_lt_of_cell? _ _ Tc0
    obtain ⟨Uc0, Uc1, -, -⟩ := U_11.out
    have Ult : w9.heap.size < w11.heap.size := World.block_lt_of_cell? _ _ Uc0
    obtain ⟨Vc0, Vc1, -, -⟩ := V_11.out
    have Vlt : w10.heap.size < w11.heap.size := World.block_lt_of_cell? _ _ Vc0
    go_wp2_with fail
    refine (eq_same _ _ _).mono ?_
    rintro e w12 ⟨rfl, b12⟩
    have X_12 := hid ((X_11.out).below b12)
    have Y_12 := hid ((Y_11.out).below b12)
    have A_12 := hid ((A_11.out).below b12)
    have O_12 := hid ((O_11.out).below b12)
    have R_12 := hid ((R_11.out).below b12)
    have S_12 := hid ((S_11.out).below b12)
    have T_12 := hid ((T_11.out).below b12)
    have U_12 := hid ((U_11.out).below b12)
    have V_12 := hid ((V_11.out).below b12)
    have BL12 := hid (Bl.step BL11.out b12)
    clear b12 Xc0 Xc1 Xlt Yc0 Yc1 Ylt Ac0 Ac1 Alt Oc0 Oc1 Olt Rc0 Rc1 Rlt Sc0 Sc1 Slt Tc0 Tc1 Tlt Uc0 Uc1 Ult Vc0 Vc1 Vlt X_11 Y_11 A_11 O_11 R_11 S_11 T_11 U_11 V_11 BL11
    obtain ⟨Xc0, Xc1, -, -⟩ := X_12.out
    have Xlt : w3.heap.size < w12.heap.size := World.block_lt_of_cell? _ _ Xc0
    obtain ⟨Yc0, Yc1, -, -⟩ := Y_12.out
    have Ylt : w3.heap.size + 1 < w12.heap.size := World.block_lt_of_cell? _ _ Yc0
    obtain ⟨Ac0, Ac1, -, -⟩ := A_12.out
    have Alt : w4.heap.size < w12.heap.size := World.block_lt_of_cell? _ _ Ac0
    obtain ⟨Oc0, Oc1, -, -⟩ := O_12.out
    have Olt : w5.heap.size < w12.heap.size := World.block_lt_of_cell? _ _ Oc0
    obtain ⟨Rc0, Rc1, -, -⟩ := R_12.out
    have Rlt : w6.heap.size < w12.heap.size := World.block_lt_of_cell? _ _ Rc0
    obtain ⟨Sc0, Sc1, -, -⟩ := S_12.out
    have Slt : w7.heap.size < w12.heap.size := World.block_lt_of_cell? _ _ Sc0
    obtain ⟨Tc0, Tc1, -, -⟩ := T_12.out
    have Tlt : w8.heap.size < w12.heap.size := World.block_lt_of_cell? _ _ Tc0
    obtain ⟨Uc0, Uc1, -, -⟩ := U_12.out
    have Ult : w9.heap.size < w12.heap.size := World.block_lt_of_cell? _ _ Uc0
    obtain ⟨Vc0, Vc1, -, -⟩ := V_12.out
    have Vlt : w10.heap.size < w12.heap.size := World.block_lt_of_cell? _ _ Vc0
    go_wp2_with fail
    refine (eq_same _ _ _).mono ?_
    rintro e w13 ⟨rfl, b13⟩
    have X_13 := hid ((X_12.out).below b13)
    have Y_13 := hid ((Y_12.out).below b13)
    have A_13 := hid ((A_12.out).below b13)
    have O_13 := hid ((O_12.out).below b13)
    have R_13 := hid ((R_12.out).below b13)
    have S_13 := hid ((S_12.out).below b13)
    have T_13 := hid ((T_12.out).below b13)
    have U_13 := hid ((U_12.out).below b13)
    have V_13 := hid ((V_12.out).below b13)
    have BL13 := hid (Bl.step BL12.out b13)
    clear b13 Xc0 Xc1 Xlt Yc0 Yc1 Ylt Ac0 Ac1 Alt Oc0 Oc1 Olt Rc0 Rc1 Rlt Sc0 Sc1 Slt Tc0 Tc1 Tlt Uc0 Uc1 Ult Vc0 Vc1 Vlt X_12 Y_12 A_12 O_12 R_12 S_12 T_12 U_12 V_12 BL12
    obtain ⟨Xc0, Xc1, -, -⟩ := X_13.out
    have Xlt : w3.heap.size < w13.heap.size := World.block_lt_of_cell? _ _ Xc0
    obtain ⟨Yc0, Yc1, -, -⟩ := Y_13.out
    have Ylt : w3.heap.size + 1 < w13.heap.size := World.block_lt_of_cell? _ _ Yc0
    obtain ⟨Ac0, Ac1, -, -⟩ := A_13.out
    have Alt : w4.heap.size < w13.heap.size := World.block_lt_of_cell? _ _ Ac0
    obtain ⟨Oc0, Oc1, -, -⟩ := O_13.out
    have Olt : w5.heap.size < w13.heap.size := World.block_lt_of_cell? _ _ Oc0
    obtain ⟨Rc0, Rc1, -, -⟩ := R_13.out
    have Rlt : w6.heap.size < w13.heap.size := World.block_lt_of_cell? _ _ Rc0
    obtain ⟨Sc0, Sc1, -, -⟩ := S_13.out
    have Slt : w7.heap.size < w13.heap.size := World.block_lt_of_cell? _ _ Sc0
    obtain ⟨Tc0, Tc1, -, -⟩ := T_13.out
    have Tlt : w8.heap.size < w13.heap.size := World.block_lt_of_cell? _ _ Tc0
    obtain ⟨Uc0, Uc1, -, -⟩ := U_13.out
    have Ult : w9.heap.size < w13.heap.size := World.block_lt_of_cell? _ _ Uc0
    obtain ⟨Vc0, Vc1, -, -⟩ := V_13.out
    have Vlt : w10.heap.size < w13.heap.size := World.block_lt_of_cell? _ _ Vc0
    go_wp2_with fail
    go_ret
    exact ⟨by simp, BL13.out⟩
end Go.Proofs.YtiohgigbnncpiaaDoor
