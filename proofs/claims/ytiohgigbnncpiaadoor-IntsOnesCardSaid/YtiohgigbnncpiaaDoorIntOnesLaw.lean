/- A number and its contrary have as many ones as there are bits; leading noughts and digits, too. -/
import Derived.Test.YtiohgigbnncpiaaDoorIntMasksLaw
import Derived.Test.YtiohgigbnncpiaaDoorIntPc
namespace Go.Proofs.YtiohgigbnncpiaaDoor
open Go.RowKit

theorem flip64 {n : Nat} (h : n < 18446744073709551616) : 18446744073709551615 - n = 18446744073709551615 ^^^ n := by
  refine Nat.eq_of_testBit_eq fun i => ?_
  rw [Nat.testBit_xor, show 18446744073709551615 - n = 2 ^ 64 - (n + 1) from by omega, Nat.testBit_two_pow_sub_succ h, show (18446744073709551615 : Nat) = 2 ^ 64 - 1 from by decide, Nat.testBit_two_pow_sub_one]
  by_cases h' : i < 64
  · simp [h']
  · simp [h', Nat.testBit_lt_two_pow (Nat.lt_of_lt_of_le h (Nat.pow_le_pow_right (by decide : 0 < 2) (by omega : 64 ≤ i)))]
theorem not_val (a : Int) : (bits BinOp.xor IntKind.i64 (-1) a) % 18446744073709551616 = (-1 - a) % 18446744073709551616 := by
  have l := bits_low (op := .xor) (by simp) (-1) a
  have e : nn (-1) = 18446744073709551615 := by decide
  have f := flip64 (n := nn a) (by unfold nn; omega)
  simp only [bitsN] at l
  rw [e, ← f] at l
  unfold nn at *
  omega
/-- The contrary's bits. -/
theorem not_un (c a : Int) (hk : c = 1 ∨ c = 2) : un c (sg c (bits BinOp.xor IntKind.i64 (-1) a)) = 2 ^ wd c - 1 - un c (sg c a) := by
  have h := not_val a
  unfold un sg wd
  rcases hk with rfl | rfl
  · simp only [if_true]
    rw [show (2 : Int) ^ 32 = 4294967296 from by decide]
    omega
  · simp only [show ¬ (2 : Int) = 1 from by decide, if_false]
    rw [show (2 : Int) ^ 64 = 18446744073709551616 from by decide]
    omega
theorem ones_facts (c x y : Int) (ox : okv c x = true) (rx : In64 x) (hk : c = 1 ∨ c = 2) (h : un c y = 2 ^ wd c - 1 - un c x) :
    pc 64 (un c x).toNat + pc 64 (un c y).toNat = wd c ∧
    (0 ≤ (wd c : Int) - (Lib.bitLen (un c x).toNat : Int) ∧ (wd c : Int) - (Lib.bitLen (un c x).toNat : Int) ≤ 64) ∧
    (min (Lib.ctz 64 (un c x).toNat) (wd c) ≤ wd c ∧ wd c ≤ 64) ∧
    ((wd c : Int) - (Lib.bitLen (un c x).toNat : Int) ≤ wd c) ∧
    ((x = 0 ∧ (wd c : Int) - (Lib.bitLen (un c x).toNat : Int) = wd c ∧ min (Lib.ctz 64 (un c x).toNat) (wd c) = wd c ∧ pc 64 (un c x).toNat = 0) ∨
     (x ≠ 0 ∧ (wd c : Int) - (Lib.bitLen (un c x).toNat : Int) < wd c ∧ min (Lib.ctz 64 (un c x).toNat) (wd c) < wd c ∧ (wd c : Int) - (Lib.bitLen (un c x).toNat : Int) + (min (Lib.ctz 64 (un c x).toNat) (wd c) : Nat) + (pc 64 (un c x).toNat : Int) ≤ wd c)) := by
  have z := un_pos c x hk ox rx
  have hu := un_in c x
  obtain ⟨u, hu2⟩ : ∃ u, (un c x).toNat = u := ⟨_, rfl⟩
  have hw : wd c = 32 ∨ wd c = 64 := by unfold wd; split <;> simp
  have hlt : u < 2 ^ wd c := by
    rw [← hu2]
    unfold un wd
    rcases hk with rfl | rfl
    · simp only [if_true]
      rw [show (2 : Nat) ^ 32 = 4294967296 from by decide]
      omega
    · simp only [show ¬ (2 : Int) = 1 from by decide, if_false]
      rw [show (2 : Nat) ^ 64 = 18446744073709551616 from by decide]
      omega
  have hy2 : (un c y).toNat = 2 ^ wd c - 1 - u := by
    rw [h]
    have e : ((2 ^ wd c : Nat) : Int) = 2 ^ wd c := by simp
    omega
  have u64 : u < 18446744073709551616 := by rw [← hu2]; omega
  have sum : pc 64 u + pc 64 (2 ^ wd c - 1 - u) = wd c := by
    have e1 := pc_wide (wd c) (64 - wd c) u hlt
    have e2 := pc_wide (wd c) (64 - wd c) (2 ^ wd c - 1 - u) (by omega)
    rw [show wd c + (64 - wd c) = 64 by omega] at e1 e2
    rw [e1, e2]
    exact pc_not _ _ hlt
  have bl : Lib.bitLen u ≤ wd c := Lib.bitLen_le u (wd c) (by omega) hlt
  rw [hu2, hy2]
  refine ⟨sum, by omega, by omega, by omega, ?_⟩
  by_cases h0 : x = 0
  · left
    have hu0 : u = 0 := by rw [← hu2, z.1 h0]; rfl
    subst hu0
    refine ⟨h0, by simp [show Lib.bitLen 0 = 0 from by decide], ?_, pc_zero _⟩
    have : Lib.ctz 64 0 = 64 := by decide
    omega
  · right
    have hu0 : u ≠ 0 := by
      intro e
      rw [e] at hu2
      exact h0 (z.2 (by omega))
    have k := ctz_pc_len u hu0 u64
    omega
set_option maxRecDepth 20000 in
set_option maxHeartbeats 4000000 in
theorem intsOnes_walk (a : Int) (wide : Bool) (ha : In64 a) (w : World) (hL : Laid w) :
    Calls Tryd.prog 10 #[.int .i64 a, .bool wide] w fun e w' => e = .returned (.bool true) ∧ Below w.heap.size w w' := by
  cases wide
  · skip
    obtain ⟨x, hx⟩ : ∃ x, sg 1 a = x := ⟨_, rfl⟩
    obtain ⟨y, hy⟩ : ∃ x, sg 1 (bits BinOp.xor IntKind.i64 (-1) a) = x := ⟨_, rfl⟩
    obtain ⟨ox, rx, oy, ry⟩ : okv 1 x = true ∧ In64 x ∧ okv 1 y = true ∧ In64 y := by rw [← hx, ← hy]; exact ⟨okv_sg _ _ (by decide), in64_sg _ _, okv_sg _ _ (by decide), in64_sg _ _⟩
    have hun := not_un 1 a (by decide)
    rw [hx, hy] at hun
    obtain ⟨f1, f2, f3, f4, f5⟩ := ones_facts 1 x y ox rx (by decide) hun
    obtain ⟨p, hp⟩ : ∃ p, pc 64 (un 1 x).toNat = p := ⟨_, rfl⟩
    obtain ⟨q, hq⟩ : ∃ p, pc 64 (un 1 y).toNat = p := ⟨_, rfl⟩
    obtain ⟨l, hl⟩ : ∃ l : Int, (32 : Int) - (Lib.bitLen (un 1 x).toNat : Int) = l := ⟨_, rfl⟩
    obtain ⟨t, ht⟩ : ∃ t, min (Lib.ctz 64 (un 1 x).toNat) 32 = t := ⟨_, rfl⟩
    have hw : wd 1 = 32 := rfl
    have hl' : ((32 : Nat) : Int) - (Lib.bitLen (un 1 x).toNat : Int) = l := hl
    rw [hp, hq, hw] at f1
    rw [hw, hl'] at f2
    rw [hw, ht] at f3
    rw [hw, hl'] at f4
    rw [hw, hl', ht, hp] at f5
    have sp : ∀ z : Int, 0 ≤ z → z ≤ 64 → sg 1 z = z := fun z h0 h1 => sg_id 1 z (by unfold okv; simp <;> omega) (by unfold In64; omega)
    have H1 : Hid (oneS 105 1 x = (1, (p : Int), true)) := hid (by rw [oneS_mid (c := 1) (b := 105) (by decide) ox]; show (1, sg 1 ((pc 64 (un 1 x).toNat : Nat) : Int), true) = _; rw [hp, sp _ (by omega) (by omega)])
    have H2 : Hid (oneS 105 1 y = (1, (q : Int), true)) := hid (by rw [oneS_mid (c := 1) (b := 105) (by decide) oy]; show (1, sg 1 ((pc 64 (un 1 y).toNat : Nat) : Int), true) = _; rw [hq, sp _ (by omega) (by omega)])
    have H3 : Hid (oneS 103 1 x = (1, l, true)) := hid (by rw [oneS_mid (c := 1) (b := 103) (by decide) ox]; show (1, sg 1 (((wd 1 : Nat) : Int) - (Lib.bitLen (un 1 x).toNat : Int)), true) = _; rw [hw, hl', sp _ (by omega) (by omega)])
    have H4 : Hid (oneS 104 1 x = (1, (t : Int), true)) := hid (by rw [oneS_mid (c := 1) (b := 104) (by decide) ox]; show (1, sg 1 ((min (Lib.ctz 64 (un 1 x).toNat) (wd 1) : Nat) : Int), true) = _; rw [hw, ht, sp _ (by omega) (by omega)])
    have H5 : Hid (oneS 69 1 x = (1, tr (x == 0), true)) := hid (by rw [oneS_mid (c := 1) (b := 69) (by decide) ox]; rfl)
    have hna : In64 (bits BinOp.xor IntKind.i64 (-1) a) := bits_i64_in _ _ _
    have e1 : (p : Int) + (q : Int) = 32 := by omega
    have Hx := hid hx
    have Hy := hid hy
    have Ha := hid ha
    have Hna := hid hna
    have Rx := hid rx
    have Ry := hid ry
    rcases f5 with ⟨g1, g2, g3, g4⟩ | ⟨g1, g2, g3, g4⟩
    · have k1 : (l == 32) = true := by simp <;> omega
      have k2 : ((t : Int) == 32) = true := by simp <;> omega
      have k3 : (x == 0) = true := by simp [g1]
      rw [k3] at H5
      have H5 : Hid (oneS 69 1 x = (1, 1, true)) := H5
      have l1 : 0 ≤ l := by omega
      have l2 : l ≤ 32 := by omega
      have t2 : t ≤ 32 := by omega
      clear hx hy hun f1 f2 f3 f4 hp hq hl ht hw hl' sp ox rx oy ry hna ha g1 g2 g3 g4
      have HL := hid hL
      clear hL
      go_enter Tryd.func10, Tryd.ntmps10
      go_wp2_with fail
      refine (begun_any _ HL.out).mono ?_
      rintro e w1 ⟨rfl, b1⟩
      have BL1 := hid (Bl.step (Bl.refl _) b1)
      clear b1
      go_wp2_with fail
      refine (refWrap_to 1 a x (by decide) Ha.out Hx.out _).mono ?_
      rintro e w2 ⟨rfl, b2⟩
      have BL2 := hid (Bl.step BL1.out b2)
      clear b2 BL1
      go_wp2_with fail
      refine (refWrap_to 1 _ y (by decide) Hna.out Hy.out _).mono ?_
      rintro e w3 ⟨rfl, b3⟩
      have BL3 := hid (Bl.step BL2.out b3)
      clear b3 BL2
      go_wp2_with fail
      refine (one_to _ _ _ _ _ _ Rx.out H1.out _ (HL.out.below (Bl.alloc (Bl.alloc BL3.out _) _))).mono ?_
      rintro e w4 ⟨rfl, b4⟩
      have X_4 := hid (((Pair.new _ _ _ _ (p := w3.heap.size) (by simp)).alloc _).below b4)
      have Y_4 := hid (((Pair.new _ _ _ _ (p := w3.heap.size + 1) (by simp))).below b4)
      have BL4 := hid (Bl.step (Bl.alloc (Bl.alloc BL3.out _) _) b4)
      clear b4 BL3
      obtain ⟨Xc0, Xc1, -, -⟩ := X_4.out
      have Xlt : w3.heap.size < w4.heap.size := World.block_lt_of_cell? _ _ Xc0
      obtain ⟨Yc0, Yc1, -, -⟩ := Y_4.out
      have Ylt : w3.heap.size + 1 < w4.heap.size := World.block_lt_of_cell? _ _ Yc0
      go_wp2_with fail
      refine (one_to _ _ _ _ _ _ Ry.out H2.out _ (HL.out.below (Bl.alloc BL4.out _))).mono ?_
      rintro e w5 ⟨rfl, b5⟩
      have X_5 := hid ((X_4.out.alloc _).below b5)
      have Y_5 := hid ((Y_4.out.alloc _).below b5)
      have P_5 := hid (((Pair.new _ _ _ _ (p := w4.heap.size) (by simp))).below b5)
      have BL5 := hid (Bl.step (Bl.alloc BL4.out _) b5)
      clear b5 Xc0 Xc1 Xlt Yc0 Yc1 Ylt X_4 Y_4 BL4
      obtain ⟨Xc0, Xc1, -, -⟩ := X_5.out
      have Xlt : w3.heap.size < w5.heap.size := World.block_lt_of_cell? _ _ Xc0
      obtain ⟨Yc0, Yc1, -, -⟩ := Y_5.out
      have Ylt : w3.heap.size + 1 < w5.heap.size := World.block_lt_of_cell? _ _ Yc0
      obtain ⟨Pc0, Pc1, -, -⟩ := P_5.out
      have Plt : w4.heap.size < w5.heap.size := World.block_lt_of_cell? _ _ Pc0
      go_wp2_with fail
      refine (one_to _ _ _ _ _ _ Rx.out H3.out _ (HL.out.below (Bl.alloc BL5.out _))).mono ?_
      rintro e w6 ⟨rfl, b6⟩
      have X_6 := hid ((X_5.out.alloc _).below b6)
      have Y_6 := hid ((Y_5.out.alloc _).below b6)
      have P_6 := hid ((P_5.out.alloc _).below b6)
      have Q_6 := hid (((Pair.new _ _ _ _ (p := w5.heap.size) (by simp))).below b6)
      have BL6 := hid (Bl.step (Bl.alloc BL5.out _) b6)
      clear b6 Xc0 Xc1 Xlt Yc0 Yc1 Ylt Pc0 Pc1 Plt X_5 Y_5 P_5 BL5
      obtain ⟨Xc0, Xc1, -, -⟩ := X_6.out
      have Xlt : w3.heap.size < w6.heap.size := World.block_lt_of_cell? _ _ Xc0
      obtain ⟨Yc0, Yc1, -, -⟩ := Y_6.out
      have Ylt : w3.heap.size + 1 < w6.heap.size := World.block_lt_of_cell? _ _ Yc0
      obtain ⟨Pc0, Pc1, -, -⟩ := P_6.out
      have Plt : w4.heap.size < w6.heap.size := World.block_lt_of_cell? _ _ Pc0
      obtain ⟨Qc0, Qc1, -, -⟩ := Q_6.out
      have Qlt : w5.heap.size < w6.heap.size := World.block_lt_of_cell? _ _ Qc0
      go_wp2_with fail
      refine (one_to _ _ _ _ _ _ Rx.out H4.out _ (HL.out.below (Bl.alloc BL6.out _))).mono ?_
      rintro e w7 ⟨rfl, b7⟩
      have X_7 := hid ((X_6.out.alloc _).below b7)
      have Y_7 := hid ((Y_6.out.alloc _).below b7)
      have P_7 := hid ((P_6.out.alloc _).below b7)
      have Q_7 := hid ((Q_6.out.alloc _).below b7)
      have L_7 := hid (((Pair.new _ _ _ _ (p := w6.heap.size) (by simp))).below b7)
      have BL7 := hid (Bl.step (Bl.alloc BL6.out _) b7)
      clear b7 Xc0 Xc1 Xlt Yc0 Yc1 Ylt Pc0 Pc1 Plt Qc0 Qc1 Qlt X_6 Y_6 P_6 Q_6 BL6
      obtain ⟨Xc0, Xc1, -, -⟩ := X_7.out
      have Xlt : w3.heap.size < w7.heap.size := World.block_lt_of_cell? _ _ Xc0
      obtain ⟨Yc0, Yc1, -, -⟩ := Y_7.out
      have Ylt : w3.heap.size + 1 < w7.heap.size := World.block_lt_of_cell? _ _ Yc0
      obtain ⟨Pc0, Pc1, -, -⟩ := P_7.out
      have Plt : w4.heap.size < w7.heap.size := World.block_lt_of_cell? _ _ Pc0
      obtain ⟨Qc0, Qc1, -, -⟩ := Q_7.out
      have Qlt : w5.heap.size < w7.heap.size := World.block_lt_of_cell? _ _ Qc0
      obtain ⟨Lc0, Lc1, -, -⟩ := L_7.out
      have Llt : w6.heap.size < w7.heap.size := World.block_lt_of_cell? _ _ Lc0
      go_wp2_with fail
      refine (one_to _ _ _ _ _ _ Rx.out H5.out _ (HL.out.below (Bl.alloc BL7.out _))).mono ?_
      rintro e w8 ⟨rfl, b8⟩
      have X_8 := hid ((X_7.out.alloc _).below b8)
      have Y_8 := hid ((Y_7.out.alloc _).below b8)
      have P_8 := hid ((P_7.out.alloc _).below b8)
      have Q_8 := hid ((Q_7.out.alloc _).below b8)
      have L_8 := hid ((L_7.out.alloc _).below b8)
      have T_8 := hid (((Pair.new _ _ _ _ (p := w7.heap.size) (by simp))).below b8)
      have BL8 := hid (Bl.step (Bl.alloc BL7.out _) b8)
      clear b8 Xc0 Xc1 Xlt Yc0 Yc1 Ylt Pc0 Pc1 Plt Qc0 Qc1 Qlt Lc0 Lc1 Llt X_7 Y_7 P_7 Q_7 L_7 BL7
      obtain ⟨Xc0, Xc1, -, -⟩ := X_8.out
      have Xlt : w3.heap.size < w8.heap.size := World.block_lt_of_cell? _ _ Xc0
      obtain ⟨Yc0, Yc1, -, -⟩ := Y_8.out
      have Ylt : w3.heap.size + 1 < w8.heap.size := World.block_lt_of_cell? _ _ Yc0
      obtain ⟨Pc0, Pc1, -, -⟩ := P_8.out
      have Plt : w4.heap.size < w8.heap.size := World.block_lt_of_cell? _ _ Pc0
      obtain ⟨Qc0, Qc1, -, -⟩ := Q_8.out
      have Qlt : w5.heap.size < w8.heap.size := World.block_lt_of_cell? _ _ Qc0
      obtain ⟨Lc0, Lc1, -, -⟩ := L_8.out
      have Llt : w6.heap.size < w8.heap.size := World.block_lt_of_cell? _ _ Lc0
      obtain ⟨Tc0, Tc1, -, -⟩ := T_8.out
      have Tlt : w7.heap.size < w8.heap.size := World.block_lt_of_cell? _ _ Tc0
      go_wp2_with fail
      go_ret
      exact ⟨by simp, (Bl.alloc BL8.out _)⟩
    · have k1 : (l == 32) = false := by simp <;> omega
      have k2 : ((t : Int) == 32) = false := by simp <;> omega
      have k3 : (x == 0) = false := by simp [g1]
      rw [k3] at H5
      have H5 : Hid (oneS 69 1 x = (1, 0, true)) := H5
      have l1 : 0 ≤ l := by omega
      have l2 : l ≤ 32 := by omega
      have t2 : t ≤ 32 := by omega
      have s1 : l + (t : Int) + (p : Int) ≤ 32 := by omega
      clear hx hy hun f1 f2 f3 f4 hp hq hl ht hw hl' sp ox rx oy ry hna ha g1 g2 g3 g4
      have HL := hid hL
      clear hL
      go_enter Tryd.func10, Tryd.ntmps10
      go_wp2_with fail
      refine (begun_any _ HL.out).mono ?_
      rintro e w1 ⟨rfl, b1⟩
      have BL1 := hid (Bl.step (Bl.refl _) b1)
      clear b1
      go_wp2_with fail
      refine (refWrap_to 1 a x (by decide) Ha.out Hx.out _).mono ?_
      rintro e w2 ⟨rfl, b2⟩
      have BL2 := hid (Bl.step BL1.out b2)
      clear b2 BL1
      go_wp2_with fail
      refine (refWrap_to 1 _ y (by decide) Hna.out Hy.out _).mono ?_
      rintro e w3 ⟨rfl, b3⟩
      have BL3 := hid (Bl.step BL2.out b3)
      clear b3 BL2
      go_wp2_with fail
      refine (one_to _ _ _ _ _ _ Rx.out H1.out _ (HL.out.below (Bl.alloc (Bl.alloc BL3.out _) _))).mono ?_
      rintro e w4 ⟨rfl, b4⟩
      have X_4 := hid (((Pair.new _ _ _ _ (p := w3.heap.size) (by simp)).alloc _).below b4)
      have Y_4 := hid (((Pair.new _ _ _ _ (p := w3.heap.size + 1) (by simp))).below b4)
      have BL4 := hid (Bl.step (Bl.alloc (Bl.alloc BL3.out _) _) b4)
      clear b4 BL3
      obtain ⟨Xc0, Xc1, -, -⟩ := X_4.out
      have Xlt : w3.heap.size < w4.heap.size := World.block_lt_of_cell? _ _ Xc0
      obtain ⟨Yc0, Yc1, -, -⟩ := Y_4.out
      have Ylt : w3.heap.size + 1 < w4.heap.size := World.block_lt_of_cell? _ _ Yc0
      go_wp2_with fail
      refine (one_to _ _ _ _ _ _ Ry.out H2.out _ (HL.out.below (Bl.alloc BL4.out _))).mono ?_
      rintro e w5 ⟨rfl, b5⟩
      have X_5 := hid ((X_4.out.alloc _).below b5)
      have Y_5 := hid ((Y_4.out.alloc _).below b5)
      have P_5 := hid (((Pair.new _ _ _ _ (p := w4.heap.size) (by simp))).below b5)
      have BL5 := hid (Bl.step (Bl.alloc BL4.out _) b5)
      clear b5 Xc0 Xc1 Xlt Yc0 Yc1 Ylt X_4 Y_4 BL4
      obtain ⟨Xc0, Xc1, -, -⟩ := X_5.out
      have Xlt : w3.heap.size < w5.heap.size := World.block_lt_of_cell? _ _ Xc0
      obtain ⟨Yc0, Yc1, -, -⟩ := Y_5.out
      have Ylt : w3.heap.size + 1 < w5.heap.size := World.block_lt_of_cell? _ _ Yc0
      obtain ⟨Pc0, Pc1, -, -⟩ := P_5.out
      have Plt : w4.heap.size < w5.heap.size := World.block_lt_of_cell? _ _ Pc0
      go_wp2_with fail
      refine (one_to _ _ _ _ _ _ Rx.out H3.out _ (HL.out.below (Bl.alloc BL5.out _))).mono ?_
      rintro e w6 ⟨rfl, b6⟩
      have X_6 := hid ((X_5.out.alloc _).below b6)
      have Y_6 := hid ((Y_5.out.alloc _).below b6)
      have P_6 := hid ((P_5.out.alloc _).below b6)
      have Q_6 := hid (((Pair.new _ _ _ _ (p := w5.heap.size) (by simp))).below b6)
      have BL6 := hid (Bl.step (Bl.alloc BL5.out _) b6)
      clear b6 Xc0 Xc1 Xlt Yc0 Yc1 Ylt Pc0 Pc1 Plt X_5 Y_5 P_5 BL5
      obtain ⟨Xc0, Xc1, -, -⟩ := X_6.out
      have Xlt : w3.heap.size < w6.heap.size := World.block_lt_of_cell? _ _ Xc0
      obtain ⟨Yc0, Yc1, -, -⟩ := Y_6.out
      have Ylt : w3.heap.size + 1 < w6.heap.size := World.block_lt_of_cell? _ _ Yc0
      obtain ⟨Pc0, Pc1, -, -⟩ := P_6.out
      have Plt : w4.heap.size < w6.heap.size := World.block_lt_of_cell? _ _ Pc0
      obtain ⟨Qc0, Qc1, -, -⟩ := Q_6.out
      have Qlt : w5.heap.size < w6.heap.size := World.block_lt_of_cell? _ _ Qc0
      go_wp2_with fail
      refine (one_to _ _ _ _ _ _ Rx.out H4.out _ (HL.out.below (Bl.alloc BL6.out _))).mono ?_
      rintro e w7 ⟨rfl, b7⟩
      have X_7 := hid ((X_6.out.alloc _).below b7)
      have Y_7 := hid ((Y_6.out.alloc _).below b7)
      have P_7 := hid ((P_6.out.alloc _).below b7)
      have Q_7 := hid ((Q_6.out.alloc _).below b7)
      have L_7 := hid (((Pair.new _ _ _ _ (p := w6.heap.size) (by simp))).below b7)
      have BL7 := hid (Bl.step (Bl.alloc BL6.out _) b7)
      clear b7 Xc0 Xc1 Xlt Yc0 Yc1 Ylt Pc0 Pc1 Plt Qc0 Qc1 Qlt X_6 Y_6 P_6 Q_6 BL6
      obtain ⟨Xc0, Xc1, -, -⟩ := X_7.out
      have Xlt : w3.heap.size < w7.heap.size := World.block_lt_of_cell? _ _ Xc0
      obtain ⟨Yc0, Yc1, -, -⟩ := Y_7.out
      have Ylt : w3.heap.size + 1 < w7.heap.size := World.block_lt_of_cell? _ _ Yc0
      obtain ⟨Pc0, Pc1, -, -⟩ := P_7.out
      have Plt : w4.heap.size < w7.heap.size := World.block_lt_of_cell? _ _ Pc0
      obtain ⟨Qc0, Qc1, -, -⟩ := Q_7.out
      have Qlt : w5.heap.size < w7.heap.size := World.block_lt_of_cell? _ _ Qc0
      obtain ⟨Lc0, Lc1, -, -⟩ := L_7.out
      have Llt : w6.heap.size < w7.heap.size := World.block_lt_of_cell? _ _ Lc0
      go_wp2_with fail
      refine (one_to _ _ _ _ _ _ Rx.out H5.out _ (HL.out.below (Bl.alloc BL7.out _))).mono ?_
      rintro e w8 ⟨rfl, b8⟩
      have X_8 := hid ((X_7.out.alloc _).below b8)
      have Y_8 := hid ((Y_7.out.alloc _).below b8)
      have P_8 := hid ((P_7.out.alloc _).below b8)
      have Q_8 := hid ((Q_7.out.alloc _).below b8)
      have L_8 := hid ((L_7.out.alloc _).below b8)
      have T_8 := hid (((Pair.new _ _ _ _ (p := w7.heap.size) (by simp))).below b8)
      have BL8 := hid (Bl.step (Bl.alloc BL7.out _) b8)
      clear b8 Xc0 Xc1 Xlt Yc0 Yc1 Ylt Pc0 Pc1 Plt Qc0 Qc1 Qlt Lc0 Lc1 Llt X_7 Y_7 P_7 Q_7 L_7 BL7
      obtain ⟨Xc0, Xc1, -, -⟩ := X_8.out
      have Xlt : w3.heap.size < w8.heap.size := World.block_lt_of_cell? _ _ Xc0
      obtain ⟨Yc0, Yc1, -, -⟩ := Y_8.out
      have Ylt : w3.heap.size + 1 < w8.heap.size := World.block_lt_of_cell? _ _ Yc0
      obtain ⟨Pc0, Pc1, -, -⟩ := P_8.out
      have Plt : w4.heap.size < w8.heap.size := World.block_lt_of_cell? _ _ Pc0
      obtain ⟨Qc0, Qc1, -, -⟩ := Q_8.out
      have Qlt : w5.heap.size < w8.heap.size := World.block_lt_of_cell? _ _ Qc0
      obtain ⟨Lc0, Lc1, -, -⟩ := L_8.out
      have Llt : w6.heap.size < w8.heap.size := World.block_lt_of_cell? _ _ Lc0
      obtain ⟨Tc0, Tc1, -, -⟩ := T_8.out
      have Tlt : w7.heap.size < w8.heap.size := World.block_lt_of_cell? _ _ Tc0
      go_wp2_with fail
      go_ret
      exact ⟨by simp, (Bl.alloc BL8.out _)⟩
  · skip
    obtain ⟨x, hx⟩ : ∃ x, sg 2 a = x := ⟨_, rfl⟩
    obtain ⟨y, hy⟩ : ∃ x, sg 2 (bits BinOp.xor IntKind.i64 (-1) a) = x := ⟨_, rfl⟩
    obtain ⟨ox, rx, oy, ry⟩ : okv 2 x = true ∧ In64 x ∧ okv 2 y = true ∧ In64 y := by rw [← hx, ← hy]; exact ⟨okv_sg _ _ (by decide), in64_sg _ _, okv_sg _ _ (by decide), in64_sg _ _⟩
    have hun := not_un 2 a (by decide)
    rw [hx, hy] at hun
    obtain ⟨f1, f2, f3, f4, f5⟩ := ones_facts 2 x y ox rx (by decide) hun
    obtain ⟨p, hp⟩ : ∃ p, pc 64 (un 2 x).toNat = p := ⟨_, rfl⟩
    obtain ⟨q, hq⟩ : ∃ p, pc 64 (un 2 y).toNat = p := ⟨_, rfl⟩
    obtain ⟨l, hl⟩ : ∃ l : Int, (64 : Int) - (Lib.bitLen (un 2 x).toNat : Int) = l := ⟨_, rfl⟩
    obtain ⟨t, ht⟩ : ∃ t, min (Lib.ctz 64 (un 2 x).toNat) 64 = t := ⟨_, rfl⟩
    have hw : wd 2 = 64 := rfl
    have hl' : ((64 : Nat) : Int) - (Lib.bitLen (un 2 x).toNat : Int) = l := hl
    rw [hp, hq, hw] at f1
    rw [hw, hl'] at f2
    rw [hw, ht] at f3
    rw [hw, hl'] at f4
    rw [hw, hl', ht, hp] at f5
    have sp : ∀ z : Int, 0 ≤ z → z ≤ 64 → sg 2 z = z := fun z h0 h1 => sg_id 2 z (by unfold okv; simp <;> omega) (by unfold In64; omega)
    have H1 : Hid (oneS 123 2 x = (2, (p : Int), true)) := hid (by rw [oneS_mid (c := 2) (b := 105) (by decide) ox]; show (2, sg 2 ((pc 64 (un 2 x).toNat : Nat) : Int), true) = _; rw [hp, sp _ (by omega) (by omega)])
    have H2 : Hid (oneS 123 2 y = (2, (q : Int), true)) := hid (by rw [oneS_mid (c := 2) (b := 105) (by decide) oy]; show (2, sg 2 ((pc 64 (un 2 y).toNat : Nat) : Int), true) = _; rw [hq, sp _ (by omega) (by omega)])
    have H3 : Hid (oneS 121 2 x = (2, l, true)) := hid (by rw [oneS_mid (c := 2) (b := 103) (by decide) ox]; show (2, sg 2 (((wd 2 : Nat) : Int) - (Lib.bitLen (un 2 x).toNat : Int)), true) = _; rw [hw, hl', sp _ (by omega) (by omega)])
    have H4 : Hid (oneS 122 2 x = (2, (t : Int), true)) := hid (by rw [oneS_mid (c := 2) (b := 104) (by decide) ox]; show (2, sg 2 ((min (Lib.ctz 64 (un 2 x).toNat) (wd 2) : Nat) : Int), true) = _; rw [hw, ht, sp _ (by omega) (by omega)])
    have H5 : Hid (oneS 80 2 x = (1, tr (x == 0), true)) := hid (by rw [oneS_mid (c := 2) (b := 69) (by decide) ox]; rfl)
    have hna : In64 (bits BinOp.xor IntKind.i64 (-1) a) := bits_i64_in _ _ _
    have e1 : (p : Int) + (q : Int) = 64 := by omega
    have Hx := hid hx
    have Hy := hid hy
    have Ha := hid ha
    have Hna := hid hna
    have Rx := hid rx
    have Ry := hid ry
    rcases f5 with ⟨g1, g2, g3, g4⟩ | ⟨g1, g2, g3, g4⟩
    · have k1 : (l == 64) = true := by simp <;> omega
      have k2 : ((t : Int) == 64) = true := by simp <;> omega
      have k3 : (x == 0) = true := by simp [g1]
      rw [k3] at H5
      have H5 : Hid (oneS 80 2 x = (1, 1, true)) := H5
      have l1 : 0 ≤ l := by omega
      have l2 : l ≤ 64 := by omega
      have t2 : t ≤ 64 := by omega
      clear hx hy hun f1 f2 f3 f4 hp hq hl ht hw hl' sp ox rx oy ry hna ha g1 g2 g3 g4
      have HL := hid hL
      clear hL
      go_enter Tryd.func10, Tryd.ntmps10
      go_wp2_with fail
      refine (begun_any _ HL.out).mono ?_
      rintro e w1 ⟨rfl, b1⟩
      have BL1 := hid (Bl.step (Bl.refl _) b1)
      clear b1
      go_wp2_with fail
      refine (refWrap_to 2 a x (by decide) Ha.out Hx.out _).mono ?_
      rintro e w2 ⟨rfl, b2⟩
      have BL2 := hid (Bl.step BL1.out b2)
      clear b2 BL1
      go_wp2_with fail
      refine (refWrap_to 2 _ y (by decide) Hna.out Hy.out _).mono ?_
      rintro e w3 ⟨rfl, b3⟩
      have BL3 := hid (Bl.step BL2.out b3)
      clear b3 BL2
      go_wp2_with fail
      refine (one_to _ _ _ _ _ _ Rx.out H1.out _ (HL.out.below (Bl.alloc (Bl.alloc BL3.out _) _))).mono ?_
      rintro e w4 ⟨rfl, b4⟩
      have X_4 := hid (((Pair.new _ _ _ _ (p := w3.heap.size) (by simp)).alloc _).below b4)
      have Y_4 := hid (((Pair.new _ _ _ _ (p := w3.heap.size + 1) (by simp))).below b4)
      have BL4 := hid (Bl.step (Bl.alloc (Bl.alloc BL3.out _) _) b4)
      clear b4 BL3
      obtain ⟨Xc0, Xc1, -, -⟩ := X_4.out
      have Xlt : w3.heap.size < w4.heap.size := World.block_lt_of_cell? _ _ Xc0
      obtain ⟨Yc0, Yc1, -, -⟩ := Y_4.out
      have Ylt : w3.heap.size + 1 < w4.heap.size := World.block_lt_of_cell? _ _ Yc0
      go_wp2_with fail
      refine (one_to _ _ _ _ _ _ Ry.out H2.out _ (HL.out.below (Bl.alloc BL4.out _))).mono ?_
      rintro e w5 ⟨rfl, b5⟩
      have X_5 := hid ((X_4.out.alloc _).below b5)
      have Y_5 := hid ((Y_4.out.alloc _).below b5)
      have P_5 := hid (((Pair.new _ _ _ _ (p := w4.heap.size) (by simp))).below b5)
      have BL5 := hid (Bl.step (Bl.alloc BL4.out _) b5)
      clear b5 Xc0 Xc1 Xlt Yc0 Yc1 Ylt X_4 Y_4 BL4
      obtain ⟨Xc0, Xc1, -, -⟩ := X_5.out
      have Xlt : w3.heap.size < w5.heap.size := World.block_lt_of_cell? _ _ Xc0
      obtain ⟨Yc0, Yc1, -, -⟩ := Y_5.out
      have Ylt : w3.heap.size + 1 < w5.heap.size := World.block_lt_of_cell? _ _ Yc0
      obtain ⟨Pc0, Pc1, -, -⟩ := P_5.out
      have Plt : w4.heap.size < w5.heap.size := World.block_lt_of_cell? _ _ Pc0
      go_wp2_with fail
      refine (one_to _ _ _ _ _ _ Rx.out H3.out _ (HL.out.below (Bl.alloc BL5.out _))).mono ?_
      rintro e w6 ⟨rfl, b6⟩
      have X_6 := hid ((X_5.out.alloc _).below b6)
      have Y_6 := hid ((Y_5.out.alloc _).below b6)
      have P_6 := hid ((P_5.out.alloc _).below b6)
      have Q_6 := hid (((Pair.new _ _ _ _ (p := w5.heap.size) (by simp))).below b6)
      have BL6 := hid (Bl.step (Bl.alloc BL5.out _) b6)
      clear b6 Xc0 Xc1 Xlt Yc0 Yc1 Ylt Pc0 Pc1 Plt X_5 Y_5 P_5 BL5
      obtain ⟨Xc0, Xc1, -, -⟩ := X_6.out
      have Xlt : w3.heap.size < w6.heap.size := World.block_lt_of_cell? _ _ Xc0
      obtain ⟨Yc0, Yc1, -, -⟩ := Y_6.out
      have Ylt : w3.heap.size + 1 < w6.heap.size := World.block_lt_of_cell? _ _ Yc0
      obtain ⟨Pc0, Pc1, -, -⟩ := P_6.out
      have Plt : w4.heap.size < w6.heap.size := World.block_lt_of_cell? _ _ Pc0
      obtain ⟨Qc0, Qc1, -, -⟩ := Q_6.out
      have Qlt : w5.heap.size < w6.heap.size := World.block_lt_of_cell? _ _ Qc0
      go_wp2_with fail
      refine (one_to _ _ _ _ _ _ Rx.out H4.out _ (HL.out.below (Bl.alloc BL6.out _))).mono ?_
      rintro e w7 ⟨rfl, b7⟩
      have X_7 := hid ((X_6.out.alloc _).below b7)
      have Y_7 := hid ((Y_6.out.alloc _).below b7)
      have P_7 := hid ((P_6.out.alloc _).below b7)
      have Q_7 := hid ((Q_6.out.alloc _).below b7)
      have L_7 := hid (((Pair.new _ _ _ _ (p := w6.heap.size) (by simp))).below b7)
      have BL7 := hid (Bl.step (Bl.alloc BL6.out _) b7)
      clear b7 Xc0 Xc1 Xlt Yc0 Yc1 Ylt Pc0 Pc1 Plt Qc0 Qc1 Qlt X_6 Y_6 P_6 Q_6 BL6
      obtain ⟨Xc0, Xc1, -, -⟩ := X_7.out
      have Xlt : w3.heap.size < w7.heap.size := World.block_lt_of_cell? _ _ Xc0
      obtain ⟨Yc0, Yc1, -, -⟩ := Y_7.out
      have Ylt : w3.heap.size + 1 < w7.heap.size := World.block_lt_of_cell? _ _ Yc0
      obtain ⟨Pc0, Pc1, -, -⟩ := P_7.out
      have Plt : w4.heap.size < w7.heap.size := World.block_lt_of_cell? _ _ Pc0
      obtain ⟨Qc0, Qc1, -, -⟩ := Q_7.out
      have Qlt : w5.heap.size < w7.heap.size := World.block_lt_of_cell? _ _ Qc0
      obtain ⟨Lc0, Lc1, -, -⟩ := L_7.out
      have Llt : w6.heap.size < w7.heap.size := World.block_lt_of_cell? _ _ Lc0
      go_wp2_with fail
      refine (one_to _ _ _ _ _ _ Rx.out H5.out _ (HL.out.below (Bl.alloc BL7.out _))).mono ?_
      rintro e w8 ⟨rfl, b8⟩
      have X_8 := hid ((X_7.out.alloc _).below b8)
      have Y_8 := hid ((Y_7.out.alloc _).below b8)
      have P_8 := hid ((P_7.out.alloc _).below b8)
      have Q_8 := hid ((Q_7.out.alloc _).below b8)
      have L_8 := hid ((L_7.out.alloc _).below b8)
      have T_8 := hid (((Pair.new _ _ _ _ (p := w7.heap.size) (by simp))).below b8)
      have BL8 := hid (Bl.step (Bl.alloc BL7.out _) b8)
      clear b8 Xc0 Xc1 Xlt Yc0 Yc1 Ylt Pc0 Pc1 Plt Qc0 Qc1 Qlt Lc0 Lc1 Llt X_7 Y_7 P_7 Q_7 L_7 BL7
      obtain ⟨Xc0, Xc1, -, -⟩ := X_8.out
      have Xlt : w3.heap.size < w8.heap.size := World.block_lt_of_cell? _ _ Xc0
      obtain ⟨Yc0, Yc1, -, -⟩ := Y_8.out
      have Ylt : w3.heap.size + 1 < w8.heap.size := World.block_lt_of_cell? _ _ Yc0
      obtain ⟨Pc0, Pc1, -, -⟩ := P_8.out
      have Plt : w4.heap.size < w8.heap.size := World.block_lt_of_cell? _ _ Pc0
      obtain ⟨Qc0, Qc1, -, -⟩ := Q_8.out
      have Qlt : w5.heap.size < w8.heap.size := World.block_lt_of_cell? _ _ Qc0
      obtain ⟨Lc0, Lc1, -, -⟩ := L_8.out
      have Llt : w6.heap.size < w8.heap.size := World.block_lt_of_cell? _ _ Lc0
      obtain ⟨Tc0, Tc1, -, -⟩ := T_8.out
      have Tlt : w7.heap.size < w8.heap.size := World.block_lt_of_cell? _ _ Tc0
      go_wp2_with fail
      go_ret
      exact ⟨by simp, (Bl.alloc BL8.out _)⟩
    · have k1 : (l == 64) = false := by simp <;> omega
      have k2 : ((t : Int) == 64) = false := by simp <;> omega
      have k3 : (x == 0) = false := by simp [g1]
      rw [k3] at H5
      have H5 : Hid (oneS 80 2 x = (1, 0, true)) := H5
      have l1 : 0 ≤ l := by omega
      have l2 : l ≤ 64 := by omega
      have t2 : t ≤ 64 := by omega
      have s1 : l + (t : Int) + (p : Int) ≤ 64 := by omega
      clear hx hy hun f1 f2 f3 f4 hp hq hl ht hw hl' sp ox rx oy ry hna ha g1 g2 g3 g4
      have HL := hid hL
      clear hL
      go_enter Tryd.func10, Tryd.ntmps10
      go_wp2_with fail
      refine (begun_any _ HL.out).mono ?_
      rintro e w1 ⟨rfl, b1⟩
      have BL1 := hid (Bl.step (Bl.refl _) b1)
      clear b1
      go_wp2_with fail
      refine (refWrap_to 2 a x (by decide) Ha.out Hx.out _).mono ?_
      rintro e w2 ⟨rfl, b2⟩
      have BL2 := hid (Bl.step BL1.out b2)
      clear b2 BL1
      go_wp2_with fail
      refine (refWrap_to 2 _ y (by decide) Hna.out Hy.out _).mono ?_
      rintro e w3 ⟨rfl, b3⟩
      have BL3 := hid (Bl.step BL2.out b3)
      clear b3 BL2
      go_wp2_with fail
      refine (one_to _ _ _ _ _ _ Rx.out H1.out _ (HL.out.below (Bl.alloc (Bl.alloc BL3.out _) _))).mono ?_
      rintro e w4 ⟨rfl, b4⟩
      have X_4 := hid (((Pair.new _ _ _ _ (p := w3.heap.size) (by simp)).alloc _).below b4)
      have Y_4 := hid (((Pair.new _ _ _ _ (p := w3.heap.size + 1) (by simp))).below b4)
      have BL4 := hid (Bl.step (Bl.alloc (Bl.alloc BL3.out _) _) b4)
      clear b4 BL3
      obtain ⟨Xc0, Xc1, -, -⟩ := X_4.out
      have Xlt : w3.heap.size < w4.heap.size := World.block_lt_of_cell? _ _ Xc0
      obtain ⟨Yc0, Yc1, -, -⟩ := Y_4.out
      have Ylt : w3.heap.size + 1 < w4.heap.size := World.block_lt_of_cell? _ _ Yc0
      go_wp2_with fail
      refine (one_to _ _ _ _ _ _ Ry.out H2.out _ (HL.out.below (Bl.alloc BL4.out _))).mono ?_
      rintro e w5 ⟨rfl, b5⟩
      have X_5 := hid ((X_4.out.alloc _).below b5)
      have Y_5 := hid ((Y_4.out.alloc _).below b5)
      have P_5 := hid (((Pair.new _ _ _ _ (p := w4.heap.size) (by simp))).below b5)
      have BL5 := hid (Bl.step (Bl.alloc BL4.out _) b5)
      clear b5 Xc0 Xc1 Xlt Yc0 Yc1 Ylt X_4 Y_4 BL4
      obtain ⟨Xc0, Xc1, -, -⟩ := X_5.out
      have Xlt : w3.heap.size < w5.heap.size := World.block_lt_of_cell? _ _ Xc0
      obtain ⟨Yc0, Yc1, -, -⟩ := Y_5.out
      have Ylt : w3.heap.size + 1 < w5.heap.size := World.block_lt_of_cell? _ _ Yc0
      obtain ⟨Pc0, Pc1, -, -⟩ := P_5.out
      have Plt : w4.heap.size < w5.heap.size := World.block_lt_of_cell? _ _ Pc0
      go_wp2_with fail
      refine (one_to _ _ _ _ _ _ Rx.out H3.out _ (HL.out.below (Bl.alloc BL5.out _))).mono ?_
      rintro e w6 ⟨rfl, b6⟩
      have X_6 := hid ((X_5.out.alloc _).below b6)
      have Y_6 := hid ((Y_5.out.alloc _).below b6)
      have P_6 := hid ((P_5.out.alloc _).below b6)
      have Q_6 := hid (((Pair.new _ _ _ _ (p := w5.heap.size) (by simp))).below b6)
      have BL6 := hid (Bl.step (Bl.alloc BL5.out _) b6)
      clear b6 Xc0 Xc1 Xlt Yc0 Yc1 Ylt Pc0 Pc1 Plt X_5 Y_5 P_5 BL5
      obtain ⟨Xc0, Xc1, -, -⟩ := X_6.out
      have Xlt : w3.heap.size < w6.heap.size := World.block_lt_of_cell? _ _ Xc0
      obtain ⟨Yc0, Yc1, -, -⟩ := Y_6.out
      have Ylt : w3.heap.size + 1 < w6.heap.size := World.block_lt_of_cell? _ _ Yc0
      obtain ⟨Pc0, Pc1, -, -⟩ := P_6.out
      have Plt : w4.heap.size < w6.heap.size := World.block_lt_of_cell? _ _ Pc0
      obtain ⟨Qc0, Qc1, -, -⟩ := Q_6.out
      have Qlt : w5.heap.size < w6.heap.size := World.block_lt_of_cell? _ _ Qc0
      go_wp2_with fail
      refine (one_to _ _ _ _ _ _ Rx.out H4.out _ (HL.out.below (Bl.alloc BL6.out _))).mono ?_
      rintro e w7 ⟨rfl, b7⟩
      have X_7 := hid ((X_6.out.alloc _).below b7)
      have Y_7 := hid ((Y_6.out.alloc _).below b7)
      have P_7 := hid ((P_6.out.alloc _).below b7)
      have Q_7 := hid ((Q_6.out.alloc _).below b7)
      have L_7 := hid (((Pair.new _ _ _ _ (p := w6.heap.size) (by simp))).below b7)
      have BL7 := hid (Bl.step (Bl.alloc BL6.out _) b7)
      clear b7 Xc0 Xc1 Xlt Yc0 Yc1 Ylt Pc0 Pc1 Plt Qc0 Qc1 Qlt X_6 Y_6 P_6 Q_6 BL6
      obtain ⟨Xc0, Xc1, -, -⟩ := X_7.out
      have Xlt : w3.heap.size < w7.heap.size := World.block_lt_of_cell? _ _ Xc0
      obtain ⟨Yc0, Yc1, -, -⟩ := Y_7.out
      have Ylt : w3.heap.size + 1 < w7.heap.size := World.block_lt_of_cell? _ _ Yc0
      obtain ⟨Pc0, Pc1, -, -⟩ := P_7.out
      have Plt : w4.heap.size < w7.heap.size := World.block_lt_of_cell? _ _ Pc0
      obtain ⟨Qc0, Qc1, -, -⟩ := Q_7.out
      have Qlt : w5.heap.size < w7.heap.size := World.block_lt_of_cell? _ _ Qc0
      obtain ⟨Lc0, Lc1, -, -⟩ := L_7.out
      have Llt : w6.heap.size < w7.heap.size := World.block_lt_of_cell? _ _ Lc0
      go_wp2_with fail
      refine (one_to _ _ _ _ _ _ Rx.out H5.out _ (HL.out.below (Bl.alloc BL7.out _))).mono ?_
      rintro e w8 ⟨rfl, b8⟩
      have X_8 := hid ((X_7.out.alloc _).below b8)
      have Y_8 := hid ((Y_7.out.alloc _).below b8)
      have P_8 := hid ((P_7.out.alloc _).below b8)
      have Q_8 := hid ((Q_7.out.alloc _).below b8)
      have L_8 := hid ((L_7.out.alloc _).below b8)
      have T_8 := hid (((Pair.new _ _ _ _ (p := w7.heap.size) (by simp))).below b8)
      have BL8 := hid (Bl.step (Bl.alloc BL7.out _) b8)
      clear b8 Xc0 Xc1 Xlt Yc0 Yc1 Ylt Pc0 Pc1 Plt Qc0 Qc1 Qlt Lc0 Lc1 Llt X_7 Y_7 P_7 Q_7 L_7 BL7
      obtain ⟨Xc0, Xc1, -, -⟩ := X_8.out
      have Xlt : w3.heap.size < w8.heap.size := World.block_lt_of_cell? _ _ Xc0
      obtain ⟨Yc0, Yc1, -, -⟩ := Y_8.out
      have Ylt : w3.heap.size + 1 < w8.heap.size := World.block_lt_of_cell? _ _ Yc0
      obtain ⟨Pc0, Pc1, -, -⟩ := P_8.out
      have Plt : w4.heap.size < w8.heap.size := World.block_lt_of_cell? _ _ Pc0
      obtain ⟨Qc0, Qc1, -, -⟩ := Q_8.out
      have Qlt : w5.heap.size < w8.heap.size := World.block_lt_of_cell? _ _ Qc0
      obtain ⟨Lc0, Lc1, -, -⟩ := L_8.out
      have Llt : w6.heap.size < w8.heap.size := World.block_lt_of_cell? _ _ Lc0
      obtain ⟨Tc0, Tc1, -, -⟩ := T_8.out
      have Tlt : w7.heap.size < w8.heap.size := World.block_lt_of_cell? _ _ Tc0
      go_wp2_with fail
      go_ret
      exact ⟨by simp, (Bl.alloc BL8.out _)⟩
end Go.Proofs.YtiohgigbnncpiaaDoor
