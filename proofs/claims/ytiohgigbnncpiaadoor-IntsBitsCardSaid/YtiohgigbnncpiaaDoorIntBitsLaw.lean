/- Leading and trailing noughts, and ones, of numbers that have one bit, two bits, all. -/
import Derived.Test.YtiohgigbnncpiaaDoorIntBitsMath
namespace Go.Proofs.YtiohgigbnncpiaaDoor
open Go.RowKit

set_option maxRecDepth 20000 in
set_option maxHeartbeats 4000000 in
theorem intsBits_neg1false (i k : Int) (hi : i < 0) (w : World) (hL : Laid w) :
    Calls Tryd.prog 12 #[.int .i64 i, .int .i64 k, .bool false] w fun e w' => e = .returned (.bool true) ∧ Below w.heap.size w w' := by
  have HL := hid hL
  clear hL
  go_enter Tryd.func12, Tryd.ntmps12
  go_wp2_with fail
  refine (begun_any _ HL.out).mono ?_
  rintro e w1 ⟨rfl, b1⟩
  have BL1 := hid (Bl.step (Bl.refl _) b1)
  clear b1
  go_wp2_with fail
  go_ret
  exact ⟨by simp, BL1.out⟩

set_option maxRecDepth 20000 in
set_option maxHeartbeats 4000000 in
theorem intsBits_neg2false (i k : Int) (hi : 0 ≤ i) (hk : k < 0) (w : World) (hL : Laid w) :
    Calls Tryd.prog 12 #[.int .i64 i, .int .i64 k, .bool false] w fun e w' => e = .returned (.bool true) ∧ Below w.heap.size w w' := by
  have HL := hid hL
  clear hL
  go_enter Tryd.func12, Tryd.ntmps12
  go_wp2_with fail
  refine (begun_any _ HL.out).mono ?_
  rintro e w1 ⟨rfl, b1⟩
  have BL1 := hid (Bl.step (Bl.refl _) b1)
  clear b1
  go_wp2_with fail
  go_ret
  exact ⟨by simp, BL1.out⟩

set_option maxRecDepth 20000 in
set_option maxHeartbeats 4000000 in
theorem intsBits_neg1true (i k : Int) (hi : i < 0) (w : World) (hL : Laid w) :
    Calls Tryd.prog 12 #[.int .i64 i, .int .i64 k, .bool true] w fun e w' => e = .returned (.bool true) ∧ Below w.heap.size w w' := by
  have HL := hid hL
  clear hL
  go_enter Tryd.func12, Tryd.ntmps12
  go_wp2_with fail
  refine (begun_any _ HL.out).mono ?_
  rintro e w1 ⟨rfl, b1⟩
  have BL1 := hid (Bl.step (Bl.refl _) b1)
  clear b1
  go_wp2_with fail
  go_ret
  exact ⟨by simp, BL1.out⟩

set_option maxRecDepth 20000 in
set_option maxHeartbeats 4000000 in
theorem intsBits_neg2true (i k : Int) (hi : 0 ≤ i) (hk : k < 0) (w : World) (hL : Laid w) :
    Calls Tryd.prog 12 #[.int .i64 i, .int .i64 k, .bool true] w fun e w' => e = .returned (.bool true) ∧ Below w.heap.size w w' := by
  have HL := hid hL
  clear hL
  go_enter Tryd.func12, Tryd.ntmps12
  go_wp2_with fail
  refine (begun_any _ HL.out).mono ?_
  rintro e w1 ⟨rfl, b1⟩
  have BL1 := hid (Bl.step (Bl.refl _) b1)
  clear b1
  go_wp2_with fail
  go_ret
  exact ⟨by simp, BL1.out⟩

set_option maxRecDepth 20000 in
set_option maxHeartbeats 4000000 in
theorem intsBits_walk1 (i k : Int) (hi : 0 ≤ i) (hk : 0 ≤ k) (hi1 : i ≤ 9223372036854775807) (hk1 : k ≤ 9223372036854775807) (w : World) (hL : Laid w) :
    Calls Tryd.prog 12 #[.int .i64 i, .int .i64 k, .bool false] w fun e w' => e = .returned (.bool true) ∧ Below w.heap.size w w' := by
  obtain ⟨p, hp⟩ : ∃ p : Nat, i % 32 = (p : Int) := ⟨(i % 32).toNat, by omega⟩
  obtain ⟨q, hq⟩ : ∃ q : Nat, k % 32 = (q : Int) := ⟨(k % 32).toNat, by omega⟩
  have p1 : p < 32 := by omega
  have q1 : q < 32 := by omega
  obtain ⟨a, ha⟩ : ∃ a, wrap64 (2 ^ p) = a := ⟨_, rfl⟩
  obtain ⟨b, hb⟩ : ∃ b, wrap64 (2 ^ q) = b := ⟨_, rfl⟩
  obtain ⟨r, hr⟩ : ∃ r, bits BinOp.or IntKind.i64 a b = r := ⟨_, rfl⟩
  obtain ⟨v, hv⟩ : ∃ v, sg 1 r = v := ⟨_, rfl⟩
  obtain ⟨ov, rv⟩ : okv 1 v = true ∧ In64 v := by rw [← hv]; exact ⟨okv_sg _ _ (by decide), in64_sg _ _⟩
  have rr : In64 r := by rw [← hr]; exact bits_i64_in _ _ _
  have hun : (un 1 v).toNat = 2 ^ p ||| 2 ^ q := by
    rw [← hv, ← hr, ← ha, ← hb]
    exact two_un 1 p q 32 (by decide) p1 q1
  obtain ⟨t1, t2, t3⟩ := two_bits ⟨p, by omega⟩ ⟨q, by omega⟩
  simp only at t1 t2 t3
  have sp : ∀ z : Int, 0 ≤ z → z ≤ 64 → sg 1 z = z := fun z h0 h1 => sg_id 1 z (by unfold okv; simp <;> omega) (by unfold In64; omega)
  have hw : wd 1 = 32 := rfl
  obtain ⟨x, hx⟩ : ∃ x : Int, (32 : Int) - ((max p q + 1 : Nat) : Int) = x := ⟨_, rfl⟩
  obtain ⟨y, hy⟩ : ∃ y : Nat, min p q = y := ⟨_, rfl⟩
  obtain ⟨o, ho⟩ : ∃ o : Nat, (if p = q then 1 else 2) = o := ⟨_, rfl⟩
  have o2 : o ≤ 2 := by rw [← ho]; split <;> omega
  have H1 : Hid (oneS 103 1 v = (1, x, true)) := hid (by
    rw [oneS_mid (c := 1) (b := 103) (by decide) ov]
    show (1, sg 1 (((wd 1 : Nat) : Int) - (Lib.bitLen (un 1 v).toNat : Int)), true) = _
    rw [hw, hun, t1]
    have e : ((32 : Nat) : Int) - ((max p q + 1 : Nat) : Int) = x := hx
    rw [e, sp _ (by omega) (by omega)])
  have H2 : Hid (oneS 104 1 v = (1, (y : Int), true)) := hid (by
    rw [oneS_mid (c := 1) (b := 104) (by decide) ov]
    show (1, sg 1 ((min (Lib.ctz 64 (un 1 v).toNat) (wd 1) : Nat) : Int), true) = _
    rw [hw, hun, t2, show min (min p q) 32 = y by omega, sp _ (by omega) (by omega)])
  have H3 : Hid (oneS 105 1 v = (1, (o : Int), true)) := hid (by
    rw [oneS_mid (c := 1) (b := 105) (by decide) ov]
    show (1, sg 1 ((pc 64 (un 1 v).toNat : Nat) : Int), true) = _
    rw [hun, t3, ho, sp _ (by omega) (by omega)])
  have H4 : Hid (oneS 103 1 0 = (1, 32, true)) := hid (by decide +kernel)
  have H5 : Hid (oneS 104 1 0 = (1, 32, true)) := hid (by decide +kernel)
  have Hv := hid hv
  have Rv := hid rv
  have Rr := hid rr
  have Hq := hid hq
  have hpw : (2 : Int) ^ p = ((2 ^ p : Nat) : Int) := by simp
  have hu1 : IntKind.u64.wrap (p : Int) = p := by rw [IntKind.wrap_u64]; omega
  have hu2 : IntKind.u64.wrap (q : Int) = q := by rw [IntKind.wrap_u64]; omega
  clear hpw hv rv rr ov hun t1 t2 t3 sp hw
  have HL := hid hL
  clear hL
  rcases Nat.lt_trichotomy p q with g | g | g
  · have m1 : max (p : Int) (q : Int) = q := by omega
    have m2 : min (p : Int) (q : Int) = p := by omega
    have ex : x = 32 - 1 - (q : Int) := by omega
    have ey : y = p := by omega
    have eo : o = 2 := by rw [← ho, if_neg (by omega)]
    have pq : ((p : Int) == (q : Int)) = false := by simp; omega
    clear hx hy ho
    subst ex ey eo
    go_enter Tryd.func12, Tryd.ntmps12
    go_wp2_with fail
    refine (begun_any _ HL.out).mono ?_
    rintro e w1 ⟨rfl, b1⟩
    have BL1 := hid (Bl.step (Bl.refl _) b1)
    clear b1
    go_wp2_with fail
    go_quiet (fail)
    go_wp2_with fail
    have BLd := hid (Bl.step BL1.out (below_drewN _ w1 nq))
    obtain ⟨wd1, hwd⟩ : ∃ wd1 : World, wd1 = w1.drewN nq := ⟨_, rfl⟩
    rw [← hwd] at BLd ⊢
    clear hwd BL1
    refine (refWrap_to 1 _ v (by decide) Rr.out Hv.out _).mono ?_
    rintro e w2 ⟨rfl, b2⟩
    have BL2 := hid (Bl.step BLd.out b2)
    clear b2 BLd
    go_wp2_with fail
    refine (one_to _ _ _ _ _ _ Rv.out H1.out _ (HL.out.below (Bl.alloc BL2.out _))).mono ?_
    rintro e w3 ⟨rfl, b3⟩
    have V_3 := hid (((Pair.new _ _ _ _ (p := w2.heap.size) (by simp))).below b3)
    have BL3 := hid (Bl.step (Bl.alloc BL2.out _) b3)
    clear b3 BL2
    obtain ⟨Vc0, Vc1, -, -⟩ := V_3.out
    have Vlt : w2.heap.size < w3.heap.size := World.block_lt_of_cell? _ _ Vc0
    go_wp2_with fail
    refine (one_to _ _ _ _ _ _ Rv.out H2.out _ (HL.out.below (Bl.alloc BL3.out _))).mono ?_
    rintro e w4 ⟨rfl, b4⟩
    have V_4 := hid ((V_3.out.alloc _).below b4)
    have A_4 := hid (((Pair.new _ _ _ _ (p := w3.heap.size) (by simp))).below b4)
    have BL4 := hid (Bl.step (Bl.alloc BL3.out _) b4)
    clear b4 Vc0 Vc1 Vlt V_3 BL3
    obtain ⟨Vc0, Vc1, -, -⟩ := V_4.out
    have Vlt : w2.heap.size < w4.heap.size := World.block_lt_of_cell? _ _ Vc0
    obtain ⟨Ac0, Ac1, -, -⟩ := A_4.out
    have Alt : w3.heap.size < w4.heap.size := World.block_lt_of_cell? _ _ Ac0
    go_wp2_with fail
    refine (one_to _ _ _ _ _ _ Rv.out H3.out _ (HL.out.below (Bl.alloc BL4.out _))).mono ?_
    rintro e w5 ⟨rfl, b5⟩
    have V_5 := hid ((V_4.out.alloc _).below b5)
    have A_5 := hid ((A_4.out.alloc _).below b5)
    have B_5 := hid (((Pair.new _ _ _ _ (p := w4.heap.size) (by simp))).below b5)
    have BL5 := hid (Bl.step (Bl.alloc BL4.out _) b5)
    clear b5 Vc0 Vc1 Vlt Ac0 Ac1 Alt V_4 A_4 BL4
    obtain ⟨Vc0, Vc1, -, -⟩ := V_5.out
    have Vlt : w2.heap.size < w5.heap.size := World.block_lt_of_cell? _ _ Vc0
    obtain ⟨Ac0, Ac1, -, -⟩ := A_5.out
    have Alt : w3.heap.size < w5.heap.size := World.block_lt_of_cell? _ _ Ac0
    obtain ⟨Bc0, Bc1, -, -⟩ := B_5.out
    have Blt : w4.heap.size < w5.heap.size := World.block_lt_of_cell? _ _ Bc0
    go_wp2_with fail
    refine (one_to _ _ _ _ _ _ (by decide) H4.out _ (HL.out.below (Bl.alloc BL5.out _))).mono ?_
    rintro e w6 ⟨rfl, b6⟩
    have V_6 := hid ((V_5.out.alloc _).below b6)
    have A_6 := hid ((A_5.out.alloc _).below b6)
    have B_6 := hid ((B_5.out.alloc _).below b6)
    have C_6 := hid (((Pair.new _ _ _ _ (p := w5.heap.size) (by simp))).below b6)
    have BL6 := hid (Bl.step (Bl.alloc BL5.out _) b6)
    clear b6 Vc0 Vc1 Vlt Ac0 Ac1 Alt Bc0 Bc1 Blt V_5 A_5 B_5 BL5
    obtain ⟨Vc0, Vc1, -, -⟩ := V_6.out
    have Vlt : w2.heap.size < w6.heap.size := World.block_lt_of_cell? _ _ Vc0
    obtain ⟨Ac0, Ac1, -, -⟩ := A_6.out
    have Alt : w3.heap.size < w6.heap.size := World.block_lt_of_cell? _ _ Ac0
    obtain ⟨Bc0, Bc1, -, -⟩ := B_6.out
    have Blt : w4.heap.size < w6.heap.size := World.block_lt_of_cell? _ _ Bc0
    obtain ⟨Cc0, Cc1, -, -⟩ := C_6.out
    have Clt : w5.heap.size < w6.heap.size := World.block_lt_of_cell? _ _ Cc0
    go_wp2_with fail
    refine (one_to _ _ _ _ _ _ (by decide) H5.out _ (HL.out.below (Bl.alloc BL6.out _))).mono ?_
    rintro e w7 ⟨rfl, b7⟩
    have V_7 := hid ((V_6.out.alloc _).below b7)
    have A_7 := hid ((A_6.out.alloc _).below b7)
    have B_7 := hid ((B_6.out.alloc _).below b7)
    have C_7 := hid ((C_6.out.alloc _).below b7)
    have Z_7 := hid (((Pair.new _ _ _ _ (p := w6.heap.size) (by simp))).below b7)
    have BL7 := hid (Bl.step (Bl.alloc BL6.out _) b7)
    clear b7 Vc0 Vc1 Vlt Ac0 Ac1 Alt Bc0 Bc1 Blt Cc0 Cc1 Clt V_6 A_6 B_6 C_6 BL6
    obtain ⟨Vc0, Vc1, -, -⟩ := V_7.out
    have Vlt : w2.heap.size < w7.heap.size := World.block_lt_of_cell? _ _ Vc0
    obtain ⟨Ac0, Ac1, -, -⟩ := A_7.out
    have Alt : w3.heap.size < w7.heap.size := World.block_lt_of_cell? _ _ Ac0
    obtain ⟨Bc0, Bc1, -, -⟩ := B_7.out
    have Blt : w4.heap.size < w7.heap.size := World.block_lt_of_cell? _ _ Bc0
    obtain ⟨Cc0, Cc1, -, -⟩ := C_7.out
    have Clt : w5.heap.size < w7.heap.size := World.block_lt_of_cell? _ _ Cc0
    obtain ⟨Zc0, Zc1, -, -⟩ := Z_7.out
    have Zlt : w6.heap.size < w7.heap.size := World.block_lt_of_cell? _ _ Zc0
    go_wp2_with fail
    go_ret
    exact ⟨by simp, (Bl.alloc BL7.out _)⟩
  · subst g
    obtain rfl : b = a := by rw [← hb, ← ha]
    clear hb q1 hq hu2
    have hq : k % 32 = (p : Int) := Hq.out
    have ex : x = 32 - 1 - (p : Int) := by omega
    have ey : y = p := by omega
    have eo : o = 1 := by rw [← ho, if_pos rfl]
    clear hx hy ho
    subst ex ey eo
    go_enter Tryd.func12, Tryd.ntmps12
    go_wp2_with fail
    refine (begun_any _ HL.out).mono ?_
    rintro e w1 ⟨rfl, b1⟩
    have BL1 := hid (Bl.step (Bl.refl _) b1)
    clear b1
    go_wp2_with fail
    go_quiet (fail)
    go_wp2_with fail
    have BLd := hid (Bl.step BL1.out (below_drewN _ w1 nq))
    obtain ⟨wd1, hwd⟩ : ∃ wd1 : World, wd1 = w1.drewN nq := ⟨_, rfl⟩
    rw [← hwd] at BLd ⊢
    clear hwd BL1
    refine (refWrap_to 1 _ v (by decide) Rr.out Hv.out _).mono ?_
    rintro e w2 ⟨rfl, b2⟩
    have BL2 := hid (Bl.step BLd.out b2)
    clear b2 BLd
    go_wp2_with fail
    refine (one_to _ _ _ _ _ _ Rv.out H1.out _ (HL.out.below (Bl.alloc BL2.out _))).mono ?_
    rintro e w3 ⟨rfl, b3⟩
    have V_3 := hid (((Pair.new _ _ _ _ (p := w2.heap.size) (by simp))).below b3)
    have BL3 := hid (Bl.step (Bl.alloc BL2.out _) b3)
    clear b3 BL2
    obtain ⟨Vc0, Vc1, -, -⟩ := V_3.out
    have Vlt : w2.heap.size < w3.heap.size := World.block_lt_of_cell? _ _ Vc0
    go_wp2_with fail
    refine (one_to _ _ _ _ _ _ Rv.out H2.out _ (HL.out.below (Bl.alloc BL3.out _))).mono ?_
    rintro e w4 ⟨rfl, b4⟩
    have V_4 := hid ((V_3.out.alloc _).below b4)
    have A_4 := hid (((Pair.new _ _ _ _ (p := w3.heap.size) (by simp))).below b4)
    have BL4 := hid (Bl.step (Bl.alloc BL3.out _) b4)
    clear b4 Vc0 Vc1 Vlt V_3 BL3
    obtain ⟨Vc0, Vc1, -, -⟩ := V_4.out
    have Vlt : w2.heap.size < w4.heap.size := World.block_lt_of_cell? _ _ Vc0
    obtain ⟨Ac0, Ac1, -, -⟩ := A_4.out
    have Alt : w3.heap.size < w4.heap.size := World.block_lt_of_cell? _ _ Ac0
    go_wp2_with fail
    refine (one_to _ _ _ _ _ _ Rv.out H3.out _ (HL.out.below (Bl.alloc BL4.out _))).mono ?_
    rintro e w5 ⟨rfl, b5⟩
    have V_5 := hid ((V_4.out.alloc _).below b5)
    have A_5 := hid ((A_4.out.alloc _).below b5)
    have B_5 := hid (((Pair.new _ _ _ _ (p := w4.heap.size) (by simp))).below b5)
    have BL5 := hid (Bl.step (Bl.alloc BL4.out _) b5)
    clear b5 Vc0 Vc1 Vlt Ac0 Ac1 Alt V_4 A_4 BL4
    obtain ⟨Vc0, Vc1, -, -⟩ := V_5.out
    have Vlt : w2.heap.size < w5.heap.size := World.block_lt_of_cell? _ _ Vc0
    obtain ⟨Ac0, Ac1, -, -⟩ := A_5.out
    have Alt : w3.heap.size < w5.heap.size := World.block_lt_of_cell? _ _ Ac0
    obtain ⟨Bc0, Bc1, -, -⟩ := B_5.out
    have Blt : w4.heap.size < w5.heap.size := World.block_lt_of_cell? _ _ Bc0
    go_wp2_with fail
    refine (one_to _ _ _ _ _ _ (by decide) H4.out _ (HL.out.below (Bl.alloc BL5.out _))).mono ?_
    rintro e w6 ⟨rfl, b6⟩
    have V_6 := hid ((V_5.out.alloc _).below b6)
    have A_6 := hid ((A_5.out.alloc _).below b6)
    have B_6 := hid ((B_5.out.alloc _).below b6)
    have C_6 := hid (((Pair.new _ _ _ _ (p := w5.heap.size) (by simp))).below b6)
    have BL6 := hid (Bl.step (Bl.alloc BL5.out _) b6)
    clear b6 Vc0 Vc1 Vlt Ac0 Ac1 Alt Bc0 Bc1 Blt V_5 A_5 B_5 BL5
    obtain ⟨Vc0, Vc1, -, -⟩ := V_6.out
    have Vlt : w2.heap.size < w6.heap.size := World.block_lt_of_cell? _ _ Vc0
    obtain ⟨Ac0, Ac1, -, -⟩ := A_6.out
    have Alt : w3.heap.size < w6.heap.size := World.block_lt_of_cell? _ _ Ac0
    obtain ⟨Bc0, Bc1, -, -⟩ := B_6.out
    have Blt : w4.heap.size < w6.heap.size := World.block_lt_of_cell? _ _ Bc0
    obtain ⟨Cc0, Cc1, -, -⟩ := C_6.out
    have Clt : w5.heap.size < w6.heap.size := World.block_lt_of_cell? _ _ Cc0
    go_wp2_with fail
    refine (one_to _ _ _ _ _ _ (by decide) H5.out _ (HL.out.below (Bl.alloc BL6.out _))).mono ?_
    rintro e w7 ⟨rfl, b7⟩
    have V_7 := hid ((V_6.out.alloc _).below b7)
    have A_7 := hid ((A_6.out.alloc _).below b7)
    have B_7 := hid ((B_6.out.alloc _).below b7)
    have C_7 := hid ((C_6.out.alloc _).below b7)
    have Z_7 := hid (((Pair.new _ _ _ _ (p := w6.heap.size) (by simp))).below b7)
    have BL7 := hid (Bl.step (Bl.alloc BL6.out _) b7)
    clear b7 Vc0 Vc1 Vlt Ac0 Ac1 Alt Bc0 Bc1 Blt Cc0 Cc1 Clt V_6 A_6 B_6 C_6 BL6
    obtain ⟨Vc0, Vc1, -, -⟩ := V_7.out
    have Vlt : w2.heap.size < w7.heap.size := World.block_lt_of_cell? _ _ Vc0
    obtain ⟨Ac0, Ac1, -, -⟩ := A_7.out
    have Alt : w3.heap.size < w7.heap.size := World.block_lt_of_cell? _ _ Ac0
    obtain ⟨Bc0, Bc1, -, -⟩ := B_7.out
    have Blt : w4.heap.size < w7.heap.size := World.block_lt_of_cell? _ _ Bc0
    obtain ⟨Cc0, Cc1, -, -⟩ := C_7.out
    have Clt : w5.heap.size < w7.heap.size := World.block_lt_of_cell? _ _ Cc0
    obtain ⟨Zc0, Zc1, -, -⟩ := Z_7.out
    have Zlt : w6.heap.size < w7.heap.size := World.block_lt_of_cell? _ _ Zc0
    go_wp2_with fail
    go_ret
    exact ⟨by simp, (Bl.alloc BL7.out _)⟩
  · have m1 : max (p : Int) (q : Int) = p := by omega
    have m2 : min (p : Int) (q : Int) = q := by omega
    have ex : x = 32 - 1 - (p : Int) := by omega
    have ey : y = q := by omega
    have eo : o = 2 := by rw [← ho, if_neg (by omega)]
    have pq : ((p : Int) == (q : Int)) = false := by simp; omega
    clear hx hy ho
    subst ex ey eo
    go_enter Tryd.func12, Tryd.ntmps12
    go_wp2_with fail
    refine (begun_any _ HL.out).mono ?_
    rintro e w1 ⟨rfl, b1⟩
    have BL1 := hid (Bl.step (Bl.refl _) b1)
    clear b1
    go_wp2_with fail
    go_quiet (fail)
    go_wp2_with fail
    have BLd := hid (Bl.step BL1.out (below_drewN _ w1 nq))
    obtain ⟨wd1, hwd⟩ : ∃ wd1 : World, wd1 = w1.drewN nq := ⟨_, rfl⟩
    rw [← hwd] at BLd ⊢
    clear hwd BL1
    refine (refWrap_to 1 _ v (by decide) Rr.out Hv.out _).mono ?_
    rintro e w2 ⟨rfl, b2⟩
    have BL2 := hid (Bl.step BLd.out b2)
    clear b2 BLd
    go_wp2_with fail
    refine (one_to _ _ _ _ _ _ Rv.out H1.out _ (HL.out.below (Bl.alloc BL2.out _))).mono ?_
    rintro e w3 ⟨rfl, b3⟩
    have V_3 := hid (((Pair.new _ _ _ _ (p := w2.heap.size) (by simp))).below b3)
    have BL3 := hid (Bl.step (Bl.alloc BL2.out _) b3)
    clear b3 BL2
    obtain ⟨Vc0, Vc1, -, -⟩ := V_3.out
    have Vlt : w2.heap.size < w3.heap.size := World.block_lt_of_cell? _ _ Vc0
    go_wp2_with fail
    refine (one_to _ _ _ _ _ _ Rv.out H2.out _ (HL.out.below (Bl.alloc BL3.out _))).mono ?_
    rintro e w4 ⟨rfl, b4⟩
    have V_4 := hid ((V_3.out.alloc _).below b4)
    have A_4 := hid (((Pair.new _ _ _ _ (p := w3.heap.size) (by simp))).below b4)
    have BL4 := hid (Bl.step (Bl.alloc BL3.out _) b4)
    clear b4 Vc0 Vc1 Vlt V_3 BL3
    obtain ⟨Vc0, Vc1, -, -⟩ := V_4.out
    have Vlt : w2.heap.size < w4.heap.size := World.block_lt_of_cell? _ _ Vc0
    obtain ⟨Ac0, Ac1, -, -⟩ := A_4.out
    have Alt : w3.heap.size < w4.heap.size := World.block_lt_of_cell? _ _ Ac0
    go_wp2_with fail
    refine (one_to _ _ _ _ _ _ Rv.out H3.out _ (HL.out.below (Bl.alloc BL4.out _))).mono ?_
    rintro e w5 ⟨rfl, b5⟩
    have V_5 := hid ((V_4.out.alloc _).below b5)
    have A_5 := hid ((A_4.out.alloc _).below b5)
    have B_5 := hid (((Pair.new _ _ _ _ (p := w4.heap.size) (by simp))).below b5)
    have BL5 := hid (Bl.step (Bl.alloc BL4.out _) b5)
    clear b5 Vc0 Vc1 Vlt Ac0 Ac1 Alt V_4 A_4 BL4
    obtain ⟨Vc0, Vc1, -, -⟩ := V_5.out
    have Vlt : w2.heap.size < w5.heap.size := World.block_lt_of_cell? _ _ Vc0
    obtain ⟨Ac0, Ac1, -, -⟩ := A_5.out
    have Alt : w3.heap.size < w5.heap.size := World.block_lt_of_cell? _ _ Ac0
    obtain ⟨Bc0, Bc1, -, -⟩ := B_5.out
    have Blt : w4.heap.size < w5.heap.size := World.block_lt_of_cell? _ _ Bc0
    go_wp2_with fail
    refine (one_to _ _ _ _ _ _ (by decide) H4.out _ (HL.out.below (Bl.alloc BL5.out _))).mono ?_
    rintro e w6 ⟨rfl, b6⟩
    have V_6 := hid ((V_5.out.alloc _).below b6)
    have A_6 := hid ((A_5.out.alloc _).below b6)
    have B_6 := hid ((B_5.out.alloc _).below b6)
    have C_6 := hid (((Pair.new _ _ _ _ (p := w5.heap.size) (by simp))).below b6)
    have BL6 := hid (Bl.step (Bl.alloc BL5.out _) b6)
    clear b6 Vc0 Vc1 Vlt Ac0 Ac1 Alt Bc0 Bc1 Blt V_5 A_5 B_5 BL5
    obtain ⟨Vc0, Vc1, -, -⟩ := V_6.out
    have Vlt : w2.heap.size < w6.heap.size := World.block_lt_of_cell? _ _ Vc0
    obtain ⟨Ac0, Ac1, -, -⟩ := A_6.out
    have Alt : w3.heap.size < w6.heap.size := World.block_lt_of_cell? _ _ Ac0
    obtain ⟨Bc0, Bc1, -, -⟩ := B_6.out
    have Blt : w4.heap.size < w6.heap.size := World.block_lt_of_cell? _ _ Bc0
    obtain ⟨Cc0, Cc1, -, -⟩ := C_6.out
    have Clt : w5.heap.size < w6.heap.size := World.block_lt_of_cell? _ _ Cc0
    go_wp2_with fail
    refine (one_to _ _ _ _ _ _ (by decide) H5.out _ (HL.out.below (Bl.alloc BL6.out _))).mono ?_
    rintro e w7 ⟨rfl, b7⟩
    have V_7 := hid ((V_6.out.alloc _).below b7)
    have A_7 := hid ((A_6.out.alloc _).below b7)
    have B_7 := hid ((B_6.out.alloc _).below b7)
    have C_7 := hid ((C_6.out.alloc _).below b7)
    have Z_7 := hid (((Pair.new _ _ _ _ (p := w6.heap.size) (by simp))).below b7)
    have BL7 := hid (Bl.step (Bl.alloc BL6.out _) b7)
    clear b7 Vc0 Vc1 Vlt Ac0 Ac1 Alt Bc0 Bc1 Blt Cc0 Cc1 Clt V_6 A_6 B_6 C_6 BL6
    obtain ⟨Vc0, Vc1, -, -⟩ := V_7.out
    have Vlt : w2.heap.size < w7.heap.size := World.block_lt_of_cell? _ _ Vc0
    obtain ⟨Ac0, Ac1, -, -⟩ := A_7.out
    have Alt : w3.heap.size < w7.heap.size := World.block_lt_of_cell? _ _ Ac0
    obtain ⟨Bc0, Bc1, -, -⟩ := B_7.out
    have Blt : w4.heap.size < w7.heap.size := World.block_lt_of_cell? _ _ Bc0
    obtain ⟨Cc0, Cc1, -, -⟩ := C_7.out
    have Clt : w5.heap.size < w7.heap.size := World.block_lt_of_cell? _ _ Cc0
    obtain ⟨Zc0, Zc1, -, -⟩ := Z_7.out
    have Zlt : w6.heap.size < w7.heap.size := World.block_lt_of_cell? _ _ Zc0
    go_wp2_with fail
    go_ret
    exact ⟨by simp, (Bl.alloc BL7.out _)⟩

set_option maxRecDepth 20000 in
set_option maxHeartbeats 4000000 in
theorem intsBits_walk2 (i k : Int) (hi : 0 ≤ i) (hk : 0 ≤ k) (hi1 : i ≤ 9223372036854775807) (hk1 : k ≤ 9223372036854775807) (w : World) (hL : Laid w) :
    Calls Tryd.prog 12 #[.int .i64 i, .int .i64 k, .bool true] w fun e w' => e = .returned (.bool true) ∧ Below w.heap.size w w' := by
  obtain ⟨p, hp⟩ : ∃ p : Nat, i % 64 = (p : Int) := ⟨(i % 64).toNat, by omega⟩
  obtain ⟨q, hq⟩ : ∃ q : Nat, k % 64 = (q : Int) := ⟨(k % 64).toNat, by omega⟩
  have p1 : p < 64 := by omega
  have q1 : q < 64 := by omega
  obtain ⟨a, ha⟩ : ∃ a, wrap64 (2 ^ p) = a := ⟨_, rfl⟩
  obtain ⟨b, hb⟩ : ∃ b, wrap64 (2 ^ q) = b := ⟨_, rfl⟩
  obtain ⟨r, hr⟩ : ∃ r, bits BinOp.or IntKind.i64 a b = r := ⟨_, rfl⟩
  obtain ⟨v, hv⟩ : ∃ v, sg 2 r = v := ⟨_, rfl⟩
  obtain ⟨ov, rv⟩ : okv 2 v = true ∧ In64 v := by rw [← hv]; exact ⟨okv_sg _ _ (by decide), in64_sg _ _⟩
  have rr : In64 r := by rw [← hr]; exact bits_i64_in _ _ _
  have hun : (un 2 v).toNat = 2 ^ p ||| 2 ^ q := by
    rw [← hv, ← hr, ← ha, ← hb]
    exact two_un 2 p q 64 (by decide) p1 q1
  obtain ⟨t1, t2, t3⟩ := two_bits ⟨p, by omega⟩ ⟨q, by omega⟩
  simp only at t1 t2 t3
  have sp : ∀ z : Int, 0 ≤ z → z ≤ 64 → sg 2 z = z := fun z h0 h1 => sg_id 2 z (by unfold okv; simp <;> omega) (by unfold In64; omega)
  have hw : wd 2 = 64 := rfl
  obtain ⟨x, hx⟩ : ∃ x : Int, (64 : Int) - ((max p q + 1 : Nat) : Int) = x := ⟨_, rfl⟩
  obtain ⟨y, hy⟩ : ∃ y : Nat, min p q = y := ⟨_, rfl⟩
  obtain ⟨o, ho⟩ : ∃ o : Nat, (if p = q then 1 else 2) = o := ⟨_, rfl⟩
  have o2 : o ≤ 2 := by rw [← ho]; split <;> omega
  have H1 : Hid (oneS 121 2 v = (2, x, true)) := hid (by
    rw [oneS_mid (c := 2) (b := 103) (by decide) ov]
    show (2, sg 2 (((wd 2 : Nat) : Int) - (Lib.bitLen (un 2 v).toNat : Int)), true) = _
    rw [hw, hun, t1]
    have e : ((64 : Nat) : Int) - ((max p q + 1 : Nat) : Int) = x := hx
    rw [e, sp _ (by omega) (by omega)])
  have H2 : Hid (oneS 122 2 v = (2, (y : Int), true)) := hid (by
    rw [oneS_mid (c := 2) (b := 104) (by decide) ov]
    show (2, sg 2 ((min (Lib.ctz 64 (un 2 v).toNat) (wd 2) : Nat) : Int), true) = _
    rw [hw, hun, t2, show min (min p q) 64 = y by omega, sp _ (by omega) (by omega)])
  have H3 : Hid (oneS 123 2 v = (2, (o : Int), true)) := hid (by
    rw [oneS_mid (c := 2) (b := 105) (by decide) ov]
    show (2, sg 2 ((pc 64 (un 2 v).toNat : Nat) : Int), true) = _
    rw [hun, t3, ho, sp _ (by omega) (by omega)])
  have H4 : Hid (oneS 121 2 0 = (2, 64, true)) := hid (by decide +kernel)
  have H5 : Hid (oneS 122 2 0 = (2, 64, true)) := hid (by decide +kernel)
  have Hv := hid hv
  have Rv := hid rv
  have Rr := hid rr
  have Hq := hid hq
  have hpw : (2 : Int) ^ p = ((2 ^ p : Nat) : Int) := by simp
  have hu1 : IntKind.u64.wrap (p : Int) = p := by rw [IntKind.wrap_u64]; omega
  have hu2 : IntKind.u64.wrap (q : Int) = q := by rw [IntKind.wrap_u64]; omega
  clear hpw hv rv rr ov hun t1 t2 t3 sp hw
  have HL := hid hL
  clear hL
  rcases Nat.lt_trichotomy p q with g | g | g
  · have m1 : max (p : Int) (q : Int) = q := by omega
    have m2 : min (p : Int) (q : Int) = p := by omega
    have ex : x = 64 - 1 - (q : Int) := by omega
    have ey : y = p := by omega
    have eo : o = 2 := by rw [← ho, if_neg (by omega)]
    have pq : ((p : Int) == (q : Int)) = false := by simp; omega
    clear hx hy ho
    subst ex ey eo
    go_enter Tryd.func12, Tryd.ntmps12
    go_wp2_with fail
    refine (begun_any _ HL.out).mono ?_
    rintro e w1 ⟨rfl, b1⟩
    have BL1 := hid (Bl.step (Bl.refl _) b1)
    clear b1
    go_wp2_with fail
    go_quiet (fail)
    go_wp2_with fail
    have BLd := hid (Bl.step BL1.out (below_drewN _ w1 nq))
    obtain ⟨wd1, hwd⟩ : ∃ wd1 : World, wd1 = w1.drewN nq := ⟨_, rfl⟩
    rw [← hwd] at BLd ⊢
    clear hwd BL1
    refine (refWrap_to 2 _ v (by decide) Rr.out Hv.out _).mono ?_
    rintro e w2 ⟨rfl, b2⟩
    have BL2 := hid (Bl.step BLd.out b2)
    clear b2 BLd
    go_wp2_with fail
    refine (one_to _ _ _ _ _ _ Rv.out H1.out _ (HL.out.below (Bl.alloc BL2.out _))).mono ?_
    rintro e w3 ⟨rfl, b3⟩
    have V_3 := hid (((Pair.new _ _ _ _ (p := w2.heap.size) (by simp))).below b3)
    have BL3 := hid (Bl.step (Bl.alloc BL2.out _) b3)
    clear b3 BL2
    obtain ⟨Vc0, Vc1, -, -⟩ := V_3.out
    have Vlt : w2.heap.size < w3.heap.size := World.block_lt_of_cell? _ _ Vc0
    go_wp2_with fail
    refine (one_to _ _ _ _ _ _ Rv.out H2.out _ (HL.out.below (Bl.alloc BL3.out _))).mono ?_
    rintro e w4 ⟨rfl, b4⟩
    have V_4 := hid ((V_3.out.alloc _).below b4)
    have A_4 := hid (((Pair.new _ _ _ _ (p := w3.heap.size) (by simp))).below b4)
    have BL4 := hid (Bl.step (Bl.alloc BL3.out _) b4)
    clear b4 Vc0 Vc1 Vlt V_3 BL3
    obtain ⟨Vc0, Vc1, -, -⟩ := V_4.out
    have Vlt : w2.heap.size < w4.heap.size := World.block_lt_of_cell? _ _ Vc0
    obtain ⟨Ac0, Ac1, -, -⟩ := A_4.out
    have Alt : w3.heap.size < w4.heap.size := World.block_lt_of_cell? _ _ Ac0
    go_wp2_with fail
    refine (one_to _ _ _ _ _ _ Rv.out H3.out _ (HL.out.below (Bl.alloc BL4.out _))).mono ?_
    rintro e w5 ⟨rfl, b5⟩
    have V_5 := hid ((V_4.out.alloc _).below b5)
    have A_5 := hid ((A_4.out.alloc _).below b5)
    have B_5 := hid (((Pair.new _ _ _ _ (p := w4.heap.size) (by simp))).below b5)
    have BL5 := hid (Bl.step (Bl.alloc BL4.out _) b5)
    clear b5 Vc0 Vc1 Vlt Ac0 Ac1 Alt V_4 A_4 BL4
    obtain ⟨Vc0, Vc1, -, -⟩ := V_5.out
    have Vlt : w2.heap.size < w5.heap.size := World.block_lt_of_cell? _ _ Vc0
    obtain ⟨Ac0, Ac1, -, -⟩ := A_5.out
    have Alt : w3.heap.size < w5.heap.size := World.block_lt_of_cell? _ _ Ac0
    obtain ⟨Bc0, Bc1, -, -⟩ := B_5.out
    have Blt : w4.heap.size < w5.heap.size := World.block_lt_of_cell? _ _ Bc0
    go_wp2_with fail
    refine (one_to _ _ _ _ _ _ (by decide) H4.out _ (HL.out.below (Bl.alloc BL5.out _))).mono ?_
    rintro e w6 ⟨rfl, b6⟩
    have V_6 := hid ((V_5.out.alloc _).below b6)
    have A_6 := hid ((A_5.out.alloc _).below b6)
    have B_6 := hid ((B_5.out.alloc _).below b6)
    have C_6 := hid (((Pair.new _ _ _ _ (p := w5.heap.size) (by simp))).below b6)
    have BL6 := hid (Bl.step (Bl.alloc BL5.out _) b6)
    clear b6 Vc0 Vc1 Vlt Ac0 Ac1 Alt Bc0 Bc1 Blt V_5 A_5 B_5 BL5
    obtain ⟨Vc0, Vc1, -, -⟩ := V_6.out
    have Vlt : w2.heap.size < w6.heap.size := World.block_lt_of_cell? _ _ Vc0
    obtain ⟨Ac0, Ac1, -, -⟩ := A_6.out
    have Alt : w3.heap.size < w6.heap.size := World.block_lt_of_cell? _ _ Ac0
    obtain ⟨Bc0, Bc1, -, -⟩ := B_6.out
    have Blt : w4.heap.size < w6.heap.size := World.block_lt_of_cell? _ _ Bc0
    obtain ⟨Cc0, Cc1, -, -⟩ := C_6.out
    have Clt : w5.heap.size < w6.heap.size := World.block_lt_of_cell? _ _ Cc0
    go_wp2_with fail
    refine (one_to _ _ _ _ _ _ (by decide) H5.out _ (HL.out.below (Bl.alloc BL6.out _))).mono ?_
    rintro e w7 ⟨rfl, b7⟩
    have V_7 := hid ((V_6.out.alloc _).below b7)
    have A_7 := hid ((A_6.out.alloc _).below b7)
    have B_7 := hid ((B_6.out.alloc _).below b7)
    have C_7 := hid ((C_6.out.alloc _).below b7)
    have Z_7 := hid (((Pair.new _ _ _ _ (p := w6.heap.size) (by simp))).below b7)
    have BL7 := hid (Bl.step (Bl.alloc BL6.out _) b7)
    clear b7 Vc0 Vc1 Vlt Ac0 Ac1 Alt Bc0 Bc1 Blt Cc0 Cc1 Clt V_6 A_6 B_6 C_6 BL6
    obtain ⟨Vc0, Vc1, -, -⟩ := V_7.out
    have Vlt : w2.heap.size < w7.heap.size := World.block_lt_of_cell? _ _ Vc0
    obtain ⟨Ac0, Ac1, -, -⟩ := A_7.out
    have Alt : w3.heap.size < w7.heap.size := World.block_lt_of_cell? _ _ Ac0
    obtain ⟨Bc0, Bc1, -, -⟩ := B_7.out
    have Blt : w4.heap.size < w7.heap.size := World.block_lt_of_cell? _ _ Bc0
    obtain ⟨Cc0, Cc1, -, -⟩ := C_7.out
    have Clt : w5.heap.size < w7.heap.size := World.block_lt_of_cell? _ _ Cc0
    obtain ⟨Zc0, Zc1, -, -⟩ := Z_7.out
    have Zlt : w6.heap.size < w7.heap.size := World.block_lt_of_cell? _ _ Zc0
    go_wp2_with fail
    go_ret
    exact ⟨by simp, (Bl.alloc BL7.out _)⟩
  · subst g
    obtain rfl : b = a := by rw [← hb, ← ha]
    clear hb q1 hq hu2
    have hq : k % 64 = (p : Int) := Hq.out
    have ex : x = 64 - 1 - (p : Int) := by omega
    have ey : y = p := by omega
    have eo : o = 1 := by rw [← ho, if_pos rfl]
    clear hx hy ho
    subst ex ey eo
    go_enter Tryd.func12, Tryd.ntmps12
    go_wp2_with fail
    refine (begun_any _ HL.out).mono ?_
    rintro e w1 ⟨rfl, b1⟩
    have BL1 := hid (Bl.step (Bl.refl _) b1)
    clear b1
    go_wp2_with fail
    go_quiet (fail)
    go_wp2_with fail
    have BLd := hid (Bl.step BL1.out (below_drewN _ w1 nq))
    obtain ⟨wd1, hwd⟩ : ∃ wd1 : World, wd1 = w1.drewN nq := ⟨_, rfl⟩
    rw [← hwd] at BLd ⊢
    clear hwd BL1
    refine (refWrap_to 2 _ v (by decide) Rr.out Hv.out _).mono ?_
    rintro e w2 ⟨rfl, b2⟩
    have BL2 := hid (Bl.step BLd.out b2)
    clear b2 BLd
    go_wp2_with fail
    refine (one_to _ _ _ _ _ _ Rv.out H1.out _ (HL.out.below (Bl.alloc BL2.out _))).mono ?_
    rintro e w3 ⟨rfl, b3⟩
    have V_3 := hid (((Pair.new _ _ _ _ (p := w2.heap.size) (by simp))).below b3)
    have BL3 := hid (Bl.step (Bl.alloc BL2.out _) b3)
    clear b3 BL2
    obtain ⟨Vc0, Vc1, -, -⟩ := V_3.out
    have Vlt : w2.heap.size < w3.heap.size := World.block_lt_of_cell? _ _ Vc0
    go_wp2_with fail
    refine (one_to _ _ _ _ _ _ Rv.out H2.out _ (HL.out.below (Bl.alloc BL3.out _))).mono ?_
    rintro e w4 ⟨rfl, b4⟩
    have V_4 := hid ((V_3.out.alloc _).below b4)
    have A_4 := hid (((Pair.new _ _ _ _ (p := w3.heap.size) (by simp))).below b4)
    have BL4 := hid (Bl.step (Bl.alloc BL3.out _) b4)
    clear b4 Vc0 Vc1 Vlt V_3 BL3
    obtain ⟨Vc0, Vc1, -, -⟩ := V_4.out
    have Vlt : w2.heap.size < w4.heap.size := World.block_lt_of_cell? _ _ Vc0
    obtain ⟨Ac0, Ac1, -, -⟩ := A_4.out
    have Alt : w3.heap.size < w4.heap.size := World.block_lt_of_cell? _ _ Ac0
    go_wp2_with fail
    refine (one_to _ _ _ _ _ _ Rv.out H3.out _ (HL.out.below (Bl.alloc BL4.out _))).mono ?_
    rintro e w5 ⟨rfl, b5⟩
    have V_5 := hid ((V_4.out.alloc _).below b5)
    have A_5 := hid ((A_4.out.alloc _).below b5)
    have B_5 := hid (((Pair.new _ _ _ _ (p := w4.heap.size) (by simp))).below b5)
    have BL5 := hid (Bl.step (Bl.alloc BL4.out _) b5)
    clear b5 Vc0 Vc1 Vlt Ac0 Ac1 Alt V_4 A_4 BL4
    obtain ⟨Vc0, Vc1, -, -⟩ := V_5.out
    have Vlt : w2.heap.size < w5.heap.size := World.block_lt_of_cell? _ _ Vc0
    obtain ⟨Ac0, Ac1, -, -⟩ := A_5.out
    have Alt : w3.heap.size < w5.heap.size := World.block_lt_of_cell? _ _ Ac0
    obtain ⟨Bc0, Bc1, -, -⟩ := B_5.out
    have Blt : w4.heap.size < w5.heap.size := World.block_lt_of_cell? _ _ Bc0
    go_wp2_with fail
    refine (one_to _ _ _ _ _ _ (by decide) H4.out _ (HL.out.below (Bl.alloc BL5.out _))).mono ?_
    rintro e w6 ⟨rfl, b6⟩
    have V_6 := hid ((V_5.out.alloc _).below b6)
    have A_6 := hid ((A_5.out.alloc _).below b6)
    have B_6 := hid ((B_5.out.alloc _).below b6)
    have C_6 := hid (((Pair.new _ _ _ _ (p := w5.heap.size) (by simp))).below b6)
    have BL6 := hid (Bl.step (Bl.alloc BL5.out _) b6)
    clear b6 Vc0 Vc1 Vlt Ac0 Ac1 Alt Bc0 Bc1 Blt V_5 A_5 B_5 BL5
    obtain ⟨Vc0, Vc1, -, -⟩ := V_6.out
    have Vlt : w2.heap.size < w6.heap.size := World.block_lt_of_cell? _ _ Vc0
    obtain ⟨Ac0, Ac1, -, -⟩ := A_6.out
    have Alt : w3.heap.size < w6.heap.size := World.block_lt_of_cell? _ _ Ac0
    obtain ⟨Bc0, Bc1, -, -⟩ := B_6.out
    have Blt : w4.heap.size < w6.heap.size := World.block_lt_of_cell? _ _ Bc0
    obtain ⟨Cc0, Cc1, -, -⟩ := C_6.out
    have Clt : w5.heap.size < w6.heap.size := World.block_lt_of_cell? _ _ Cc0
    go_wp2_with fail
    refine (one_to _ _ _ _ _ _ (by decide) H5.out _ (HL.out.below (Bl.alloc BL6.out _))).mono ?_
    rintro e w7 ⟨rfl, b7⟩
    have V_7 := hid ((V_6.out.alloc _).below b7)
    have A_7 := hid ((A_6.out.alloc _).below b7)
    have B_7 := hid ((B_6.out.alloc _).below b7)
    have C_7 := hid ((C_6.out.alloc _).below b7)
    have Z_7 := hid (((Pair.new _ _ _ _ (p := w6.heap.size) (by simp))).below b7)
    have BL7 := hid (Bl.step (Bl.alloc BL6.out _) b7)
    clear b7 Vc0 Vc1 Vlt Ac0 Ac1 Alt Bc0 Bc1 Blt Cc0 Cc1 Clt V_6 A_6 B_6 C_6 BL6
    obtain ⟨Vc0, Vc1, -, -⟩ := V_7.out
    have Vlt : w2.heap.size < w7.heap.size := World.block_lt_of_cell? _ _ Vc0
    obtain ⟨Ac0, Ac1, -, -⟩ := A_7.out
    have Alt : w3.heap.size < w7.heap.size := World.block_lt_of_cell? _ _ Ac0
    obtain ⟨Bc0, Bc1, -, -⟩ := B_7.out
    have Blt : w4.heap.size < w7.heap.size := World.block_lt_of_cell? _ _ Bc0
    obtain ⟨Cc0, Cc1, -, -⟩ := C_7.out
    have Clt : w5.heap.size < w7.heap.size := World.block_lt_of_cell? _ _ Cc0
    obtain ⟨Zc0, Zc1, -, -⟩ := Z_7.out
    have Zlt : w6.heap.size < w7.heap.size := World.block_lt_of_cell? _ _ Zc0
    go_wp2_with fail
    go_ret
    exact ⟨by simp, (Bl.alloc BL7.out _)⟩
  · have m1 : max (p : Int) (q : Int) = p := by omega
    have m2 : min (p : Int) (q : Int) = q := by omega
    have ex : x = 64 - 1 - (p : Int) := by omega
    have ey : y = q := by omega
    have eo : o = 2 := by rw [← ho, if_neg (by omega)]
    have pq : ((p : Int) == (q : Int)) = false := by simp; omega
    clear hx hy ho
    subst ex ey eo
    go_enter Tryd.func12, Tryd.ntmps12
    go_wp2_with fail
    refine (begun_any _ HL.out).mono ?_
    rintro e w1 ⟨rfl, b1⟩
    have BL1 := hid (Bl.step (Bl.refl _) b1)
    clear b1
    go_wp2_with fail
    go_quiet (fail)
    go_wp2_with fail
    have BLd := hid (Bl.step BL1.out (below_drewN _ w1 nq))
    obtain ⟨wd1, hwd⟩ : ∃ wd1 : World, wd1 = w1.drewN nq := ⟨_, rfl⟩
    rw [← hwd] at BLd ⊢
    clear hwd BL1
    refine (refWrap_to 2 _ v (by decide) Rr.out Hv.out _).mono ?_
    rintro e w2 ⟨rfl, b2⟩
    have BL2 := hid (Bl.step BLd.out b2)
    clear b2 BLd
    go_wp2_with fail
    refine (one_to _ _ _ _ _ _ Rv.out H1.out _ (HL.out.below (Bl.alloc BL2.out _))).mono ?_
    rintro e w3 ⟨rfl, b3⟩
    have V_3 := hid (((Pair.new _ _ _ _ (p := w2.heap.size) (by simp))).below b3)
    have BL3 := hid (Bl.step (Bl.alloc BL2.out _) b3)
    clear b3 BL2
    obtain ⟨Vc0, Vc1, -, -⟩ := V_3.out
    have Vlt : w2.heap.size < w3.heap.size := World.block_lt_of_cell? _ _ Vc0
    go_wp2_with fail
    refine (one_to _ _ _ _ _ _ Rv.out H2.out _ (HL.out.below (Bl.alloc BL3.out _))).mono ?_
    rintro e w4 ⟨rfl, b4⟩
    have V_4 := hid ((V_3.out.alloc _).below b4)
    have A_4 := hid (((Pair.new _ _ _ _ (p := w3.heap.size) (by simp))).below b4)
    have BL4 := hid (Bl.step (Bl.alloc BL3.out _) b4)
    clear b4 Vc0 Vc1 Vlt V_3 BL3
    obtain ⟨Vc0, Vc1, -, -⟩ := V_4.out
    have Vlt : w2.heap.size < w4.heap.size := World.block_lt_of_cell? _ _ Vc0
    obtain ⟨Ac0, Ac1, -, -⟩ := A_4.out
    have Alt : w3.heap.size < w4.heap.size := World.block_lt_of_cell? _ _ Ac0
    go_wp2_with fail
    refine (one_to _ _ _ _ _ _ Rv.out H3.out _ (HL.out.below (Bl.alloc BL4.out _))).mono ?_
    rintro e w5 ⟨rfl, b5⟩
    have V_5 := hid ((V_4.out.alloc _).below b5)
    have A_5 := hid ((A_4.out.alloc _).below b5)
    have B_5 := hid (((Pair.new _ _ _ _ (p := w4.heap.size) (by simp))).below b5)
    have BL5 := hid (Bl.step (Bl.alloc BL4.out _) b5)
    clear b5 Vc0 Vc1 Vlt Ac0 Ac1 Alt V_4 A_4 BL4
    obtain ⟨Vc0, Vc1, -, -⟩ := V_5.out
    have Vlt : w2.heap.size < w5.heap.size := World.block_lt_of_cell? _ _ Vc0
    obtain ⟨Ac0, Ac1, -, -⟩ := A_5.out
    have Alt : w3.heap.size < w5.heap.size := World.block_lt_of_cell? _ _ Ac0
    obtain ⟨Bc0, Bc1, -, -⟩ := B_5.out
    have Blt : w4.heap.size < w5.heap.size := World.block_lt_of_cell? _ _ Bc0
    go_wp2_with fail
    refine (one_to _ _ _ _ _ _ (by decide) H4.out _ (HL.out.below (Bl.alloc BL5.out _))).mono ?_
    rintro e w6 ⟨rfl, b6⟩
    have V_6 := hid ((V_5.out.alloc _).below b6)
    have A_6 := hid ((A_5.out.alloc _).below b6)
    have B_6 := hid ((B_5.out.alloc _).below b6)
    have C_6 := hid (((Pair.new _ _ _ _ (p := w5.heap.size) (by simp))).below b6)
    have BL6 := hid (Bl.step (Bl.alloc BL5.out _) b6)
    clear b6 Vc0 Vc1 Vlt Ac0 Ac1 Alt Bc0 Bc1 Blt V_5 A_5 B_5 BL5
    obtain ⟨Vc0, Vc1, -, -⟩ := V_6.out
    have Vlt : w2.heap.size < w6.heap.size := World.block_lt_of_cell? _ _ Vc0
    obtain ⟨Ac0, Ac1, -, -⟩ := A_6.out
    have Alt : w3.heap.size < w6.heap.size := World.block_lt_of_cell? _ _ Ac0
    obtain ⟨Bc0, Bc1, -, -⟩ := B_6.out
    have Blt : w4.heap.size < w6.heap.size := World.block_lt_of_cell? _ _ Bc0
    obtain ⟨Cc0, Cc1, -, -⟩ := C_6.out
    have Clt : w5.heap.size < w6.heap.size := World.block_lt_of_cell? _ _ Cc0
    go_wp2_with fail
    refine (one_to _ _ _ _ _ _ (by decide) H5.out _ (HL.out.below (Bl.alloc BL6.out _))).mono ?_
    rintro e w7 ⟨rfl, b7⟩
    have V_7 := hid ((V_6.out.alloc _).below b7)
    have A_7 := hid ((A_6.out.alloc _).below b7)
    have B_7 := hid ((B_6.out.alloc _).below b7)
    have C_7 := hid ((C_6.out.alloc _).below b7)
    have Z_7 := hid (((Pair.new _ _ _ _ (p := w6.heap.size) (by simp))).below b7)
    have BL7 := hid (Bl.step (Bl.alloc BL6.out _) b7)
    clear b7 Vc0 Vc1 Vlt Ac0 Ac1 Alt Bc0 Bc1 Blt Cc0 Cc1 Clt V_6 A_6 B_6 C_6 BL6
    obtain ⟨Vc0, Vc1, -, -⟩ := V_7.out
    have Vlt : w2.heap.size < w7.heap.size := World.block_lt_of_cell? _ _ Vc0
    obtain ⟨Ac0, Ac1, -, -⟩ := A_7.out
    have Alt : w3.heap.size < w7.heap.size := World.block_lt_of_cell? _ _ Ac0
    obtain ⟨Bc0, Bc1, -, -⟩ := B_7.out
    have Blt : w4.heap.size < w7.heap.size := World.block_lt_of_cell? _ _ Bc0
    obtain ⟨Cc0, Cc1, -, -⟩ := C_7.out
    have Clt : w5.heap.size < w7.heap.size := World.block_lt_of_cell? _ _ Cc0
    obtain ⟨Zc0, Zc1, -, -⟩ := Z_7.out
    have Zlt : w6.heap.size < w7.heap.size := World.block_lt_of_cell? _ _ Zc0
    go_wp2_with fail
    go_ret
    exact ⟨by simp, (Bl.alloc BL7.out _)⟩

theorem intsBits_walk (i k : Int) (t : Bool) (hi : In64 i) (hk : In64 k) (w : World) (hL : Laid w) :
    Calls Tryd.prog 12 #[.int .i64 i, .int .i64 k, .bool t] w fun e w' => e = .returned (.bool true) ∧ Below w.heap.size w w' := by
  by_cases h1 : i < 0
  · cases t
    · exact intsBits_neg1false i k h1 w hL
    · exact intsBits_neg1true i k h1 w hL
  · by_cases h2 : k < 0
    · cases t
      · exact intsBits_neg2false i k (by omega) h2 w hL
      · exact intsBits_neg2true i k (by omega) h2 w hL
    · cases t
      · exact intsBits_walk1 i k (by omega) (by omega) hi.2 hk.2 w hL
      · exact intsBits_walk2 i k (by omega) (by omega) hi.2 hk.2 w hL
end Go.Proofs.YtiohgigbnncpiaaDoor
