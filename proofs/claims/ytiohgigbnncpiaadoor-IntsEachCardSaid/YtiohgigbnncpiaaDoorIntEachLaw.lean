/- Each instruction of whole numbers, of values of its kind. -/
import Derived.Test.YtiohgigbnncpiaaDoorIntRefSpec
namespace Go.Proofs.YtiohgigbnncpiaaDoor
open Go.RowKit

set_option maxRecDepth 20000 in
set_option maxHeartbeats 4000000 in
theorem intsEach_walk1 (a b kd : Int) (hkd : bits BinOp.and IntKind.i64 kd 1 = 0) (ha : In64 a) (hb : In64 b) (w : World) (hL : Laid w) :
    Calls Tryd.prog 4 #[.int .i64 a, .int .i64 b, .int .i64 kd] w fun e w' => e = .returned (.bool true) ∧ Below w.heap.size w w' := by
  obtain ⟨x, hx⟩ : ∃ x, sg 1 a = x := ⟨_, rfl⟩
  obtain ⟨y, hy⟩ : ∃ x, sg 1 b = x := ⟨_, rfl⟩
  obtain ⟨rx, ry⟩ : In64 x ∧ In64 y := by rw [← hx, ← hy]; exact ⟨in64_sg _ _, in64_sg _ _⟩
  have Hx := hid hx
  have Hy := hid hy
  have Rx := hid rx
  have Ry := hid ry
  have Ha := hid ha
  have Hb := hid hb
  clear hx hy rx ry ha hb
  have HL := hid hL
  clear hL
  go_enter Tryd.func4, Tryd.ntmps4
  go_wp2_with fail
  refine (begun_any _ HL.out).mono ?_
  rintro e w1 ⟨rfl, b1⟩
  have BL1 := hid (Bl.step (Bl.refl _) b1)
  clear b1
  go_wp2_with fail
  refine (refWrap_to 1 a x (by decide) Ha.out Hx.out _).mono ?_
  rintro e w2 ⟨rfl, b2⟩
  have BL2 := hid (Bl.step BL1.out b2)
  clear b2 BL1
  go_wp2_with fail
  refine (refWrap_to 1 b y (by decide) Hb.out Hy.out _).mono ?_
  rintro e w3 ⟨rfl, b3⟩
  have BL3 := hid (Bl.step BL2.out b3)
  clear b3 BL2
  go_wp2_with fail
  go_loopw [10] (fun v wr => ∃ j : Nat, 69 ≤ j ∧ j ≤ 174 ∧ v = .int .i64 j ∧ Hid (Pair wr w3.heap.size (.int .i64 1) (.int .i64 x)) ∧ Hid (Pair wr (w3.heap.size + 1) (.int .i64 1) (.int .i64 y)) ∧ Hid (Below w.heap.size w wr)) (fun v _ => 174 - (intOf v).toNat)
  case atStart => exact ⟨69, by decide, by decide, rfl, hid ((Pair.new _ _ _ _ (p := w3.heap.size) (by simp)).alloc _), hid (Pair.new _ _ _ _ (p := w3.heap.size + 1) (by simp)), hid (Bl.alloc (Bl.alloc BL3.out _) _)⟩
  case round =>
    obtain ⟨j, hj0, hj1, rfl, X_30, Y_30, BL30⟩ := hrel
    clear BL3
    obtain ⟨Xc0, Xc1, -, -⟩ := X_30.out
    have Xlt : w3.heap.size < wr.heap.size := World.block_lt_of_cell? _ _ Xc0
    obtain ⟨Yc0, Yc1, -, -⟩ := Y_30.out
    have Ylt : w3.heap.size + 1 < wr.heap.size := World.block_lt_of_cell? _ _ Yc0
    by_cases hlt : j ≤ 173
    · obtain ⟨A, V, T, hS⟩ : ∃ A V T, twoS j 1 x 1 y = (A, V, T) := ⟨_, _, _, rfl⟩
      obtain ⟨A', V', T', hO⟩ : ∃ A V T, oneS j 1 y = (A, V, T) := ⟨_, _, _, rfl⟩
      have hok : Hid (T = 0 → okv A V = true) := hid (by rintro rfl; exact (twoS_ok _ _ _ _ _ _ _ hS).1)
      have HS := hid hS
      have HO := hid hO
      clear hS hO
      go_wp2_with fail
      refine (two_to _ _ _ _ _ _ _ _ Rx.out Ry.out HS.out _).mono ?_
      rintro e w31 ⟨rfl, b31⟩
      have X_31 := hid ((X_30.out).below b31)
      have Y_31 := hid ((Y_30.out).below b31)
      have BL31 := hid (Bl.step BL30.out b31)
      clear b31 Xc0 Xc1 Xlt Yc0 Yc1 Ylt X_30 Y_30 BL30
      obtain ⟨Xc0, Xc1, -, -⟩ := X_31.out
      have Xlt : w3.heap.size < w31.heap.size := World.block_lt_of_cell? _ _ Xc0
      obtain ⟨Yc0, Yc1, -, -⟩ := Y_31.out
      have Ylt : w3.heap.size + 1 < w31.heap.size := World.block_lt_of_cell? _ _ Yc0
      go_wp2_with fail
      refine (refTwo_to _ _ _ _ _ _ _ _ Rx.out Ry.out HS.out _).mono ?_
      rintro e w32 ⟨rfl, b32⟩
      have X_32 := hid ((X_31.out.alloc _).below b32)
      have Y_32 := hid ((Y_31.out.alloc _).below b32)
      have U_32 := hid (((Pair.new _ _ _ _ (p := w31.heap.size) (by simp))).below b32)
      have BL32 := hid (Bl.step (Bl.alloc BL31.out _) b32)
      clear b32 Xc0 Xc1 Xlt Yc0 Yc1 Ylt X_31 Y_31 BL31
      obtain ⟨Xc0, Xc1, -, -⟩ := X_32.out
      have Xlt : w3.heap.size < w32.heap.size := World.block_lt_of_cell? _ _ Xc0
      obtain ⟨Yc0, Yc1, -, -⟩ := Y_32.out
      have Ylt : w3.heap.size + 1 < w32.heap.size := World.block_lt_of_cell? _ _ Yc0
      obtain ⟨Uc0, Uc1, -, -⟩ := U_32.out
      have Ult : w31.heap.size < w32.heap.size := World.block_lt_of_cell? _ _ Uc0
      go_wp2_with fail
      refine (one_to _ _ _ _ _ _ Ry.out HO.out _ (HL.out.below (Bl.alloc BL32.out _))).mono ?_
      rintro e w33 ⟨rfl, b33⟩
      have X_33 := hid ((X_32.out.alloc _).below b33)
      have Y_33 := hid ((Y_32.out.alloc _).below b33)
      have U_33 := hid ((U_32.out.alloc _).below b33)
      have V_33 := hid (((Pair.new _ _ _ _ (p := w32.heap.size) (by simp))).below b33)
      have BL33 := hid (Bl.step (Bl.alloc BL32.out _) b33)
      clear b33 Xc0 Xc1 Xlt Yc0 Yc1 Ylt Uc0 Uc1 Ult X_32 Y_32 U_32 BL32
      obtain ⟨Xc0, Xc1, -, -⟩ := X_33.out
      have Xlt : w3.heap.size < w33.heap.size := World.block_lt_of_cell? _ _ Xc0
      obtain ⟨Yc0, Yc1, -, -⟩ := Y_33.out
      have Ylt : w3.heap.size + 1 < w33.heap.size := World.block_lt_of_cell? _ _ Yc0
      obtain ⟨Uc0, Uc1, -, -⟩ := U_33.out
      have Ult : w31.heap.size < w33.heap.size := World.block_lt_of_cell? _ _ Uc0
      obtain ⟨Vc0, Vc1, -, -⟩ := V_33.out
      have Vlt : w32.heap.size < w33.heap.size := World.block_lt_of_cell? _ _ Vc0
      go_wp2_with fail
      refine (refOne_to _ _ _ _ _ _ Ry.out HO.out _).mono ?_
      rintro e w34 ⟨rfl, b34⟩
      have X_34 := hid ((X_33.out.alloc _).below b34)
      have Y_34 := hid ((Y_33.out.alloc _).below b34)
      have U_34 := hid ((U_33.out.alloc _).below b34)
      have V_34 := hid ((V_33.out.alloc _).below b34)
      have P_34 := hid (((Pair.new _ _ _ _ (p := w33.heap.size) (by simp))).below b34)
      have BL34 := hid (Bl.step (Bl.alloc BL33.out _) b34)
      clear b34 Xc0 Xc1 Xlt Yc0 Yc1 Ylt Uc0 Uc1 Ult Vc0 Vc1 Vlt X_33 Y_33 U_33 V_33 BL33
      obtain ⟨Xc0, Xc1, -, -⟩ := X_34.out
      have Xlt : w3.heap.size < w34.heap.size := World.block_lt_of_cell? _ _ Xc0
      obtain ⟨Yc0, Yc1, -, -⟩ := Y_34.out
      have Ylt : w3.heap.size + 1 < w34.heap.size := World.block_lt_of_cell? _ _ Yc0
      obtain ⟨Uc0, Uc1, -, -⟩ := U_34.out
      have Ult : w31.heap.size < w34.heap.size := World.block_lt_of_cell? _ _ Uc0
      obtain ⟨Vc0, Vc1, -, -⟩ := V_34.out
      have Vlt : w32.heap.size < w34.heap.size := World.block_lt_of_cell? _ _ Vc0
      obtain ⟨Pc0, Pc1, -, -⟩ := P_34.out
      have Plt : w33.heap.size < w34.heap.size := World.block_lt_of_cell? _ _ Pc0
      go_wp2_with fail
      refine (eq_same _ _ _).mono ?_
      rintro e w35 ⟨rfl, b35⟩
      have X_35 := hid ((X_34.out.alloc _).below b35)
      have Y_35 := hid ((Y_34.out.alloc _).below b35)
      have U_35 := hid ((U_34.out.alloc _).below b35)
      have V_35 := hid ((V_34.out.alloc _).below b35)
      have P_35 := hid ((P_34.out.alloc _).below b35)
      have Q_35 := hid (((Pair.new _ _ _ _ (p := w34.heap.size) (by simp))).below b35)
      have BL35 := hid (Bl.step (Bl.alloc BL34.out _) b35)
      clear b35 Xc0 Xc1 Xlt Yc0 Yc1 Ylt Uc0 Uc1 Ult Vc0 Vc1 Vlt Pc0 Pc1 Plt X_34 Y_34 U_34 V_34 P_34 BL34
      obtain ⟨Xc0, Xc1, -, -⟩ := X_35.out
      have Xlt : w3.heap.size < w35.heap.size := World.block_lt_of_cell? _ _ Xc0
      obtain ⟨Yc0, Yc1, -, -⟩ := Y_35.out
      have Ylt : w3.heap.size + 1 < w35.heap.size := World.block_lt_of_cell? _ _ Yc0
      obtain ⟨Uc0, Uc1, -, -⟩ := U_35.out
      have Ult : w31.heap.size < w35.heap.size := World.block_lt_of_cell? _ _ Uc0
      obtain ⟨Vc0, Vc1, -, -⟩ := V_35.out
      have Vlt : w32.heap.size < w35.heap.size := World.block_lt_of_cell? _ _ Vc0
      obtain ⟨Pc0, Pc1, -, -⟩ := P_35.out
      have Plt : w33.heap.size < w35.heap.size := World.block_lt_of_cell? _ _ Pc0
      obtain ⟨Qc0, Qc1, -, -⟩ := Q_35.out
      have Qlt : w34.heap.size < w35.heap.size := World.block_lt_of_cell? _ _ Qc0
      go_wp2_with fail
      refine (eq_same _ _ _).mono ?_
      rintro e w36 ⟨rfl, b36⟩
      have X_36 := hid ((X_35.out).below b36)
      have Y_36 := hid ((Y_35.out).below b36)
      have U_36 := hid ((U_35.out).below b36)
      have V_36 := hid ((V_35.out).below b36)
      have P_36 := hid ((P_35.out).below b36)
      have Q_36 := hid ((Q_35.out).below b36)
      have BL36 := hid (Bl.step BL35.out b36)
      clear b36 Xc0 Xc1 Xlt Yc0 Yc1 Ylt Uc0 Uc1 Ult Vc0 Vc1 Vlt Pc0 Pc1 Plt Qc0 Qc1 Qlt X_35 Y_35 U_35 V_35 P_35 Q_35 BL35
      obtain ⟨Xc0, Xc1, -, -⟩ := X_36.out
      have Xlt : w3.heap.size < w36.heap.size := World.block_lt_of_cell? _ _ Xc0
      obtain ⟨Yc0, Yc1, -, -⟩ := Y_36.out
      have Ylt : w3.heap.size + 1 < w36.heap.size := World.block_lt_of_cell? _ _ Yc0
      obtain ⟨Uc0, Uc1, -, -⟩ := U_36.out
      have Ult : w31.heap.size < w36.heap.size := World.block_lt_of_cell? _ _ Uc0
      obtain ⟨Vc0, Vc1, -, -⟩ := V_36.out
      have Vlt : w32.heap.size < w36.heap.size := World.block_lt_of_cell? _ _ Vc0
      obtain ⟨Pc0, Pc1, -, -⟩ := P_36.out
      have Plt : w33.heap.size < w36.heap.size := World.block_lt_of_cell? _ _ Pc0
      obtain ⟨Qc0, Qc1, -, -⟩ := Q_36.out
      have Qlt : w34.heap.size < w36.heap.size := World.block_lt_of_cell? _ _ Qc0
      go_wp2_with fail
      refine (refMay_any _ _ _).mono ?_
      rintro e w37 ⟨rfl, b37⟩
      have X_37 := hid ((X_36.out).below b37)
      have Y_37 := hid ((Y_36.out).below b37)
      have U_37 := hid ((U_36.out).below b37)
      have V_37 := hid ((V_36.out).below b37)
      have P_37 := hid ((P_36.out).below b37)
      have Q_37 := hid ((Q_36.out).below b37)
      have BL37 := hid (Bl.step BL36.out b37)
      clear b37 Xc0 Xc1 Xlt Yc0 Yc1 Ylt Uc0 Uc1 Ult Vc0 Vc1 Vlt Pc0 Pc1 Plt Qc0 Qc1 Qlt X_36 Y_36 U_36 V_36 P_36 Q_36 BL36
      obtain ⟨Xc0, Xc1, -, -⟩ := X_37.out
      have Xlt : w3.heap.size < w37.heap.size := World.block_lt_of_cell? _ _ Xc0
      obtain ⟨Yc0, Yc1, -, -⟩ := Y_37.out
      have Ylt : w3.heap.size + 1 < w37.heap.size := World.block_lt_of_cell? _ _ Yc0
      obtain ⟨Uc0, Uc1, -, -⟩ := U_37.out
      have Ult : w31.heap.size < w37.heap.size := World.block_lt_of_cell? _ _ Uc0
      obtain ⟨Vc0, Vc1, -, -⟩ := V_37.out
      have Vlt : w32.heap.size < w37.heap.size := World.block_lt_of_cell? _ _ Vc0
      obtain ⟨Pc0, Pc1, -, -⟩ := P_37.out
      have Plt : w33.heap.size < w37.heap.size := World.block_lt_of_cell? _ _ Pc0
      obtain ⟨Qc0, Qc1, -, -⟩ := Q_37.out
      have Qlt : w34.heap.size < w37.heap.size := World.block_lt_of_cell? _ _ Qc0
      obtain ⟨o, ho⟩ : ∃ o, okv A V = o := ⟨_, rfl⟩
      rw [ho]
      have Ho := hid ho
      clear ho
      cases o
      · have hT : T ≠ 0 := fun e => by have := hok.out e; rw [Ho.out] at this; cases this
        have hT0 : (T == 0) = false := by simp [hT]
        go_wp2_with fail
        go_roundw
        case rel => exact ⟨j + 1, by omega, by omega, by go_num, hid X_37.out, hid Y_37.out, hid BL37.out⟩
        case measure => simp [intOf]; omega
      · go_wp2_with fail
        go_roundw
        case rel => exact ⟨j + 1, by omega, by omega, by go_num, hid X_37.out, hid Y_37.out, hid BL37.out⟩
        case measure => simp [intOf]; omega
    · obtain rfl : j = 174 := by omega
      go_wp2_with fail
      go_ret
      exact ⟨by simp, BL30.out⟩
set_option maxRecDepth 20000 in
set_option maxHeartbeats 4000000 in
theorem intsEach_walk2 (a b kd : Int) (hkd : bits BinOp.and IntKind.i64 kd 1 = 1) (ha : In64 a) (hb : In64 b) (w : World) (hL : Laid w) :
    Calls Tryd.prog 4 #[.int .i64 a, .int .i64 b, .int .i64 kd] w fun e w' => e = .returned (.bool true) ∧ Below w.heap.size w w' := by
  obtain ⟨x, hx⟩ : ∃ x, sg 2 a = x := ⟨_, rfl⟩
  obtain ⟨y, hy⟩ : ∃ x, sg 2 b = x := ⟨_, rfl⟩
  obtain ⟨rx, ry⟩ : In64 x ∧ In64 y := by rw [← hx, ← hy]; exact ⟨in64_sg _ _, in64_sg _ _⟩
  have Hx := hid hx
  have Hy := hid hy
  have Rx := hid rx
  have Ry := hid ry
  have Ha := hid ha
  have Hb := hid hb
  clear hx hy rx ry ha hb
  have HL := hid hL
  clear hL
  go_enter Tryd.func4, Tryd.ntmps4
  go_wp2_with fail
  refine (begun_any _ HL.out).mono ?_
  rintro e w1 ⟨rfl, b1⟩
  have BL1 := hid (Bl.step (Bl.refl _) b1)
  clear b1
  go_wp2_with fail
  refine (refWrap_to 2 a x (by decide) Ha.out Hx.out _).mono ?_
  rintro e w2 ⟨rfl, b2⟩
  have BL2 := hid (Bl.step BL1.out b2)
  clear b2 BL1
  go_wp2_with fail
  refine (refWrap_to 2 b y (by decide) Hb.out Hy.out _).mono ?_
  rintro e w3 ⟨rfl, b3⟩
  have BL3 := hid (Bl.step BL2.out b3)
  clear b3 BL2
  go_wp2_with fail
  go_loopw [10] (fun v wr => ∃ j : Nat, 69 ≤ j ∧ j ≤ 174 ∧ v = .int .i64 j ∧ Hid (Pair wr w3.heap.size (.int .i64 2) (.int .i64 x)) ∧ Hid (Pair wr (w3.heap.size + 1) (.int .i64 2) (.int .i64 y)) ∧ Hid (Below w.heap.size w wr)) (fun v _ => 174 - (intOf v).toNat)
  case atStart => exact ⟨69, by decide, by decide, rfl, hid ((Pair.new _ _ _ _ (p := w3.heap.size) (by simp)).alloc _), hid (Pair.new _ _ _ _ (p := w3.heap.size + 1) (by simp)), hid (Bl.alloc (Bl.alloc BL3.out _) _)⟩
  case round =>
    obtain ⟨j, hj0, hj1, rfl, X_30, Y_30, BL30⟩ := hrel
    clear BL3
    obtain ⟨Xc0, Xc1, -, -⟩ := X_30.out
    have Xlt : w3.heap.size < wr.heap.size := World.block_lt_of_cell? _ _ Xc0
    obtain ⟨Yc0, Yc1, -, -⟩ := Y_30.out
    have Ylt : w3.heap.size + 1 < wr.heap.size := World.block_lt_of_cell? _ _ Yc0
    by_cases hlt : j ≤ 173
    · obtain ⟨A, V, T, hS⟩ : ∃ A V T, twoS j 2 x 2 y = (A, V, T) := ⟨_, _, _, rfl⟩
      obtain ⟨A', V', T', hO⟩ : ∃ A V T, oneS j 2 y = (A, V, T) := ⟨_, _, _, rfl⟩
      have hok : Hid (T = 0 → okv A V = true) := hid (by rintro rfl; exact (twoS_ok _ _ _ _ _ _ _ hS).1)
      have HS := hid hS
      have HO := hid hO
      clear hS hO
      go_wp2_with fail
      refine (two_to _ _ _ _ _ _ _ _ Rx.out Ry.out HS.out _).mono ?_
      rintro e w31 ⟨rfl, b31⟩
      have X_31 := hid ((X_30.out).below b31)
      have Y_31 := hid ((Y_30.out).below b31)
      have BL31 := hid (Bl.step BL30.out b31)
      clear b31 Xc0 Xc1 Xlt Yc0 Yc1 Ylt X_30 Y_30 BL30
      obtain ⟨Xc0, Xc1, -, -⟩ := X_31.out
      have Xlt : w3.heap.size < w31.heap.size := World.block_lt_of_cell? _ _ Xc0
      obtain ⟨Yc0, Yc1, -, -⟩ := Y_31.out
      have Ylt : w3.heap.size + 1 < w31.heap.size := World.block_lt_of_cell? _ _ Yc0
      go_wp2_with fail
      refine (refTwo_to _ _ _ _ _ _ _ _ Rx.out Ry.out HS.out _).mono ?_
      rintro e w32 ⟨rfl, b32⟩
      have X_32 := hid ((X_31.out.alloc _).below b32)
      have Y_32 := hid ((Y_31.out.alloc _).below b32)
      have U_32 := hid (((Pair.new _ _ _ _ (p := w31.heap.size) (by simp))).below b32)
      have BL32 := hid (Bl.step (Bl.alloc BL31.out _) b32)
      clear b32 Xc0 Xc1 Xlt Yc0 Yc1 Ylt X_31 Y_31 BL31
      obtain ⟨Xc0, Xc1, -, -⟩ := X_32.out
      have Xlt : w3.heap.size < w32.heap.size := World.block_lt_of_cell? _ _ Xc0
      obtain ⟨Yc0, Yc1, -, -⟩ := Y_32.out
      have Ylt : w3.heap.size + 1 < w32.heap.size := World.block_lt_of_cell? _ _ Yc0
      obtain ⟨Uc0, Uc1, -, -⟩ := U_32.out
      have Ult : w31.heap.size < w32.heap.size := World.block_lt_of_cell? _ _ Uc0
      go_wp2_with fail
      refine (one_to _ _ _ _ _ _ Ry.out HO.out _ (HL.out.below (Bl.alloc BL32.out _))).mono ?_
      rintro e w33 ⟨rfl, b33⟩
      have X_33 := hid ((X_32.out.alloc _).below b33)
      have Y_33 := hid ((Y_32.out.alloc _).below b33)
      have U_33 := hid ((U_32.out.alloc _).below b33)
      have V_33 := hid (((Pair.new _ _ _ _ (p := w32.heap.size) (by simp))).below b33)
      have BL33 := hid (Bl.step (Bl.alloc BL32.out _) b33)
      clear b33 Xc0 Xc1 Xlt Yc0 Yc1 Ylt Uc0 Uc1 Ult X_32 Y_32 U_32 BL32
      obtain ⟨Xc0, Xc1, -, -⟩ := X_33.out
      have Xlt : w3.heap.size < w33.heap.size := World.block_lt_of_cell? _ _ Xc0
      obtain ⟨Yc0, Yc1, -, -⟩ := Y_33.out
      have Ylt : w3.heap.size + 1 < w33.heap.size := World.block_lt_of_cell? _ _ Yc0
      obtain ⟨Uc0, Uc1, -, -⟩ := U_33.out
      have Ult : w31.heap.size < w33.heap.size := World.block_lt_of_cell? _ _ Uc0
      obtain ⟨Vc0, Vc1, -, -⟩ := V_33.out
      have Vlt : w32.heap.size < w33.heap.size := World.block_lt_of_cell? _ _ Vc0
      go_wp2_with fail
      refine (refOne_to _ _ _ _ _ _ Ry.out HO.out _).mono ?_
      rintro e w34 ⟨rfl, b34⟩
      have X_34 := hid ((X_33.out.alloc _).below b34)
      have Y_34 := hid ((Y_33.out.alloc _).below b34)
      have U_34 := hid ((U_33.out.alloc _).below b34)
      have V_34 := hid ((V_33.out.alloc _).below b34)
      have P_34 := hid (((Pair.new _ _ _ _ (p := w33.heap.size) (by simp))).below b34)
      have BL34 := hid (Bl.step (Bl.alloc BL33.out _) b34)
      clear b34 Xc0 Xc1 Xlt Yc0 Yc1 Ylt Uc0 Uc1 Ult Vc0 Vc1 Vlt X_33 Y_33 U_33 V_33 BL33
      obtain ⟨Xc0, Xc1, -, -⟩ := X_34.out
      have Xlt : w3.heap.size < w34.heap.size := World.block_lt_of_cell? _ _ Xc0
      obtain ⟨Yc0, Yc1, -, -⟩ := Y_34.out
      have Ylt : w3.heap.size + 1 < w34.heap.size := World.block_lt_of_cell? _ _ Yc0
      obtain ⟨Uc0, Uc1, -, -⟩ := U_34.out
      have Ult : w31.heap.size < w34.heap.size := World.block_lt_of_cell? _ _ Uc0
      obtain ⟨Vc0, Vc1, -, -⟩ := V_34.out
      have Vlt : w32.heap.size < w34.heap.size := World.block_lt_of_cell? _ _ Vc0
      obtain ⟨Pc0, Pc1, -, -⟩ := P_34.out
      have Plt : w33.heap.size < w34.heap.size := World.block_lt_of_cell? _ _ Pc0
      go_wp2_with fail
      refine (eq_same _ _ _).mono ?_
      rintro e w35 ⟨rfl, b35⟩
      have X_35 := hid ((X_34.out.alloc _).below b35)
      have Y_35 := hid ((Y_34.out.alloc _).below b35)
      have U_35 := hid ((U_34.out.alloc _).below b35)
      have V_35 := hid ((V_34.out.alloc _).below b35)
      have P_35 := hid ((P_34.out.alloc _).below b35)
      have Q_35 := hid (((Pair.new _ _ _ _ (p := w34.heap.size) (by simp))).below b35)
      have BL35 := hid (Bl.step (Bl.alloc BL34.out _) b35)
      clear b35 Xc0 Xc1 Xlt Yc0 Yc1 Ylt Uc0 Uc1 Ult Vc0 Vc1 Vlt Pc0 Pc1 Plt X_34 Y_34 U_34 V_34 P_34 BL34
      obtain ⟨Xc0, Xc1, -, -⟩ := X_35.out
      have Xlt : w3.heap.size < w35.heap.size := World.block_lt_of_cell? _ _ Xc0
      obtain ⟨Yc0, Yc1, -, -⟩ := Y_35.out
      have Ylt : w3.heap.size + 1 < w35.heap.size := World.block_lt_of_cell? _ _ Yc0
      obtain ⟨Uc0, Uc1, -, -⟩ := U_35.out
      have Ult : w31.heap.size < w35.heap.size := World.block_lt_of_cell? _ _ Uc0
      obtain ⟨Vc0, Vc1, -, -⟩ := V_35.out
      have Vlt : w32.heap.size < w35.heap.size := World.block_lt_of_cell? _ _ Vc0
      obtain ⟨Pc0, Pc1, -, -⟩ := P_35.out
      have Plt : w33.heap.size < w35.heap.size := World.block_lt_of_cell? _ _ Pc0
      obtain ⟨Qc0, Qc1, -, -⟩ := Q_35.out
      have Qlt : w34.heap.size < w35.heap.size := World.block_lt_of_cell? _ _ Qc0
      go_wp2_with fail
      refine (eq_same _ _ _).mono ?_
      rintro e w36 ⟨rfl, b36⟩
      have X_36 := hid ((X_35.out).below b36)
      have Y_36 := hid ((Y_35.out).below b36)
      have U_36 := hid ((U_35.out).below b36)
      have V_36 := hid ((V_35.out).below b36)
      have P_36 := hid ((P_35.out).below b36)
      have Q_36 := hid ((Q_35.out).below b36)
      have BL36 := hid (Bl.step BL35.out b36)
      clear b36 Xc0 Xc1 Xlt Yc0 Yc1 Ylt Uc0 Uc1 Ult Vc0 Vc1 Vlt Pc0 Pc1 Plt Qc0 Qc1 Qlt X_35 Y_35 U_35 V_35 P_35 Q_35 BL35
      obtain ⟨Xc0, Xc1, -, -⟩ := X_36.out
      have Xlt : w3.heap.size < w36.heap.size := World.block_lt_of_cell? _ _ Xc0
      obtain ⟨Yc0, Yc1, -, -⟩ := Y_36.out
      have Ylt : w3.heap.size + 1 < w36.heap.size := World.block_lt_of_cell? _ _ Yc0
      obtain ⟨Uc0, Uc1, -, -⟩ := U_36.out
      have Ult : w31.heap.size < w36.heap.size := World.block_lt_of_cell? _ _ Uc0
      obtain ⟨Vc0, Vc1, -, -⟩ := V_36.out
      have Vlt : w32.heap.size < w36.heap.size := World.block_lt_of_cell? _ _ Vc0
      obtain ⟨Pc0, Pc1, -, -⟩ := P_36.out
      have Plt : w33.heap.size < w36.heap.size := World.block_lt_of_cell? _ _ Pc0
      obtain ⟨Qc0, Qc1, -, -⟩ := Q_36.out
      have Qlt : w34.heap.size < w36.heap.size := World.block_lt_of_cell? _ _ Qc0
      go_wp2_with fail
      refine (refMay_any _ _ _).mono ?_
      rintro e w37 ⟨rfl, b37⟩
      have X_37 := hid ((X_36.out).below b37)
      have Y_37 := hid ((Y_36.out).below b37)
      have U_37 := hid ((U_36.out).below b37)
      have V_37 := hid ((V_36.out).below b37)
      have P_37 := hid ((P_36.out).below b37)
      have Q_37 := hid ((Q_36.out).below b37)
      have BL37 := hid (Bl.step BL36.out b37)
      clear b37 Xc0 Xc1 Xlt Yc0 Yc1 Ylt Uc0 Uc1 Ult Vc0 Vc1 Vlt Pc0 Pc1 Plt Qc0 Qc1 Qlt X_36 Y_36 U_36 V_36 P_36 Q_36 BL36
      obtain ⟨Xc0, Xc1, -, -⟩ := X_37.out
      have Xlt : w3.heap.size < w37.heap.size := World.block_lt_of_cell? _ _ Xc0
      obtain ⟨Yc0, Yc1, -, -⟩ := Y_37.out
      have Ylt : w3.heap.size + 1 < w37.heap.size := World.block_lt_of_cell? _ _ Yc0
      obtain ⟨Uc0, Uc1, -, -⟩ := U_37.out
      have Ult : w31.heap.size < w37.heap.size := World.block_lt_of_cell? _ _ Uc0
      obtain ⟨Vc0, Vc1, -, -⟩ := V_37.out
      have Vlt : w32.heap.size < w37.heap.size := World.block_lt_of_cell? _ _ Vc0
      obtain ⟨Pc0, Pc1, -, -⟩ := P_37.out
      have Plt : w33.heap.size < w37.heap.size := World.block_lt_of_cell? _ _ Pc0
      obtain ⟨Qc0, Qc1, -, -⟩ := Q_37.out
      have Qlt : w34.heap.size < w37.heap.size := World.block_lt_of_cell? _ _ Qc0
      obtain ⟨o, ho⟩ : ∃ o, okv A V = o := ⟨_, rfl⟩
      rw [ho]
      have Ho := hid ho
      clear ho
      cases o
      · have hT : T ≠ 0 := fun e => by have := hok.out e; rw [Ho.out] at this; cases this
        have hT0 : (T == 0) = false := by simp [hT]
        go_wp2_with fail
        go_roundw
        case rel => exact ⟨j + 1, by omega, by omega, by go_num, hid X_37.out, hid Y_37.out, hid BL37.out⟩
        case measure => simp [intOf]; omega
      · go_wp2_with fail
        go_roundw
        case rel => exact ⟨j + 1, by omega, by omega, by go_num, hid X_37.out, hid Y_37.out, hid BL37.out⟩
        case measure => simp [intOf]; omega
    · obtain rfl : j = 174 := by omega
      go_wp2_with fail
      go_ret
      exact ⟨by simp, BL30.out⟩
theorem intsEach_walk (a b kd : Int) (ha : In64 a) (hb : In64 b) (w : World) (hL : Laid w) :
    Calls Tryd.prog 4 #[.int .i64 a, .int .i64 b, .int .i64 kd] w fun e w' => e = .returned (.bool true) ∧ Below w.heap.size w w' := by
  have h : bits BinOp.and IntKind.i64 kd 1 = kd % 2 := bits_and_mask .i64 1 (by decide) (fun n h0 h1 => by have h2 : (2 : Int) ^ 1 = 2 := by decide
                                                                                                           exact IntWalk.i64_in n (by omega)) kd
  rcases (show kd % 2 = 0 ∨ kd % 2 = 1 by omega) with h2 | h2
  · exact intsEach_walk1 a b kd (h.trans h2) ha hb w hL
  · exact intsEach_walk2 a b kd (h.trans h2) ha hb w hL
end Go.Proofs.YtiohgigbnncpiaaDoor
