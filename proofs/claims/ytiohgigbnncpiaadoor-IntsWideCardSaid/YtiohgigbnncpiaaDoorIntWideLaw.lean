/- An I32 that is made an I64 and back is as it was; the lowest 32 bits of any I64 stay. -/
import Derived.Test.YtiohgigbnncpiaaDoorIntLaw
namespace Go.Proofs.YtiohgigbnncpiaaDoor
open Go.RowKit

set_option maxRecDepth 20000 in
set_option maxHeartbeats 1000000 in
theorem intsWide_walk (n : Int) (hn : In64 n) (w : World) (hL : Laid w) :
    Calls Tryd.prog 13 #[.int .i64 n] w fun e w' => e = .returned (.bool true) ∧ Below w.heap.size w w' := by
  obtain ⟨v, hv⟩ : ∃ v, sg 1 n = v := ⟨_, rfl⟩
  have ov : okv 1 v = true := by rw [← hv]; exact okv_sg 1 n (by decide)
  have rv : In64 v := by rw [← hv]; exact in64_sg 1 n
  have iv := sg_id 1 v ov rv
  have iv2 : sg 2 v = v := sg_id 2 v rfl rv
  obtain ⟨u, hu⟩ : ∃ u, un 1 v = u := ⟨_, rfl⟩
  have hu1 : u = v % 4294967296 := by rw [← hu]; rfl
  have ru : In64 u := by unfold In64; omega
  have eu : sg 2 (wrap64 u) = u := by rw [sg_wrap64]; exact sg_id 2 u rfl ru
  have H1 : Hid (oneS 172 1 v = (2, v, true)) := hid (by rw [oneS_mid (c := 1) (b := 172) (by decide) ov]; show (2, sg 2 v, true) = _; rw [iv2])
  have H2 : Hid (oneS 173 1 v = (2, u, true)) := hid (by rw [oneS_mid (c := 1) (b := 173) (by decide) ov]; show (2, sg 2 (wrap64 (un 1 v)), true) = _; rw [hu, eu])
  have H3 : Hid (oneS 167 2 v = (1, v, true)) := hid (by rw [oneS_mid (c := 2) (b := 167) (by decide) rfl]; show (1, sg 1 v, true) = _; rw [iv])
  have H4 : Hid (oneS 167 2 u = (1, v, true)) := hid (by
    rw [oneS_mid (c := 2) (b := 167) (by decide) rfl]
    show (1, sg 1 u, true) = _
    rw [← hu, sg_un, iv])
  have H5 : Hid (oneS 167 2 n = (1, v, true)) := hid (by rw [oneS_mid (c := 2) (b := 167) (by decide) rfl]; show (1, sg 1 n, true) = _; rw [hv])
  have hb : bits BinOp.and IntKind.i64 v 4294967295 = u := by
    rw [hu1, show (4294967295 : Int) = 2 ^ 32 - 1 from by decide, bits_and_mask .i64 32 (by decide) (fun n h0 h1 => IntWalk.i64_in n (by rw [show (2 : Int) ^ 32 = 4294967296 from by decide] at h1; omega))]
    rw [show (2 : Int) ^ 32 = 4294967296 from by decide]
  have Hv := hid hv
  have Hn := hid hn
  have Rv := hid rv
  have Ru := hid ru
  clear hv hn ov rv iv iv2 hu hu1 ru eu
  have HL := hid hL
  clear hL
  go_enter Tryd.func13, Tryd.ntmps13
  go_wp2_with fail
  refine (begun_any _ HL.out).mono ?_
  rintro e w1 ⟨rfl, b1⟩
  have BL1 := hid (Bl.step (Bl.refl _) b1)
  clear b1
  go_wp2_with fail
  refine (refWrap_to 1 n v (by decide) Hn.out Hv.out _).mono ?_
  rintro e w2 ⟨rfl, b2⟩
  have BL2 := hid (Bl.step BL1.out b2)
  clear b2 BL1
  go_wp2_with fail
  refine (one_to _ _ _ _ _ _ Rv.out H1.out _ (HL.out.below (Bl.alloc BL2.out _))).mono ?_
  rintro e w3 ⟨rfl, b3⟩
  have V_3 := hid (((Pair.new _ _ _ _ (p := w2.heap.size) (by simp))).below b3)
  have BL3 := hid (Bl.step (Bl.alloc BL2.out _) b3)
  clear b3 BL2
  obtain ⟨Vc0, Vc1, -, -⟩ := V_3.out
  have Vlt : w2.heap.size < w3.heap.size := World.block_lt_of_cell? _ _ Vc0
  go_wp2_with fail
  refine (one_to _ _ _ _ _ _ Rv.out H2.out _ (HL.out.below (Bl.alloc BL3.out _))).mono ?_
  rintro e w4 ⟨rfl, b4⟩
  have V_4 := hid ((V_3.out.alloc _).below b4)
  have S_4 := hid (((Pair.new _ _ _ _ (p := w3.heap.size) (by simp))).below b4)
  have BL4 := hid (Bl.step (Bl.alloc BL3.out _) b4)
  clear b4 Vc0 Vc1 Vlt V_3 BL3
  obtain ⟨Vc0, Vc1, -, -⟩ := V_4.out
  have Vlt : w2.heap.size < w4.heap.size := World.block_lt_of_cell? _ _ Vc0
  obtain ⟨Sc0, Sc1, -, -⟩ := S_4.out
  have Slt : w3.heap.size < w4.heap.size := World.block_lt_of_cell? _ _ Sc0
  go_wp2_with fail
  refine (one_to _ _ _ _ _ _ Rv.out H3.out _ (HL.out.below (Bl.alloc BL4.out _))).mono ?_
  rintro e w5 ⟨rfl, b5⟩
  have V_5 := hid ((V_4.out.alloc _).below b5)
  have S_5 := hid ((S_4.out.alloc _).below b5)
  have U_5 := hid (((Pair.new _ _ _ _ (p := w4.heap.size) (by simp))).below b5)
  have BL5 := hid (Bl.step (Bl.alloc BL4.out _) b5)
  clear b5 Vc0 Vc1 Vlt Sc0 Sc1 Slt V_4 S_4 BL4
  obtain ⟨Vc0, Vc1, -, -⟩ := V_5.out
  have Vlt : w2.heap.size < w5.heap.size := World.block_lt_of_cell? _ _ Vc0
  obtain ⟨Sc0, Sc1, -, -⟩ := S_5.out
  have Slt : w3.heap.size < w5.heap.size := World.block_lt_of_cell? _ _ Sc0
  obtain ⟨Uc0, Uc1, -, -⟩ := U_5.out
  have Ult : w4.heap.size < w5.heap.size := World.block_lt_of_cell? _ _ Uc0
  go_wp2_with fail
  refine (one_to _ _ _ _ _ _ Ru.out H4.out _ (HL.out.below (Bl.alloc BL5.out _))).mono ?_
  rintro e w6 ⟨rfl, b6⟩
  have V_6 := hid ((V_5.out.alloc _).below b6)
  have S_6 := hid ((S_5.out.alloc _).below b6)
  have U_6 := hid ((U_5.out.alloc _).below b6)
  have X_6 := hid (((Pair.new _ _ _ _ (p := w5.heap.size) (by simp))).below b6)
  have BL6 := hid (Bl.step (Bl.alloc BL5.out _) b6)
  clear b6 Vc0 Vc1 Vlt Sc0 Sc1 Slt Uc0 Uc1 Ult V_5 S_5 U_5 BL5
  obtain ⟨Vc0, Vc1, -, -⟩ := V_6.out
  have Vlt : w2.heap.size < w6.heap.size := World.block_lt_of_cell? _ _ Vc0
  obtain ⟨Sc0, Sc1, -, -⟩ := S_6.out
  have Slt : w3.heap.size < w6.heap.size := World.block_lt_of_cell? _ _ Sc0
  obtain ⟨Uc0, Uc1, -, -⟩ := U_6.out
  have Ult : w4.heap.size < w6.heap.size := World.block_lt_of_cell? _ _ Uc0
  obtain ⟨Xc0, Xc1, -, -⟩ := X_6.out
  have Xlt : w5.heap.size < w6.heap.size := World.block_lt_of_cell? _ _ Xc0
  go_wp2_with fail
  refine (i64_any _ _).mono ?_
  rintro e w7 ⟨rfl, b7⟩
  have V_7 := hid ((V_6.out.alloc _).below b7)
  have S_7 := hid ((S_6.out.alloc _).below b7)
  have U_7 := hid ((U_6.out.alloc _).below b7)
  have X_7 := hid ((X_6.out.alloc _).below b7)
  have Y_7 := hid (((Pair.new _ _ _ _ (p := w6.heap.size) (by simp))).below b7)
  have BL7 := hid (Bl.step (Bl.alloc BL6.out _) b7)
  clear b7 Vc0 Vc1 Vlt Sc0 Sc1 Slt Uc0 Uc1 Ult Xc0 Xc1 Xlt V_6 S_6 U_6 X_6 BL6
  obtain ⟨Vc0, Vc1, -, -⟩ := V_7.out
  have Vlt : w2.heap.size < w7.heap.size := World.block_lt_of_cell? _ _ Vc0
  obtain ⟨Sc0, Sc1, -, -⟩ := S_7.out
  have Slt : w3.heap.size < w7.heap.size := World.block_lt_of_cell? _ _ Sc0
  obtain ⟨Uc0, Uc1, -, -⟩ := U_7.out
  have Ult : w4.heap.size < w7.heap.size := World.block_lt_of_cell? _ _ Uc0
  obtain ⟨Xc0, Xc1, -, -⟩ := X_7.out
  have Xlt : w5.heap.size < w7.heap.size := World.block_lt_of_cell? _ _ Xc0
  obtain ⟨Yc0, Yc1, -, -⟩ := Y_7.out
  have Ylt : w6.heap.size < w7.heap.size := World.block_lt_of_cell? _ _ Yc0
  go_wp2_with fail
  refine (one_to _ _ _ _ _ _ Hn.out H5.out _ (HL.out.below BL7.out)).mono ?_
  rintro e w8 ⟨rfl, b8⟩
  have V_8 := hid ((V_7.out).below b8)
  have S_8 := hid ((S_7.out).below b8)
  have U_8 := hid ((U_7.out).below b8)
  have X_8 := hid ((X_7.out).below b8)
  have Y_8 := hid ((Y_7.out).below b8)
  have BL8 := hid (Bl.step BL7.out b8)
  clear b8 Vc0 Vc1 Vlt Sc0 Sc1 Slt Uc0 Uc1 Ult Xc0 Xc1 Xlt Yc0 Yc1 Ylt V_7 S_7 U_7 X_7 Y_7 BL7
  obtain ⟨Vc0, Vc1, -, -⟩ := V_8.out
  have Vlt : w2.heap.size < w8.heap.size := World.block_lt_of_cell? _ _ Vc0
  obtain ⟨Sc0, Sc1, -, -⟩ := S_8.out
  have Slt : w3.heap.size < w8.heap.size := World.block_lt_of_cell? _ _ Sc0
  obtain ⟨Uc0, Uc1, -, -⟩ := U_8.out
  have Ult : w4.heap.size < w8.heap.size := World.block_lt_of_cell? _ _ Uc0
  obtain ⟨Xc0, Xc1, -, -⟩ := X_8.out
  have Xlt : w5.heap.size < w8.heap.size := World.block_lt_of_cell? _ _ Xc0
  obtain ⟨Yc0, Yc1, -, -⟩ := Y_8.out
  have Ylt : w6.heap.size < w8.heap.size := World.block_lt_of_cell? _ _ Yc0
  go_wp2_with fail
  refine (eq_same _ _ _).mono ?_
  rintro e w9 ⟨rfl, b9⟩
  have V_9 := hid ((V_8.out.alloc _).below b9)
  have S_9 := hid ((S_8.out.alloc _).below b9)
  have U_9 := hid ((U_8.out.alloc _).below b9)
  have X_9 := hid ((X_8.out.alloc _).below b9)
  have Y_9 := hid ((Y_8.out.alloc _).below b9)
  have Z_9 := hid (((Pair.new _ _ _ _ (p := w8.heap.size) (by simp))).below b9)
  have BL9 := hid (Bl.step (Bl.alloc BL8.out _) b9)
  clear b9 Vc0 Vc1 Vlt Sc0 Sc1 Slt Uc0 Uc1 Ult Xc0 Xc1 Xlt Yc0 Yc1 Ylt V_8 S_8 U_8 X_8 Y_8 BL8
  obtain ⟨Vc0, Vc1, -, -⟩ := V_9.out
  have Vlt : w2.heap.size < w9.heap.size := World.block_lt_of_cell? _ _ Vc0
  obtain ⟨Sc0, Sc1, -, -⟩ := S_9.out
  have Slt : w3.heap.size < w9.heap.size := World.block_lt_of_cell? _ _ Sc0
  obtain ⟨Uc0, Uc1, -, -⟩ := U_9.out
  have Ult : w4.heap.size < w9.heap.size := World.block_lt_of_cell? _ _ Uc0
  obtain ⟨Xc0, Xc1, -, -⟩ := X_9.out
  have Xlt : w5.heap.size < w9.heap.size := World.block_lt_of_cell? _ _ Xc0
  obtain ⟨Yc0, Yc1, -, -⟩ := Y_9.out
  have Ylt : w6.heap.size < w9.heap.size := World.block_lt_of_cell? _ _ Yc0
  obtain ⟨Zc0, Zc1, -, -⟩ := Z_9.out
  have Zlt : w8.heap.size < w9.heap.size := World.block_lt_of_cell? _ _ Zc0
  go_wp2_with fail
  refine (eq_same _ _ _).mono ?_
  rintro e w10 ⟨rfl, b10⟩
  have V_10 := hid ((V_9.out).below b10)
  have S_10 := hid ((S_9.out).below b10)
  have U_10 := hid ((U_9.out).below b10)
  have X_10 := hid ((X_9.out).below b10)
  have Y_10 := hid ((Y_9.out).below b10)
  have Z_10 := hid ((Z_9.out).below b10)
  have BL10 := hid (Bl.step BL9.out b10)
  clear b10 Vc0 Vc1 Vlt Sc0 Sc1 Slt Uc0 Uc1 Ult Xc0 Xc1 Xlt Yc0 Yc1 Ylt Zc0 Zc1 Zlt V_9 S_9 U_9 X_9 Y_9 Z_9 BL9
  obtain ⟨Vc0, Vc1, -, -⟩ := V_10.out
  have Vlt : w2.heap.size < w10.heap.size := World.block_lt_of_cell? _ _ Vc0
  obtain ⟨Sc0, Sc1, -, -⟩ := S_10.out
  have Slt : w3.heap.size < w10.heap.size := World.block_lt_of_cell? _ _ Sc0
  obtain ⟨Uc0, Uc1, -, -⟩ := U_10.out
  have Ult : w4.heap.size < w10.heap.size := World.block_lt_of_cell? _ _ Uc0
  obtain ⟨Xc0, Xc1, -, -⟩ := X_10.out
  have Xlt : w5.heap.size < w10.heap.size := World.block_lt_of_cell? _ _ Xc0
  obtain ⟨Yc0, Yc1, -, -⟩ := Y_10.out
  have Ylt : w6.heap.size < w10.heap.size := World.block_lt_of_cell? _ _ Yc0
  obtain ⟨Zc0, Zc1, -, -⟩ := Z_10.out
  have Zlt : w8.heap.size < w10.heap.size := World.block_lt_of_cell? _ _ Zc0
  go_wp2_with fail
  refine (eq_same _ _ _).mono ?_
  rintro e w11 ⟨rfl, b11⟩
  have V_11 := hid ((V_10.out).below b11)
  have S_11 := hid ((S_10.out).below b11)
  have U_11 := hid ((U_10.out).below b11)
  have X_11 := hid ((X_10.out).below b11)
  have Y_11 := hid ((Y_10.out).below b11)
  have Z_11 := hid ((Z_10.out).below b11)
  have BL11 := hid (Bl.step BL10.out b11)
  clear b11 Vc0 Vc1 Vlt Sc0 Sc1 Slt Uc0 Uc1 Ult Xc0 Xc1 Xlt Yc0 Yc1 Ylt Zc0 Zc1 Zlt V_10 S_10 U_10 X_10 Y_10 Z_10 BL10
  obtain ⟨Vc0, Vc1, -, -⟩ := V_11.out
  have Vlt : w2.heap.size < w11.heap.size := World.block_lt_of_cell? _ _ Vc0
  obtain ⟨Sc0, Sc1, -, -⟩ := S_11.out
  have Slt : w3.heap.size < w11.heap.size := World.block_lt_of_cell? _ _ Sc0
  obtain ⟨Uc0, Uc1, -, -⟩ := U_11.out
  have Ult : w4.heap.size < w11.heap.size := World.block_lt_of_cell? _ _ Uc0
  obtain ⟨Xc0, Xc1, -, -⟩ := X_11.out
  have Xlt : w5.heap.size < w11.heap.size := World.block_lt_of_cell? _ _ Xc0
  obtain ⟨Yc0, Yc1, -, -⟩ := Y_11.out
  have Ylt : w6.heap.size < w11.heap.size := World.block_lt_of_cell? _ _ Yc0
  obtain ⟨Zc0, Zc1, -, -⟩ := Z_11.out
  have Zlt : w8.heap.size < w11.heap.size := World.block_lt_of_cell? _ _ Zc0
  go_wp2_with fail
  go_ret
  exact ⟨by simp, BL11.out⟩
end Go.Proofs.YtiohgigbnncpiaaDoor
