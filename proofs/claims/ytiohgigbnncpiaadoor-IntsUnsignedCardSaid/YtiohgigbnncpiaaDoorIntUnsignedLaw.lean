/- Divided as numbers from nought, the quotient is no greater than what was divided, and is it just if divided by one (or it is nought). -/
import Derived.Test.YtiohgigbnncpiaaDoorIntLaw
namespace Go.Proofs.YtiohgigbnncpiaaDoor
open Go.RowKit

set_option maxRecDepth 20000 in
set_option maxHeartbeats 1000000 in
theorem intsUnsigned_walk (a b : Int) (ha : In64 a) (hb : In64 b) (w : World) (hL : Laid w) :
    Calls Tryd.prog 11 #[.int .i64 a, .int .i64 b] w fun e w' => e = .returned (.bool true) ∧ Below w.heap.size w w' := by
  by_cases h0 : b = 0
  · subst h0
    have H : Hid (twoS 128 2 a 2 0 = (0, 0, 2)) := hid (by
      rw [twoS_mid (c := 2) (b := 110) (by decide) rfl rfl, mid_div _ _ _ _ (by decide)]
      rfl)
    have Ha := hid ha
    have Hb := hid hb
    clear ha hb
    have HL := hid hL
    clear hL
    go_enter Tryd.func11, Tryd.ntmps11
    go_wp2_with fail
    refine (begun_any _ HL.out).mono ?_
    rintro e w1 ⟨rfl, b1⟩
    have BL1 := hid (Bl.step (Bl.refl _) b1)
    clear b1
    go_wp2_with fail
    refine (i64_any _ _).mono ?_
    rintro e w2 ⟨rfl, b2⟩
    have BL2 := hid (Bl.step BL1.out b2)
    clear b2 BL1
    go_wp2_with fail
    refine (i64_any _ _).mono ?_
    rintro e w3 ⟨rfl, b3⟩
    have BL3 := hid (Bl.step BL2.out b3)
    clear b3 BL2
    go_wp2_with fail
    refine (two_to _ _ _ _ _ _ _ _ Ha.out Hb.out H.out _).mono ?_
    rintro e w4 ⟨rfl, b4⟩
    have X_4 := hid (((Pair.new _ _ _ _ (p := w3.heap.size) (by simp)).alloc _).below b4)
    have Y_4 := hid (((Pair.new _ _ _ _ (p := w3.heap.size + 1) (by simp))).below b4)
    have BL4 := hid (Bl.step (Bl.alloc (Bl.alloc BL3.out _) _) b4)
    clear b4 BL3
    obtain ⟨Xc0, Xc1, -, -⟩ := X_4.out
    have Xlt : w3.heap.size < w4.heap.size := World.block_lt_of_cell? _ _ Xc0
    obtain ⟨Yc0, Yc1, -, -⟩ := Y_4.out
    have Ylt : w3.heap.size + 1 < w4.heap.size := World.block_lt_of_cell? _ _ Yc0
    go_wp2_with fail
    go_ret
    exact ⟨by simp, Bl.alloc BL4.out _⟩
  · obtain ⟨x, hx⟩ : ∃ x, un 2 a = x := ⟨_, rfl⟩
    obtain ⟨y, hy⟩ : ∃ y, un 2 b = y := ⟨_, rfl⟩
    have hx1 : x = a % 18446744073709551616 := by rw [← hx]; rfl
    have hy1 : y = b % 18446744073709551616 := by rw [← hy]; rfl
    unfold In64 at ha hb
    have y0 : 0 < y := by omega
    have x0 : 0 ≤ x := by omega
    obtain ⟨q, hq⟩ : ∃ q, x / y = q := ⟨_, rfl⟩
    have q0 : 0 ≤ q := by rw [← hq]; exact Int.ediv_nonneg x0 (by omega)
    have qx : q ≤ x := by rw [← hq]; exact Int.ediv_le_self y x0
    obtain ⟨z, hz⟩ : ∃ z, sg 2 (wrap64 q) = z := ⟨_, rfl⟩
    have hz1 : z = (q + 9223372036854775808) % 18446744073709551616 - 9223372036854775808 := by rw [← hz, sg_wrap64]; rfl
    have H : Hid (twoS 128 2 a 2 b = (2, z, 0)) := hid (by
      rw [twoS_mid (c := 2) (b := 110) (by decide) rfl rfl, mid_div _ _ _ _ (by decide), hx, hy, ← hz, ← hq]
      unfold divS
      rw [if_neg h0]
      rfl)
    have e1 : IntKind.u64.wrap z = q := by rw [IntKind.wrap_u64]; omega
    have e2 : IntKind.u64.wrap a = x := by rw [IntKind.wrap_u64]; omega
    have e3 : IntKind.u64.wrap b = y := by rw [IntKind.wrap_u64]; omega
    have e4 : decide (q ≤ x) = true := by simp [qx]
    have y1 : y ≤ 18446744073709551615 := by omega
    have x1 : x ≤ 18446744073709551615 := by omega
    have yn : (y == 0) = false := by simp; omega
    have hb0 : (b == 0) = false := by simp [h0]
    have key : (z = a) ↔ (b = 1 ∨ a = 0) := by
      constructor
      · intro h
        have hqx : q = x := by omega
        by_cases hx0 : x = 0
        · right; omega
        · left
          have : y = 1 := by
            have h1 := Int.mul_ediv_add_emod x y
            have h2 := Int.emod_nonneg x (show y ≠ 0 by omega)
            rw [hq, hqx] at h1
            by_cases hy2 : y = 1
            · exact hy2
            · have h3 : 2 * x ≤ y * x := Int.mul_le_mul_of_nonneg_right (by omega) x0
              omega
          omega
      · intro h
        rcases h with h | h
        · have hy2 : y = 1 := by omega
          rw [hy2, Int.ediv_one] at hq
          omega
        · have hx2 : x = 0 := by omega
          rw [hx2, Int.zero_ediv] at hq
          omega
    have Ha : Hid (In64 a) := hid ha
    have Hb : Hid (In64 b) := hid hb
    obtain ⟨t, ht⟩ : ∃ t, (z == a) = t := ⟨_, rfl⟩
    obtain ⟨t1, ht1⟩ : ∃ t, (b == 1) = t := ⟨_, rfl⟩
    obtain ⟨t2, ht2⟩ : ∃ t, (a == 0) = t := ⟨_, rfl⟩
    have ht3 : t = (t1 || t2) := by
      rw [← ht, ← ht1, ← ht2, Bool.eq_iff_iff]
      simpa using key
    clear hx hy hx1 hy1 hz hz1 key ha hb
    have HL := hid hL
    clear hL
    cases t <;> cases t1 <;> cases t2
    all_goals first
      | exact absurd ht3 (by decide)
      | (clear ht3
         go_enter Tryd.func11, Tryd.ntmps11
         go_wp2_with fail
         refine (begun_any _ HL.out).mono ?_
         rintro e w1 ⟨rfl, b1⟩
         have BL1 := hid (Bl.step (Bl.refl _) b1)
         clear b1
         go_wp2_with fail
         refine (i64_any _ _).mono ?_
         rintro e w2 ⟨rfl, b2⟩
         have BL2 := hid (Bl.step BL1.out b2)
         clear b2 BL1
         go_wp2_with fail
         refine (i64_any _ _).mono ?_
         rintro e w3 ⟨rfl, b3⟩
         have BL3 := hid (Bl.step BL2.out b3)
         clear b3 BL2
         go_wp2_with fail
         refine (two_to _ _ _ _ _ _ _ _ Ha.out Hb.out H.out _).mono ?_
         rintro e w4 ⟨rfl, b4⟩
         have X_4 := hid (((Pair.new _ _ _ _ (p := w3.heap.size) (by simp)).alloc _).below b4)
         have Y_4 := hid (((Pair.new _ _ _ _ (p := w3.heap.size + 1) (by simp))).below b4)
         have BL4 := hid (Bl.step (Bl.alloc (Bl.alloc BL3.out _) _) b4)
         clear b4 BL3
         obtain ⟨Xc0, Xc1, -, -⟩ := X_4.out
         have Xlt : w3.heap.size < w4.heap.size := World.block_lt_of_cell? _ _ Xc0
         obtain ⟨Yc0, Yc1, -, -⟩ := Y_4.out
         have Ylt : w3.heap.size + 1 < w4.heap.size := World.block_lt_of_cell? _ _ Yc0
         go_wp2_with fail
         go_quiet (fail)
         go_wp2_with fail
         go_ret
         exact ⟨by simp, Bl.step (Bl.alloc BL4.out _) (below_drewN _ _ _)⟩)
end Go.Proofs.YtiohgigbnncpiaaDoor
