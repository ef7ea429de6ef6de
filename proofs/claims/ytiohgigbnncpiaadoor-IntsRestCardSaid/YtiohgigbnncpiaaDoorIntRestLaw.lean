/- A rest is nearer to nought than the divisor; signed, it has the sign of what was divided, or is nought. -/
import Derived.Test.YtiohgigbnncpiaaDoorIntLaw
namespace Go.Proofs.YtiohgigbnncpiaaDoor
open Go.RowKit

theorem rest_facts (x y r : Int) (hy : y ≠ 0) (hr : x.tmod y = r) : r.natAbs ≤ x.natAbs ∧ (r ≠ 0 → (r < 0 ↔ x < 0)) ∧ r.natAbs < y.natAbs := by
  have h := Int.natAbs_tmod x y
  rw [hr] at h
  have h1 : x.natAbs % y.natAbs ≤ x.natAbs := Nat.mod_le _ _
  have h2 : x.natAbs % y.natAbs < y.natAbs := Nat.mod_lt _ (by omega)
  refine ⟨by omega, fun h0 => ?_, by omega⟩
  by_cases hx : 0 ≤ x
  · have := Int.tmod_nonneg y hx
    omega
  · have h3 := Int.tmod_nonneg y (show 0 ≤ -x by omega)
    rw [Int.neg_tmod] at h3
    omega
theorem rest_ok (c x r : Int) (ox : okv c x = true) (h1 : r.natAbs ≤ x.natAbs) (h2 : r ≠ 0 → (r < 0 ↔ x < 0)) : okv c r = true := by
  rcases okv_kind ox with rfl | rfl
  · unfold okv at *
    simp at ox ⊢
    by_cases h0 : r = 0
    · omega
    · have := h2 h0
      omega
  · rfl

set_option maxRecDepth 20000 in
set_option maxHeartbeats 1000000 in
theorem intsRest_walk (a b : Int) (t : Bool) (ha : In64 a) (hb : In64 b) (w : World) (hL : Laid w) :
    Calls Tryd.prog 8 #[.int .i64 a, .int .i64 b, .bool t] w fun e w' => e = .returned (.bool true) ∧ Below w.heap.size w w' := by
  cases t
  · skip
    obtain ⟨x, hx⟩ : ∃ x, sg 1 a = x := ⟨_, rfl⟩
    obtain ⟨y, hy⟩ : ∃ x, sg 1 b = x := ⟨_, rfl⟩
    obtain ⟨ox, rx, oy, ry⟩ : okv 1 x = true ∧ In64 x ∧ okv 1 y = true ∧ In64 y := by rw [← hx, ← hy]; exact ⟨okv_sg _ _ (by decide), in64_sg _ _, okv_sg _ _ (by decide), in64_sg _ _⟩
    have Hx := hid hx
    have Ha := hid ha
    have Hb := hid hb
    have Rx := hid rx
    by_cases h0 : y = 0
    · subst h0
      have H : Hid (twoS 111 1 x 1 0 = (0, 0, 2)) := hid (by rw [twoS_mid (c := 1) (b := 111) (by decide) ox oy, mid_div _ _ _ _ (by decide)]; rfl)
      have Hy := hid hy
      clear hx hy ox oy rx ry ha hb
      have HL := hid hL
      clear hL
      go_enter Tryd.func8, Tryd.ntmps8
      go_wp2_with fail
      refine (begun_any _ HL.out).mono ?_
      rintro e w1 ⟨rfl, b1⟩
      have BL1 := hid (Bl.step (Bl.refl _) b1)
      clear b1
      go_wp2_with fail
      refine (refWrap_to 1 a x (by decide) Ha.out Hx.out _).mono ?_
      rintro e w2 ⟨rfl, b2⟩
      have BL2 := hid (Bl.step BL1.out b2)
      clear b2 BL1
      go_wp2_with fail
      refine (refWrap_to 1 b 0 (by decide) Hb.out Hy.out _).mono ?_
      rintro e w3 ⟨rfl, b3⟩
      have BL3 := hid (Bl.step BL2.out b3)
      clear b3 BL2
      go_wp2_with fail
      refine (two_to _ _ _ _ _ _ _ _ Rx.out (by decide) H.out _).mono ?_
      rintro e w4 ⟨rfl, b4⟩
      have X_4 := hid (((Pair.new _ _ _ _ (p := w3.heap.size) (by simp)).alloc _).below b4)
      have Y_4 := hid (((Pair.new _ _ _ _ (p := w3.heap.size + 1) (by simp))).below b4)
      have BL4 := hid (Bl.step (Bl.alloc (Bl.alloc BL3.out _) _) b4)
      clear b4 BL3
      obtain ⟨Xc0, Xc1, -, -⟩ := X_4.out
      have Xlt : w3.heap.size < w4.heap.size := World.block_lt_of_cell? _ _ Xc0
      obtain ⟨Yc0, Yc1, -, -⟩ := Y_4.out
      have Ylt : w3.heap.size + 1 < w4.heap.size := World.block_lt_of_cell? _ _ Yc0
      go_wp2_with fail
      go_ret
      exact ⟨by simp, (Bl.alloc BL4.out _)⟩
    · obtain ⟨r, hr⟩ : ∃ r, x.tmod y = r := ⟨_, rfl⟩
      obtain ⟨k1, k2, k3⟩ := rest_facts x y r h0 hr
      have rr : In64 r := by rw [← hr]; exact tmod_in x y rx
      have orr : okv 1 r = true := rest_ok 1 x r ox k1 k2
      have H : Hid (twoS 111 1 x 1 y = (1, r, 0)) := hid (by
        rw [twoS_mid (c := 1) (b := 111) (by decide) ox oy, mid_div _ _ _ _ (by decide)]
        unfold divS
        rw [if_neg h0, if_neg (by decide), if_neg (by decide), if_pos rfl, hr, sg_id _ _ orr rr])
      have Hy := hid hy
      have Ry := hid ry
      unfold In64 at rr ry rx
      have hy0 : (y == 0) = false := by simp [h0]
      have k : (r = 0 ∧ (r != 0) = false) ∨ (0 < r ∧ (r != 0) = true ∧ decide (r < 0) = false ∧ decide (x < 0) = false) ∨ (r < 0 ∧ (r != 0) = true ∧ decide (r < 0) = true ∧ decide (x < 0) = true) := by
        simp
        omega
      clear hx hy ox oy orr hr ha hb
      rcases (show 0 < y ∨ y < 0 by omega) with hyp | hyp
      all_goals rcases k with ⟨j1, j2⟩ | ⟨j1, j2, j3, j4⟩ | ⟨j1, j2, j3, j4⟩
      all_goals
        have HL := hid hL
        clear hL
        go_enter Tryd.func8, Tryd.ntmps8
        go_wp2_with fail
        refine (begun_any _ HL.out).mono ?_
        rintro e w1 ⟨rfl, b1⟩
        have BL1 := hid (Bl.step (Bl.refl _) b1)
        clear b1
        go_wp2_with fail
        refine (refWrap_to 1 a x (by decide) Ha.out Hx.out _).mono ?_
        rintro e w2 ⟨rfl, b2⟩
        have BL2 := hid (Bl.step BL1.out b2)
        clear b2 BL1
        go_wp2_with fail
        refine (refWrap_to 1 b y (by decide) Hb.out Hy.out _).mono ?_
        rintro e w3 ⟨rfl, b3⟩
        have BL3 := hid (Bl.step BL2.out b3)
        clear b3 BL2
        go_wp2_with fail
        refine (two_to _ _ _ _ _ _ _ _ Rx.out Ry.out H.out _).mono ?_
        rintro e w4 ⟨rfl, b4⟩
        have X_4 := hid (((Pair.new _ _ _ _ (p := w3.heap.size) (by simp)).alloc _).below b4)
        have Y_4 := hid (((Pair.new _ _ _ _ (p := w3.heap.size + 1) (by simp))).below b4)
        have BL4 := hid (Bl.step (Bl.alloc (Bl.alloc BL3.out _) _) b4)
        clear b4 BL3
        obtain ⟨Xc0, Xc1, -, -⟩ := X_4.out
        have Xlt : w3.heap.size < w4.heap.size := World.block_lt_of_cell? _ _ Xc0
        obtain ⟨Yc0, Yc1, -, -⟩ := Y_4.out
        have Ylt : w3.heap.size + 1 < w4.heap.size := World.block_lt_of_cell? _ _ Yc0
        go_wp2_with fail
        go_quiet (fail)
        go_wp2_with fail
        go_ret
        exact ⟨by simp <;> omega, Bl.step (Bl.alloc BL4.out _) (below_drewN _ _ _)⟩
  · skip
    obtain ⟨x, hx⟩ : ∃ x, sg 2 a = x := ⟨_, rfl⟩
    obtain ⟨y, hy⟩ : ∃ x, sg 2 b = x := ⟨_, rfl⟩
    obtain ⟨ox, rx, oy, ry⟩ : okv 2 x = true ∧ In64 x ∧ okv 2 y = true ∧ In64 y := by rw [← hx, ← hy]; exact ⟨okv_sg _ _ (by decide), in64_sg _ _, okv_sg _ _ (by decide), in64_sg _ _⟩
    have Hx := hid hx
    have Ha := hid ha
    have Hb := hid hb
    have Rx := hid rx
    by_cases h0 : y = 0
    · subst h0
      have H : Hid (twoS 129 2 x 2 0 = (0, 0, 2)) := hid (by rw [twoS_mid (c := 2) (b := 111) (by decide) ox oy, mid_div _ _ _ _ (by decide)]; rfl)
      have Hy := hid hy
      clear hx hy ox oy rx ry ha hb
      have HL := hid hL
      clear hL
      go_enter Tryd.func8, Tryd.ntmps8
      go_wp2_with fail
      refine (begun_any _ HL.out).mono ?_
      rintro e w1 ⟨rfl, b1⟩
      have BL1 := hid (Bl.step (Bl.refl _) b1)
      clear b1
      go_wp2_with fail
      refine (refWrap_to 2 a x (by decide) Ha.out Hx.out _).mono ?_
      rintro e w2 ⟨rfl, b2⟩
      have BL2 := hid (Bl.step BL1.out b2)
      clear b2 BL1
      go_wp2_with fail
      refine (refWrap_to 2 b 0 (by decide) Hb.out Hy.out _).mono ?_
      rintro e w3 ⟨rfl, b3⟩
      have BL3 := hid (Bl.step BL2.out b3)
      clear b3 BL2
      go_wp2_with fail
      refine (two_to _ _ _ _ _ _ _ _ Rx.out (by decide) H.out _).mono ?_
      rintro e w4 ⟨rfl, b4⟩
      have X_4 := hid (((Pair.new _ _ _ _ (p := w3.heap.size) (by simp)).alloc _).below b4)
      have Y_4 := hid (((Pair.new _ _ _ _ (p := w3.heap.size + 1) (by simp))).below b4)
      have BL4 := hid (Bl.step (Bl.alloc (Bl.alloc BL3.out _) _) b4)
      clear b4 BL3
      obtain ⟨Xc0, Xc1, -, -⟩ := X_4.out
      have Xlt : w3.heap.size < w4.heap.size := World.block_lt_of_cell? _ _ Xc0
      obtain ⟨Yc0, Yc1, -, -⟩ := Y_4.out
      have Ylt : w3.heap.size + 1 < w4.heap.size := World.block_lt_of_cell? _ _ Yc0
      go_wp2_with fail
      go_ret
      exact ⟨by simp, (Bl.alloc BL4.out _)⟩
    · obtain ⟨r, hr⟩ : ∃ r, x.tmod y = r := ⟨_, rfl⟩
      obtain ⟨k1, k2, k3⟩ := rest_facts x y r h0 hr
      have rr : In64 r := by rw [← hr]; exact tmod_in x y rx
      have orr : okv 2 r = true := rest_ok 2 x r ox k1 k2
      have H : Hid (twoS 129 2 x 2 y = (2, r, 0)) := hid (by
        rw [twoS_mid (c := 2) (b := 111) (by decide) ox oy, mid_div _ _ _ _ (by decide)]
        unfold divS
        rw [if_neg h0, if_neg (by decide), if_neg (by decide), if_pos rfl, hr, sg_id _ _ orr rr])
      have Hy := hid hy
      have Ry := hid ry
      unfold In64 at rr ry rx
      have hy0 : (y == 0) = false := by simp [h0]
      have k : (r = 0 ∧ (r != 0) = false) ∨ (0 < r ∧ (r != 0) = true ∧ decide (r < 0) = false ∧ decide (x < 0) = false) ∨ (r < 0 ∧ (r != 0) = true ∧ decide (r < 0) = true ∧ decide (x < 0) = true) := by
        simp
        omega
      clear hx hy ox oy orr hr ha hb
      rcases (show 0 < y ∨ y < 0 by omega) with hyp | hyp
      all_goals rcases k with ⟨j1, j2⟩ | ⟨j1, j2, j3, j4⟩ | ⟨j1, j2, j3, j4⟩
      all_goals
        have HL := hid hL
        clear hL
        go_enter Tryd.func8, Tryd.ntmps8
        go_wp2_with fail
        refine (begun_any _ HL.out).mono ?_
        rintro e w1 ⟨rfl, b1⟩
        have BL1 := hid (Bl.step (Bl.refl _) b1)
        clear b1
        go_wp2_with fail
        refine (refWrap_to 2 a x (by decide) Ha.out Hx.out _).mono ?_
        rintro e w2 ⟨rfl, b2⟩
        have BL2 := hid (Bl.step BL1.out b2)
        clear b2 BL1
        go_wp2_with fail
        refine (refWrap_to 2 b y (by decide) Hb.out Hy.out _).mono ?_
        rintro e w3 ⟨rfl, b3⟩
        have BL3 := hid (Bl.step BL2.out b3)
        clear b3 BL2
        go_wp2_with fail
        refine (two_to _ _ _ _ _ _ _ _ Rx.out Ry.out H.out _).mono ?_
        rintro e w4 ⟨rfl, b4⟩
        have X_4 := hid (((Pair.new _ _ _ _ (p := w3.heap.size) (by simp)).alloc _).below b4)
        have Y_4 := hid (((Pair.new _ _ _ _ (p := w3.heap.size + 1) (by simp))).below b4)
        have BL4 := hid (Bl.step (Bl.alloc (Bl.alloc BL3.out _) _) b4)
        clear b4 BL3
        obtain ⟨Xc0, Xc1, -, -⟩ := X_4.out
        have Xlt : w3.heap.size < w4.heap.size := World.block_lt_of_cell? _ _ Xc0
        obtain ⟨Yc0, Yc1, -, -⟩ := Y_4.out
        have Ylt : w3.heap.size + 1 < w4.heap.size := World.block_lt_of_cell? _ _ Yc0
        go_wp2_with fail
        go_quiet (fail)
        go_wp2_with fail
        go_ret
        exact ⟨by simp <;> omega, Bl.step (Bl.alloc BL4.out _) (below_drewN _ _ _)⟩
end Go.Proofs.YtiohgigbnncpiaaDoor
