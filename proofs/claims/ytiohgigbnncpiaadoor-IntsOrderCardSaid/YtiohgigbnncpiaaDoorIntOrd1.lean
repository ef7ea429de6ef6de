/- Of any two just one of below, like, above, signed and not; the contraries (I32). -/
import Derived.Test.YtiohgigbnncpiaaDoorIntArr
namespace Go.Proofs.YtiohgigbnncpiaaDoor
open Go.RowKit

set_option maxRecDepth 20000 in
set_option maxHeartbeats 8000000 in
theorem intsOrder_walk1 (a b : Int) (ha : In64 a) (hb : In64 b) (w : World) (hL : Laid w) :
    Calls Tryd.prog 7 #[.int .i64 a, .int .i64 b, .bool false] w fun e w' => e = .returned (.bool true) ∧ Below w.heap.size w w' := by
  obtain ⟨x, hx⟩ : ∃ x, sg 1 a = x := ⟨_, rfl⟩
  obtain ⟨y, hy⟩ : ∃ x, sg 1 b = x := ⟨_, rfl⟩
  obtain ⟨ox, rx, oy, ry⟩ : okv 1 x = true ∧ In64 x ∧ okv 1 y = true ∧ In64 y := by rw [← hx, ← hy]; exact ⟨okv_sg _ _ (by decide), in64_sg _ _, okv_sg _ _ (by decide), in64_sg _ _⟩
  have Hx := hid hx
  have Hy := hid hy
  have Rx := hid rx
  have Ry := hid ry
  have Ox := hid ox
  have Oy := hid oy
  have Ha := hid ha
  have Hb := hid hb
  clear hx hy ox oy rx ry ha hb
  have HL := hid hL
  clear hL
  go_enter Tryd.func7, Tryd.ntmps7
  go_wp2_with fail
  refine (begun_any _ HL.out).mono ?_
  rintro e w1 ⟨rfl, b1⟩
  have BL1 := hid (Bl.step (Bl.refl _) b1)
  clear b1
  go_wp2_with fail
  refine (refWrap_to 1 a x (by decide) Ha.out Hx.out _).mono ?_
  rintro e w2 ⟨rfl, b2⟩
  have BL2 := hid (Bl.step BL1.out b2)
  clear b2 BL1
  go_wp2_with fail
  refine (refWrap_to 1 b y (by decide) Hb.out Hy.out _).mono ?_
  rintro e w3 ⟨rfl, b3⟩
  have BL3 := hid (Bl.step BL2.out b3)
  clear b3 BL2
  go_wp2_with fail
  have Bz := hid (show w.heap.size ≤ w3.heap.size from BL3.out.size)
  go_loopw [13] (fun v wr => ∃ j : Nat, j ≤ 10 ∧ v = .int .i64 j ∧ Hid (Pair wr w3.heap.size (.int .i64 1) (.int .i64 x)) ∧ Hid (Pair wr (w3.heap.size + 1) (.int .i64 1) (.int .i64 y)) ∧ Hid (Arr wr (w3.heap.size + 1 + 1) (fun t => decide (t < j) && ordG x y (un 1 x) (un 1 y) t)) ∧ Hid (Below w.heap.size w wr)) (fun v _ => 10 - (intOf v).toNat)
  case atStart => exact ⟨0, by decide, rfl, hid (((Pair.new _ _ _ _ (p := w3.heap.size) (by simp)).alloc _).alloc _), hid ((Pair.new _ _ _ _ (p := w3.heap.size + 1) (by simp)).alloc _), hid (Arr.new _ _ (by simp) _ (fun t => by simp)), hid (Bl.alloc (Bl.alloc (Bl.alloc BL3.out _) _) _)⟩
  case round =>
    obtain ⟨j, hj, rfl, X_30, Y_30, A_30, BL30⟩ := hrel
    clear BL3
    obtain ⟨Xc0, Xc1, -, -⟩ := X_30.out
    have Xlt : w3.heap.size < wr.heap.size := World.block_lt_of_cell? _ _ Xc0
    obtain ⟨Yc0, Yc1, -, -⟩ := Y_30.out
    have Ylt : w3.heap.size + 1 < wr.heap.size := World.block_lt_of_cell? _ _ Yc0
    by_cases hlt : j < 10
    · obtain ⟨g, hg⟩ : ∃ g, ordG x y (un 1 x) (un 1 y) j = g := ⟨_, rfl⟩
      have hS : Hid (twoS (70 + (j : Int)) 1 x 1 y = (1, tr g, 0)) := hid (by
        rw [twoS_mid (c := 1) (b := 70 + (j : Int)) (by unfold cls; rw [if_pos (by omega)]) Ox.out Oy.out]
        unfold midS
        rw [if_pos (by omega), cmp_ordG _ _ _ _ j hlt, hg])
      have Hg := hid hg
      clear hg
      go_wp2_with fail
      refine (two_to _ _ _ _ _ _ _ _ Rx.out Ry.out hS.out _).mono ?_
      rintro e w31 ⟨rfl, b31⟩
      have X_31 := hid (X_30.out.below b31)
      have Y_31 := hid (Y_30.out.below b31)
      have A_31 := hid (A_30.out.below b31)
      have BL31 := hid (Bl.step BL30.out b31)
      have Alt : w3.heap.size + 1 + 1 < w31.heap.size := World.block_lt_of_cell? _ _ (A_31.out j hlt).1
      obtain ⟨Ac, Af⟩ := A_31.out j hlt
      clear b31 Xc0 Xc1 Yc0 Yc1 Xlt Ylt X_30 Y_30 A_30 BL30
      cases g
      all_goals
        first | rw [show tr true = 1 from rfl] | rw [show tr false = 0 from rfl]
        go_wp2_with fail
        go_roundw
        case rel => exact ⟨j + 1, by omega, by go_num, hid ((X_31.out.aside (by show w3.heap.size ≠ w3.heap.size + 1 + 1; omega) _).alloc _), hid ((Y_31.out.aside (by show w3.heap.size + 1 ≠ w3.heap.size + 1 + 1; omega) _).alloc _), hid (((A_31.out.set j hlt _).alloc _).to (fun t ht => by
          by_cases e : t = j
          · subst e; simp [Hg.out]
          · simp [e, show (t < j + 1) ↔ (t < j) by omega])), hid (Bl.alloc (Bl.set BL31.out (by have := Bz.out; show w.heap.size ≤ w3.heap.size + 1 + 1; omega) _) _)⟩
        case measure => simp [intOf]; omega
    · obtain rfl : j = 10 := by omega
      obtain ⟨wo, rfl⟩ : ∃ wo : World, wo = wr := ⟨_, rfl⟩
      have K := A_30.out
      have ra := fun t (ht : t < 10) => (K t ht).1
      have v0 : wo.cell? ⟨w3.heap.size + 1 + 1, 0, none⟩ = some (.bool (ordG x y (un 1 x) (un 1 y) 0)) := by simpa using ra 0 (by decide)
      have v1 : wo.cell? ⟨w3.heap.size + 1 + 1, 1, none⟩ = some (.bool (ordG x y (un 1 x) (un 1 y) 1)) := by simpa using ra 1 (by decide)
      have v2 : wo.cell? ⟨w3.heap.size + 1 + 1, 2, none⟩ = some (.bool (ordG x y (un 1 x) (un 1 y) 2)) := by simpa using ra 2 (by decide)
      have v3 : wo.cell? ⟨w3.heap.size + 1 + 1, 3, none⟩ = some (.bool (ordG x y (un 1 x) (un 1 y) 3)) := by simpa using ra 3 (by decide)
      have v4 : wo.cell? ⟨w3.heap.size + 1 + 1, 4, none⟩ = some (.bool (ordG x y (un 1 x) (un 1 y) 4)) := by simpa using ra 4 (by decide)
      have v5 : wo.cell? ⟨w3.heap.size + 1 + 1, 5, none⟩ = some (.bool (ordG x y (un 1 x) (un 1 y) 5)) := by simpa using ra 5 (by decide)
      have v6 : wo.cell? ⟨w3.heap.size + 1 + 1, 6, none⟩ = some (.bool (ordG x y (un 1 x) (un 1 y) 6)) := by simpa using ra 6 (by decide)
      have v7 : wo.cell? ⟨w3.heap.size + 1 + 1, 7, none⟩ = some (.bool (ordG x y (un 1 x) (un 1 y) 7)) := by simpa using ra 7 (by decide)
      have v8 : wo.cell? ⟨w3.heap.size + 1 + 1, 8, none⟩ = some (.bool (ordG x y (un 1 x) (un 1 y) 8)) := by simpa using ra 8 (by decide)
      have v9 : wo.cell? ⟨w3.heap.size + 1 + 1, 9, none⟩ = some (.bool (ordG x y (un 1 x) (un 1 y) 9)) := by simpa using ra 9 (by decide)
      clear ra K A_30
      rcases ord_cases 1 x y Ox.out Oy.out Rx.out Ry.out with ⟨k1, k2⟩ | ⟨k1, k2⟩ | ⟨k1, k2⟩ | ⟨k1, k2, k3, k4⟩ | ⟨k1, k2, k3, k4⟩
      · rw [show ordG x y (un 1 x) (un 1 y) 0 = true from by simp [ordG] <;> omega] at v0
        rw [show ordG x y (un 1 x) (un 1 y) 1 = false from by simp [ordG] <;> omega] at v1
        rw [show ordG x y (un 1 x) (un 1 y) 2 = false from by simp [ordG] <;> omega] at v2
        rw [show ordG x y (un 1 x) (un 1 y) 3 = false from by simp [ordG] <;> omega] at v3
        rw [show ordG x y (un 1 x) (un 1 y) 4 = false from by simp [ordG] <;> omega] at v4
        rw [show ordG x y (un 1 x) (un 1 y) 5 = false from by simp [ordG] <;> omega] at v5
        rw [show ordG x y (un 1 x) (un 1 y) 6 = true from by simp [ordG] <;> omega] at v6
        rw [show ordG x y (un 1 x) (un 1 y) 7 = true from by simp [ordG] <;> omega] at v7
        rw [show ordG x y (un 1 x) (un 1 y) 8 = true from by simp [ordG] <;> omega] at v8
        rw [show ordG x y (un 1 x) (un 1 y) 9 = true from by simp [ordG] <;> omega] at v9
        have h1 : (x == y) = true := by simp <;> omega
        have h2 : decide (x < y) = false := by simp <;> omega
        clear k1 k2
        go_wp2_with fail
        go_loopw [16] (fun v wr => ∃ k : Nat, k ≤ 2 ∧ v = .int .i64 k ∧ ∃ n, wr = wo.drewN n) (fun v _ => 2 - (intOf v).toNat)
        case atStart => exact ⟨0, by decide, rfl, 0, rfl⟩
        case round =>
          obtain ⟨k, hk, rfl, n, rfl⟩ := hrel
          rcases (show k = 0 ∨ k = 1 ∨ k = 2 by omega) with rfl | rfl | rfl
          · go_wp2_with fail
            go_quiet (fail)
            go_wp2_with fail
            go_roundw
            case rel => exact ⟨1, by decide, rfl, _, rfl⟩
            case measure => simp [intOf]
          · go_wp2_with fail
            go_quiet (fail)
            go_wp2_with fail
            go_roundw
            case rel => exact ⟨2, by decide, rfl, _, rfl⟩
            case measure => simp [intOf]
          · go_wp2_with fail
            go_ret
            exact ⟨by simp, Bl.step BL30.out (below_drewN _ _ _)⟩
      · rw [show ordG x y (un 1 x) (un 1 y) 0 = false from by simp [ordG] <;> omega] at v0
        rw [show ordG x y (un 1 x) (un 1 y) 1 = true from by simp [ordG] <;> omega] at v1
        rw [show ordG x y (un 1 x) (un 1 y) 2 = true from by simp [ordG] <;> omega] at v2
        rw [show ordG x y (un 1 x) (un 1 y) 3 = true from by simp [ordG] <;> omega] at v3
        rw [show ordG x y (un 1 x) (un 1 y) 4 = false from by simp [ordG] <;> omega] at v4
        rw [show ordG x y (un 1 x) (un 1 y) 5 = false from by simp [ordG] <;> omega] at v5
        rw [show ordG x y (un 1 x) (un 1 y) 6 = true from by simp [ordG] <;> omega] at v6
        rw [show ordG x y (un 1 x) (un 1 y) 7 = true from by simp [ordG] <;> omega] at v7
        rw [show ordG x y (un 1 x) (un 1 y) 8 = false from by simp [ordG] <;> omega] at v8
        rw [show ordG x y (un 1 x) (un 1 y) 9 = false from by simp [ordG] <;> omega] at v9
        have h1 : (x == y) = false := by simp <;> omega
        have h2 : decide (x < y) = true := by simp <;> omega
        clear k1 k2
        go_wp2_with fail
        go_loopw [16] (fun v wr => ∃ k : Nat, k ≤ 2 ∧ v = .int .i64 k ∧ ∃ n, wr = wo.drewN n) (fun v _ => 2 - (intOf v).toNat)
        case atStart => exact ⟨0, by decide, rfl, 0, rfl⟩
        case round =>
          obtain ⟨k, hk, rfl, n, rfl⟩ := hrel
          rcases (show k = 0 ∨ k = 1 ∨ k = 2 by omega) with rfl | rfl | rfl
          · go_wp2_with fail
            go_quiet (fail)
            go_wp2_with fail
            go_roundw
            case rel => exact ⟨1, by decide, rfl, _, rfl⟩
            case measure => simp [intOf]
          · go_wp2_with fail
            go_quiet (fail)
            go_wp2_with fail
            go_roundw
            case rel => exact ⟨2, by decide, rfl, _, rfl⟩
            case measure => simp [intOf]
          · go_wp2_with fail
            go_ret
            exact ⟨by simp, Bl.step BL30.out (below_drewN _ _ _)⟩
      · rw [show ordG x y (un 1 x) (un 1 y) 0 = false from by simp [ordG] <;> omega] at v0
        rw [show ordG x y (un 1 x) (un 1 y) 1 = true from by simp [ordG] <;> omega] at v1
        rw [show ordG x y (un 1 x) (un 1 y) 2 = false from by simp [ordG] <;> omega] at v2
        rw [show ordG x y (un 1 x) (un 1 y) 3 = false from by simp [ordG] <;> omega] at v3
        rw [show ordG x y (un 1 x) (un 1 y) 4 = true from by simp [ordG] <;> omega] at v4
        rw [show ordG x y (un 1 x) (un 1 y) 5 = true from by simp [ordG] <;> omega] at v5
        rw [show ordG x y (un 1 x) (un 1 y) 6 = false from by simp [ordG] <;> omega] at v6
        rw [show ordG x y (un 1 x) (un 1 y) 7 = false from by simp [ordG] <;> omega] at v7
        rw [show ordG x y (un 1 x) (un 1 y) 8 = true from by simp [ordG] <;> omega] at v8
        rw [show ordG x y (un 1 x) (un 1 y) 9 = true from by simp [ordG] <;> omega] at v9
        have h1 : (x == y) = false := by simp <;> omega
        have h2 : decide (x < y) = false := by simp <;> omega
        clear k1 k2
        go_wp2_with fail
        go_loopw [16] (fun v wr => ∃ k : Nat, k ≤ 2 ∧ v = .int .i64 k ∧ ∃ n, wr = wo.drewN n) (fun v _ => 2 - (intOf v).toNat)
        case atStart => exact ⟨0, by decide, rfl, 0, rfl⟩
        case round =>
          obtain ⟨k, hk, rfl, n, rfl⟩ := hrel
          rcases (show k = 0 ∨ k = 1 ∨ k = 2 by omega) with rfl | rfl | rfl
          · go_wp2_with fail
            go_quiet (fail)
            go_wp2_with fail
            go_roundw
            case rel => exact ⟨1, by decide, rfl, _, rfl⟩
            case measure => simp [intOf]
          · go_wp2_with fail
            go_quiet (fail)
            go_wp2_with fail
            go_roundw
            case rel => exact ⟨2, by decide, rfl, _, rfl⟩
            case measure => simp [intOf]
          · go_wp2_with fail
            go_ret
            exact ⟨by simp, Bl.step BL30.out (below_drewN _ _ _)⟩
      · rw [show ordG x y (un 1 x) (un 1 y) 0 = false from by simp [ordG] <;> omega] at v0
        rw [show ordG x y (un 1 x) (un 1 y) 1 = true from by simp [ordG] <;> omega] at v1
        rw [show ordG x y (un 1 x) (un 1 y) 2 = true from by simp [ordG] <;> omega] at v2
        rw [show ordG x y (un 1 x) (un 1 y) 3 = false from by simp [ordG] <;> omega] at v3
        rw [show ordG x y (un 1 x) (un 1 y) 4 = false from by simp [ordG] <;> omega] at v4
        rw [show ordG x y (un 1 x) (un 1 y) 5 = true from by simp [ordG] <;> omega] at v5
        rw [show ordG x y (un 1 x) (un 1 y) 6 = true from by simp [ordG] <;> omega] at v6
        rw [show ordG x y (un 1 x) (un 1 y) 7 = false from by simp [ordG] <;> omega] at v7
        rw [show ordG x y (un 1 x) (un 1 y) 8 = false from by simp [ordG] <;> omega] at v8
        rw [show ordG x y (un 1 x) (un 1 y) 9 = true from by simp [ordG] <;> omega] at v9
        have h1 : (x == y) = false := by simp <;> omega
        have h2 : decide (x < y) = true := by simp <;> omega
        have h3 : decide (x < 0) = true := by simp <;> omega
        have h4 : decide (y < 0) = false := by simp <;> omega
        clear k1 k2 k3 k4
        go_wp2_with fail
        go_loopw [16] (fun v wr => ∃ k : Nat, k ≤ 2 ∧ v = .int .i64 k ∧ ∃ n, wr = wo.drewN n) (fun v _ => 2 - (intOf v).toNat)
        case atStart => exact ⟨0, by decide, rfl, 0, rfl⟩
        case round =>
          obtain ⟨k, hk, rfl, n, rfl⟩ := hrel
          rcases (show k = 0 ∨ k = 1 ∨ k = 2 by omega) with rfl | rfl | rfl
          · go_wp2_with fail
            go_quiet (fail)
            go_wp2_with fail
            go_roundw
            case rel => exact ⟨1, by decide, rfl, _, rfl⟩
            case measure => simp [intOf]
          · go_wp2_with fail
            go_quiet (fail)
            go_wp2_with fail
            go_roundw
            case rel => exact ⟨2, by decide, rfl, _, rfl⟩
            case measure => simp [intOf]
          · go_wp2_with fail
            go_ret
            exact ⟨by simp, Bl.step BL30.out (below_drewN _ _ _)⟩
      · rw [show ordG x y (un 1 x) (un 1 y) 0 = false from by simp [ordG] <;> omega] at v0
        rw [show ordG x y (un 1 x) (un 1 y) 1 = true from by simp [ordG] <;> omega] at v1
        rw [show ordG x y (un 1 x) (un 1 y) 2 = false from by simp [ordG] <;> omega] at v2
        rw [show ordG x y (un 1 x) (un 1 y) 3 = true from by simp [ordG] <;> omega] at v3
        rw [show ordG x y (un 1 x) (un 1 y) 4 = true from by simp [ordG] <;> omega] at v4
        rw [show ordG x y (un 1 x) (un 1 y) 5 = false from by simp [ordG] <;> omega] at v5
        rw [show ordG x y (un 1 x) (un 1 y) 6 = false from by simp [ordG] <;> omega] at v6
        rw [show ordG x y (un 1 x) (un 1 y) 7 = true from by simp [ordG] <;> omega] at v7
        rw [show ordG x y (un 1 x) (un 1 y) 8 = true from by simp [ordG] <;> omega] at v8
        rw [show ordG x y (un 1 x) (un 1 y) 9 = false from by simp [ordG] <;> omega] at v9
        have h1 : (x == y) = false := by simp <;> omega
        have h2 : decide (x < y) = false := by simp <;> omega
        have h3 : decide (x < 0) = false := by simp <;> omega
        have h4 : decide (y < 0) = true := by simp <;> omega
        clear k1 k2 k3 k4
        go_wp2_with fail
        go_loopw [16] (fun v wr => ∃ k : Nat, k ≤ 2 ∧ v = .int .i64 k ∧ ∃ n, wr = wo.drewN n) (fun v _ => 2 - (intOf v).toNat)
        case atStart => exact ⟨0, by decide, rfl, 0, rfl⟩
        case round =>
          obtain ⟨k, hk, rfl, n, rfl⟩ := hrel
          rcases (show k = 0 ∨ k = 1 ∨ k = 2 by omega) with rfl | rfl | rfl
          · go_wp2_with fail
            go_quiet (fail)
            go_wp2_with fail
            go_roundw
            case rel => exact ⟨1, by decide, rfl, _, rfl⟩
            case measure => simp [intOf]
          · go_wp2_with fail
            go_quiet (fail)
            go_wp2_with fail
            go_roundw
            case rel => exact ⟨2, by decide, rfl, _, rfl⟩
            case measure => simp [intOf]
          · go_wp2_with fail
            go_ret
            exact ⟨by simp, Bl.step BL30.out (below_drewN _ _ _)⟩

end Go.Proofs.YtiohgigbnncpiaaDoor
