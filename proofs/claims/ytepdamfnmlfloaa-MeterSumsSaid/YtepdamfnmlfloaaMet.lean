/- The small functions of meter: what each call answers. -/
import Derived.Test.YtepdamfnmlfloaaRows
import Derived.Test.YtepdamfnmlfloaaFlo
import Derived.Test.YtepdamfnmlfloaaBase
import Derived.Outline
namespace Go.Proofs.Ytepdamfnmlfloaa
open Go.RowKit

/-- A complex number of whole parts. -/
abbrev cx (z z' : Bool) (x y : Int) : Value := .complex .f64 (fw z x) (fw z' y)

theorem of_any (a b : Int) (w : World) : Calls Try.prog 10 #[.int .i64 a, .int .i64 b] w fun e w' => e = .returned (cx false false a b) ∧ w = w' := by
  have e1 := ofInt_fw a
  have e2 := ofInt_fw b
  unfold cx
  rw [← e1, ← e2]
  clear e1 e2
  go_enter Try.func10, Try.ntmps10
  go_wp2
  go_ret
  exact ⟨rfl, rfl⟩

theorem steps_any (z z' : Bool) (x y : Int) (w : World) (hx : x.natAbs < 2 ^ 53) : Calls Try.prog 11 #[cx z z' x y] w fun e w' => e = .returned (.int .i64 x) ∧ w = w' := by
  have e1 := toInt_fw z x hx
  have hc := fun (w : World) => run_convert_float_int (P := Try.prog) w 29 3 .f64 .i64 (fw z x) x (by kernel_rfl) (by kernel_rfl) e1
  go_enter Try.func11, Try.ntmps11
  go_wp2
  go_ret
  exact ⟨rfl, rfl⟩

theorem bytes_any (z z' : Bool) (x y : Int) (w : World) (hy : y.natAbs < 2 ^ 53) : Calls Try.prog 12 #[cx z z' x y] w fun e w' => e = .returned (.int .i64 y) ∧ w = w' := by
  have e1 := toInt_fw z' y hy
  have hc := fun (w : World) => run_convert_float_int (P := Try.prog) w 29 3 .f64 .i64 (fw z' y) y (by kernel_rfl) (by kernel_rfl) e1
  go_enter Try.func12, Try.ntmps12
  go_wp2
  go_ret
  exact ⟨rfl, rfl⟩

theorem tmod_or (n : Int) : (n.tmod 1000003 < 0 ∧ n.tmod 1000003 + 1000003 = n % 1000003) ∨ (0 ≤ n.tmod 1000003 ∧ n.tmod 1000003 = n % 1000003) := by
  rw [Int.tmod_eq_emod]
  split
  · omega
  · rename_i h
    have : n % 1000003 ≠ 0 := fun e => h (.inr (Int.dvd_of_emod_eq_zero e))
    simp only [Int.natAbs]
    omega

theorem rest_any (n : Int) (w : World) : Calls Try.prog 18 #[.int .i64 n] w fun e w' => e = .returned (.int .i64 (n % 1000003)) ∧ w = w' := by
  have t1 : -1000003 < n.tmod 1000003 := Int.lt_tmod_of_pos _ (by decide)
  have t2 : n.tmod 1000003 < 1000003 := Int.tmod_lt_of_pos _ (by decide)
  rcases tmod_or n with ⟨h2, h3⟩ | ⟨h2, h3⟩
  · rw [← h3]
    clear h3
    go_enter Try.func18, Try.ntmps18
    go_wp2
    go_ret
    exact ⟨rfl, rfl⟩
  · rw [← h3]
    clear h3
    go_enter Try.func18, Try.ntmps18
    go_wp2
    go_ret
    exact ⟨rfl, rfl⟩

theorem part_any (n : Int) (w : World) : Calls Try.prog 9 #[.int .i64 n] w fun e w' => e = .returned (.int .i64 (n.tmod 1073741824)) ∧ w = w' := by
  go_enter Try.func9, Try.ntmps9
  go_wp2
  go_ret
  exact ⟨rfl, rfl⟩

theorem cost_41 (w : World) : Calls Try.prog 17 #[.int .i64 41] w fun e w' => e = .returned (cx false false 1 8) ∧ w = w' := by
  go_enter Try.func17, Try.ntmps17
  go_wp2_with (go_at_call 10; refine (of_any _ _ _).mono ?_; rintro e w' ⟨rfl, rfl⟩)
  go_ret
  exact ⟨rfl, rfl⟩
theorem cost_106 (w : World) : Calls Try.prog 17 #[.int .i64 106] w fun e w' => e = .returned (cx false false 1 0) ∧ w = w' := by
  go_enter Try.func17, Try.ntmps17
  go_wp2_with (go_at_call 10; refine (of_any _ _ _).mono ?_; rintro e w' ⟨rfl, rfl⟩)
  go_ret
  exact ⟨rfl, rfl⟩

theorem refMark_any (x y k n : Int) (w : World) (hx0 : 0 ≤ x) (hx1 : x ≤ 1000002) (hy0 : 0 ≤ y) (hy1 : y ≤ 1000002) (hk0 : 0 ≤ k) (hk1 : k ≤ 1000) :
    Calls Try.prog 16 #[.int .i64 x, .int .i64 y, .int .i64 k, .int .i64 n] w fun e w' => e = .returned (.tuple #[.int .i64 ((x - 2 * y + k + 1) % 1000003), .int .i64 ((2 * x + y + n % 1000003) % 1000003)]) ∧ w = w' := by
  have t1 : -1000003 < n.tmod 1000003 := Int.lt_tmod_of_pos _ (by decide)
  have t2 : n.tmod 1000003 < 1000003 := Int.tmod_lt_of_pos _ (by decide)
  obtain ⟨a, ha⟩ : ∃ a, a = x - 2 * y + k + 1 := ⟨_, rfl⟩
  obtain ⟨b, hb⟩ : ∃ b, b = 2 * x + y + n % 1000003 := ⟨_, rfl⟩
  rw [← ha, ← hb]
  have hb0 : 0 ≤ b := by omega
  have hb1 : b ≤ 5000000 := by omega
  have a1 : -1000003 < a.tmod 1000003 := Int.lt_tmod_of_pos _ (by decide)
  have a2 : a.tmod 1000003 < 1000003 := Int.tmod_lt_of_pos _ (by decide)
  have ea : (a.tmod 1000003 + 1000003) % 1000003 = a % 1000003 := by rcases tmod_or a with ⟨h2, h3⟩ | ⟨h2, h3⟩ <;> omega
  have eb : (b % 1000003 + 1000003) % 1000003 = b % 1000003 := by omega
  have ha' := ha.symm
  rcases tmod_or n with ⟨h2, h3⟩ | ⟨h2, h3⟩
  · rw [← h3] at hb
    have hb' := hb.symm
    clear ha hb h3
    go_enter Try.func16, Try.ntmps16
    go_wp2
    rw [ea, eb]
    go_ret2
    exact ⟨rfl, rfl⟩
  · rw [← h3] at hb
    have hb' := hb.symm
    clear ha hb h3
    go_enter Try.func16, Try.ntmps16
    go_wp2
    rw [ea, eb]
    go_ret2
    exact ⟨rfl, rfl⟩

/-- The call answers a complex number of these whole parts. -/
def RetC (e : Ending) (x y : Int) : Prop := ∃ z z', e = .returned (cx z z' x y)
theorem RetC.mk {e : Ending} {x y : Int} (z z' : Bool) (h : e = .returned (cx z z' x y)) : RetC e x y := ⟨z, z', h⟩

/-- A quarter turn, k times. -/
def rot : Nat → Int × Int → Int × Int
  | 0, p => p
  | k + 1, p => rot k (-p.2, p.1)

theorem mark_any (z z' : Bool) (x y k n : Int) (w : World) (hx0 : 0 ≤ x) (hx1 : x ≤ 1000002) (hy0 : 0 ≤ y) (hy1 : y ≤ 1000002) (hk0 : 0 ≤ k) (hk1 : k ≤ 1000) :
    Calls Try.prog 15 #[cx z z' x y, .int .i64 k, .int .i64 n] w fun e w' => e = .returned (cx false false ((x - 2 * y + k + 1) % 1000003) ((2 * x + y + n % 1000003) % 1000003)) ∧ w = w' := by
  obtain ⟨r, hr⟩ : ∃ r, r = n % 1000003 := ⟨_, rfl⟩
  obtain ⟨p1, hp1⟩ : ∃ r, r = x - 2 * y := ⟨_, rfl⟩
  obtain ⟨q1, hq1⟩ : ∃ r, r = 2 * x + y := ⟨_, rfl⟩
  obtain ⟨p2, hp2⟩ : ∃ r, r = p1 + k := ⟨_, rfl⟩
  obtain ⟨q2, hq2⟩ : ∃ q, q = q1 + r := ⟨_, rfl⟩
  obtain ⟨p3, hp3⟩ : ∃ r, r = p2 + 1 := ⟨_, rfl⟩
  have hr0 : 0 ≤ r := by omega
  have hr1 : r < 1000003 := by omega
  obtain ⟨z1, z2, hmul⟩ := cx_mul (P := Try.prog) z z' false false x y 1 2 p1 q1 (by omega) (by omega) (by omega) (by omega) (by omega) (by omega) (by omega) (by omega) (by omega) (by omega) (by omega) (by omega)
  obtain ⟨z3, z4, hadd⟩ := cx_add (P := Try.prog) z1 z2 false false p1 q1 k r p2 q2 (by omega) (by omega) (by omega) (by omega) (by omega) (by omega) (by omega) (by omega)
  obtain ⟨z5, z6, hadd2⟩ := cx_add (P := Try.prog) z3 z4 false false p2 q2 1 0 p3 q2 (by omega) (by omega) (by omega) (by omega) (by omega) (by omega) (by omega) (by omega)
  rw [fw_1, fw_2] at hmul
  rw [fw_1, fw_0] at hadd2
  rw [← hr, ← hp1, ← hq1, ← hp2, ← hq2, ← hp3]
  have bp : p3.natAbs < 2 ^ 53 := by omega
  have bq : q2.natAbs < 2 ^ 53 := by omega
  have hr' := hr.symm
  clear hr hp1 hq1 hp2 hq2 hp3
  go_enter Try.func15, Try.ntmps15
  go_wp2_with (first
    | (go_at_call 10; refine (of_any _ _ _).mono ?_; rintro e w' ⟨rfl, rfl⟩)
    | (go_at_call 11; refine (steps_any _ _ _ _ _ bp).mono ?_; rintro e w' ⟨rfl, rfl⟩)
    | (go_at_call 12; refine (bytes_any _ _ _ _ _ bq).mono ?_; rintro e w' ⟨rfl, rfl⟩)
    | (go_at_call 18; refine (rest_any _ _).mono ?_; rintro e w' ⟨rfl, rfl⟩; try simp only [hr']))
  go_ret
  exact ⟨rfl, rfl⟩

/-- k quarter turns. -/
theorem turn_any (z z' : Bool) (x y k : Int) (w : World) (hx : x.natAbs < 2 ^ 52) (hy : y.natAbs < 2 ^ 52) (q : Nat) (hk : k % 4 = q) :
    Calls Try.prog 14 #[cx z z' x y, .int .i64 k] w fun e w' => RetC e (rot q (x, y)).1 (rot q (x, y)).2 ∧ Below w.heap.size w w' := by
  have hb : bits BinOp.and IntKind.i64 k 3 = (q : Int) := by
    rw [← hk]
    exact bits_and_mask .i64 2 (by decide) (fun n h0 h1 => by have : (2:Int)^2 = 4 := by decide
                                                              exact IntWalk.i64_in n (by omega)) k
  have hq : q < 4 := by omega
  have hst := fun (w : World) (a : Addr) (k : FloatKind) (x y : Nat) (m : Mode) => run_store Try.prog w a (.complex k x y) m rfl
  clear hk
  rcases (show q = 0 ∨ q = 1 ∨ q = 2 ∨ q = 3 by omega) with rfl | rfl | rfl | rfl
  · obtain ⟨z1, z2, hmul⟩ := cx_mul (P := Try.prog) z z' false false x y 1 0 x y (by omega) (by omega) (by omega) (by omega) (by omega) (by omega) (by omega) (by omega) (by omega) (by omega) (by omega) (by omega)
    obtain ⟨z3, z4, hadd⟩ := cx_add (P := Try.prog) false false z1 z2 0 0 x y x y (by omega) (by omega) (by omega) (by omega) (by omega) (by omega) (by omega) (by omega)
    rw [fw_1, fw_0] at hmul
    rw [fw_0] at hadd
    go_enter Try.func14, Try.ntmps14
    go_wp2
    go_ret
    exact ⟨.mk z3 z4 (by simp [rot]), (Below.refl _ _).alloc (Nat.le_refl _) _⟩
  · obtain ⟨z1, z2, hmul⟩ := cx_mul (P := Try.prog) z z' false false x y 0 1 (-y) x (by omega) (by omega) (by omega) (by omega) (by omega) (by omega) (by omega) (by omega) (by omega) (by omega) (by omega) (by omega)
    obtain ⟨z3, z4, hadd⟩ := cx_add (P := Try.prog) false false z1 z2 0 0 (-y) x (-y) x (by omega) (by omega) (by omega) (by omega) (by omega) (by omega) (by omega) (by omega)
    rw [fw_1, fw_0] at hmul
    rw [fw_0] at hadd
    go_enter Try.func14, Try.ntmps14
    go_wp2
    go_ret
    exact ⟨.mk z3 z4 (by simp [rot]), (Below.refl _ _).alloc (Nat.le_refl _) _⟩
  · obtain ⟨z1, z2, hmul⟩ := cx_mul (P := Try.prog) z z' false false x y (-1) 0 (-x) (-y) (by omega) (by omega) (by omega) (by omega) (by omega) (by omega) (by omega) (by omega) (by omega) (by omega) (by omega) (by omega)
    obtain ⟨z3, z4, hadd⟩ := cx_add (P := Try.prog) false false z1 z2 0 0 (-x) (-y) (-x) (-y) (by omega) (by omega) (by omega) (by omega) (by omega) (by omega) (by omega) (by omega)
    rw [fw_m1, fw_0] at hmul
    rw [fw_0] at hadd
    go_enter Try.func14, Try.ntmps14
    go_wp2
    go_ret
    exact ⟨.mk z3 z4 (by simp [rot]), (Below.refl _ _).alloc (Nat.le_refl _) _⟩
  · obtain ⟨z1, z2, hmul⟩ := cx_mul (P := Try.prog) z z' false false x y 0 (-1) y (-x) (by omega) (by omega) (by omega) (by omega) (by omega) (by omega) (by omega) (by omega) (by omega) (by omega) (by omega) (by omega)
    obtain ⟨z3, z4, hadd⟩ := cx_add (P := Try.prog) false false z1 z2 0 0 y (-x) y (-x) (by omega) (by omega) (by omega) (by omega) (by omega) (by omega) (by omega) (by omega)
    rw [fw_m1, fw_0] at hmul
    rw [fw_0] at hadd
    go_enter Try.func14, Try.ntmps14
    go_wp2
    go_ret
    exact ⟨.mk z3 z4 (by simp [rot]), (Below.refl _ _).alloc (Nat.le_refl _) _⟩
end Go.Proofs.Ytepdamfnmlfloaa
