/- Four turns are none; a turn and its contrary are none; turns add up. -/
import Derived.Test.YtepdamfnmlfloaaMetApart
namespace Go.Proofs.Ytepdamfnmlfloaa
open Go.RowKit

theorem rot_add : ∀ (a b : Nat) (p : Int × Int), rot a (rot b p) = rot (b + a) p := by
  intro a b
  induction b with
  | zero => intro p; simp [rot]
  | succ b ih => intro p; rw [show b + 1 + a = (b + a) + 1 by omega]; simp only [rot]; exact ih _

theorem rot_four (p : Int × Int) : rot 4 p = p := by simp [rot]

theorem rot_mod (a : Nat) (p : Int × Int) : rot (a % 4) p = rot a p := by
  induction a using Nat.strongRecOn generalizing p with
  | ind a ih =>
    by_cases h : a < 4
    · rw [Nat.mod_eq_of_lt h]
    · have e := rot_add (a - 4) 4 p
      rw [rot_four, show 4 + (a - 4) = a by omega] at e
      rw [show a % 4 = (a - 4) % 4 by omega, ih (a - 4) (by omega) p, e]

theorem tmod_bound (x : Int) (m : Int) (h : 0 < m) : -m < x.tmod m ∧ x.tmod m < m := ⟨Int.lt_tmod_of_pos _ h, Int.tmod_lt_of_pos _ h⟩

theorem rot_le {B : Nat} : ∀ (q : Nat) (x y : Int), x.natAbs < B → y.natAbs < B → (rot q (x, y)).1.natAbs < B ∧ (rot q (x, y)).2.natAbs < B := by
  intro q
  induction q with
  | zero => intro x y h1 h2; exact ⟨h1, h2⟩
  | succ q ih => intro x y h1 h2; exact ih (-y) x (by omega) h1

set_option maxRecDepth 20000 in
theorem meterTurn_walk (a b k j : Int) (w : World) :
    Calls Try.prog 4 #[.int .i64 a, .int .i64 b, .int .i64 k, .int .i64 j] w fun e w' => e = .returned (.bool true) ∧ Below w.heap.size w w' := by
  obtain ⟨p1, p2⟩ := tmod_bound a 1073741824 (by decide)
  obtain ⟨p3, p4⟩ := tmod_bound b 1073741824 (by decide)
  obtain ⟨p5, p6⟩ := tmod_bound k 1000000 (by decide)
  obtain ⟨p7, p8⟩ := tmod_bound j 1000000 (by decide)
  obtain ⟨x, e1⟩ : ∃ x, a.tmod 1073741824 = x := ⟨_, rfl⟩
  obtain ⟨y, e2⟩ : ∃ x, b.tmod 1073741824 = x := ⟨_, rfl⟩
  obtain ⟨c, e3⟩ : ∃ x, k.tmod 1000000 = x := ⟨_, rfl⟩
  obtain ⟨d, e4⟩ : ∃ x, j.tmod 1000000 = x := ⟨_, rfl⟩
  rw [e1] at p1 p2
  rw [e2] at p3 p4
  rw [e3] at p5 p6
  rw [e4] at p7 p8
  have ha := part_any a
  rw [e1] at ha
  have hb := part_any b
  rw [e2] at hb
  go_enter Try.func4, Try.ntmps4
  go_wp2_with fail
  refine (begun_any w).mono ?_
  rintro e w1 ⟨rfl, b1⟩
  go_wp2_with fail
  refine (ha _).mono ?_
  rintro e w' ⟨rfl, rfl⟩
  go_wp2_with fail
  refine (hb _).mono ?_
  rintro e w' ⟨rfl, rfl⟩
  go_wp2_with fail
  refine (of_any _ _ _).mono ?_
  rintro e w' ⟨rfl, rfl⟩
  go_wp2_with fail
  obtain ⟨qk, hqk⟩ : ∃ q : Nat, c % 4 = q := ⟨(c % 4).toNat, by omega⟩
  obtain ⟨qm, hqm⟩ : ∃ q : Nat, (-c) % 4 = q := ⟨((-c) % 4).toNat, by omega⟩
  obtain ⟨qj, hqj⟩ : ∃ q : Nat, d % 4 = q := ⟨(d % 4).toNat, by omega⟩
  obtain ⟨qs, hqs⟩ : ∃ q : Nat, (c + d) % 4 = q := ⟨((c + d) % 4).toNat, by omega⟩
  obtain ⟨u, v, huv⟩ : ∃ u v, rot qk (x, y) = (u, v) := ⟨_, _, rfl⟩
  have l1 := rot_le (B := 2 ^ 30) qk x y (by omega) (by omega)
  rw [huv] at l1
  dsimp only at l1
  have r1 : rot qm (u, v) = (x, y) := by
    rw [← huv, rot_add, ← rot_mod, show (qk + qm) % 4 = 0 by omega]; rfl
  obtain ⟨s, t, hst⟩ : ∃ s t, rot qj (u, v) = (s, t) := ⟨_, _, rfl⟩
  have l2 := rot_le (B := 2 ^ 30) qj u v l1.1 l1.2
  rw [hst] at l2
  dsimp only at l2
  have r2 : rot qs (x, y) = (s, t) := by
    rw [← hst, ← huv, rot_add, ← rot_mod (qk + qj), show (qk + qj) % 4 = qs by omega]
  refine (turn_to _ _ x y 4 w1 (by omega) (by omega) 0 (by decide) x y rfl).mono ?_
  rintro e w2 ⟨⟨z1, z2, rfl⟩, b2⟩
  have b2 := step_below b1 b2
  have q1 := fun t w => cx_eql (P := Try.prog) z1 z2 false false x y x y (by omega) (by omega) (by omega) (by omega) t w
  go_wp2_with fail
  refine (turn_to _ _ x y c w2 (by omega) (by omega) qk hqk u v huv).mono ?_
  rintro e w3 ⟨⟨z3, z4, rfl⟩, b3⟩
  have b3 := step_below b2 b3
  go_wp2_with fail
  refine (turn_to _ _ u v (-c) w3 (by omega) (by omega) qm hqm x y r1).mono ?_
  rintro e w4 ⟨⟨z5, z6, rfl⟩, b4⟩
  have b4 := step_below b3 b4
  clear q1
  have q1 := fun t w => cx_eql (P := Try.prog) z5 z6 false false x y x y (by omega) (by omega) (by omega) (by omega) t w
  go_wp2_with fail
  refine (turn_to _ _ x y c w4 (by omega) (by omega) qk hqk u v huv).mono ?_
  rintro e w5 ⟨⟨z7, z8, rfl⟩, b5⟩
  have b5 := step_below b4 b5
  go_wp2_with fail
  refine (turn_to _ _ u v d w5 (by omega) (by omega) qj hqj s t hst).mono ?_
  rintro e w6 ⟨⟨y1, y2, rfl⟩, b6⟩
  have b6 := step_below b5 b6
  go_wp2_with fail
  refine (turn_to _ _ x y (c + d) w6 (by omega) (by omega) qs hqs s t r2).mono ?_
  rintro e w7 ⟨⟨y3, y4, rfl⟩, b7⟩
  have b7 := step_below b6 b7
  clear q1
  have q1 := fun t' w => cx_eql (P := Try.prog) y1 y2 y3 y4 s t s t (by omega) (by omega) (by omega) (by omega) t' w
  go_wp2_with fail
  refine (turn_to _ _ x y 2 w7 (by omega) (by omega) 2 (by decide) (-x) (-y) rfl).mono ?_
  rintro e w8 ⟨⟨y5, y6, rfl⟩, b8⟩
  have b8 := step_below b7 b8
  clear q1
  have q1 := fun t' w => cx_eql (P := Try.prog) y5 y6 false false (-x) (-y) (-x) (-y) (by omega) (by omega) (by omega) (by omega) t' w
  go_wp2_with fail
  refine (ha _).mono ?_
  rintro e w' ⟨rfl, rfl⟩
  go_wp2_with fail
  refine (hb _).mono ?_
  rintro e w' ⟨rfl, rfl⟩
  go_wp2_with fail
  refine (of_any _ _ _).mono ?_
  rintro e w' ⟨rfl, rfl⟩
  go_wp2_with fail
  go_ret
  exact ⟨by simp, b8⟩
end Go.Proofs.Ytepdamfnmlfloaa
