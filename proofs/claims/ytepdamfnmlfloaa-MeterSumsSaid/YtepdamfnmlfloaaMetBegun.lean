/- The statements' own first look: some sums. -/
import Derived.Test.YtepdamfnmlfloaaMetAdd
namespace Go.Proofs.Ytepdamfnmlfloaa
open Go.RowKit

/-- Two and three numbers that stand in a block of their own. -/
theorem RdC.of_list (w : World) (b : Nat) (ps : List (Int × Int)) (hn : ps.length ≤ maxLen) (h : ∀ i, i < ps.length → ∃ z z', w.cell? ⟨b, i, none⟩ = some (cx z z' (ps.getD i (0, 0)).1 (ps.getD i (0, 0)).2)) :
    RdC w (some ⟨b, 0, none⟩) ps.length ps.length ps :=
  ⟨rfl, Nat.le_refl _, hn, (fun h => by cases h), fun ad ha => ⟨b, 0, by cases ha; rfl, fun i hi => by rw [Nat.zero_add]; exact h i hi⟩⟩

theorem add_to (ao : Option Addr) (n cap : Nat) (ps : List (Int × Int)) (w : World) (h : RdC w ao n cap ps) (hn : n ≤ 40) (hB : Upto (2 ^ 40) ps) (x y : Int) (hx : s1 ps = x) (hy : s2 ps = y) :
    Calls Try.prog 13 #[.slice ao n cap] w fun e w' => RetC e x y ∧ w = w' := by
  subst hx hy
  exact add_any ao n cap ps w h hn hB

theorem turn_to (z z' : Bool) (x y k : Int) (w : World) (hx : x.natAbs < 2 ^ 52) (hy : y.natAbs < 2 ^ 52) (q : Nat) (hk : k % 4 = q) (u v : Int) (hu : rot q (x, y) = (u, v)) :
    Calls Try.prog 14 #[cx z z' x y, .int .i64 k] w fun e w' => RetC e u v ∧ Below w.heap.size w w' := by
  have := turn_any z z' x y k w hx hy q hk
  rw [hu] at this
  exact this

theorem mark_to (z z' : Bool) (x y k n : Int) (w : World) (hx0 : 0 ≤ x) (hx1 : x ≤ 1000002) (hy0 : 0 ≤ y) (hy1 : y ≤ 1000002) (hk0 : 0 ≤ k) (hk1 : k ≤ 1000) (u v : Int) (hu : (x - 2 * y + k + 1) % 1000003 = u) (hv : (2 * x + y + n % 1000003) % 1000003 = v) :
    Calls Try.prog 15 #[cx z z' x y, .int .i64 k, .int .i64 n] w fun e w' => RetC e u v ∧ w = w' := by
  subst hu hv
  exact (mark_any z z' x y k n w hx0 hx1 hy0 hy1 hk0 hk1).mono fun e w' h => ⟨.mk false false h.1, h.2⟩

set_option maxRecDepth 20000 in
theorem begun_any (w : World) : Calls Try.prog 8 #[] w fun e w' => e = .returned (.bool true) ∧ Below w.heap.size w w' := by
  have hst := fun (w : World) (a : Addr) (k : FloatKind) (x y : Nat) (m : Mode) => run_store Try.prog w a (.complex k x y) m rfl
  go_enter Try.func8, Try.ntmps8
  go_wp2_with fail
  refine (of_any _ _ _).mono ?_
  rintro e w' ⟨rfl, rfl⟩
  go_wp2_with fail
  refine (cost_41 _).mono ?_
  rintro e w' ⟨rfl, rfl⟩
  go_wp2_with fail
  refine (cost_106 _).mono ?_
  rintro e w' ⟨rfl, rfl⟩
  go_wp2_with fail
  refine (add_to _ _ _ [(3, 4), (1, 8), (1, 0)] _ (RdC.of_list _ _ [(3, 4), (1, 8), (1, 0)] (by decide) ?c1) (by decide) ?c2 5 12 rfl rfl).mono ?_
  case c1 =>
    intro i hi
    refine ⟨false, false, ?_⟩
    rcases (show i = 0 ∨ i = 1 ∨ i = 2 by simp at hi; omega) with rfl | rfl | rfl <;> simp [World.cell?_alloc_at]
  case c2 =>
    intro p hp
    simp at hp
    rcases hp with rfl | rfl | rfl <;> decide
  rintro e w1 ⟨⟨z, z', rfl⟩, hw1⟩
  have b1 : Below w.heap.size w w1 := by rw [← hw1]; exact (Below.refl _ _).alloc (Nat.le_refl _) _
  clear hw1
  go_wp2_with fail
  refine (of_any _ _ _).mono ?_
  rintro e w' ⟨rfl, rfl⟩
  go_wp2_with fail
  refine (turn_to _ _ 3 4 1 w1 (by decide) (by decide) 1 (by decide) (-4) 3 rfl).mono ?_
  rintro e w2 ⟨⟨z1, z2, rfl⟩, b2⟩
  have b2 := step_below b1 b2
  clear b1
  go_wp2_with fail
  have hm := mark_to false false 0 0 2 (-1) w2 (by decide) (by decide) (by decide) (by decide) (by decide) (by decide) 3 1000002 (by decide) (by decide)
  rw [cx, fw_0] at hm
  refine hm.mono ?_
  rintro e w' ⟨⟨y1, y2, rfl⟩, rfl⟩
  clear hm
  have o1 := order_fw z1 false (-4) (-4) (by decide) (by decide)
  rw [show fw false (-4) = 13839561654909534208 by decide +kernel] at o1
  have o2 := order_fw z2 false 3 3 (by decide) (by decide)
  rw [show fw false 3 = 4613937818241073152 by decide +kernel] at o2
  have o3 := order_fw y1 false 3 3 (by decide) (by decide)
  rw [show fw false 3 = 4613937818241073152 by decide +kernel] at o3
  have o4 := order_fw y2 false 1000002 1000002 (by decide) (by decide)
  rw [show fw false 1000002 = 4696837163864555520 by decide +kernel] at o4
  rw [decide_eq_true rfl] at o1 o2 o3 o4
  go_wp2_with fail
  refine (steps_any _ _ 5 12 _ (by decide)).mono ?_
  rintro e w' ⟨rfl, rfl⟩
  go_wp2_with fail
  refine (bytes_any _ _ 5 12 _ (by decide)).mono ?_
  rintro e w' ⟨rfl, rfl⟩
  go_wp2_with fail
  refine (turn_to _ _ (-4) 3 (-1) w2 (by decide) (by decide) 3 (by decide) 3 4 rfl).mono ?_
  rintro e w3 ⟨⟨x1, x2, rfl⟩, b3⟩
  have b3 := step_below b2 b3
  have q1 := fun t w => cx_eql (P := Try.prog) x1 x2 false false 3 4 3 4 (by decide) (by decide) (by decide) (by decide) t w
  go_wp2_with fail
  refine (of_any _ _ _).mono ?_
  rintro e w' ⟨rfl, rfl⟩
  go_wp2_with fail
  go_ret
  exact ⟨rfl, b3⟩
end Go.Proofs.Ytepdamfnmlfloaa
