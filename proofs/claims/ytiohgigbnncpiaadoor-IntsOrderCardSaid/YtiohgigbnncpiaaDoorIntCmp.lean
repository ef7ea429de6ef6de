/- Comparisons: what the program's and the reference's answer. -/
import Derived.Test.YtiohgigbnncpiaaDoorIntMay
namespace Go.Proofs.YtiohgigbnncpiaaDoor
open Go.RowKit

/-- The answer of comparison b (as I32's) on n, m, whose bits as numbers from 0 are x, y. -/
def cmpS (b n m x y : Int) : Bool :=
  if b = 70 then n == m else if b = 71 then n != m else if b = 72 then decide (n < m) else if b = 73 then decide (x < y) else if b = 74 then decide (m < n)
  else if b = 75 then decide (y < x) else if b = 76 then decide (n ≤ m) else if b = 77 then decide (x ≤ y) else if b = 78 then decide (m ≤ n) else decide (y ≤ x)

theorem bwc : ∀ (W : World) (x : Bw W) (b o : Nat), b < W.heap.size → x.w.cell? ⟨b, o, none⟩ = W.cell? ⟨b, o, none⟩ := fun _ x b o h => x.cell b o h

set_option maxHeartbeats 400000 in
theorem compare_to (b k n m x y : Int) (hx : un k n = x) (hy : un k m = y) (w : World) :
    Calls Tryd.prog 40 #[.int .i64 b, av k n, av k m] w fun e w' => e = .returned (.bool (cmpS b n m x y)) ∧ Below w.heap.size w w' := by
  have Hx := hid hx
  have Hy := hid hy
  have hbc := bwc
  clear hx hy
  go_enter Tryd.func40, Tryd.ntmps40
  go_wp2
  refine wp_region_quiet_below (by kernel_rfl) (by kernel_rfl) ?_
  go_big_quiet_step (fail)
  go_big_quiet_step ((go_at_call 32; exact Calls.bw (unsigned_to k n x Hx.out _)))
  go_big_quiet_step (fail)
  go_big_quiet_step ((go_at_call 32; exact Calls.bw (unsigned_to k m y Hy.out _)))
  repeat (go_big_quiet_step (fail))
  refine wpQuiet_nil ?_
  rintro _ ⟨q, rfl⟩
  go_wp2
  all_goals (try simp only [beq_iff_eq, beq_eq_false_iff_ne, ne_eq] at *)
  all_goals (go_ret; refine ⟨congrArg Ending.returned (congrArg Value.bool ?_), Bl.step (Bl.alloc (Bl.alloc (Bl.refl _) _) _) q.h⟩)
  all_goals (unfold cmpS; repeat (first | rw [if_neg (by assumption)] | rw [if_pos (by assumption)]))

set_option maxHeartbeats 400000 in
theorem refCompare_any (b n m x y : Int) (h : (x == y) = (n == m)) (w : World) :
    Calls Tryd.prog 44 #[.int .i64 b, .int .i64 n, .int .i64 m, .int .u64 x, .int .u64 y] w fun e w' => e = .returned (.bool (cmpS b n m x y)) ∧ w = w' := by
  have H := hid h
  clear h
  go_enter Tryd.func44, Tryd.ntmps44
  go_wp2
  all_goals (try simp only [beq_iff_eq, beq_eq_false_iff_ne, ne_eq] at *)
  all_goals (go_ret; refine ⟨congrArg Ending.returned (congrArg Value.bool ?_), rfl⟩)
  all_goals (unfold cmpS; repeat (first | rw [if_neg (by assumption)] | rw [if_pos (by assumption)]))
  · exact H.out
  · exact congrArg (!·) H.out
end Go.Proofs.YtiohgigbnncpiaaDoor
