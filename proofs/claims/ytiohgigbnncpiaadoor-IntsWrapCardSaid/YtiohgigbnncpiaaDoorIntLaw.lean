/- Shared by the laws of ints. -/
import Derived.Test.YtiohgigbnncpiaaDoorIntBegun
namespace Go.Proofs.YtiohgigbnncpiaaDoor
open Go.RowKit

/-- The kind and the number of what Wrap answers. -/
def wrapS (k n : Int) : Int × Int := if k = 1 then (1, sg 1 n) else if k = 2 then (2, sg 2 n) else (0, 0)
theorem wrapK_to (k n a v : Int) (hn : In64 n) (h : wrapS k n = (a, v)) (w : World) : Calls Tryd.prog 25 #[.int .i64 k, .int .i64 n] w fun e w' => e = .returned (av a v) ∧ Below w.heap.size w w' := by
  unfold wrapS at h
  by_cases h1 : k = 1
  · rw [if_pos h1] at h; cases h; subst h1; exact wrap_one n w
  rw [if_neg h1] at h
  by_cases h2 : k = 2
  · rw [if_pos h2] at h; cases h; subst h2; exact wrap_two n hn w
  rw [if_neg h2] at h
  cases h
  exact wrap_none k n h1 h2 w
theorem refWrapK_to (k n a v : Int) (hn : In64 n) (h : wrapS k n = (a, v)) (w : World) : Calls Tryd.prog 24 #[.int .i64 k, .int .i64 n] w fun e w' => e = .returned (av a v) ∧ Below w.heap.size w w' := by
  unfold wrapS at h
  by_cases h1 : k = 1
  · rw [if_pos h1] at h; cases h; subst h1; exact refWrap_one n w
  rw [if_neg h1] at h
  by_cases h2 : k = 2
  · rw [if_pos h2] at h; cases h; subst h2; exact refWrap_two n hn w
  rw [if_neg h2] at h
  cases h
  exact refWrap_none k n h1 h2 w
theorem eq_same (k n : Int) (w : World) : Calls Tryd.prog 23 #[av k n, av k n] w fun e w' => e = .returned (.bool true) ∧ Below w.heap.size w w' := by
  have h := eq_any k n k n w
  simpa using h
theorem wrap_to (n : Int) (z : Int) (h : sg 1 n = z) (w : World) : Calls Tryd.prog 25 #[.int .i64 1, .int .i64 n] w fun e w' => e = .returned (av 1 z) ∧ Below w.heap.size w w' := by
  rw [← h]
  exact wrap_one n w
theorem refWrap_to (k n z : Int) (hk : k = 1 ∨ k = 2) (hn : In64 n) (h : sg k n = z) (w : World) : Calls Tryd.prog 24 #[.int .i64 k, .int .i64 n] w fun e w' => e = .returned (av k z) ∧ Below w.heap.size w w' := by
  rw [← h]
  exact refWrap_any k n hk hn w

theorem okv_sg (c a : Int) (hk : c = 1 ∨ c = 2) : okv c (sg c a) = true := by
  unfold okv sg
  rcases hk with rfl | rfl
  · simp
    omega
  · simp
theorem in64_sg (c a : Int) : In64 (sg c a) := by
  unfold sg In64
  split <;> omega
theorem sg_id (c n : Int) (ho : okv c n = true) (hn : In64 n) : sg c n = n := by
  unfold okv at ho
  unfold In64 at hn
  unfold sg
  simp at ho
  split <;> omega
/-- Two, of values of its kind. -/
theorem twoS_mid {op c b n m : Int} (h : cls op = (c, b)) (h1 : okv c n = true) (h2 : okv c m = true) : twoS op c n c m = midS b c n m := by
  unfold twoS
  rw [h]
  exact if_pos ⟨rfl, rfl, h1, h2⟩
theorem oneS_mid {op c b n : Int} (h : cls op = (c, b)) (h1 : okv c n = true) : oneS op c n = oneMid b c n := by
  unfold oneS
  rw [h]
  exact if_pos ⟨rfl, h1⟩
theorem mid_calc (b c n m : Int) (hb : 106 ≤ b ∧ b ≤ 120) (hb2 : b < 109 ∨ 112 < b) : midS b c n m = (c, sg c (calcS b n m (un c n) (if c = 1 then 32 else 64) (un c m % (if c = 1 then 32 else 64))), 0) := by
  unfold midS
  rw [if_neg (by omega), if_neg (by omega), if_pos hb]
theorem mid_div (b c n m : Int) (hb : 109 ≤ b ∧ b ≤ 112) : midS b c n m = divS b c n m (un c n) (un c m) := by
  unfold midS
  rw [if_neg (by omega), if_pos hb]
theorem calc_add (n m x f s : Int) : calcS 106 n m x f s = wrap64 (n + m) := rfl
theorem calc_sub (n m x f s : Int) : calcS 107 n m x f s = wrap64 (n - m) := rfl
theorem calc_mul (n m x f s : Int) : calcS 108 n m x f s = wrap64 (n * m) := rfl
theorem calc_and (n m x f s : Int) : calcS 113 n m x f s = bits BinOp.and IntKind.i64 n m := rfl
theorem calc_or (n m x f s : Int) : calcS 114 n m x f s = bits BinOp.or IntKind.i64 n m := rfl
theorem calc_xor (n m x f s : Int) : calcS 115 n m x f s = bits BinOp.xor IntKind.i64 n m := rfl
end Go.Proofs.YtiohgigbnncpiaaDoor
