/- The sums of two: what calculate answers. -/
import Derived.Test.YtiohgigbnncpiaaDoorIntMay
namespace Go.Proofs.YtiohgigbnncpiaaDoor
open Go.RowKit

/-- What becomes the result of sum b (as I32's) once it is wrapped. -/
def calcS (b n m x f s : Int) : Int :=
  if b = 106 then wrap64 (n + m) else if b = 107 then wrap64 (n - m) else if b = 108 then wrap64 (n * m)
  else if b = 113 then bits BinOp.and IntKind.i64 n m else if b = 114 then bits BinOp.or IntKind.i64 n m else if b = 115 then bits BinOp.xor IntKind.i64 n m
  else if b = 116 then wrap64 (n * 2 ^ s.toNat) else if b = 117 then n / 2 ^ s.toNat else if b = 118 then wrap64 (x / 2 ^ s.toNat)
  else if b = 119 then wrap64 (bits BinOp.or IntKind.u64 (IntKind.u64.wrap (x * 2 ^ s.toNat)) (x / 2 ^ (f - s).toNat))
  else wrap64 (bits BinOp.or IntKind.u64 (x / 2 ^ s.toNat) (IntKind.u64.wrap (x * 2 ^ (f - s).toNat)))

set_option maxHeartbeats 1000000 in
theorem calculate_to (b k n m x y f s : Int) (hx : un k n = x) (hy : un k m = y) (hf : (if k = 1 then 32 else 64) = f) (hs : y % f = s) (hy0 : 0 ≤ y) (hy1 : y ≤ 18446744073709551615) (hs0 : 0 ≤ s) (hsf : s < f) (hf1 : f ≤ 64)
    (w : World) :
    Calls Tryd.prog 43 #[.int .i64 b, av k n, av k m] w fun e w' => e = .returned (.int .i64 (calcS b n m x f s)) ∧ Below w.heap.size w w' := by
  have Hx := hid hx
  have Hy := hid hy
  have Hf := hid hf
  have hf0 : (f == 0) = false := by simp; omega
  clear hx hy hf
  go_enter Tryd.func43, Tryd.ntmps43
  go_wp2_with fail
  refine (unsigned_to _ _ _ Hx.out _).mono ?_
  rintro e w1 ⟨rfl, b1⟩
  have P0 := hid (((Pair.new w (.int .i64 k) (.int .i64 n) 23 rfl).alloc _).below b1)
  have P1 := hid ((Pair.new (w.alloc (Obj.cells #[Value.int IntKind.i64 k, Value.int IntKind.i64 n] 23)) (.int .i64 k) (.int .i64 m) 23 (p := w.heap.size + 1) (by simp)).below b1)
  obtain ⟨c0, c1, -, -⟩ := P0.out
  obtain ⟨d0, d1, -, -⟩ := P1.out
  have B1 := hid (Bl.step (Bl.alloc (Bl.alloc (Bl.refl w) _) _) b1)
  clear b1
  go_wp2_with fail
  refine (size_to _ _ Hf.out _).mono ?_
  rintro e w' ⟨rfl, rfl⟩
  go_wp2_with fail
  refine (unsigned_to _ _ _ Hy.out _).mono ?_
  rintro e w2 ⟨rfl, b2⟩
  obtain ⟨e0, e1, -, -⟩ := P0.out.below b2
  obtain ⟨f0, f1, -, -⟩ := P1.out.below b2
  have B2 := hid (Bl.step B1.out b2)
  clear b2 c0 c1 d0 d1
  go_wp2_with fail
  all_goals (try simp only [beq_iff_eq, beq_eq_false_iff_ne, ne_eq] at *)
  all_goals (go_ret; refine ⟨congrArg Ending.returned (congrArg (Value.int IntKind.i64) ?_), B2.out⟩)
  all_goals (unfold calcS; repeat (first | rw [if_neg (by assumption)] | rw [if_pos (by assumption)]))
end Go.Proofs.YtiohgigbnncpiaaDoor
