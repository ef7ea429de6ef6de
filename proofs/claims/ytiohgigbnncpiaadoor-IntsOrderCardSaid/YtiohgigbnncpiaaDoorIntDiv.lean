/- Quotients and rests: what divide answers. -/
import Derived.Test.YtiohgigbnncpiaaDoorIntCmp
namespace Go.Proofs.YtiohgigbnncpiaaDoor
open Go.RowKit

theorem wrap_any (k n : Int) (hk : k = 1 ∨ k = 2) (hn : -9223372036854775808 ≤ n ∧ n ≤ 9223372036854775807) (w : World) : Calls Tryd.prog 25 #[.int .i64 k, .int .i64 n] w fun e w' => e = .returned (av k (sg k n)) ∧ Below w.heap.size w w' := by
  rcases hk with rfl | rfl
  · exact wrap_one n w
  · exact wrap_two n hn w
theorem refWrap_any (k n : Int) (hk : k = 1 ∨ k = 2) (hn : -9223372036854775808 ≤ n ∧ n ≤ 9223372036854775807) (w : World) : Calls Tryd.prog 24 #[.int .i64 k, .int .i64 n] w fun e w' => e = .returned (av k (sg k n)) ∧ Below w.heap.size w w' := by
  rcases hk with rfl | rfl
  · exact refWrap_one n w
  · exact refWrap_two n hn w

theorem wrap64_in (n : Int) : -9223372036854775808 ≤ wrap64 n ∧ wrap64 n ≤ 9223372036854775807 := by unfold wrap64; omega

theorem divide_zero (b k n : Int) (w : World) :
    Calls Tryd.prog 41 #[.int .i64 b, av k n, av k 0] w fun e w' => e = .returned (.tuple #[av 0 0, .int .i64 2]) ∧ Below w.heap.size w w' := by
  go_enter Tryd.func41, Tryd.ntmps41
  go_wp2
  go_returns
  exact ⟨rfl, Bl.alloc (Bl.alloc (Bl.alloc (Bl.refl _) _) _) _⟩

set_option maxHeartbeats 1000000 in
theorem divide_u (k n m x y : Int) (hk : k = 1 ∨ k = 2) (hx : un k n = x) (hy : un k m = y) (hm : m ≠ 0) (hy0 : 0 < y) (hy1 : y ≤ 18446744073709551615) (hx0 : 0 ≤ x) (hx1 : x ≤ 18446744073709551615) (w : World) :
    Calls Tryd.prog 41 #[.int .i64 110, av k n, av k m] w fun e w' => e = .returned (.tuple #[av k (sg k (wrap64 (x / y))), .int .i64 0]) ∧ Below w.heap.size w w' := by
  have hm0 : (m == 0) = false := by simp [hm]
  have hyn : (y == 0) = false := by simp; omega
  have Hx := hid hx
  have Hy := hid hy
  have hbc := bwc
  have Hk := hid hk
  clear hx hy hk
  go_enter Tryd.func41, Tryd.ntmps41
  go_wp2
  refine wp_region_quiet_below (by kernel_rfl) (by kernel_rfl) ?_
  go_big_quiet_step (fail)
  go_big_quiet_step ((go_at_call 32; exact Calls.bw (unsigned_to k n x Hx.out _)))
  go_big_quiet_step (fail)
  go_big_quiet_step ((go_at_call 32; exact Calls.bw (unsigned_to k m y Hy.out _)))
  repeat (go_big_quiet_step (fail))
  refine wpQuiet_nil ?_
  rintro _ ⟨q, rfl⟩
  have P2 := hid ((Pair.new ((w.alloc (Obj.cells #[Value.int IntKind.i64 k, Value.int IntKind.i64 n] 23)).alloc (Obj.cells #[Value.int IntKind.i64 k, Value.int IntKind.i64 m] 23)) (.int .i64 0) (.int .i64 0) 23 (p := w.heap.size + 1 + 1) (by simp)).below q.h)
  have B1 := hid (Bl.step (Bl.alloc (Bl.alloc (Bl.alloc (Bl.refl w) _) _) _) q.h)
  go_wp2_with fail
  refine (wrap_any _ _ Hk.out (wrap64_in _) _).mono ?_
  rintro e w3 ⟨rfl, b3⟩
  have P3 := hid (P2.out.below b3)
  obtain ⟨c0, c1, f0, f1⟩ := P3.out
  have B3 := hid (Bl.step B1.out b3)
  clear b3
  go_wp2_with fail
  obtain ⟨r0, r1, -, -⟩ := P3.out.set2 (.int .i64 k) (.int .i64 (sg k (wrap64 (x / y))))
  exact bodyPost_ret (v := .tuple #[av k (sg k (wrap64 (x / y))), .int .i64 0]) (by simp [results, Tryd.results41, go_sem, r0, r1]) rfl ⟨rfl, Bl.set (Bl.set B3.out (by simp; omega) _) (by simp; omega) _⟩

set_option maxHeartbeats 1000000 in
theorem divide_ru (k n m x y : Int) (hk : k = 1 ∨ k = 2) (hx : un k n = x) (hy : un k m = y) (hm : m ≠ 0) (hy0 : 0 < y) (hy1 : y ≤ 18446744073709551615) (hx0 : 0 ≤ x) (hx1 : x ≤ 18446744073709551615) (w : World) :
    Calls Tryd.prog 41 #[.int .i64 112, av k n, av k m] w fun e w' => e = .returned (.tuple #[av k (sg k (wrap64 (x % y))), .int .i64 0]) ∧ Below w.heap.size w w' := by
  have hm0 : (m == 0) = false := by simp [hm]
  have hyn : (y == 0) = false := by simp; omega
  have Hx := hid hx
  have Hy := hid hy
  have hbc := bwc
  have Hk := hid hk
  clear hx hy hk
  go_enter Tryd.func41, Tryd.ntmps41
  go_wp2
  refine wp_region_quiet_below (by kernel_rfl) (by kernel_rfl) ?_
  go_big_quiet_step (fail)
  go_big_quiet_step ((go_at_call 32; exact Calls.bw (unsigned_to k n x Hx.out _)))
  go_big_quiet_step (fail)
  go_big_quiet_step ((go_at_call 32; exact Calls.bw (unsigned_to k m y Hy.out _)))
  repeat (go_big_quiet_step (fail))
  refine wpQuiet_nil ?_
  rintro _ ⟨q, rfl⟩
  have P2 := hid ((Pair.new ((w.alloc (Obj.cells #[Value.int IntKind.i64 k, Value.int IntKind.i64 n] 23)).alloc (Obj.cells #[Value.int IntKind.i64 k, Value.int IntKind.i64 m] 23)) (.int .i64 0) (.int .i64 0) 23 (p := w.heap.size + 1 + 1) (by simp)).below q.h)
  have B1 := hid (Bl.step (Bl.alloc (Bl.alloc (Bl.alloc (Bl.refl w) _) _) _) q.h)
  go_wp2_with fail
  refine (wrap_any _ _ Hk.out (wrap64_in _) _).mono ?_
  rintro e w3 ⟨rfl, b3⟩
  have P3 := hid (P2.out.below b3)
  obtain ⟨c0, c1, f0, f1⟩ := P3.out
  have B3 := hid (Bl.step B1.out b3)
  clear b3
  go_wp2_with fail
  obtain ⟨r0, r1, -, -⟩ := P3.out.set2 (.int .i64 k) (.int .i64 (sg k (wrap64 (x % y))))
  exact bodyPost_ret (v := .tuple #[av k (sg k (wrap64 (x % y))), .int .i64 0]) (by simp [results, Tryd.results41, go_sem, r0, r1]) rfl ⟨rfl, Bl.set (Bl.set B3.out (by simp; omega) _) (by simp; omega) _⟩

end Go.Proofs.YtiohgigbnncpiaaDoor
