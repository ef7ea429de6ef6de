/- Signed quotients and rests: what divide answers. -/
import Derived.Test.YtiohgigbnncpiaaDoorIntDiv
namespace Go.Proofs.YtiohgigbnncpiaaDoor
open Go.RowKit

theorem tmod_in (n m : Int) (hn : -9223372036854775808 ≤ n ∧ n ≤ 9223372036854775807) : -9223372036854775808 ≤ n.tmod m ∧ n.tmod m ≤ 9223372036854775807 := by
  have h := Int.natAbs_tmod n m
  have h2 : n.natAbs % m.natAbs ≤ n.natAbs := Nat.mod_le _ _
  by_cases h0 : 0 ≤ n
  · have := Int.tmod_nonneg m h0
    omega
  · have h3 := Int.tmod_nonneg m (show 0 ≤ -n by omega)
    rw [Int.neg_tmod] at h3
    omega

set_option maxHeartbeats 1000000 in
theorem divide_rs (k n m : Int) (hk : k = 1 ∨ k = 2) (hm : m ≠ 0) (hn : -9223372036854775808 ≤ n ∧ n ≤ 9223372036854775807) (w : World) :
    Calls Tryd.prog 41 #[.int .i64 111, av k n, av k m] w fun e w' => e = .returned (.tuple #[av k (sg k (n.tmod m)), .int .i64 0]) ∧ Below w.heap.size w w' := by
  have hm0 : (m == 0) = false := by simp [hm]
  have Hk := hid hk
  clear hk
  go_enter Tryd.func41, Tryd.ntmps41
  go_wp2_with fail
  refine (wrap_any _ _ Hk.out (tmod_in _ _ hn) _).mono ?_
  rintro e w3 ⟨rfl, b3⟩
  have P3 := hid ((Pair.new ((w.alloc (Obj.cells #[Value.int IntKind.i64 k, Value.int IntKind.i64 n] 23)).alloc (Obj.cells #[Value.int IntKind.i64 k, Value.int IntKind.i64 m] 23)) (.int .i64 0) (.int .i64 0) 23 (p := w.heap.size + 1 + 1) (by simp)).below b3)
  obtain ⟨c0, c1, f0, f1⟩ := P3.out
  have B3 := hid (Bl.step (Bl.alloc (Bl.alloc (Bl.alloc (Bl.refl w) _) _) _) b3)
  clear b3
  go_wp2_with fail
  obtain ⟨r0, r1, -, -⟩ := P3.out.set2 (.int .i64 k) (.int .i64 (sg k (n.tmod m)))
  exact bodyPost_ret (v := .tuple #[av k (sg k (n.tmod m)), .int .i64 0]) (by simp [results, Tryd.results41, go_sem, r0, r1]) rfl ⟨rfl, Bl.set (Bl.set B3.out (by simp; omega) _) (by simp; omega) _⟩

set_option maxHeartbeats 1000000 in
theorem divide_s1 (n m : Int) (hm : m ≠ 0) (hno : ¬ (n = -2147483648 ∧ m = -1)) (w : World) :
    Calls Tryd.prog 41 #[.int .i64 109, av 1 n, av 1 m] w fun e w' => e = .returned (.tuple #[av 1 (sg 1 (wrap64 (n.tdiv m))), .int .i64 0]) ∧ Below w.heap.size w w' := by
  have hm0 : (m == 0) = false := by simp [hm]
  by_cases h1 : n = -2147483648
  · subst h1
    have h2 : (m == -1) = false := by
      simp only [beq_eq_false_iff_ne, ne_eq]
      exact fun h => hno ⟨rfl, h⟩
    obtain ⟨n, hn⟩ : ∃ n : Int, n = -2147483648 := ⟨_, rfl⟩
    have h1 : (n == -2147483648) = true := by simp [hn]
    rw [← hn]
    clear hn hno
    go_enter Tryd.func41, Tryd.ntmps41
    go_wp2_with fail
    refine (size_to 1 32 rfl _).mono ?_
    rintro e w' ⟨rfl, rfl⟩
    go_wp2_with fail
    refine (wrap_any 1 _ (by decide) (wrap64_in _) _).mono ?_
    rintro e w3 ⟨rfl, b3⟩
    have P3 := hid ((Pair.new ((w.alloc (Obj.cells #[Value.int IntKind.i64 1, Value.int IntKind.i64 n] 23)).alloc (Obj.cells #[Value.int IntKind.i64 1, Value.int IntKind.i64 m] 23)) (.int .i64 0) (.int .i64 0) 23 (p := w.heap.size + 1 + 1) (by simp)).below b3)
    obtain ⟨c0, c1, f0, f1⟩ := P3.out
    have B3 := hid (Bl.step (Bl.alloc (Bl.alloc (Bl.alloc (Bl.refl w) _) _) _) b3)
    clear b3
    go_wp2_with fail
    obtain ⟨r0, r1, -, -⟩ := P3.out.set2 (.int .i64 1) (.int .i64 (sg 1 (wrap64 (n.tdiv m))))
    exact bodyPost_ret (v := .tuple #[av 1 (sg 1 (wrap64 (n.tdiv m))), .int .i64 0]) (by simp [results, Tryd.results41, go_sem, r0, r1]) rfl ⟨rfl, Bl.set (Bl.set B3.out (by simp; omega) _) (by simp; omega) _⟩
  · have h3 : (n == -2147483648) = false := by
      simp only [beq_eq_false_iff_ne, ne_eq]
      exact h1
    clear hno h1
    go_enter Tryd.func41, Tryd.ntmps41
    go_wp2_with fail
    refine (size_to 1 32 rfl _).mono ?_
    rintro e w' ⟨rfl, rfl⟩
    go_wp2_with fail
    refine (wrap_any 1 _ (by decide) (wrap64_in _) _).mono ?_
    rintro e w3 ⟨rfl, b3⟩
    have P3 := hid ((Pair.new ((w.alloc (Obj.cells #[Value.int IntKind.i64 1, Value.int IntKind.i64 n] 23)).alloc (Obj.cells #[Value.int IntKind.i64 1, Value.int IntKind.i64 m] 23)) (.int .i64 0) (.int .i64 0) 23 (p := w.heap.size + 1 + 1) (by simp)).below b3)
    obtain ⟨c0, c1, f0, f1⟩ := P3.out
    have B3 := hid (Bl.step (Bl.alloc (Bl.alloc (Bl.alloc (Bl.refl w) _) _) _) b3)
    clear b3
    go_wp2_with fail
    obtain ⟨r0, r1, -, -⟩ := P3.out.set2 (.int .i64 1) (.int .i64 (sg 1 (wrap64 (n.tdiv m))))
    exact bodyPost_ret (v := .tuple #[av 1 (sg 1 (wrap64 (n.tdiv m))), .int .i64 0]) (by simp [results, Tryd.results41, go_sem, r0, r1]) rfl ⟨rfl, Bl.set (Bl.set B3.out (by simp; omega) _) (by simp; omega) _⟩

theorem divide_o1 (w : World) :
    Calls Tryd.prog 41 #[.int .i64 109, av 1 (-2147483648), av 1 (-1)] w fun e w' => e = .returned (.tuple #[av 0 0, .int .i64 3]) ∧ Below w.heap.size w w' := by
  go_enter Tryd.func41, Tryd.ntmps41
  go_wp2_with fail
  refine (size_to 1 32 rfl _).mono ?_
  rintro e w' ⟨rfl, rfl⟩
  go_wp2_with fail
  go_returns
  exact ⟨rfl, Bl.alloc (Bl.alloc (Bl.alloc (Bl.refl _) _) _) _⟩

set_option maxHeartbeats 1000000 in
theorem divide_s2 (n m : Int) (hm : m ≠ 0) (hno : ¬ (n = -9223372036854775808 ∧ m = -1)) (w : World) :
    Calls Tryd.prog 41 #[.int .i64 109, av 2 n, av 2 m] w fun e w' => e = .returned (.tuple #[av 2 (sg 2 (wrap64 (n.tdiv m))), .int .i64 0]) ∧ Below w.heap.size w w' := by
  have hm0 : (m == 0) = false := by simp [hm]
  by_cases h1 : n = -9223372036854775808
  · subst h1
    have h2 : (m == -1) = false := by
      simp only [beq_eq_false_iff_ne, ne_eq]
      exact fun h => hno ⟨rfl, h⟩
    obtain ⟨n, hn⟩ : ∃ n : Int, n = -9223372036854775808 := ⟨_, rfl⟩
    have h1 : (n == -9223372036854775808) = true := by simp [hn]
    rw [← hn]
    clear hn hno
    go_enter Tryd.func41, Tryd.ntmps41
    go_wp2_with fail
    refine (size_to 2 64 rfl _).mono ?_
    rintro e w' ⟨rfl, rfl⟩
    go_wp2_with fail
    refine (wrap_any 2 _ (by decide) (wrap64_in _) _).mono ?_
    rintro e w3 ⟨rfl, b3⟩
    have P3 := hid ((Pair.new ((w.alloc (Obj.cells #[Value.int IntKind.i64 2, Value.int IntKind.i64 n] 23)).alloc (Obj.cells #[Value.int IntKind.i64 2, Value.int IntKind.i64 m] 23)) (.int .i64 0) (.int .i64 0) 23 (p := w.heap.size + 1 + 1) (by simp)).below b3)
    obtain ⟨c0, c1, f0, f1⟩ := P3.out
    have B3 := hid (Bl.step (Bl.alloc (Bl.alloc (Bl.alloc (Bl.refl w) _) _) _) b3)
    clear b3
    go_wp2_with fail
    obtain ⟨r0, r1, -, -⟩ := P3.out.set2 (.int .i64 2) (.int .i64 (sg 2 (wrap64 (n.tdiv m))))
    exact bodyPost_ret (v := .tuple #[av 2 (sg 2 (wrap64 (n.tdiv m))), .int .i64 0]) (by simp [results, Tryd.results41, go_sem, r0, r1]) rfl ⟨rfl, Bl.set (Bl.set B3.out (by simp; omega) _) (by simp; omega) _⟩
  · have h3 : (n == -9223372036854775808) = false := by
      simp only [beq_eq_false_iff_ne, ne_eq]
      exact h1
    clear hno h1
    go_enter Tryd.func41, Tryd.ntmps41
    go_wp2_with fail
    refine (size_to 2 64 rfl _).mono ?_
    rintro e w' ⟨rfl, rfl⟩
    go_wp2_with fail
    refine (wrap_any 2 _ (by decide) (wrap64_in _) _).mono ?_
    rintro e w3 ⟨rfl, b3⟩
    have P3 := hid ((Pair.new ((w.alloc (Obj.cells #[Value.int IntKind.i64 2, Value.int IntKind.i64 n] 23)).alloc (Obj.cells #[Value.int IntKind.i64 2, Value.int IntKind.i64 m] 23)) (.int .i64 0) (.int .i64 0) 23 (p := w.heap.size + 1 + 1) (by simp)).below b3)
    obtain ⟨c0, c1, f0, f1⟩ := P3.out
    have B3 := hid (Bl.step (Bl.alloc (Bl.alloc (Bl.alloc (Bl.refl w) _) _) _) b3)
    clear b3
    go_wp2_with fail
    obtain ⟨r0, r1, -, -⟩ := P3.out.set2 (.int .i64 2) (.int .i64 (sg 2 (wrap64 (n.tdiv m))))
    exact bodyPost_ret (v := .tuple #[av 2 (sg 2 (wrap64 (n.tdiv m))), .int .i64 0]) (by simp [results, Tryd.results41, go_sem, r0, r1]) rfl ⟨rfl, Bl.set (Bl.set B3.out (by simp; omega) _) (by simp; omega) _⟩

theorem divide_o2 (w : World) :
    Calls Tryd.prog 41 #[.int .i64 109, av 2 (-9223372036854775808), av 2 (-1)] w fun e w' => e = .returned (.tuple #[av 0 0, .int .i64 3]) ∧ Below w.heap.size w w' := by
  go_enter Tryd.func41, Tryd.ntmps41
  go_wp2_with fail
  refine (size_to 2 64 rfl _).mono ?_
  rintro e w' ⟨rfl, rfl⟩
  go_wp2_with fail
  go_returns
  exact ⟨rfl, Bl.alloc (Bl.alloc (Bl.alloc (Bl.refl _) _) _) _⟩

end Go.Proofs.YtiohgigbnncpiaaDoor
