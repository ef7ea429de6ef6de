/- The reference's quotients and rests. -/
import Derived.Test.YtiohgigbnncpiaaDoorIntTwo
namespace Go.Proofs.YtiohgigbnncpiaaDoor
open Go.RowKit

theorem refDivide_zero1 (b n m x : Int) (w : World) : Calls Tryd.prog 45 #[.int .i64 b, .int .i64 1, .int .i64 n, .int .i64 m, .int .u64 x, .int .u64 0] w fun e w' => e = .returned (.tuple #[av 0 0, .int .i64 2]) ∧ Below w.heap.size w w' := by
  go_enter Tryd.func45, Tryd.ntmps45
  go_wp2_with fail
  go_returns
  exact ⟨rfl, Bl.alloc (Bl.refl _) _⟩
theorem refDivide_o1 (x y : Int) (hy : (y == 0) = false) (w : World) : Calls Tryd.prog 45 #[.int .i64 109, .int .i64 1, .int .i64 (-2147483648), .int .i64 (-1), .int .u64 x, .int .u64 y] w fun e w' => e = .returned (.tuple #[av 0 0, .int .i64 3]) ∧ Below w.heap.size w w' := by
  go_enter Tryd.func45, Tryd.ntmps45
  go_wp2_with fail
  go_returns
  exact ⟨rfl, Bl.alloc (Bl.refl _) _⟩
theorem refDivide_s1 (n m x y : Int) (hm : m ≠ 0) (hno : ¬ (n = -2147483648 ∧ m = -1)) (hy : (y == 0) = false) (w : World) : Calls Tryd.prog 45 #[.int .i64 109, .int .i64 1, .int .i64 n, .int .i64 m, .int .u64 x, .int .u64 y] w fun e w' => e = .returned (.tuple #[av 1 (sg 1 (wrap64 (n.tdiv m))), .int .i64 0]) ∧ Below w.heap.size w w' := by
  by_cases h1 : n = -2147483648
  · subst h1
    have h2 : (m == -1) = false := by
      simp only [beq_eq_false_iff_ne, ne_eq]
      exact fun h => hno ⟨rfl, h⟩
    obtain ⟨n, hn⟩ : ∃ n : Int, n = -2147483648 := ⟨_, rfl⟩
    have h1 : (n == -2147483648) = true := by simp [hn]
    rw [← hn]
    clear hn hno
    go_enter Tryd.func45, Tryd.ntmps45
    go_wp2_with fail
    refine (refWrap_any 1 (wrap64 (n.tdiv m)) (by decide) (wrap64_in _) _).mono ?_
    rintro e w1 ⟨rfl, b1⟩
    have T1 := hid (Solo.new b1)
    obtain ⟨r0, r1, f0, f1⟩ := T1.out.facts
    clear b1
    go_wp2_with fail
    obtain ⟨⟨q0, q1⟩, q2⟩ := T1.out.done (.int .i64 1) (.int .i64 (sg 1 (wrap64 (n.tdiv m))))
    exact bodyPost_ret (v := .tuple #[av 1 (sg 1 (wrap64 (n.tdiv m))), .int .i64 0]) (by simp [results, Tryd.results45, go_sem, q0, q1]) rfl ⟨rfl, q2⟩
  · have h3 : (n == -2147483648) = false := by
      simp only [beq_eq_false_iff_ne, ne_eq]
      exact h1
    clear hno h1
    go_enter Tryd.func45, Tryd.ntmps45
    go_wp2_with fail
    refine (refWrap_any 1 (wrap64 (n.tdiv m)) (by decide) (wrap64_in _) _).mono ?_
    rintro e w1 ⟨rfl, b1⟩
    have T1 := hid (Solo.new b1)
    obtain ⟨r0, r1, f0, f1⟩ := T1.out.facts
    clear b1
    go_wp2_with fail
    obtain ⟨⟨q0, q1⟩, q2⟩ := T1.out.done (.int .i64 1) (.int .i64 (sg 1 (wrap64 (n.tdiv m))))
    exact bodyPost_ret (v := .tuple #[av 1 (sg 1 (wrap64 (n.tdiv m))), .int .i64 0]) (by simp [results, Tryd.results45, go_sem, q0, q1]) rfl ⟨rfl, q2⟩

theorem refDivide_u1 (n m x y : Int) (hy : (y == 0) = false) (hy0 : 0 < y) (hy1 : y ≤ 18446744073709551615) (hx0 : 0 ≤ x) (hx1 : x ≤ 18446744073709551615) (w : World) : Calls Tryd.prog 45 #[.int .i64 110, .int .i64 1, .int .i64 n, .int .i64 m, .int .u64 x, .int .u64 y] w fun e w' => e = .returned (.tuple #[av 1 (sg 1 (wrap64 (x / y))), .int .i64 0]) ∧ Below w.heap.size w w' := by
  go_enter Tryd.func45, Tryd.ntmps45
  go_wp2_with fail
  refine (refWrap_any 1 (wrap64 (x / y)) (by decide) (wrap64_in _) _).mono ?_
  rintro e w1 ⟨rfl, b1⟩
  have T1 := hid (Solo.new b1)
  obtain ⟨r0, r1, f0, f1⟩ := T1.out.facts
  clear b1
  go_wp2_with fail
  obtain ⟨⟨q0, q1⟩, q2⟩ := T1.out.done (.int .i64 1) (.int .i64 (sg 1 (wrap64 (x / y))))
  exact bodyPost_ret (v := .tuple #[av 1 (sg 1 (wrap64 (x / y))), .int .i64 0]) (by simp [results, Tryd.results45, go_sem, q0, q1]) rfl ⟨rfl, q2⟩

theorem refDivide_ru1 (n m x y : Int) (hy : (y == 0) = false) (hy0 : 0 < y) (hy1 : y ≤ 18446744073709551615) (hx0 : 0 ≤ x) (hx1 : x ≤ 18446744073709551615) (w : World) : Calls Tryd.prog 45 #[.int .i64 112, .int .i64 1, .int .i64 n, .int .i64 m, .int .u64 x, .int .u64 y] w fun e w' => e = .returned (.tuple #[av 1 (sg 1 (wrap64 (x % y))), .int .i64 0]) ∧ Below w.heap.size w w' := by
  go_enter Tryd.func45, Tryd.ntmps45
  go_wp2_with fail
  refine (refWrap_any 1 (wrap64 (x % y)) (by decide) (wrap64_in _) _).mono ?_
  rintro e w1 ⟨rfl, b1⟩
  have T1 := hid (Solo.new b1)
  obtain ⟨r0, r1, f0, f1⟩ := T1.out.facts
  clear b1
  go_wp2_with fail
  obtain ⟨⟨q0, q1⟩, q2⟩ := T1.out.done (.int .i64 1) (.int .i64 (sg 1 (wrap64 (x % y))))
  exact bodyPost_ret (v := .tuple #[av 1 (sg 1 (wrap64 (x % y))), .int .i64 0]) (by simp [results, Tryd.results45, go_sem, q0, q1]) rfl ⟨rfl, q2⟩

theorem refDivide_rs1 (n m x y : Int) (hm : m ≠ 0) (hn : -9223372036854775808 ≤ n ∧ n ≤ 9223372036854775807) (hy : (y == 0) = false) (w : World) : Calls Tryd.prog 45 #[.int .i64 111, .int .i64 1, .int .i64 n, .int .i64 m, .int .u64 x, .int .u64 y] w fun e w' => e = .returned (.tuple #[av 1 (sg 1 (n.tmod m)), .int .i64 0]) ∧ Below w.heap.size w w' := by
  by_cases h1 : m = -1
  · subst h1
    have e : sg 1 (n.tmod (-1)) = 0 := by
      have : n.tmod (-1) = 0 := by
        have := Int.tmod_neg n 1
        rw [this, Int.tmod_one]
      rw [this]
      decide
    rw [e]
    clear e
    go_enter Tryd.func45, Tryd.ntmps45
    go_wp2_with fail
    go_returns
    exact ⟨rfl, Bl.alloc (Bl.refl _) _⟩
  · have h2 : (m == -1) = false := by
      simp only [beq_eq_false_iff_ne, ne_eq]
      exact h1
    have Hn := hid hn
    clear hn h1
    go_enter Tryd.func45, Tryd.ntmps45
    go_wp2_with fail
    refine (refWrap_any 1 (n.tmod m) (by decide) (tmod_in _ _ Hn.out) _).mono ?_
    rintro e w1 ⟨rfl, b1⟩
    have T1 := hid (Solo.new b1)
    obtain ⟨r0, r1, f0, f1⟩ := T1.out.facts
    clear b1
    go_wp2_with fail
    obtain ⟨⟨q0, q1⟩, q2⟩ := T1.out.done (.int .i64 1) (.int .i64 (sg 1 (n.tmod m)))
    exact bodyPost_ret (v := .tuple #[av 1 (sg 1 (n.tmod m)), .int .i64 0]) (by simp [results, Tryd.results45, go_sem, q0, q1]) rfl ⟨rfl, q2⟩

theorem refDivide_zero2 (b n m x : Int) (w : World) : Calls Tryd.prog 45 #[.int .i64 b, .int .i64 2, .int .i64 n, .int .i64 m, .int .u64 x, .int .u64 0] w fun e w' => e = .returned (.tuple #[av 0 0, .int .i64 2]) ∧ Below w.heap.size w w' := by
  go_enter Tryd.func45, Tryd.ntmps45
  go_wp2_with fail
  go_returns
  exact ⟨rfl, Bl.alloc (Bl.refl _) _⟩
theorem refDivide_o2 (x y : Int) (hy : (y == 0) = false) (w : World) : Calls Tryd.prog 45 #[.int .i64 109, .int .i64 2, .int .i64 (-9223372036854775808), .int .i64 (-1), .int .u64 x, .int .u64 y] w fun e w' => e = .returned (.tuple #[av 0 0, .int .i64 3]) ∧ Below w.heap.size w w' := by
  go_enter Tryd.func45, Tryd.ntmps45
  go_wp2_with fail
  go_returns
  exact ⟨rfl, Bl.alloc (Bl.refl _) _⟩
theorem refDivide_s2 (n m x y : Int) (hm : m ≠ 0) (hno : ¬ (n = -9223372036854775808 ∧ m = -1)) (hy : (y == 0) = false) (w : World) : Calls Tryd.prog 45 #[.int .i64 109, .int .i64 2, .int .i64 n, .int .i64 m, .int .u64 x, .int .u64 y] w fun e w' => e = .returned (.tuple #[av 2 (sg 2 (wrap64 (n.tdiv m))), .int .i64 0]) ∧ Below w.heap.size w w' := by
  by_cases h1 : n = -9223372036854775808
  · subst h1
    have h2 : (m == -1) = false := by
      simp only [beq_eq_false_iff_ne, ne_eq]
      exact fun h => hno ⟨rfl, h⟩
    obtain ⟨n, hn⟩ : ∃ n : Int, n = -9223372036854775808 := ⟨_, rfl⟩
    have h1 : (n == -9223372036854775808) = true := by simp [hn]
    rw [← hn]
    clear hn hno
    go_enter Tryd.func45, Tryd.ntmps45
    go_wp2_with fail
    refine (refWrap_any 2 (wrap64 (n.tdiv m)) (by decide) (wrap64_in _) _).mono ?_
    rintro e w1 ⟨rfl, b1⟩
    have T1 := hid (Solo.new b1)
    obtain ⟨r0, r1, f0, f1⟩ := T1.out.facts
    clear b1
    go_wp2_with fail
    obtain ⟨⟨q0, q1⟩, q2⟩ := T1.out.done (.int .i64 2) (.int .i64 (sg 2 (wrap64 (n.tdiv m))))
    exact bodyPost_ret (v := .tuple #[av 2 (sg 2 (wrap64 (n.tdiv m))), .int .i64 0]) (by simp [results, Tryd.results45, go_sem, q0, q1]) rfl ⟨rfl, q2⟩
  · have h3 : (n == -9223372036854775808) = false := by
      simp only [beq_eq_false_iff_ne, ne_eq]
      exact h1
    clear hno h1
    go_enter Tryd.func45, Tryd.ntmps45
    go_wp2_with fail
    refine (refWrap_any 2 (wrap64 (n.tdiv m)) (by decide) (wrap64_in _) _).mono ?_
    rintro e w1 ⟨rfl, b1⟩
    have T1 := hid (Solo.new b1)
    obtain ⟨r0, r1, f0, f1⟩ := T1.out.facts
    clear b1
    go_wp2_with fail
    obtain ⟨⟨q0, q1⟩, q2⟩ := T1.out.done (.int .i64 2) (.int .i64 (sg 2 (wrap64 (n.tdiv m))))
    exact bodyPost_ret (v := .tuple #[av 2 (sg 2 (wrap64 (n.tdiv m))), .int .i64 0]) (by simp [results, Tryd.results45, go_sem, q0, q1]) rfl ⟨rfl, q2⟩

theorem refDivide_u2 (n m x y : Int) (hy : (y == 0) = false) (hy0 : 0 < y) (hy1 : y ≤ 18446744073709551615) (hx0 : 0 ≤ x) (hx1 : x ≤ 18446744073709551615) (w : World) : Calls Tryd.prog 45 #[.int .i64 110, .int .i64 2, .int .i64 n, .int .i64 m, .int .u64 x, .int .u64 y] w fun e w' => e = .returned (.tuple #[av 2 (sg 2 (wrap64 (x / y))), .int .i64 0]) ∧ Below w.heap.size w w' := by
  go_enter Tryd.func45, Tryd.ntmps45
  go_wp2_with fail
  refine (refWrap_any 2 (wrap64 (x / y)) (by decide) (wrap64_in _) _).mono ?_
  rintro e w1 ⟨rfl, b1⟩
  have T1 := hid (Solo.new b1)
  obtain ⟨r0, r1, f0, f1⟩ := T1.out.facts
  clear b1
  go_wp2_with fail
  obtain ⟨⟨q0, q1⟩, q2⟩ := T1.out.done (.int .i64 2) (.int .i64 (sg 2 (wrap64 (x / y))))
  exact bodyPost_ret (v := .tuple #[av 2 (sg 2 (wrap64 (x / y))), .int .i64 0]) (by simp [results, Tryd.results45, go_sem, q0, q1]) rfl ⟨rfl, q2⟩

theorem refDivide_ru2 (n m x y : Int) (hy : (y == 0) = false) (hy0 : 0 < y) (hy1 : y ≤ 18446744073709551615) (hx0 : 0 ≤ x) (hx1 : x ≤ 18446744073709551615) (w : World) : Calls Tryd.prog 45 #[.int .i64 112, .int .i64 2, .int .i64 n, .int .i64 m, .int .u64 x, .int .u64 y] w fun e w' => e = .returned (.tuple #[av 2 (sg 2 (wrap64 (x % y))), .int .i64 0]) ∧ Below w.heap.size w w' := by
  go_enter Tryd.func45, Tryd.ntmps45
  go_wp2_with fail
  refine (refWrap_any 2 (wrap64 (x % y)) (by decide) (wrap64_in _) _).mono ?_
  rintro e w1 ⟨rfl, b1⟩
  have T1 := hid (Solo.new b1)
  obtain ⟨r0, r1, f0, f1⟩ := T1.out.facts
  clear b1
  go_wp2_with fail
  obtain ⟨⟨q0, q1⟩, q2⟩ := T1.out.done (.int .i64 2) (.int .i64 (sg 2 (wrap64 (x % y))))
  exact bodyPost_ret (v := .tuple #[av 2 (sg 2 (wrap64 (x % y))), .int .i64 0]) (by simp [results, Tryd.results45, go_sem, q0, q1]) rfl ⟨rfl, q2⟩

theorem refDivide_rs2 (n m x y : Int) (hm : m ≠ 0) (hn : -9223372036854775808 ≤ n ∧ n ≤ 9223372036854775807) (hy : (y == 0) = false) (w : World) : Calls Tryd.prog 45 #[.int .i64 111, .int .i64 2, .int .i64 n, .int .i64 m, .int .u64 x, .int .u64 y] w fun e w' => e = .returned (.tuple #[av 2 (sg 2 (n.tmod m)), .int .i64 0]) ∧ Below w.heap.size w w' := by
  by_cases h1 : m = -1
  · subst h1
    have e : sg 2 (n.tmod (-1)) = 0 := by
      have : n.tmod (-1) = 0 := by
        have := Int.tmod_neg n 1
        rw [this, Int.tmod_one]
      rw [this]
      decide
    rw [e]
    clear e
    go_enter Tryd.func45, Tryd.ntmps45
    go_wp2_with fail
    go_returns
    exact ⟨rfl, Bl.alloc (Bl.refl _) _⟩
  · have h2 : (m == -1) = false := by
      simp only [beq_eq_false_iff_ne, ne_eq]
      exact h1
    have Hn := hid hn
    clear hn h1
    go_enter Tryd.func45, Tryd.ntmps45
    go_wp2_with fail
    refine (refWrap_any 2 (n.tmod m) (by decide) (tmod_in _ _ Hn.out) _).mono ?_
    rintro e w1 ⟨rfl, b1⟩
    have T1 := hid (Solo.new b1)
    obtain ⟨r0, r1, f0, f1⟩ := T1.out.facts
    clear b1
    go_wp2_with fail
    obtain ⟨⟨q0, q1⟩, q2⟩ := T1.out.done (.int .i64 2) (.int .i64 (sg 2 (n.tmod m)))
    exact bodyPost_ret (v := .tuple #[av 2 (sg 2 (n.tmod m)), .int .i64 0]) (by simp [results, Tryd.results45, go_sem, q0, q1]) rfl ⟨rfl, q2⟩

theorem refDivide_to (b k n m k' n' t : Int) (hb : b = 109 ∨ b = 110 ∨ b = 111 ∨ b = 112) (hk : k = 1 ∨ k = 2) (hom : okv k m = true) (hn : -9223372036854775808 ≤ n ∧ n ≤ 9223372036854775807) (hm : -9223372036854775808 ≤ m ∧ m ≤ 9223372036854775807)
    (h : divS b k n m (un k n) (un k m) = (k', n', t)) (w : World) :
    Calls Tryd.prog 45 #[.int .i64 b, .int .i64 k, .int .i64 n, .int .i64 m, .int .u64 (un k n), .int .u64 (un k m)] w fun e w' => e = .returned (.tuple #[av k' n', .int .i64 t]) ∧ Below w.heap.size w w' := by
  have z := un_pos k m hk hom hm
  obtain ⟨u0, u1⟩ := un_in k n
  obtain ⟨v0, v1⟩ := un_in k m
  unfold divS at h
  by_cases hm0 : m = 0
  · subst hm0
    rw [if_pos rfl] at h
    cases h
    rw [z.1 rfl]
    rcases hk with rfl | rfl
    · exact refDivide_zero1 b n 0 _ w
    · exact refDivide_zero2 b n 0 _ w
  · rw [if_neg hm0] at h
    have hy0 : 0 < un k m := by
      rcases Int.lt_or_eq_of_le v0 with h' | h'
      · exact h'
      · exact absurd (z.2 h'.symm) hm0
    have hy : (un k m == 0) = false := by simp; omega
    rcases hb with rfl | rfl | rfl | rfl
    · rw [if_pos rfl] at h
      by_cases ho : n = (if k = 1 then -2147483648 else -9223372036854775808) ∧ m = -1
      · rw [if_pos ho] at h
        cases h
        obtain ⟨h1, rfl⟩ := ho
        rcases hk with rfl | rfl
        · simp only [if_true] at h1
          subst h1
          exact refDivide_o1 _ _ hy w
        · simp at h1
          subst h1
          exact refDivide_o2 _ _ hy w
      · rw [if_neg ho] at h
        cases h
        rcases hk with rfl | rfl
        · exact refDivide_s1 n m _ _ hm0 (by simpa using ho) hy w
        · exact refDivide_s2 n m _ _ hm0 (by simpa using ho) hy w
    · rw [if_neg (by decide), if_pos rfl] at h
      cases h
      rcases hk with rfl | rfl
      · exact refDivide_u1 n m _ _ hy hy0 v1 u0 u1 w
      · exact refDivide_u2 n m _ _ hy hy0 v1 u0 u1 w
    · rw [if_neg (by decide), if_neg (by decide), if_pos rfl] at h
      cases h
      rcases hk with rfl | rfl
      · exact refDivide_rs1 n m _ _ hm0 hn hy w
      · exact refDivide_rs2 n m _ _ hm0 hn hy w
    · rw [if_neg (by decide), if_neg (by decide), if_neg (by decide)] at h
      cases h
      rcases hk with rfl | rfl
      · exact refDivide_ru1 n m _ _ hy hy0 v1 u0 u1 w
      · exact refDivide_ru2 n m _ _ hy hy0 v1 u0 u1 w
end Go.Proofs.YtiohgigbnncpiaaDoor
