/- The small functions of ints and of the reference: what each call answers. -/
import Derived.Test.YtiohgigbnncpiaaDoorProg
import Derived.Test.YtiohgigbnncpiaaDoorBase
import Derived.Test.YtiohgigbnncpiaaDoorQuiet
import Derived.Outline
import Derived.Handy
namespace Go.Proofs.YtiohgigbnncpiaaDoor
open Go.RowKit

/-- A value. -/
abbrev av (k n : Int) : Value := .agg #[.int .i64 k, .int .i64 n]

/-- The bits of a value as a number from 0. -/
def un (k n : Int) : Int := if k = 1 then n % 4294967296 else n % 18446744073709551616

/-- May this be a value? -/
def okv (k n : Int) : Bool := k == 2 || (k == 1 && decide (-2147483648 ≤ n) && decide (n < 2147483648))

/-- The signed number of the lowest bits. -/
def sg (k n : Int) : Int := if k = 1 then (n + 2147483648) % 4294967296 - 2147483648 else (n + 9223372036854775808) % 18446744073709551616 - 9223372036854775808

/-- The kind of the operands and the instruction's number beside those of I32. -/
def cls (op : Int) : Int × Int :=
  if (69 ≤ op ∧ op ≤ 79) ∨ (103 ≤ op ∧ op ≤ 120) then (1, op)
  else if 80 ≤ op ∧ op ≤ 90 then (2, op - 11)
  else if 121 ≤ op ∧ op ≤ 138 then (2, op - 18)
  else if op = 167 then (2, op)
  else if op = 172 ∨ op = 173 then (1, op) else (0, 0)

theorem unsigned_to (k n u : Int) (h : un k n = u) (w : World) : Calls Tryd.prog 32 #[av k n] w fun e w' => e = .returned (.int .u64 u) ∧ Below w.heap.size w w' := by
  unfold un at h
  by_cases hk : k = 1
  · subst hk
    simp only [if_true] at h
    go_enter Tryd.func32, Tryd.ntmps32
    go_wp2
    go_ret
    exact ⟨rfl, Bl.alloc (Bl.refl _) _⟩
  · rw [if_neg hk] at h
    have hk1 : (k == 1) = false := by simp [hk]
    have hw : IntKind.u64.wrap n = u := by rw [IntKind.wrap_u64, h]
    go_enter Tryd.func32, Tryd.ntmps32
    go_wp2
    go_ret
    exact ⟨rfl, Bl.alloc (Bl.refl _) _⟩

theorem refUnsigned_to (k n u : Int) (h : un k n = u) (w : World) : Calls Tryd.prog 36 #[av k n] w fun e w' => e = .returned (.int .u64 u) ∧ Below w.heap.size w w' := by
  unfold un at h
  by_cases hk : k = 1
  · subst hk
    simp only [if_true] at h
    have hb : bits BinOp.and IntKind.u64 (IntKind.u64.wrap n) 4294967295 = u := by
      rw [← h, IntKind.wrap_u64, show (4294967295 : Int) = 2 ^ 32 - 1 from by decide, bits_and_mask .u64 32 (by decide) (fun n h0 h1 => IntWalk.u64_in n (by omega))]
      rw [show (2 : Int) ^ 32 = 4294967296 from by decide]
      omega
    go_enter Tryd.func36, Tryd.ntmps36
    go_wp2
    go_ret
    exact ⟨rfl, Bl.alloc (Bl.refl _) _⟩
  · rw [if_neg hk] at h
    have hk1 : (k == 1) = false := by simp [hk]
    have hw : IntKind.u64.wrap n = u := by rw [IntKind.wrap_u64, h]
    go_enter Tryd.func36, Tryd.ntmps36
    go_wp2
    go_ret
    exact ⟨rfl, Bl.alloc (Bl.refl _) _⟩

theorem wrap_one (n : Int) (w : World) : Calls Tryd.prog 25 #[.int .i64 1, .int .i64 n] w fun e w' => e = .returned (av 1 (sg 1 n)) ∧ Below w.heap.size w w' := by
  have e : wrap64 (wrap32 n) = sg 1 n := by
    simp only [wrap64, wrap32, sg]
    simp
    omega
  go_enter Tryd.func25, Tryd.ntmps25
  go_wp2
  go_returns
  exact ⟨rfl, Bl.alloc (Bl.refl _) _⟩
theorem wrap_two (n : Int) (hn : -9223372036854775808 ≤ n ∧ n ≤ 9223372036854775807) (w : World) : Calls Tryd.prog 25 #[.int .i64 2, .int .i64 n] w fun e w' => e = .returned (av 2 (sg 2 n)) ∧ Below w.heap.size w w' := by
  have e : n = sg 2 n := by
    simp only [sg]
    simp
    omega
  rw [← e]
  clear e
  go_enter Tryd.func25, Tryd.ntmps25
  go_wp2
  go_returns
  exact ⟨rfl, Bl.alloc (Bl.refl _) _⟩
theorem wrap_none (k n : Int) (h1 : k ≠ 1) (h2 : k ≠ 2) (w : World) : Calls Tryd.prog 25 #[.int .i64 k, .int .i64 n] w fun e w' => e = .returned (av 0 0) ∧ Below w.heap.size w w' := by
  have e1 : (k == 1) = false := by simp [h1]
  have e2 : (k == 2) = false := by simp [h2]
  go_enter Tryd.func25, Tryd.ntmps25
  go_wp2
  go_returns
  exact ⟨rfl, Bl.alloc (Bl.refl _) _⟩

theorem refWrap_one (n : Int) (w : World) : Calls Tryd.prog 24 #[.int .i64 1, .int .i64 n] w fun e w' => e = .returned (av 1 (sg 1 n)) ∧ Below w.heap.size w w' := by
  obtain ⟨x, hx⟩ : ∃ x, x = n % 4294967296 := ⟨_, rfl⟩
  have hb : bits BinOp.and IntKind.i64 n 4294967295 = x := by
    rw [hx, show (4294967295 : Int) = 2 ^ 32 - 1 from by decide, bits_and_mask .i64 32 (by decide) (fun n h0 h1 => IntWalk.i64_in n (by rw [show (2 : Int) ^ 32 = 4294967296 from by decide] at h1; omega))]
    rw [show (2 : Int) ^ 32 = 4294967296 from by decide]
  have hx0 : 0 ≤ x := by omega
  have hx1 : x < 4294967296 := by omega
  have e : sg 1 n = if 2147483648 ≤ x then x - 4294967296 else x := by
    simp only [sg, if_true]
    split <;> omega
  rw [e]
  clear e hx
  by_cases h : 2147483648 ≤ x
  · rw [if_pos h]
    go_enter Tryd.func24, Tryd.ntmps24
    go_wp2
    go_returns
    exact ⟨rfl, Bl.alloc (Bl.refl _) _⟩
  · rw [if_neg h]
    go_enter Tryd.func24, Tryd.ntmps24
    go_wp2
    go_returns
    exact ⟨rfl, Bl.alloc (Bl.refl _) _⟩
theorem refWrap_two (n : Int) (hn : -9223372036854775808 ≤ n ∧ n ≤ 9223372036854775807) (w : World) : Calls Tryd.prog 24 #[.int .i64 2, .int .i64 n] w fun e w' => e = .returned (av 2 (sg 2 n)) ∧ Below w.heap.size w w' := by
  have e : n = sg 2 n := by
    simp only [sg]
    simp
    omega
  rw [← e]
  clear e
  go_enter Tryd.func24, Tryd.ntmps24
  go_wp2
  go_returns
  exact ⟨rfl, Bl.alloc (Bl.refl _) _⟩
theorem refWrap_none (k n : Int) (h1 : k ≠ 1) (h2 : k ≠ 2) (w : World) : Calls Tryd.prog 24 #[.int .i64 k, .int .i64 n] w fun e w' => e = .returned (av 0 0) ∧ Below w.heap.size w w' := by
  have e1 : (k == 1) = false := by simp [h1]
  have e2 : (k == 2) = false := by simp [h2]
  go_enter Tryd.func24, Tryd.ntmps24
  go_wp2
  go_returns
  exact ⟨rfl, Bl.alloc (Bl.refl _) _⟩

theorem cls_to {op c b : Int} (h : cls op = (c, b)) (x y : Int) (g : cls op = (x, y)) : Value.tuple #[.int .i64 x, .int .i64 y] = Value.tuple #[.int .i64 c, .int .i64 b] := by
  rw [g] at h
  cases h
  rfl

theorem cls_to2 {op c b : Int} (h : cls op = (c, b)) (x y : Int) (g : cls op = (x, y)) : Value.tuple #[.int .i64 y, .int .i64 x] = Value.tuple #[.int .i64 b, .int .i64 c] := by
  rw [g] at h
  cases h
  rfl

theorem split_to (op c b : Int) (h : cls op = (c, b)) (w : World) : Calls Tryd.prog 28 #[.int .i64 op] w fun e w' => e = .returned (.tuple #[.int .i64 c, .int .i64 b]) ∧ w = w' := by
  have H := hid h
  clear h
  go_enter Tryd.func28, Tryd.ntmps28
  go_wp2
  all_goals (try simp only [beq_iff_eq, beq_eq_false_iff_ne, ne_eq] at *)
  all_goals (go_ret2; exact ⟨congrArg _ (cls_to H.out _ _ (by unfold cls; repeat (first | rw [if_pos (by omega)] | rw [if_neg (by omega)] | (congr 1; omega)))), rfl⟩)

theorem class_to (op c b : Int) (h : cls op = (c, b)) (w : World) : Calls Tryd.prog 35 #[.int .i64 op] w fun e w' => e = .returned (.tuple #[.int .i64 b, .int .i64 c]) ∧ w = w' := by
  have H := hid h
  clear h
  go_enter Tryd.func35, Tryd.ntmps35
  go_wp2
  all_goals (try simp only [beq_iff_eq, beq_eq_false_iff_ne, ne_eq] at *)
  all_goals (go_ret2; exact ⟨congrArg _ (cls_to2 H.out _ _ (by unfold cls; repeat (first | rw [if_pos (by omega)] | rw [if_neg (by omega)] | (congr 1; omega)))), rfl⟩)

theorem size_to (k s : Int) (h : (if k = 1 then 32 else 64) = s) (w : World) : Calls Tryd.prog 30 #[.int .i64 k] w fun e w' => e = .returned (.int .i64 s) ∧ w = w' := by
  by_cases hk : k = 1
  · rw [if_pos hk] at h
    subst hk h
    go_enter Tryd.func30, Tryd.ntmps30
    go_wp2
    go_ret
    exact ⟨rfl, rfl⟩
  · rw [if_neg hk] at h
    subst h
    have hk1 : (k == 1) = false := by simp [hk]
    go_enter Tryd.func30, Tryd.ntmps30
    go_wp2
    go_ret
    exact ⟨rfl, rfl⟩

theorem refBits_to (k s : Int) (h : (k = 1 ∧ s = 32) ∨ (k = 2 ∧ s = 64)) (w : World) : Calls Tryd.prog 38 #[.int .i64 k] w fun e w' => e = .returned (.int .i64 s) ∧ w = w' := by
  rcases h with ⟨rfl, rfl⟩ | ⟨rfl, rfl⟩
  all_goals
    go_enter Tryd.func38, Tryd.ntmps38
    go_wp2
    go_ret
    exact ⟨rfl, rfl⟩

/-- The value of a test's answer. -/
def tr (t : Bool) : Int := if t then 1 else 0
theorem truth_any (t : Bool) (w : World) : Calls Tryd.prog 29 #[.bool t] w fun e w' => e = .returned (av 1 (tr t)) ∧ Below w.heap.size w w' := by
  cases t
  all_goals
    go_enter Tryd.func29, Tryd.ntmps29
    go_wp2
    go_returns
    exact ⟨rfl, Bl.alloc (Bl.refl _) _⟩
theorem refTruth_any (t : Bool) (w : World) : Calls Tryd.prog 37 #[.bool t] w fun e w' => e = .returned (av 1 (tr t)) ∧ Below w.heap.size w w' := by
  cases t
  all_goals
    go_enter Tryd.func37, Tryd.ntmps37
    go_wp2
    go_returns
    exact ⟨rfl, Bl.alloc (Bl.refl _) _⟩
theorem i32_any (n : Int) (w : World) : Calls Tryd.prog 27 #[.int .i64 n] w fun e w' => e = .returned (av 1 n) ∧ Below w.heap.size w w' := by
  go_enter Tryd.func27, Tryd.ntmps27
  go_wp2
  go_returns
  exact ⟨rfl, Bl.alloc (Bl.refl _) _⟩
theorem i64_any (n : Int) (w : World) : Calls Tryd.prog 26 #[.int .i64 n] w fun e w' => e = .returned (av 2 n) ∧ Below w.heap.size w w' := by
  go_enter Tryd.func26, Tryd.ntmps26
  go_wp2
  go_returns
  exact ⟨rfl, Bl.alloc (Bl.refl _) _⟩

theorem eq_any (k n k' n' : Int) (w : World) : Calls Tryd.prog 23 #[av k n, av k' n'] w fun e w' => e = .returned (.bool (k == k' && n == n')) ∧ Below w.heap.size w w' := by
  cases hk : k == k'
  all_goals
    go_enter Tryd.func23, Tryd.ntmps23
    go_wp2
    go_ret
    exact ⟨by simp, Bl.alloc (Bl.alloc (Bl.refl _) _) _⟩

theorem refMay_any (k n : Int) (w : World) : Calls Tryd.prog 22 #[av k n] w fun e w' => e = .returned (.bool (okv k n)) ∧ Below w.heap.size w w' := by
  unfold okv
  cases h2 : k == 2
  · cases h1 : k == 1
    · go_enter Tryd.func22, Tryd.ntmps22
      go_wp2
      go_ret
      exact ⟨by simp, Bl.alloc (Bl.refl _) _⟩
    · cases h3 : decide (-2147483648 ≤ n)
      all_goals
        go_enter Tryd.func22, Tryd.ntmps22
        go_wp2
        go_ret
        exact ⟨by simp, Bl.alloc (Bl.refl _) _⟩
  · go_enter Tryd.func22, Tryd.ntmps22
    go_wp2
    go_ret
    exact ⟨by simp, Bl.alloc (Bl.refl _) _⟩

/-- Is it a comparison, a count, a sum of two? -/
theorem isComparison_any (b : Int) (w : World) : Calls Tryd.prog 39 #[.int .i64 b] w fun e w' => e = .returned (.bool (decide (70 ≤ b) && decide (b ≤ 79))) ∧ w = w' := by
  cases h : decide (70 ≤ b)
  all_goals
    go_enter Tryd.func39, Tryd.ntmps39
    go_wp2
    go_ret
    exact ⟨by simp, rfl⟩
theorem isArithmetic_any (b : Int) (w : World) : Calls Tryd.prog 42 #[.int .i64 b] w fun e w' => e = .returned (.bool (decide (106 ≤ b) && decide (b ≤ 120))) ∧ w = w' := by
  cases h : decide (106 ≤ b)
  all_goals
    go_enter Tryd.func42, Tryd.ntmps42
    go_wp2
    go_ret
    exact ⟨by simp, rfl⟩
end Go.Proofs.YtiohgigbnncpiaaDoor
