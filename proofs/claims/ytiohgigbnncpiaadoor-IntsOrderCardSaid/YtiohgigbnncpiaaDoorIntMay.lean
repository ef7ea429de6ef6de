/- May: what it answers. -/
import Derived.Test.YtiohgigbnncpiaaDoorInt
namespace Go.Proofs.YtiohgigbnncpiaaDoor
open Go.RowKit

theorem run_eql_av (k n k' n' : Int) (w : World) : (Go.binOp .eql 23 (av k n) (av k' n')).run Tryd.prog w = .ok (.bool (k == k' && n == n')) w := by
  go_simp
  by_cases h : k = k'
  · by_cases h' : n = n'
    · simp [h, h']
    · simp [h, h']
  · simp [h]

theorem may_core (k n k' n' : Int) (h0 : k ≠ 0) (hwrap : ∀ w, Calls Tryd.prog 25 #[.int .i64 k, .int .i64 n] w fun e w' => e = .returned (av k' n') ∧ Below w.heap.size w w') (w : World) :
    Calls Tryd.prog 21 #[av k n] w fun e w' => e = .returned (.bool (k == k' && n == n')) ∧ Below w.heap.size w w' := by
  have e0 : (k == 0) = false := by simp [h0]
  have e1 : (k != 0) = true := by simp [h0]
  go_enter Tryd.func21, Tryd.ntmps21
  go_wp2
  refine wp_region_quiet_below (by kernel_rfl) (by kernel_rfl) ?_
  have heq := run_eql_av k n k' n'
  have hbc := fun x => @Bw.cell (w.alloc (Obj.cells #[Value.int IntKind.i64 k, Value.int IntKind.i64 n] 23)) x
  repeat (go_big_quiet_step ((go_at_call 25; exact Calls.bw (hwrap _))))
  refine wpQuiet_nil ?_
  rintro _ ⟨x, rfl⟩
  go_wp2
  go_ret
  exact ⟨rfl, Bl.step (Bl.alloc (Bl.refl _) _) x.h⟩

theorem may_any (k n : Int) (hn : -9223372036854775808 ≤ n ∧ n ≤ 9223372036854775807) (w : World) : Calls Tryd.prog 21 #[av k n] w fun e w' => e = .returned (.bool (okv k n)) ∧ Below w.heap.size w w' := by
  by_cases h0 : k = 0
  · subst h0
    go_enter Tryd.func21, Tryd.ntmps21
    go_wp2
    go_quiet (fail)
    go_wp2
    go_ret
    exact ⟨by simp [okv], Bl.step (Bl.alloc (Bl.refl _) _) (below_drewN _ _ _)⟩
  · have ht : ∀ a b : Bool, (a = true ↔ b = true) → Ending.returned (.bool a) = .returned (.bool b) := fun a b h => by rw [Bool.eq_iff_iff.2 h]
    by_cases h1 : k = 1
    · subst h1
      refine (may_core 1 n _ _ h0 (fun w => wrap_one n w) w).mono ?_
      rintro e w' ⟨rfl, hb⟩
      refine ⟨ht _ _ ?_, hb⟩
      simp [okv, sg]
      omega
    · by_cases h2 : k = 2
      · subst h2
        refine (may_core 2 n _ _ h0 (fun w => wrap_two n hn w) w).mono ?_
        rintro e w' ⟨rfl, hb⟩
        refine ⟨ht _ _ ?_, hb⟩
        simp [okv, sg]
        omega
      · refine (may_core k n _ _ h0 (fun w => wrap_none k n h1 h2 w) w).mono ?_
        rintro e w' ⟨rfl, hb⟩
        refine ⟨ht _ _ ?_, hb⟩
        simp [okv, h0, h1, h2]

end Go.Proofs.YtiohgigbnncpiaaDoor
