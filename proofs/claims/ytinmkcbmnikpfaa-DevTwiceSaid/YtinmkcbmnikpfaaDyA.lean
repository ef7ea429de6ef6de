/- dev: Len, Dead, Calls, has, Read, Fuse, count. -/
import Derived.Test.YtinmkcbmnikpfaaDyW
namespace Go.Proofs.Ytinmkcbmnikpfaa
open Go.RowKit Go.Maps
set_option linter.unusedVariables false
abbrev atp (p : Nat) : Value := .pointer (some ⟨p, 0, none⟩)

theorem len_to {w : World} {M : Dv} {p bs cap bm : Nat} (h : DvL w M p bs cap bm) : Calls Try.prog 16 #[atp p] w fun e w' => e = .returned (.int .i64 (M.now.length : Int)) ∧ w = w' := by
  obtain ⟨c0, c1, c2, c3, c4⟩ := h.cells
  clear h
  go_enter Try.func16, Try.ntmps16
  go_wp2_with fail
  go_ret
  exact ⟨rfl, rfl⟩
theorem len_nil (w : World) : Calls Try.prog 16 #[.pointer none] w fun e w' => e = .returned (.int .i64 0) ∧ w = w' := by
  go_enter Try.func16, Try.ntmps16
  go_wp2_with fail
  go_ret
  exact ⟨rfl, rfl⟩
theorem dead_to {w : World} {M : Dv} {p bs cap bm : Nat} (h : DvL w M p bs cap bm) : Calls Try.prog 19 #[atp p] w fun e w' => e = .returned (.bool (decide (M.fuse = 0))) ∧ w = w' := by
  obtain ⟨c0, c1, c2, c3, c4⟩ := h.cells
  obtain ⟨d, hd⟩ : ∃ d, decide (M.fuse = 0) = d := ⟨_, rfl⟩
  rw [hd] at c4 ⊢
  clear h hd
  go_enter Try.func19, Try.ntmps19
  go_wp2_with fail
  go_ret
  exact ⟨rfl, rfl⟩
theorem dead_nil (w : World) : Calls Try.prog 19 #[.pointer none] w fun e w' => e = .returned (.bool true) ∧ w = w' := by
  go_enter Try.func19, Try.ntmps19
  go_wp2_with fail
  go_ret
  exact ⟨rfl, rfl⟩
theorem calls_to {w : World} {M : Dv} {p bs cap bm : Nat} (h : DvL w M p bs cap bm) : Calls Try.prog 18 #[atp p] w fun e w' => e = .returned (.int .i64 (M.calls : Int)) ∧ w = w' := by
  obtain ⟨c0, c1, c2, c3, c4⟩ := h.cells
  clear h
  go_enter Try.func18, Try.ntmps18
  go_wp2_with fail
  go_ret
  exact ⟨rfl, rfl⟩
theorem calls_nil (w : World) : Calls Try.prog 18 #[.pointer none] w fun e w' => e = .returned (.int .i64 0) ∧ w = w' := by
  go_enter Try.func18, Try.ntmps18
  go_wp2_with fail
  go_ret
  exact ⟨rfl, rfl⟩
theorem has_to {w : World} {M : Dv} {p bs cap bm : Nat} (h : DvL w M p bs cap bm) (i : Int) : Calls Try.prog 21 #[atp p, .int .i64 i] w fun e w' => e = .returned (.bool (decide (0 ≤ i ∧ i < (M.now.length : Int)))) ∧ w = w' := by
  have hl := len_to h
  clear h
  by_cases h0 : 0 ≤ i
  · have e1 : decide (0 ≤ i ∧ i < (M.now.length : Int)) = decide (i < (M.now.length : Int)) := by simp [h0]
    rw [e1]
    obtain ⟨d, hd⟩ : ∃ d, decide (i < (M.now.length : Int)) = d := ⟨_, rfl⟩
    have e2 : decide (i ≥ 0) = true := by simpa using h0
    rw [hd]
    go_enter Try.func21, Try.ntmps21
    go_wp2_with fail
    refine hl.mono ?_
    rintro e w' ⟨rfl, rfl⟩
    go_wp2_with fail
    go_ret
    exact ⟨rfl, rfl⟩
  · have e1 : decide (0 ≤ i ∧ i < (M.now.length : Int)) = false := by simp [h0]
    rw [e1]
    go_enter Try.func21, Try.ntmps21
    go_wp2_with fail
    go_ret
    exact ⟨rfl, rfl⟩
end Go.Proofs.Ytinmkcbmnikpfaa
