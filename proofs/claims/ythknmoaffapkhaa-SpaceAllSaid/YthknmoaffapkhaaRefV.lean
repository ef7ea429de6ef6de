/- The reference's EqInts (slices of numbers) and May (a value). No other function is named here. -/
import Derived.Test.YthknmoaffapkhaaRows
import Derived.Test.YthknmoaffapkhaaQuiet
import Derived.BigQuiet
import Derived.Deep.QuietTactic
import Derived.Handy
namespace Go.Proofs.Ythknmoaffapkhaa
open Go.RowKit
set_option linter.unusedVariables false

theorem bool_leaf {x y t : Bool} (h : x = t) (g : y = x) : Ending.returned (.bool y) = .returned (.bool t) := by rw [← h, g]
set_option maxHeartbeats 1000000 in
theorem eqInts_to (ao ao' : Option Addr) (n n' cap cap' : Nat) (l l' : List Int) (t : Bool) (h : (l == l') = t) (w : World) (hr : Rd .i64 w ao n cap l) (hr' : Rd .i64 w ao' n' cap' l') :
    Calls Try.prog 12 #[.slice ao n cap, .slice ao' n' cap'] w fun e w' => e = .returned (.bool t) ∧ Below w.heap.size w w' := by
  have hn63 : n ≤ 9223372036854775807 := by have h1 := hr.le; have h2 := hr.max; unfold maxLen at h2; omega
  have hn63' : n' ≤ 9223372036854775807 := by have h1 := hr'.le; have h2 := hr'.max; unfold maxLen at h2; omega
  have hx := hr.len
  have hx' := hr'.len
  have Hx := hid hx
  have Hx' := hid hx'
  have H := hid h
  clear h hx hx'
  by_cases e : n = n'
  · subst e
    go_enter Try.func12, Try.ntmps12
    go_wp2
    go_loopw [5] (fun i wr => ∃ k : Nat, k ≤ n ∧ i = .int .i64 k ∧ Hid (∀ i, i < k → l.getD i 0 = l'.getD i 0) ∧ Below w.heap.size w wr) (fun i _ => n - (intOf i).toNat)
    case atStart => exact ⟨0, Nat.zero_le _, rfl, fun i hi => by omega, Below.refl _ _⟩
    case round =>
      obtain ⟨k, hkn, rfl, Hall, hb⟩ := hrel
      by_cases hk : k < n
      · obtain ⟨b, off, rfl, hc⟩ := (hr.below hb).at (by omega)
        obtain ⟨b', off', rfl, hc'⟩ := (hr'.below hb).at (by omega)
        have hck := hc k hk
        have hck' := hc' k hk
        obtain ⟨x, hxk⟩ : ∃ x, x = l.getD k 0 := ⟨_, rfl⟩
        obtain ⟨x', hxk'⟩ : ∃ x, x = l'.getD k 0 := ⟨_, rfl⟩
        rw [← hxk] at hck
        rw [← hxk'] at hck'
        have Hxk := hid hxk
        have Hxk' := hid hxk'
        clear hc hxk hc' hxk'
        by_cases e : x = x'
        · subst e
          go_wp2_with fail
          go_quiet (fail)
          go_wp2_with fail
          go_roundw
          case rel =>
            refine ⟨k + 1, by omega, by go_num, ?_, hb.trans (below_drewN _ _ _)⟩
            show ∀ i, i < k + 1 → l.getD i 0 = l'.getD i 0
            intro i hi
            by_cases e : i = k
            · rw [e, ← Hxk.out, ← Hxk'.out]
            · exact Hall.out i (by omega)
          case measure => simp [intOf]; omega
        · have ex : (x != x') = true := by simp [e]
          go_wp2_with fail
          go_quiet (fail)
          go_wp2_with fail
          go_ret
          refine ⟨bool_leaf H.out ?_, hb.trans (below_drewN _ _ _)⟩
          symm
          rw [beq_eq_false_iff_ne]
          intro h
          exact e (by rw [Hxk.out, Hxk'.out, h])
      · have e0 : k = n := by omega
        subst e0
        go_wp2_with fail
        go_ret
        refine ⟨bool_leaf H.out ?_, hb⟩
        symm
        rw [beq_iff_eq]
        refine List.ext_getElem (by rw [Hx.out, Hx'.out]) fun i hi hi' => ?_
        have := Hall.out i (by rw [← Hx.out]; exact hi)
        simpa [List.getD, hi, hi'] using this
  · have e' : ((n : Int) != (n' : Int)) = true := by simp; omega
    go_enter Try.func12, Try.ntmps12
    go_wp2
    go_ret
    refine ⟨bool_leaf H.out ?_, Below.refl _ _⟩
    symm
    rw [beq_eq_false_iff_ne]
    intro h
    exact e (by rw [← Hx.out, ← Hx'.out, h])

/-- A value. -/
abbrev av (k n : Int) : Value := .agg #[.int .i64 k, .int .i64 n]
def okv (k n : Int) : Bool := k == 2 || (k == 1 && decide (-2147483648 ≤ n) && decide (n < 2147483648))
theorem refMay_any (k n : Int) (w : World) : Calls Try.prog 7 #[av k n] w fun e w' => e = .returned (.bool (okv k n)) ∧ Below w.heap.size w w' := by
  unfold okv
  cases h2 : k == 2
  · cases h1 : k == 1
    · go_enter Try.func7, Try.ntmps7
      go_wp2
      go_ret
      exact ⟨by simp, Bl.alloc (Bl.refl _) _⟩
    · cases h3 : decide (-2147483648 ≤ n)
      all_goals
        go_enter Try.func7, Try.ntmps7
        go_wp2
        go_ret
        exact ⟨by simp, Bl.alloc (Bl.refl _) _⟩
  · go_enter Try.func7, Try.ntmps7
    go_wp2
    go_ret
    exact ⟨by simp, Bl.alloc (Bl.refl _) _⟩
end Go.Proofs.Ythknmoaffapkhaa
