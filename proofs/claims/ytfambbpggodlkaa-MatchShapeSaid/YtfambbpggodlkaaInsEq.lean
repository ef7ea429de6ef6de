/- Two instructions, are they the same? What may be one, by the reference. -/
import Derived.Test.YtfambbpggodlkaaInsMay
namespace Go.Proofs.Ytfambbpggodlkaa
open Go.RowKit

def eqI (op a b : Int) (l : List Int) (op' a' b' : Int) (l' : List Int) : Bool := op == op' && (a == a' && (b == b' && l == l'))
theorem eqI_refl (op a b : Int) (l : List Int) : eqI op a b l op a b l = true := by simp [eqI]
theorem eqI_iff {op a b op' a' b' : Int} {l l' : List Int} : eqI op a b l op' a' b' l' = true ↔ op = op' ∧ a = a' ∧ b = b' ∧ l = l' := by simp [eqI]

set_option maxHeartbeats 1000000 in
theorem eqInstr_to (op a b : Int) (ao : Option Addr) (n cap : Nat) (l : List Int) (op' a' b' : Int) (ao' : Option Addr) (n' cap' : Nat) (l' : List Int) (t : Bool) (h : eqI op a b l op' a' b' l' = t) (w : World) (hr : Rd .i64 w ao n cap l) (hr' : Rd .i64 w ao' n' cap' l') :
    Calls Try.prog 32 #[iv op a b ao n cap, iv op' a' b' ao' n' cap'] w fun e w' => e = .returned (.bool t) ∧ Below w.heap.size w w' := by
  unfold eqI at h
  obtain ⟨t4, h4⟩ : ∃ t4, (l == l') = t4 := ⟨_, rfl⟩
  rw [h4] at h
  have H4 := hid h4
  have H := hid h
  clear h h4
  cases h1 : (op == op') <;> cases h2 : (a == a') <;> cases h3 : (b == b')
  all_goals
    go_enter Try.func32, Try.ntmps32
    go_wp2_with (go_at_call 15; refine (eqInts_to _ _ _ _ _ _ _ _ _ H4.out _ (hr.below (Bl.alloc (Bl.alloc (Bl.refl _) _) _)) (hr'.below (Bl.alloc (Bl.alloc (Bl.refl _) _) _))).mono ?_; rintro e w' ⟨rfl, hb⟩)
    go_ret
    first
      | exact ⟨bool_leaf H.out (by rw [h1, h2, h3]; simp), Bl.step (Bl.alloc (Bl.alloc (Bl.refl _) _) _) hb⟩
      | exact ⟨bool_leaf H.out (by rw [h1, h2, h3]; simp), Bl.alloc (Bl.alloc (Bl.refl _) _) _⟩

theorem len_pos {n : Nat} : decide (0 < n) = !((n : Int) == 0) := by
  rw [Bool.eq_iff_iff]; simp; omega

set_option maxHeartbeats 1000000 in
theorem mayInstr_not4 (op a b s : Int) (ao : Option Addr) (n cap : Nat) (l : List Int) (t : Bool) (hs : sh op = s) (h4 : s ≠ 4) (h : mayI op a b l = t) (w : World) (hr : Rd .i64 w ao n cap l) :
    Calls Try.prog 19 #[iv op a b ao n cap] w fun e w' => e = .returned (.bool t) ∧ Below w.heap.size w w' := by
  have hsb := sh_bounds op
  rw [hs] at hsb
  unfold mayI at h
  rw [hs, mayLS_len hr.len s h4] at h
  have Hs := hid hs
  have H := hid h
  clear h hs
  have e : s = 0 ∨ s = 1 ∨ s = 2 ∨ s = 3 ∨ s = 5 ∨ s = 6 ∨ s = 7 ∨ s = 8 ∨ s = 9 := by omega
  clear hsb h4
  have hlp := @len_pos n
  have Hlp := hid hlp
  clear hlp
  cases hn : decide (0 < n)
  case true =>
    rcases e with rfl | rfl | rfl | rfl | rfl | rfl | rfl | rfl | rfl
    all_goals
      go_enter Try.func19, Try.ntmps19
      go_wp2_with (go_at_call 28; refine (form_to _ _ Hs.out _).mono ?_; rintro e w' ⟨rfl, rfl⟩)
      go_ret
      refine ⟨bool_leaf H.out ?_, Bl.alloc (Bl.refl _) _⟩
      have := Hlp.out
      rw [hn] at this
      have e0 : ((n : Int) == 0) = false := by simpa using this.symm
      rw [e0]
      simp
  case false =>
    have e0 : ((n : Int) == 0) = true := by
      have := Hlp.out
      rw [hn] at this
      simpa using this.symm
    rw [e0] at H
    clear e0
    cases hb : (b == 0)
    case false =>
      have hb' : (b != 0) = true := by simp [bne, hb]
      rcases e with rfl | rfl | rfl | rfl | rfl | rfl | rfl | rfl | rfl
      case inr.inr.inr.inr.inr.inl =>
        cases h0 : decide (0 ≤ a) <;> cases h3 : decide (a ≤ 3) <;> cases hb0 : decide (0 ≤ b)
        all_goals
          go_enter Try.func19, Try.ntmps19
          go_wp2_with (go_at_call 28; refine (form_to _ _ Hs.out _).mono ?_; rintro e w' ⟨rfl, rfl⟩)
          go_ret
          refine ⟨bool_leaf H.out ?_, Bl.alloc (Bl.refl _) _⟩
          rw [Bool.eq_iff_iff]; simp_all [mayAS, mayBS]; try omega
      all_goals
        go_enter Try.func19, Try.ntmps19
        go_wp2_with (go_at_call 28; refine (form_to _ _ Hs.out _).mono ?_; rintro e w' ⟨rfl, rfl⟩)
        go_ret
        refine ⟨bool_leaf H.out ?_, Bl.alloc (Bl.refl _) _⟩
        rw [Bool.eq_iff_iff]; simp_all [mayAS, mayBS]
    case true =>
      have hb' : (b != 0) = false := by simp [bne, hb]
      have eb : b = 0 := by simpa using hb
      clear hb
      subst eb
      rcases e with rfl | rfl | rfl | rfl | rfl | rfl | rfl | rfl | rfl
      case inr.inr.inr.inr.inr.inl =>
        cases h0 : decide (0 ≤ a) <;> cases h3 : decide (a ≤ 3)
        all_goals
          go_enter Try.func19, Try.ntmps19
          go_wp2_with (go_at_call 28; refine (form_to _ _ Hs.out _).mono ?_; rintro e w' ⟨rfl, rfl⟩)
          go_ret
          refine ⟨bool_leaf H.out ?_, Bl.alloc (Bl.refl _) _⟩
          rw [Bool.eq_iff_iff]; simp_all [mayAS, mayBS]
      case inr.inr.inr.inr.inr.inr.inr.inl =>
        cases h0 : decide (-2147483648 ≤ a)
        all_goals
          go_enter Try.func19, Try.ntmps19
          go_wp2_with (go_at_call 28; refine (form_to _ _ Hs.out _).mono ?_; rintro e w' ⟨rfl, rfl⟩)
          go_ret
          refine ⟨bool_leaf H.out ?_, Bl.alloc (Bl.refl _) _⟩
          rw [Bool.eq_iff_iff]; simp_all [mayAS, mayBS]; try omega
      all_goals
        cases h0 : decide (0 ≤ a)
        all_goals
          go_enter Try.func19, Try.ntmps19
          go_wp2_with (go_at_call 28; refine (form_to _ _ Hs.out _).mono ?_; rintro e w' ⟨rfl, rfl⟩)
          go_ret
          refine ⟨bool_leaf H.out ?_, Bl.alloc (Bl.refl _) _⟩
          rw [Bool.eq_iff_iff]; simp_all [mayAS, mayBS]; try omega
end Go.Proofs.Ytfambbpggodlkaa
