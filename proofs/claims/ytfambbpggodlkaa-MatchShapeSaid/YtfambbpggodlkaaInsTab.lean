/- What may be an instruction with a list, by the reference. -/
import Derived.Test.YtfambbpggodlkaaInsEq
namespace Go.Proofs.Ytfambbpggodlkaa
open Go.RowKit

set_option maxHeartbeats 1000000 in
theorem mayInstr_4 (op a b : Int) (ao : Option Addr) (n cap : Nat) (l : List Int) (t : Bool) (hs : sh op = 4) (h : mayI op a b l = t) (w : World) (hr : Rd .i64 w ao n cap l) :
    Calls Try.prog 19 #[iv op a b ao n cap] w fun e w' => e = .returned (.bool t) ∧ Below w.heap.size w w' := by
  have hn63 : n ≤ 9223372036854775807 := by have h1 := hr.le; have h2 := hr.max; unfold maxLen at h2; omega
  unfold mayI at h
  rw [hs] at h
  have Hs := hid hs
  have H := hid h
  have hx := hr.len
  have Hx := hid hx
  clear h hs hx
  cases hb : (b == 0)
  case false =>
    have hb' : (b != 0) = true := by simp [bne, hb]
    go_enter Try.func19, Try.ntmps19
    go_wp2_with (go_at_call 28; refine (form_to _ _ Hs.out _).mono ?_; rintro e w' ⟨rfl, rfl⟩)
    go_ret
    refine ⟨bool_leaf H.out ?_, Bl.alloc (Bl.refl _) _⟩
    simp [mayBS, hb]
  case true =>
    have hb' : (b != 0) = false := by simp [bne, hb]
    have eb : b = 0 := by simpa using hb
    clear hb
    subst eb
    have hr1 := hr.below (Bl.alloc (Bl.refl w) (Obj.cells #[.int .i64 op, .int .i64 a, .int .i64 0, .slice ao n cap] 39))
    cases h0 : decide (0 ≤ a) <;> cases h1 : decide (a ≤ 1000)
    all_goals
      go_enter Try.func19, Try.ntmps19
      go_wp2_with (go_at_call 28; refine (form_to _ _ Hs.out _).mono ?_; rintro e w' ⟨rfl, rfl⟩)
      go_loop [4] (fun i => ∃ k : Nat, k ≤ n ∧ i = .int .i64 k ∧ Hid (∀ i, i < k → mayAS 3 (l.getD i 0) = true)) (fun i => n - (intOf i).toNat)
      case atStart => exact ⟨0, Nat.zero_le _, rfl, fun i hi => by omega⟩
      case round =>
        obtain ⟨k, hkn, rfl, Hall⟩ := hrel
        by_cases hk : k < n
        · have hlc := @Rd.at _ _ _ _ _ _ hr1 (by omega)
          obtain ⟨b, off, rfl, hc⟩ := hlc
          have hck := hc k hk
          obtain ⟨x, hxk⟩ : ∃ x, x = l.getD k 0 := ⟨_, rfl⟩
          rw [← hxk] at hck
          have Hxk := hid hxk
          clear hc hxk
          cases g0 : decide (x < 0)
          · cases g1 : decide (1000 < x)
            · go_wp2
              go_round
              case rel =>
                refine ⟨k + 1, by omega, by go_num, ?_⟩
                show ∀ i, i < k + 1 → mayAS 3 (l.getD i 0) = true
                intro i hi
                by_cases e : i = k
                · rw [e, ← Hxk.out]; simp [mayAS]; simp at g0 g1; omega
                · exact Hall.out i (by omega)
              case measure => simp [intOf]; omega
            · go_wp2
              go_ret
              refine ⟨bool_leaf H.out ?_, Bl.alloc (Bl.refl _) _⟩
              have hb := all_idx_bad (l := l) (k := k) (by rw [Hx.out]; exact hk) (by rw [← Hxk.out]; simp at g0 g1; simp [mayAS]; omega)
              simp [mayLS, hb]
          · go_wp2
            go_ret
            refine ⟨bool_leaf H.out ?_, Bl.alloc (Bl.refl _) _⟩
            have hb := all_idx_bad (l := l) (k := k) (by rw [Hx.out]; exact hk) (by rw [← Hxk.out]; simp at g0; simp [mayAS]; omega)
            simp [mayLS, hb]
        · have e0 : k = n := by omega
          subst e0
          go_wp2
          go_ret
          refine ⟨bool_leaf H.out ?_, Bl.alloc (Bl.refl _) _⟩
          have hb := all_idx_ok (l := l) (by rw [Hx.out]; exact Hall.out)
          have hm : mayLS 4 l = decide (k ≤ 50) := by simp [mayLS, hb, Hx.out]
          rw [hm, show mayAS 4 a = (decide (0 ≤ a) && decide (a ≤ 1000)) from by simp [mayAS], show mayBS 4 0 = true from by decide, h0, h1]
          simp
          try omega

theorem mayInstr_to (op a b : Int) (ao : Option Addr) (n cap : Nat) (l : List Int) (t : Bool) (h : mayI op a b l = t) (w : World) (hr : Rd .i64 w ao n cap l) :
    Calls Try.prog 19 #[iv op a b ao n cap] w fun e w' => e = .returned (.bool t) ∧ Below w.heap.size w w' := by
  by_cases h4 : sh op = 4
  · exact mayInstr_4 op a b ao n cap l t h4 h w hr
  · exact mayInstr_not4 op a b _ ao n cap l t rfl h4 h w hr
end Go.Proofs.Ytfambbpggodlkaa
