/- state's laws: values: the reference's May; number, all, eqVals, vals of diapauselaw13. -/
import Derived.Test.YtnbegmlbkjjggaaStA
import Derived.Test.YtnbegmlbkjjggaaQuiet
import Derived.BigQuiet
import Derived.Deep.QuietTactic
import Derived.Handy
namespace Go.Proofs.Ytnbegmlbkjjggaa
open Go.RowKit
set_option linter.unusedVariables false

theorem bool_leaf {x y t : Bool} (h : x = t) (g : y = x) : Ending.returned (.bool y) = .returned (.bool t) := by rw [← h, g]
/-- A value. -/
abbrev av (k n : Int) : Value := .agg #[.int .i64 k, .int .i64 n]
def okv (k n : Int) : Bool := k == 2 || (k == 1 && decide (-2147483648 ≤ n) && decide (n < 2147483648))
def okV (v : Int × Int) : Bool := okv v.1 v.2
def okN (n : Int) : Bool := decide (0 ≤ n) && decide (n ≤ 10000)
theorem refMay_any (k n : Int) (w : World) : Calls Try.prog 48 #[av k n] w fun e w' => e = .returned (.bool (okv k n)) ∧ Below w.heap.size w w' := by
  unfold okv
  cases h2 : k == 2
  · cases h1 : k == 1
    · go_enter Try.func48, Try.ntmps48
      go_wp2
      go_ret
      exact ⟨by simp, Bl.alloc (Bl.refl _) _⟩
    · cases h3 : decide (-2147483648 ≤ n)
      all_goals
        go_enter Try.func48, Try.ntmps48
        go_wp2
        go_ret
        exact ⟨by simp, Bl.alloc (Bl.refl _) _⟩
  · go_enter Try.func48, Try.ntmps48
    go_wp2
    go_ret
    exact ⟨by simp, Bl.alloc (Bl.refl _) _⟩
theorem number_to (n : Int) (w : World) : Calls Try.prog 28 #[.int .i64 n] w fun e w' => e = .returned (.bool (okN n)) ∧ w = w' := by
  unfold okN
  cases h0 : decide (0 ≤ n)
  all_goals
    go_enter Try.func28, Try.ntmps28
    go_wp2
    go_ret
    exact ⟨by simp, rfl⟩

theorem RdG.below2 {w w' : World} {ao : Option Addr} {n cap : Nat} {xs : List (Int × Int)} (h : RdG 2 PaR w ao n cap xs) (hb : Below w.heap.size w w') : RdG 2 PaR w' ao n cap xs := (RdG.parx h).below hb |>.now
theorem RdG.at2 {w : World} {ao : Option Addr} {n cap : Nat} {xs : List (Int × Int)} (h : RdG 2 PaR w ao n cap xs) {i : Nat} (hi : i < n) :
    ∃ b off x y, ao = some ⟨b, off, none⟩ ∧ xs[i]? = some (x, y) ∧ w.cell? ⟨b, off + i * 2, none⟩ = some (.int .i64 x) ∧ w.cell? ⟨b, off + i * 2 + 1, none⟩ = some (.int .i64 y) ∧ (Lit.int .i64 x).wf = true ∧ (Lit.int .i64 y).wf = true := by
  have hl : i < xs.length := by rw [h.len]; exact hi
  obtain ⟨⟨x, y⟩, hx⟩ : ∃ x, xs[i]? = some x := ⟨xs[i], List.getElem?_eq_getElem hl⟩
  obtain ⟨b, off, cs, e, _, ⟨rfl, w1, w2⟩, hc⟩ := h.cell i _ hx
  exact ⟨b, off, x, y, e, hx, by simpa using hc 0 _ rfl, hc 1 _ rfl, w1, w2⟩

theorem all_to (ao : Option Addr) (n cap : Nat) (l : List (Int × Int)) (t : Bool) (h : l.all okV = t) (w : World) (hr : RdG 2 PaR w ao n cap l) :
    Calls Try.prog 27 #[.slice ao n cap] w fun e w' => e = .returned (.bool t) ∧ Below w.heap.size w w' := by
  have hn63 := hr.cap63.1
  have H := hid h
  have Hx := hid hr.len
  clear h
  go_enter Try.func27, Try.ntmps27
  go_wp2
  go_loopw [3] (fun i wr => ∃ k : Nat, k ≤ n ∧ i = .int .i64 k ∧ Hid ((l.take k).all okV = true) ∧ Below w.heap.size w wr) (fun i _ => n - (intOf i).toNat)
  case atStart => exact ⟨0, Nat.zero_le _, rfl, hid rfl, Below.refl _ _⟩
  case round =>
    obtain ⟨k, hkn, rfl, Hall, hb⟩ := hrel
    by_cases hk : k < n
    · obtain ⟨b, off, x, y, rfl, hxy, hc, hc', _, _⟩ := (hr.below2 hb).at2 hk
      have HX := hid hxy
      clear hxy
      have htk : l.take (k + 1) = l.take k ++ [(x, y)] := by rw [List.take_add_one, HX.out]; rfl
      have HT := hid htk
      clear htk
      cases hok : okv x y
      · have hm := fun w => refMay_any x y w
        rw [hok] at hm
        go_wp2_with (go_at_call 48; refine (hm _).mono ?_; rintro e w1 ⟨rfl, hb1⟩)
        go_ret
        refine ⟨bool_leaf H.out ?_, hb.trans (hb1.mono hb.size)⟩
        symm
        rw [List.all_eq_false]
        exact ⟨(x, y), List.mem_of_getElem? HX.out, by unfold okV; rw [hok]; decide⟩
      · have hm := fun w => refMay_any x y w
        rw [hok] at hm
        go_wp2_with (go_at_call 48; refine (hm _).mono ?_; rintro e w1 ⟨rfl, hb1⟩)
        go_roundw
        case rel =>
          refine ⟨k + 1, by omega, by go_num, ?_, hb.trans (hb1.mono hb.size)⟩
          rw [HT.out, List.all_append]
          exact hid (by rw [Hall.out]; simp [okV, hok])
        case measure => simp [intOf]; omega
    · have e0 : k = n := by omega
      subst e0
      go_wp2
      go_ret
      refine ⟨bool_leaf H.out ?_, hb⟩
      have := Hall.out
      rw [List.take_of_length_le (by rw [Hx.out]; exact Nat.le_refl _)] at this
      exact this.symm

theorem eqVals_to (ao ao' : Option Addr) (n n' cap cap' : Nat) (l l' : List (Int × Int)) (t : Bool) (h : (l == l') = t) (w : World) (hr : RdG 2 PaR w ao n cap l) (hr' : RdG 2 PaR w ao' n' cap' l') :
    Calls Try.prog 32 #[.slice ao n cap, .slice ao' n' cap'] w fun e w' => e = .returned (.bool t) ∧ Below w.heap.size w w' := by
  have hn63 := hr.cap63.1
  have hn63' := hr'.cap63.1
  have Hx := hid hr.len
  have Hx' := hid hr'.len
  have H := hid h
  clear h
  by_cases e : n = n'
  · subst e
    go_enter Try.func32, Try.ntmps32
    go_wp2
    go_loopw [5] (fun i wr => ∃ k : Nat, k ≤ n ∧ i = .int .i64 k ∧ Hid (∀ i, i < k → l[i]? = l'[i]?) ∧ Below w.heap.size w wr) (fun i _ => n - (intOf i).toNat)
    case atStart => exact ⟨0, Nat.zero_le _, rfl, fun i hi => by omega, Below.refl _ _⟩
    case round =>
      obtain ⟨k, hkn, rfl, Hall, hb⟩ := hrel
      by_cases hk : k < n
      · obtain ⟨b, off, x, y, rfl, hxy, hc, hc1, _, _⟩ := (hr.below2 hb).at2 hk
        obtain ⟨b', off', x', y', rfl, hxy', hc', hc1', _, _⟩ := (hr'.below2 hb).at2 hk
        have HX := hid hxy
        have HX' := hid hxy'
        clear hxy hxy'
        by_cases e : x = x' ∧ y = y'
        · obtain ⟨rfl, rfl⟩ := e
          go_wp2_with fail
          go_quiet (fail)
          go_wp2_with fail
          go_roundw
          case rel =>
            refine ⟨k + 1, by omega, by go_num, ?_, hb.trans (below_drewN _ _ _)⟩
            show ∀ i, i < k + 1 → l[i]? = l'[i]?
            intro i hi
            by_cases e : i = k
            · rw [e, HX.out, HX'.out]
            · exact Hall.out i (by omega)
          case measure => simp [intOf]; omega
        · have hne : (l == l') = false := by
            rw [beq_eq_false_iff_ne]
            intro h
            have h1 := HX.out
            rw [h, HX'.out] at h1
            simp at h1
            exact e ⟨h1.1.symm, h1.2.symm⟩
          by_cases e1 : x = x'
          · have e2 : y ≠ y' := fun h => e ⟨e1, h⟩
            subst e1
            have ex : (y != y') = true := by simp [e2]
            go_wp2_with fail
            go_quiet (fail)
            go_wp2_with fail
            go_ret
            exact ⟨bool_leaf H.out hne.symm, hb.trans (below_drewN _ _ _)⟩
          · have ex : (x != x') = true := by simp [e1]
            go_wp2_with fail
            go_quiet (fail)
            go_wp2_with fail
            go_ret
            exact ⟨bool_leaf H.out hne.symm, hb.trans (below_drewN _ _ _)⟩
      · have e0 : k = n := by omega
        subst e0
        go_wp2_with fail
        go_ret
        refine ⟨bool_leaf H.out ?_, hb⟩
        symm
        rw [beq_iff_eq]
        refine List.ext_getElem? fun i => ?_
        by_cases hi : i < k
        · exact Hall.out i hi
        · rw [List.getElem?_eq_none (by rw [Hx.out]; omega), List.getElem?_eq_none (by rw [Hx'.out]; omega)]
  · have e' : ((n : Int) != (n' : Int)) = true := by simp; omega
    go_enter Try.func32, Try.ntmps32
    go_wp2
    go_ret
    refine ⟨bool_leaf H.out ?_, Below.refl _ _⟩
    symm
    rw [beq_eq_false_iff_ne]
    intro h
    exact e (by rw [← Hx.out, ← Hx'.out, h])
end Go.Proofs.Ytnbegmlbkjjggaa
