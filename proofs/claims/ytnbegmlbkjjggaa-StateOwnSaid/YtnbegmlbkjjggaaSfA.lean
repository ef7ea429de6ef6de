/- package state: may: all at each type, numbers, ints.May. Written by gen_sf.py. -/
import Derived.Test.YtnbegmlbkjjggaaStM
import Derived.Shelf.Abstract
import Derived.Handy
namespace Go.Proofs.Ytnbegmlbkjjggaa
open Go.RowKit
set_option linter.unusedVariables false

theorem rb {a b : Bool} (h : b = a) : Ending.returned (.bool a) = .returned (.bool b) := by rw [h]
theorem mayNumber_to (n : Int) (w : World) : Calls Try.prog 44 #[.int .i64 n] w fun e w' => e = .returned (.bool (okN n)) ∧ w = w' := by
  unfold okN
  cases h0 : decide (0 ≤ n)
  all_goals
    go_enter Try.func44, Try.ntmps44
    go_wp2
    go_ret
    exact ⟨by simp, rfl⟩
theorem mayAsk_to (n : Int) (w : World) : Calls Try.prog 22 #[.int .i64 n] w fun e w' => e = .returned (.bool (n == -1 || okN n)) ∧ w = w' := by
  cases h0 : n == -1
  · go_enter Try.func22, Try.ntmps22
    go_wp2_with (go_at_call 44; refine (mayNumber_to _ _).mono ?_; rintro e w1 ⟨rfl, rfl⟩)
    go_ret
    exact ⟨by simp, rfl⟩
  · go_enter Try.func22, Try.ntmps22
    go_wp2_with fail
    go_ret
    exact ⟨by simp, rfl⟩
def sgn (k n : Int) : Int := if k = 1 then (n + 2147483648) % 4294967296 - 2147483648 else n
theorem wrap_one (n : Int) (w : World) : Calls Try.prog 45 #[.int .i64 1, .int .i64 n] w fun e w' => e = .returned (av 1 (sgn 1 n)) ∧ Below w.heap.size w w' := by
  have e : wrap64 (wrap32 n) = sgn 1 n := by
    simp only [wrap64, wrap32, sgn]
    simp
    omega
  go_enter Try.func45, Try.ntmps45
  go_wp2
  go_returns
  exact ⟨rfl, Bl.alloc (Bl.refl _) _⟩
theorem wrap_two (n : Int) (w : World) : Calls Try.prog 45 #[.int .i64 2, .int .i64 n] w fun e w' => e = .returned (av 2 (sgn 2 n)) ∧ Below w.heap.size w w' := by
  have e : n = sgn 2 n := by simp [sgn]
  rw [← e]
  clear e
  go_enter Try.func45, Try.ntmps45
  go_wp2
  go_returns
  exact ⟨rfl, Bl.alloc (Bl.refl _) _⟩
theorem wrap_none (k n : Int) (h1 : k ≠ 1) (h2 : k ≠ 2) (w : World) : Calls Try.prog 45 #[.int .i64 k, .int .i64 n] w fun e w' => e = .returned (av 0 0) ∧ Below w.heap.size w w' := by
  have e1 : (k == 1) = false := by simp [h1]
  have e2 : (k == 2) = false := by simp [h2]
  go_enter Try.func45, Try.ntmps45
  go_wp2
  go_returns
  exact ⟨rfl, Bl.alloc (Bl.refl _) _⟩
theorem run_eql_av (k n k' n' : Int) (w : World) : (Go.binOp .eql 39 (av k n) (av k' n')).run Try.prog w = .ok (.bool (k == k' && n == n')) w := by
  go_simp
  by_cases h : k = k'
  · by_cases h' : n = n'
    · simp [h, h']
    · simp [h, h']
  · simp [h]
theorem imay_core (k n k' n' : Int) (h0 : k ≠ 0) (hwrap : ∀ w, Calls Try.prog 45 #[.int .i64 k, .int .i64 n] w fun e w' => e = .returned (av k' n') ∧ Below w.heap.size w w') (w : World) :
    Calls Try.prog 24 #[av k n] w fun e w' => e = .returned (.bool (k == k' && n == n')) ∧ Below w.heap.size w w' := by
  have e0 : (k == 0) = false := by simp [h0]
  have e1 : (k != 0) = true := by simp [h0]
  go_enter Try.func24, Try.ntmps24
  go_wp2
  refine wp_region_quiet_below (by kernel_rfl) (by kernel_rfl) ?_
  have heq := run_eql_av k n k' n'
  have hbc := fun x => @Bw.cell (w.alloc (Obj.cells #[Value.int IntKind.i64 k, Value.int IntKind.i64 n] 39)) x
  repeat (go_big_quiet_step ((go_at_call 45; exact Calls.bw (hwrap _))))
  refine wpQuiet_nil ?_
  rintro _ ⟨x, rfl⟩
  go_wp2
  go_ret
  exact ⟨rfl, Bl.step (Bl.alloc (Bl.refl _) _) x.h⟩
theorem imay_any (k n : Int) (w : World) : Calls Try.prog 24 #[av k n] w fun e w' => e = .returned (.bool (okv k n)) ∧ Below w.heap.size w w' := by
  by_cases h0 : k = 0
  · subst h0
    go_enter Try.func24, Try.ntmps24
    go_wp2
    go_quiet (fail)
    go_wp2
    go_ret
    exact ⟨by simp [okv], Bl.step (Bl.alloc (Bl.refl _) _) (below_drewN _ _ _)⟩
  · have ht : ∀ a b : Bool, (a = true ↔ b = true) → Ending.returned (.bool a) = .returned (.bool b) := fun a b h => by rw [Bool.eq_iff_iff.2 h]
    by_cases h1 : k = 1
    · subst h1
      refine (imay_core 1 n _ _ h0 (fun w => wrap_one n w) w).mono ?_
      rintro e w' ⟨rfl, hb⟩
      refine ⟨ht _ _ ?_, hb⟩
      simp [okv, sgn]
      omega
    · by_cases h2 : k = 2
      · subst h2
        refine (imay_core 2 n _ _ h0 (fun w => wrap_two n w) w).mono ?_
        rintro e w' ⟨rfl, hb⟩
        refine ⟨ht _ _ ?_, hb⟩
        simp [okv, sgn]
      · refine (imay_core k n _ _ h0 (fun w => wrap_none k n h1 h2 w) w).mono ?_
        rintro e w' ⟨rfl, hb⟩
        refine ⟨ht _ _ ?_, hb⟩
        simp [okv, h0, h1, h2]
theorem all_cut {α : Type} (p : α → Bool) (xs : List α) (k : Nat) (x : α) (hx : xs[k]? = some x) (h : (xs.take k).all p = true) : (p x = false → xs.all p = false) ∧ (p x = true → (xs.take (k + 1)).all p = true) := by
  constructor
  · intro hp
    rw [List.all_eq_false]
    exact ⟨x, List.mem_of_getElem? hx, by simp [hp]⟩
  · intro hp
    rw [List.take_add_one, List.all_append, h, hx]
    simp [hp]

set_option maxRecDepth 100000 in
set_option maxHeartbeats 1000000 in
theorem allVa_to (g : Nat) (p : Int × Int → Bool) (ao : Option Addr) (n cap : Nat) (xs : List (Int × Int)) (w : World) (h : Rx w fun w => RdG 2 (PaR) w ao n cap xs) (he : ∀ args w, (callFunc g args).run Try.prog w = .ok (.enter g args) w)
    (HF : ∀ w cs x, x ∈ xs → (Rx w fun w => PaR w cs x) → Calls Try.prog g #[.agg cs.toArray] w fun e w' => e = .returned (.bool (p x)) ∧ Below w.heap.size w w') :
    Calls Try.prog 23 #[.slice ao n cap, .func (.func g) #[] #[]] w fun e w' => e = .returned (.bool (xs.all p)) ∧ Below w.heap.size w w' := by
  have hl := h.now.len
  obtain ⟨h63, h63'⟩ := h.now.cap63
  have H := hid h
  have Hl := hid hl
  have HFF := hid HF
  clear h HF
  go_enter Try.func23, Try.ntmps23
  go_wp2_with fail
  go_loopw [9] (fun i wr => ∃ k : Nat, k ≤ n ∧ i = .int .i64 k ∧ Hid ((xs.take k).all p = true) ∧ Below w.heap.size w wr) (fun i _ => n - (intOf i).toNat)
  case atStart => exact ⟨0, Nat.zero_le _, rfl, by simp [Hid], Below.refl _ _⟩
  case round =>
    obtain ⟨k, hkn, rfl, HA, hb⟩ := hrel
    have hsz := hb.size
    have HB := hid hb
    clear hb
    by_cases hk : k < n
    · obtain ⟨x, hx⟩ : ∃ x, xs[k]? = some x := ⟨xs[k]'(by omega), List.getElem?_eq_getElem (by omega)⟩
      obtain ⟨b, off, cs, rfl, hcl, hR, hc⟩ := RdG.elem (H.out.below HB.out) hx
      obtain ⟨y1, y2⟩ := x
      obtain ⟨rfl, hy1, hy2⟩ := hR.now
      have c0 := hc 0 _ rfl
      rw [Nat.add_zero] at c0
      have c1 := hc 1 _ rfl
      have HR := hid hR
      have hcut := hid (all_cut p xs k _ hx HA.out)
      have HX := hid (List.mem_of_getElem? hx)
      clear hc hR hx hcl hy1 hy2 hl
      have hcall := HFF.out (wr.alloc (.cells #[.int .i64 y1, .int .i64 y2] 39)) _ _ HX.out (HR.out.alloc _)
      obtain ⟨px, hpx⟩ : ∃ px, p ⟨y1, y2⟩ = px := ⟨_, rfl⟩
      rw [hpx] at hcall
      have HCALL := hid hcall
      have HPX := hid hpx
      clear hpx hcall
      go_wp2_with fail
      refine HCALL.out.mono ?_
      rintro e w1 ⟨rfl, hb1⟩
      have HB1 := hid (HB.out.trans ((Bl.step (Bl.alloc (Bl.refl wr) _) hb1).mono hsz))
      clear hb1 HCALL c0 c1
      cases px with
      | true =>
        have HA2 := hid (hcut.out.2 HPX.out)
        clear hcut HPX HA
        go_wp2_with fail
        go_roundw
        case rel => exact ⟨k + 1, by omega, by go_num, HA2.out, HB1.out⟩
        case measure => simp [intOf]; omega
      | false =>
        have HA2 := hid (hcut.out.1 HPX.out)
        clear hcut HPX HA
        go_wp2_with fail
        exact bodyPost_ret (v := .bool false) (by simp [results, Try.results23, go_sem]) rfl ⟨by rw [HA2.out], HB1.out⟩
    · have e0 : k = n := by omega
      subst e0
      have ht : xs.take k = xs := List.take_of_length_le (by rw [Hl.out]; exact Nat.le_refl _)
      have ha := HA.out
      rw [ht] at ha
      have HA2 := hid ha
      clear ht ha hl
      go_wp2_with fail
      exact bodyPost_ret (v := .bool true) (by simp [results, Try.results23, go_sem]) rfl ⟨by rw [HA2.out], HB.out⟩

set_option maxRecDepth 100000 in
set_option maxHeartbeats 1000000 in
theorem allLa_to (g : Nat) (p : Int × Int → Bool) (ao : Option Addr) (n cap : Nat) (xs : List (Int × Int)) (w : World) (h : Rx w fun w => RdG 2 (PaR) w ao n cap xs) (he : ∀ args w, (callFunc g args).run Try.prog w = .ok (.enter g args) w)
    (HF : ∀ w cs x, x ∈ xs → (Rx w fun w => PaR w cs x) → Calls Try.prog g #[.agg cs.toArray] w fun e w' => e = .returned (.bool (p x)) ∧ Below w.heap.size w w') :
    Calls Try.prog 46 #[.slice ao n cap, .func (.func g) #[] #[]] w fun e w' => e = .returned (.bool (xs.all p)) ∧ Below w.heap.size w w' := by
  have hl := h.now.len
  obtain ⟨h63, h63'⟩ := h.now.cap63
  have H := hid h
  have Hl := hid hl
  have HFF := hid HF
  clear h HF
  go_enter Try.func46, Try.ntmps46
  go_wp2_with fail
  go_loopw [9] (fun i wr => ∃ k : Nat, k ≤ n ∧ i = .int .i64 k ∧ Hid ((xs.take k).all p = true) ∧ Below w.heap.size w wr) (fun i _ => n - (intOf i).toNat)
  case atStart => exact ⟨0, Nat.zero_le _, rfl, by simp [Hid], Below.refl _ _⟩
  case round =>
    obtain ⟨k, hkn, rfl, HA, hb⟩ := hrel
    have hsz := hb.size
    have HB := hid hb
    clear hb
    by_cases hk : k < n
    · obtain ⟨x, hx⟩ : ∃ x, xs[k]? = some x := ⟨xs[k]'(by omega), List.getElem?_eq_getElem (by omega)⟩
      obtain ⟨b, off, cs, rfl, hcl, hR, hc⟩ := RdG.elem (H.out.below HB.out) hx
      obtain ⟨y1, y2⟩ := x
      obtain ⟨rfl, hy1, hy2⟩ := hR.now
      have c0 := hc 0 _ rfl
      rw [Nat.add_zero] at c0
      have c1 := hc 1 _ rfl
      have HR := hid hR
      have hcut := hid (all_cut p xs k _ hx HA.out)
      have HX := hid (List.mem_of_getElem? hx)
      clear hc hR hx hcl hy1 hy2 hl
      have hcall := HFF.out (wr.alloc (.cells #[.int .i64 y1, .int .i64 y2] 44)) _ _ HX.out (HR.out.alloc _)
      obtain ⟨px, hpx⟩ : ∃ px, p ⟨y1, y2⟩ = px := ⟨_, rfl⟩
      rw [hpx] at hcall
      have HCALL := hid hcall
      have HPX := hid hpx
      clear hpx hcall
      go_wp2_with fail
      refine HCALL.out.mono ?_
      rintro e w1 ⟨rfl, hb1⟩
      have HB1 := hid (HB.out.trans ((Bl.step (Bl.alloc (Bl.refl wr) _) hb1).mono hsz))
      clear hb1 HCALL c0 c1
      cases px with
      | true =>
        have HA2 := hid (hcut.out.2 HPX.out)
        clear hcut HPX HA
        go_wp2_with fail
        go_roundw
        case rel => exact ⟨k + 1, by omega, by go_num, HA2.out, HB1.out⟩
        case measure => simp [intOf]; omega
      | false =>
        have HA2 := hid (hcut.out.1 HPX.out)
        clear hcut HPX HA
        go_wp2_with fail
        exact bodyPost_ret (v := .bool false) (by simp [results, Try.results46, go_sem]) rfl ⟨by rw [HA2.out], HB1.out⟩
    · have e0 : k = n := by omega
      subst e0
      have ht : xs.take k = xs := List.take_of_length_le (by rw [Hl.out]; exact Nat.le_refl _)
      have ha := HA.out
      rw [ht] at ha
      have HA2 := hid ha
      clear ht ha hl
      go_wp2_with fail
      exact bodyPost_ret (v := .bool true) (by simp [results, Try.results46, go_sem]) rfl ⟨by rw [HA2.out], HB.out⟩

set_option maxRecDepth 100000 in
set_option maxHeartbeats 1000000 in
theorem allFr_to (g : Nat) (p : Fm → Bool) (ao : Option Addr) (n cap : Nat) (xs : List (Fm)) (w : World) (h : Rx w fun w => RdG 5 (FrR) w ao n cap xs) (he : ∀ args w, (callFunc g args).run Try.prog w = .ok (.enter g args) w)
    (HF : ∀ w cs x, x ∈ xs → (Rx w fun w => FrR w cs x) → Calls Try.prog g #[.agg cs.toArray] w fun e w' => e = .returned (.bool (p x)) ∧ Below w.heap.size w w') :
    Calls Try.prog 25 #[.slice ao n cap, .func (.func g) #[] #[]] w fun e w' => e = .returned (.bool (xs.all p)) ∧ Below w.heap.size w w' := by
  have hl := h.now.len
  obtain ⟨h63, h63'⟩ := h.now.cap63
  have H := hid h
  have Hl := hid hl
  have HFF := hid HF
  clear h HF
  go_enter Try.func25, Try.ntmps25
  go_wp2_with fail
  go_loopw [9] (fun i wr => ∃ k : Nat, k ≤ n ∧ i = .int .i64 k ∧ Hid ((xs.take k).all p = true) ∧ Below w.heap.size w wr) (fun i _ => n - (intOf i).toNat)
  case atStart => exact ⟨0, Nat.zero_le _, rfl, by simp [Hid], Below.refl _ _⟩
  case round =>
    obtain ⟨k, hkn, rfl, HA, hb⟩ := hrel
    have hsz := hb.size
    have HB := hid hb
    clear hb
    by_cases hk : k < n
    · obtain ⟨x, hx⟩ : ∃ x, xs[k]? = some x := ⟨xs[k]'(by omega), List.getElem?_eq_getElem (by omega)⟩
      obtain ⟨b, off, cs, rfl, hcl, hR, hc⟩ := RdG.elem (H.out.below HB.out) hx
      obtain ⟨y1, y2, y3, y4, y5⟩ := x
      obtain ⟨a1, n1, k1, a2, n2, k2, rfl, hr1, hr2, hy1, hy2, hy4⟩ := hR.now
      have c0 := hc 0 _ rfl
      rw [Nat.add_zero] at c0
      have c1 := hc 1 _ rfl
      have c2 := hc 2 _ rfl
      have c3 := hc 3 _ rfl
      have c4 := hc 4 _ rfl
      have HR := hid hR
      have hcut := hid (all_cut p xs k _ hx HA.out)
      have HX := hid (List.mem_of_getElem? hx)
      clear hc hR hx hcl hr1 hr2 hy1 hy2 hy4 hl
      have hcall := HFF.out (wr.alloc (.cells #[.int .i64 y1, .int .i64 y2, .slice a1 n1 k1, .int .i64 y4, .slice a2 n2 k2] 42)) _ _ HX.out (HR.out.alloc _)
      obtain ⟨px, hpx⟩ : ∃ px, p ⟨y1, y2, y3, y4, y5⟩ = px := ⟨_, rfl⟩
      rw [hpx] at hcall
      have HCALL := hid hcall
      have HPX := hid hpx
      clear hpx hcall
      go_wp2_with fail
      refine HCALL.out.mono ?_
      rintro e w1 ⟨rfl, hb1⟩
      have HB1 := hid (HB.out.trans ((Bl.step (Bl.alloc (Bl.refl wr) _) hb1).mono hsz))
      clear hb1 HCALL c0 c1 c2 c3 c4
      cases px with
      | true =>
        have HA2 := hid (hcut.out.2 HPX.out)
        clear hcut HPX HA
        go_wp2_with fail
        go_roundw
        case rel => exact ⟨k + 1, by omega, by go_num, HA2.out, HB1.out⟩
        case measure => simp [intOf]; omega
      | false =>
        have HA2 := hid (hcut.out.1 HPX.out)
        clear hcut HPX HA
        go_wp2_with fail
        exact bodyPost_ret (v := .bool false) (by simp [results, Try.results25, go_sem]) rfl ⟨by rw [HA2.out], HB1.out⟩
    · have e0 : k = n := by omega
      subst e0
      have ht : xs.take k = xs := List.take_of_length_le (by rw [Hl.out]; exact Nat.le_refl _)
      have ha := HA.out
      rw [ht] at ha
      have HA2 := hid ha
      clear ht ha hl
      go_wp2_with fail
      exact bodyPost_ret (v := .bool true) (by simp [results, Try.results25, go_sem]) rfl ⟨by rw [HA2.out], HB.out⟩
end Go.Proofs.Ytnbegmlbkjjggaa
