/- package state: Eq: slices.Equal and EqualFunc at each type, eqFrame, Eq. Written by gen_sf.py. -/
import Derived.Test.YtnbegmlbkjjggaaSfB
namespace Go.Proofs.Ytnbegmlbkjjggaa
open Go.RowKit
set_option linter.unusedVariables false

/-- As long as one another, and alike one by one. -/
def eqG {α : Type} (e : α → α → Bool) (xs ys : List α) : Bool := decide (xs.length = ys.length) && (xs.zip ys).all fun p => e p.1 p.2
theorem eqG_len {α : Type} {e : α → α → Bool} {xs ys : List α} (h : xs.length = ys.length) : eqG e xs ys = (xs.zip ys).all fun p => e p.1 p.2 := by simp [eqG, h]
theorem eqG_ne {α : Type} {e : α → α → Bool} {xs ys : List α} (h : ¬ xs.length = ys.length) : eqG e xs ys = false := by simp [eqG, h]
theorem eqG_iff {α : Type} {e : α → α → Bool} (he : ∀ x y, e x y = true ↔ x = y) : ∀ (xs ys : List α), eqG e xs ys = true ↔ xs = ys
  | [], [] => by simp [eqG]
  | [], y :: q => by simp [eqG]
  | x :: r, [] => by simp [eqG]
  | x :: r, y :: q => by
    have ih := eqG_iff he r q
    simp [eqG] at ih ⊢
    rw [he, and_left_comm, ih]
def eqVa (a b : Int × Int) : Bool := a.1 == b.1 && a.2 == b.2
def eqLa (a b : Int × Int) : Bool := a.1 == b.1 && a.2 == b.2

theorem neqVa (y1 y2 z1 z2 : Int) (w : World) : (binOp .neq 39 (.agg #[.int .i64 y1, .int .i64 y2]) (.agg #[.int .i64 z1, .int .i64 z2])).run Try.prog w = .ok (.bool (!(eqVa ⟨y1, y2⟩ ⟨z1, z2⟩))) w := by
  go_simp
  unfold eqVa
  by_cases h1 : y1 = z1
  · by_cases h2 : y2 = z2
    · simp [h1, h2]
    · simp [h1, h2]
  · simp [h1]
set_option maxRecDepth 100000 in
set_option maxHeartbeats 1000000 in
theorem equVa_to (ao : Option Addr) (n cap : Nat) (xs : List ((Int × Int))) (bo : Option Addr) (m bap : Nat) (ys : List ((Int × Int))) (w : World) (h : Rx w fun w => RdG 2 (PaR) w ao n cap xs) (h' : Rx w fun w => RdG 2 (PaR) w bo m bap ys) :
    Calls Try.prog 29 #[.slice ao n cap, .slice bo m bap] w fun e w' => e = .returned (.bool (eqG eqVa xs ys)) ∧ Below w.heap.size w w' := by
  have hl := h.now.len
  have hl' := h'.now.len
  obtain ⟨h63, _⟩ := h.now.cap63
  obtain ⟨g63, _⟩ := h'.now.cap63
  by_cases hnm : n = m
  · subst hnm
    rw [eqG_len (by rw [hl, hl'])]
    have H := hid h
    have H' := hid h'
    have Hl := hid hl
    have Hl' := hid hl'
    clear h h'
    go_enter Try.func29, Try.ntmps29
    go_wp2_with fail
    go_loopw [5, 13] (fun _ i wr => ∃ k : Nat, k ≤ n ∧ i = .int .i64 k ∧ Hid (((xs.zip ys).take k).all (fun q => eqVa q.1 q.2) = true) ∧ Below w.heap.size w wr) (fun _ i _ => n - (intOf i).toNat)
    case atStart => exact ⟨0, Nat.zero_le _, rfl, by simp [Hid], Below.refl _ _⟩
    case round =>
      obtain ⟨k, hkn, rfl, HA, hb⟩ := hrel
      have hsz := hb.size
      have HB := hid hb
      clear hb
      by_cases hk : k < n
      · obtain ⟨x, hx⟩ : ∃ x, xs[k]? = some x := ⟨xs[k]'(by omega), List.getElem?_eq_getElem (by omega)⟩
        obtain ⟨z, hz⟩ : ∃ y, ys[k]? = some y := ⟨ys[k]'(by omega), List.getElem?_eq_getElem (by omega)⟩
        have hzp : (xs.zip ys)[k]? = some (x, z) := by rw [List.getElem?_zip_eq_some]; exact ⟨hx, hz⟩
        obtain ⟨b, off, cs, rfl, hcl, hR, hc⟩ := RdG.elem (H.out.below HB.out) hx
        obtain ⟨b', off', cs', rfl, hcl', hR', hc'⟩ := RdG.elem (H'.out.below HB.out) hz
        obtain ⟨y1, y2⟩ := x
        obtain ⟨z1, z2⟩ := z
        obtain ⟨rfl, hy1, hy2⟩ := hR.now
        obtain ⟨rfl, gy1, gy2⟩ := hR'.now
        have c0 := hc 0 _ rfl
        rw [Nat.add_zero] at c0
        have c1 := hc 1 _ rfl
        have g0 := hc' 0 _ rfl
        rw [Nat.add_zero] at g0
        have g1 := hc' 1 _ rfl
        have hcut := hid (all_cut (fun q : (Int × Int) × (Int × Int) => eqVa q.1 q.2) (xs.zip ys) k _ hzp HA.out)
        clear hc hR hx hcl hy1 hy2 hl hc' hR' hz hcl' gy1 gy2 hl' hzp
        have hneq := neqVa y1 y2 z1 z2
        obtain ⟨px, hpx⟩ : ∃ px, eqVa ⟨y1, y2⟩ ⟨z1, z2⟩ = px := ⟨_, rfl⟩
        rw [hpx] at hneq
        have HPX := hid hpx
        clear hpx
        cases px with
        | true =>
          have HA2 := hid (hcut.out.2 HPX.out)
          clear hcut HPX HA
          go_wp2_with fail
          go_quiet (fail)
          go_wp2_with fail
          go_roundw
          case rel => exact ⟨k + 1, by omega, by go_num, HA2.out, HB.out.trans (below_drewN _ _ _)⟩
          case measure => simp [intOf]; omega
        | false =>
          have HA2 := hid (hcut.out.1 HPX.out)
          clear hcut HPX HA
          go_wp2_with fail
          go_quiet (fail)
          go_wp2_with fail
          exact bodyPost_ret (v := .bool false) (by simp [results, Try.results29, go_sem]) rfl ⟨by rw [HA2.out], HB.out.trans (below_drewN _ _ _)⟩
      · have e0 : k = n := by omega
        subst e0
        have ht : (xs.zip ys).take k = xs.zip ys := List.take_of_length_le (by rw [List.length_zip, Hl.out, Hl'.out]; simp)
        have ha := HA.out
        rw [ht] at ha
        have HA2 := hid ha
        clear ht ha hl hl'
        go_wp2_with fail
        exact bodyPost_ret (v := .bool true) (by simp [results, Try.results29, go_sem]) rfl ⟨by rw [HA2.out], HB.out⟩
  · rw [eqG_ne (by rw [hl, hl']; exact hnm)]
    have e' : ((n : Int) != (m : Int)) = true := by simp; omega
    clear h h' hl hl'
    go_enter Try.func29, Try.ntmps29
    go_wp2_with fail
    go_ret
    exact ⟨rfl, Below.refl _ _⟩

theorem neqLa (y1 y2 z1 z2 : Int) (w : World) : (binOp .neq 44 (.agg #[.int .i64 y1, .int .i64 y2]) (.agg #[.int .i64 z1, .int .i64 z2])).run Try.prog w = .ok (.bool (!(eqLa ⟨y1, y2⟩ ⟨z1, z2⟩))) w := by
  go_simp
  unfold eqLa
  by_cases h1 : y1 = z1
  · by_cases h2 : y2 = z2
    · simp [h1, h2]
    · simp [h1, h2]
  · simp [h1]
set_option maxRecDepth 100000 in
set_option maxHeartbeats 1000000 in
theorem equLa_to (ao : Option Addr) (n cap : Nat) (xs : List ((Int × Int))) (bo : Option Addr) (m bap : Nat) (ys : List ((Int × Int))) (w : World) (h : Rx w fun w => RdG 2 (PaR) w ao n cap xs) (h' : Rx w fun w => RdG 2 (PaR) w bo m bap ys) :
    Calls Try.prog 49 #[.slice ao n cap, .slice bo m bap] w fun e w' => e = .returned (.bool (eqG eqLa xs ys)) ∧ Below w.heap.size w w' := by
  have hl := h.now.len
  have hl' := h'.now.len
  obtain ⟨h63, _⟩ := h.now.cap63
  obtain ⟨g63, _⟩ := h'.now.cap63
  by_cases hnm : n = m
  · subst hnm
    rw [eqG_len (by rw [hl, hl'])]
    have H := hid h
    have H' := hid h'
    have Hl := hid hl
    have Hl' := hid hl'
    clear h h'
    go_enter Try.func49, Try.ntmps49
    go_wp2_with fail
    go_loopw [5, 13] (fun _ i wr => ∃ k : Nat, k ≤ n ∧ i = .int .i64 k ∧ Hid (((xs.zip ys).take k).all (fun q => eqLa q.1 q.2) = true) ∧ Below w.heap.size w wr) (fun _ i _ => n - (intOf i).toNat)
    case atStart => exact ⟨0, Nat.zero_le _, rfl, by simp [Hid], Below.refl _ _⟩
    case round =>
      obtain ⟨k, hkn, rfl, HA, hb⟩ := hrel
      have hsz := hb.size
      have HB := hid hb
      clear hb
      by_cases hk : k < n
      · obtain ⟨x, hx⟩ : ∃ x, xs[k]? = some x := ⟨xs[k]'(by omega), List.getElem?_eq_getElem (by omega)⟩
        obtain ⟨z, hz⟩ : ∃ y, ys[k]? = some y := ⟨ys[k]'(by omega), List.getElem?_eq_getElem (by omega)⟩
        have hzp : (xs.zip ys)[k]? = some (x, z) := by rw [List.getElem?_zip_eq_some]; exact ⟨hx, hz⟩
        obtain ⟨b, off, cs, rfl, hcl, hR, hc⟩ := RdG.elem (H.out.below HB.out) hx
        obtain ⟨b', off', cs', rfl, hcl', hR', hc'⟩ := RdG.elem (H'.out.below HB.out) hz
        obtain ⟨y1, y2⟩ := x
        obtain ⟨z1, z2⟩ := z
        obtain ⟨rfl, hy1, hy2⟩ := hR.now
        obtain ⟨rfl, gy1, gy2⟩ := hR'.now
        have c0 := hc 0 _ rfl
        rw [Nat.add_zero] at c0
        have c1 := hc 1 _ rfl
        have g0 := hc' 0 _ rfl
        rw [Nat.add_zero] at g0
        have g1 := hc' 1 _ rfl
        have hcut := hid (all_cut (fun q : (Int × Int) × (Int × Int) => eqLa q.1 q.2) (xs.zip ys) k _ hzp HA.out)
        clear hc hR hx hcl hy1 hy2 hl hc' hR' hz hcl' gy1 gy2 hl' hzp
        have hneq := neqLa y1 y2 z1 z2
        obtain ⟨px, hpx⟩ : ∃ px, eqLa ⟨y1, y2⟩ ⟨z1, z2⟩ = px := ⟨_, rfl⟩
        rw [hpx] at hneq
        have HPX := hid hpx
        clear hpx
        cases px with
        | true =>
          have HA2 := hid (hcut.out.2 HPX.out)
          clear hcut HPX HA
          go_wp2_with fail
          go_quiet (fail)
          go_wp2_with fail
          go_roundw
          case rel => exact ⟨k + 1, by omega, by go_num, HA2.out, HB.out.trans (below_drewN _ _ _)⟩
          case measure => simp [intOf]; omega
        | false =>
          have HA2 := hid (hcut.out.1 HPX.out)
          clear hcut HPX HA
          go_wp2_with fail
          go_quiet (fail)
          go_wp2_with fail
          exact bodyPost_ret (v := .bool false) (by simp [results, Try.results49, go_sem]) rfl ⟨by rw [HA2.out], HB.out.trans (below_drewN _ _ _)⟩
      · have e0 : k = n := by omega
        subst e0
        have ht : (xs.zip ys).take k = xs.zip ys := List.take_of_length_le (by rw [List.length_zip, Hl.out, Hl'.out]; simp)
        have ha := HA.out
        rw [ht] at ha
        have HA2 := hid ha
        clear ht ha hl hl'
        go_wp2_with fail
        exact bodyPost_ret (v := .bool true) (by simp [results, Try.results49, go_sem]) rfl ⟨by rw [HA2.out], HB.out⟩
  · rw [eqG_ne (by rw [hl, hl']; exact hnm)]
    have e' : ((n : Int) != (m : Int)) = true := by simp; omega
    clear h h' hl hl'
    go_enter Try.func49, Try.ntmps49
    go_wp2_with fail
    go_ret
    exact ⟨rfl, Below.refl _ _⟩

set_option maxRecDepth 100000 in
set_option maxHeartbeats 1000000 in
theorem eqfFr_to (g : Nat) (p : Fm → Fm → Bool) (ao : Option Addr) (n cap : Nat) (xs : List (Fm)) (bo : Option Addr) (m bap : Nat) (ys : List (Fm)) (w : World) (h : Rx w fun w => RdG 5 (FrR) w ao n cap xs) (h' : Rx w fun w => RdG 5 (FrR) w bo m bap ys) (he : ∀ args w, (callFunc g args).run Try.prog w = .ok (.enter g args) w)
    (HF : ∀ w cs x ds y, (Rx w fun w => FrR w cs x) → (Rx w fun w => FrR w ds y) → Calls Try.prog g #[.agg cs.toArray, .agg ds.toArray] w fun e w' => e = .returned (.bool (p x y)) ∧ Below w.heap.size w w') :
    Calls Try.prog 30 #[.slice ao n cap, .slice bo m bap, .func (.func g) #[] #[]] w fun e w' => e = .returned (.bool (eqG p xs ys)) ∧ Below w.heap.size w w' := by
  have hl := h.now.len
  have hl' := h'.now.len
  obtain ⟨h63, _⟩ := h.now.cap63
  obtain ⟨g63, _⟩ := h'.now.cap63
  by_cases hnm : n = m
  · subst hnm
    rw [eqG_len (by rw [hl, hl'])]
    have H := hid h
    have H' := hid h'
    have HFF := hid HF
    have Hl := hid hl
    have Hl' := hid hl'
    clear h HF h'
    go_enter Try.func30, Try.ntmps30
    go_wp2_with fail
    go_loopw [7, 17] (fun _ i wr => ∃ k : Nat, k ≤ n ∧ i = .int .i64 k ∧ Hid (((xs.zip ys).take k).all (fun q => p q.1 q.2) = true) ∧ Below w.heap.size w wr) (fun _ i _ => n - (intOf i).toNat)
    case atStart => exact ⟨0, Nat.zero_le _, rfl, by simp [Hid], Below.refl _ _⟩
    case round =>
      obtain ⟨k, hkn, rfl, HA, hb⟩ := hrel
      have hsz := hb.size
      have HB := hid hb
      clear hb
      by_cases hk : k < n
      · obtain ⟨x, hx⟩ : ∃ x, xs[k]? = some x := ⟨xs[k]'(by omega), List.getElem?_eq_getElem (by omega)⟩
        obtain ⟨z, hz⟩ : ∃ y, ys[k]? = some y := ⟨ys[k]'(by omega), List.getElem?_eq_getElem (by omega)⟩
        have hzp : (xs.zip ys)[k]? = some (x, z) := by rw [List.getElem?_zip_eq_some]; exact ⟨hx, hz⟩
        obtain ⟨b, off, cs, rfl, hcl, hR, hc⟩ := RdG.elem (H.out.below HB.out) hx
        obtain ⟨y1, y2, y3, y4, y5⟩ := x
        obtain ⟨a1, n1, k1, a2, n2, k2, rfl, hr1, hr2, hy1, hy2, hy4⟩ := hR.now
        obtain ⟨b', off', cs', rfl, hcl', hR', hc'⟩ := RdG.elem (H'.out.below (HB.out.trans ((Bl.alloc (Bl.refl wr) (.cells #[.int .i64 y1, .int .i64 y2, .slice a1 n1 k1, .int .i64 y4, .slice a2 n2 k2] 42)).mono hsz))) hz
        obtain ⟨z1, z2, z3, z4, z5⟩ := z
        obtain ⟨d1, m1, j1, d2, m2, j2, rfl, gr1, gr2, gy1, gy2, gy4⟩ := hR'.now
        have c0 := hc 0 _ rfl
        rw [Nat.add_zero] at c0
        have c1 := hc 1 _ rfl
        have c2 := hc 2 _ rfl
        have c3 := hc 3 _ rfl
        have c4 := hc 4 _ rfl
        have g0 := hc' 0 _ rfl
        rw [Nat.add_zero] at g0
        have g1 := hc' 1 _ rfl
        have g2 := hc' 2 _ rfl
        have g3 := hc' 3 _ rfl
        have g4 := hc' 4 _ rfl
        have HR := hid hR
        have HR' := hid hR'
        have hcut := hid (all_cut (fun q : Fm × Fm => p q.1 q.2) (xs.zip ys) k _ hzp HA.out)
        clear hc hR hx hcl hr1 hr2 hy1 hy2 hy4 hl hc' hR' hz hcl' gr1 gr2 gy1 gy2 gy4 hl' hzp
        have hcall := HFF.out ((wr.alloc (.cells #[.int .i64 y1, .int .i64 y2, .slice a1 n1 k1, .int .i64 y4, .slice a2 n2 k2] 42)).alloc (.cells #[.int .i64 z1, .int .i64 z2, .slice d1 m1 j1, .int .i64 z4, .slice d2 m2 j2] 42)) _ _ _ _ ((HR.out.alloc _).alloc _) (HR'.out.alloc _)
        obtain ⟨px, hpx⟩ : ∃ px, p ⟨y1, y2, y3, y4, y5⟩ ⟨z1, z2, z3, z4, z5⟩ = px := ⟨_, rfl⟩
        rw [hpx] at hcall
        have HCALL := hid hcall
        have HPX := hid hpx
        clear hpx hcall
        go_wp2_with fail
        refine HCALL.out.mono ?_
        rintro e w1 ⟨rfl, hb1⟩
        have HB1 := hid (HB.out.trans ((Bl.step (Bl.alloc (Bl.alloc (Bl.refl wr) _) _) hb1).mono hsz))
        clear hb1 HCALL c0 c1 c2 c3 c4 g0 g1 g2 g3 g4
        cases px with
        | true =>
          have HA2 := hid (hcut.out.2 HPX.out)
          clear hcut HPX HA
          go_wp2_with fail
          go_roundw
          case rel => exact ⟨k + 1, by omega, by go_num, HA2.out, HB1.out⟩
          case measure => simp [intOf]; omega
        | false =>
          have HA2 := hid (hcut.out.1 HPX.out)
          clear hcut HPX HA
          go_wp2_with fail
          exact bodyPost_ret (v := .bool false) (by simp [results, Try.results30, go_sem]) rfl ⟨by rw [HA2.out], HB1.out⟩
      · have e0 : k = n := by omega
        subst e0
        have ht : (xs.zip ys).take k = xs.zip ys := List.take_of_length_le (by rw [List.length_zip, Hl.out, Hl'.out]; simp)
        have ha := HA.out
        rw [ht] at ha
        have HA2 := hid ha
        clear ht ha hl hl'
        go_wp2_with fail
        exact bodyPost_ret (v := .bool true) (by simp [results, Try.results30, go_sem]) rfl ⟨by rw [HA2.out], HB.out⟩
  · rw [eqG_ne (by rw [hl, hl']; exact hnm)]
    have e' : ((n : Int) != (m : Int)) = true := by simp; omega
    clear h h' HF hl hl'
    go_enter Try.func30, Try.ntmps30
    go_wp2_with fail
    go_ret
    exact ⟨rfl, Below.refl _ _⟩

theorem en_eqFrame : ∀ args w, (callFunc 31 args).run Try.prog w = .ok (.enter 31 args) w := enters_of Try.func31 (by kernel_rfl) rfl
def eqFm (a b : Fm) : Bool := a.fn == b.fn && (a.pc == b.pc && (a.base == b.base && (eqG eqVa a.ls b.ls && eqG eqLa a.lb b.lb)))
def eqSt (a b : St) : Bool := a.asks == b.asks && (eqG eqVa a.vs b.vs && eqG eqFm a.fs b.fs)
theorem eqVa_iff (x y : Int × Int) : eqVa x y = true ↔ x = y := by
  obtain ⟨a, b⟩ := x; obtain ⟨c, d⟩ := y
  simp [eqVa]
theorem eqFm_iff (x y : Fm) : eqFm x y = true ↔ x = y := by
  obtain ⟨a, b, c, d, e⟩ := x; obtain ⟨a', b', c', d', e'⟩ := y
  simp only [eqFm, Bool.and_eq_true, eqG_iff eqVa_iff, eqG_iff (e := eqLa) eqVa_iff, beq_iff_eq, Fm.mk.injEq]
  constructor
  · rintro ⟨h1, h2, h3, h4, h5⟩; exact ⟨h1, h2, h4, h3, h5⟩
  · rintro ⟨h1, h2, h4, h3, h5⟩; exact ⟨h1, h2, h3, h4, h5⟩
theorem eqSt_iff (x y : St) : eqSt x y = true ↔ x = y := by
  obtain ⟨a, b, c⟩ := x; obtain ⟨a', b', c'⟩ := y
  simp only [eqSt, Bool.and_eq_true, eqG_iff eqVa_iff, eqG_iff eqFm_iff, beq_iff_eq, St.mk.injEq]
  constructor
  · rintro ⟨h1, h2, h3⟩; exact ⟨h2, h3, h1⟩
  · rintro ⟨h1, h2, h3⟩; exact ⟨h3, h1, h2⟩

set_option maxRecDepth 100000 in
set_option maxHeartbeats 2000000 in
theorem eqFrame_to (x y : Fm) (cs ds : List Value) (w : World) (h : Rx w fun w => FrR w cs x) (h' : Rx w fun w => FrR w ds y) : Calls Try.prog 31 #[.agg cs.toArray, .agg ds.toArray] w fun e w' => e = .returned (.bool (eqFm x y)) ∧ Below w.heap.size w w' := by
  obtain ⟨a1, n1, k1, a2, n2, k2, rfl, hr1, hr2, hw1, hw2, hw3⟩ := h.now
  obtain ⟨a1', n1', k1', a2', n2', k2', rfl, gr1, gr2, gw1, gw2, gw3⟩ := h'.now
  obtain ⟨fn, pc, ls, base, lb⟩ := x
  obtain ⟨fn', pc', ls', base', lb'⟩ := y
  simp only at hr1 hr2 gr1 gr2 ⊢
  clear h h' hw1 hw2 hw3 gw1 gw2 gw3
  obtain ⟨t, ht⟩ : ∃ t, eqFm ⟨fn, pc, ls, base, lb⟩ ⟨fn', pc', ls', base', lb'⟩ = t := ⟨_, rfl⟩
  rw [ht]
  have e1 : eqFm ⟨fn, pc, ls, base, lb⟩ ⟨fn', pc', ls', base', lb'⟩ = (fn == fn' && (pc == pc' && (base == base' && (eqG eqVa ls ls' && eqG eqLa lb lb')))) := rfl
  rw [e1] at ht
  have HT := hid ht
  obtain ⟨p, hp⟩ : ∃ p, w.heap.size = p := ⟨_, rfl⟩
  obtain ⟨w0, hw0⟩ : ∃ w0, (w.alloc (.cells #[.int .i64 fn, .int .i64 pc, .slice a1 n1 k1, .int .i64 base, .slice a2 n2 k2] 42)) = w0 := ⟨_, rfl⟩
  have hb0 : Below w.heap.size w w0 := by rw [← hw0]; exact Bl.alloc (Bl.refl w) _
  have hc0 : Cel w0 p [.int .i64 fn, .int .i64 pc, .slice a1 n1 k1, .int .i64 base, .slice a2 n2 k2] := by rw [← hw0, ← hp]; exact Cel.new w _ _
  have hq : w0.heap.size = p + 1 := by rw [← hw0, ← hp]; simp
  obtain ⟨w1, hw1⟩ : ∃ w1, (w0.alloc (.cells #[.int .i64 fn', .int .i64 pc', .slice a1' n1' k1', .int .i64 base', .slice a2' n2' k2'] 42)) = w1 := ⟨_, rfl⟩
  have hb1 : Below w0.heap.size w0 w1 := by rw [← hw1]; exact Bl.alloc (Bl.refl w0) _
  have hc1 : Cel w1 (p + 1) [.int .i64 fn', .int .i64 pc', .slice a1' n1' k1', .int .i64 base', .slice a2' n2' k2'] := by rw [← hw1, ← hq]; exact Cel.new w0 _ _
  have hd0 : Cel w1 p [.int .i64 fn, .int .i64 pc, .slice a1 n1 k1, .int .i64 base, .slice a2 n2 k2] := hc0.below (Nat.succ_pos _) hb1
  have hqs : p + 1 < w1.heap.size := by rw [← hw1, ← hq]; simp
  have hps : p < w1.heap.size := by omega
  have hbb : Below w.heap.size w w1 := hb0.trans (hb1.mono hb0.size)
  have g0 := hd0.cell 0 _ rfl
  have f0 := hc1.cell 0 _ rfl
  have g1 := hd0.cell 1 _ rfl
  have f1 := hc1.cell 1 _ rfl
  have g2 := hd0.cell 2 _ rfl
  have f2 := hc1.cell 2 _ rfl
  have g3 := hd0.cell 3 _ rfl
  have f3 := hc1.cell 3 _ rfl
  have g4 := hd0.cell 4 _ rfl
  have f4 := hc1.cell 4 _ rfl
  have HR1 := hid (hr1.below2 hbb)
  have HR2 := hid (hr2.below2 hbb)
  have GR1 := hid (gr1.below2 hbb)
  have GR2 := hid (gr2.below2 hbb)
  have HB := hid hbb
  have HP := hid hp
  have HQ := hid hq
  have HW0 := hid hw0
  have HW1 := hid hw1
  clear ht e1 hr1 hr2 gr1 gr2 hb0 hb1 hbb hc0 hc1 hd0 hp hq hw0 hw1
  cases c0 : (fn == fn')
  ·
    go_enter Try.func31, Try.ntmps31
    go_wp2_with fail
    rw [HW0.out, HP.out, HW1.out]
    go_wp2_with fail
    go_ret
    exact ⟨rb (by rw [← HT.out]; simp [c0]), by first | exact HB.out | (rw [← HP.out]; exact HB.out)⟩
  cases c1 : (pc == pc')
  ·
    go_enter Try.func31, Try.ntmps31
    go_wp2_with fail
    rw [HW0.out, HP.out, HW1.out]
    go_wp2_with fail
    go_ret
    exact ⟨rb (by rw [← HT.out]; simp [c1]), by first | exact HB.out | (rw [← HP.out]; exact HB.out)⟩
  cases c2 : (base == base')
  ·
    go_enter Try.func31, Try.ntmps31
    go_wp2_with fail
    rw [HW0.out, HP.out, HW1.out]
    go_wp2_with fail
    go_ret
    exact ⟨rb (by rw [← HT.out]; simp [c2]), by first | exact HB.out | (rw [← HP.out]; exact HB.out)⟩
  obtain ⟨t0, ht0⟩ : ∃ t0, eqG eqVa ls ls' = t0 := ⟨_, rfl⟩
  have HA0 : Hid (∀ w2, Below w1.heap.size w1 w2 → Calls Try.prog 29 #[.slice a1 n1 k1, .slice a1' n1' k1'] w2 fun e w' => e = .returned (.bool t0) ∧ Below w2.heap.size w2 w') := hid fun w2 hb => by rw [← ht0]; exact equVa_to _ _ _ _ _ _ _ _ w2 (RdG.parx (HR1.out.below2 hb)) (RdG.parx (GR1.out.below2 hb))
  have HT0 := hid ht0
  clear ht0
  cases t0 with
  | false =>
    go_enter Try.func31, Try.ntmps31
    go_wp2_with fail
    rw [HW0.out, HP.out, HW1.out]
    go_wp2_with (first | (go_at_call 29; refine Calls.mono (HA0.out _ (Below.refl _ _)) ?_; rintro e v0 ⟨rfl, hbn⟩; have g4 := (hbn.cell (p := ⟨p, 4, none⟩) hps).trans g4; have f4 := (hbn.cell (p := ⟨p + 1, 4, none⟩) hqs).trans f4; have hbc0 := hid hbn))
    go_ret
    exact ⟨rb (by rw [← HT.out, HT0.out]; simp [c0, c1, c2]), by first | exact HB.out.trans (hbc0.out.mono HB.out.size) | (rw [← HP.out]; exact HB.out.trans (hbc0.out.mono HB.out.size))⟩
  | true =>
    obtain ⟨t1, ht1⟩ : ∃ t1, eqG eqLa lb lb' = t1 := ⟨_, rfl⟩
    have HA1 : Hid (∀ w2, Below w1.heap.size w1 w2 → Calls Try.prog 49 #[.slice a2 n2 k2, .slice a2' n2' k2'] w2 fun e w' => e = .returned (.bool t1) ∧ Below w2.heap.size w2 w') := hid fun w2 hb => by rw [← ht1]; exact equLa_to _ _ _ _ _ _ _ _ w2 (RdG.parx (HR2.out.below2 hb)) (RdG.parx (GR2.out.below2 hb))
    have HT1 := hid ht1
    clear ht1
    go_enter Try.func31, Try.ntmps31
    go_wp2_with fail
    rw [HW0.out, HP.out, HW1.out]
    go_wp2_with (first | (go_at_call 29; refine Calls.mono (HA0.out _ (Below.refl _ _)) ?_; rintro e v0 ⟨rfl, hbn⟩; have g4 := (hbn.cell (p := ⟨p, 4, none⟩) hps).trans g4; have f4 := (hbn.cell (p := ⟨p + 1, 4, none⟩) hqs).trans f4; have hbc0 := hid hbn) | (go_at_call 49; refine Calls.mono (HA1.out _ hbc0.out) ?_; rintro e v1 ⟨rfl, hbn⟩; have hbc1 := hid (hbc0.out.trans (hbn.mono hbc0.out.size))))
    go_ret
    exact ⟨rb (by rw [← HT.out, HT0.out, HT1.out]; simp [c0, c1, c2]), by first | exact HB.out.trans (hbc1.out.mono HB.out.size) | (rw [← HP.out]; exact HB.out.trans (hbc1.out.mono HB.out.size))⟩

set_option maxRecDepth 100000 in
set_option maxHeartbeats 2000000 in
theorem eqState_to (V V' : SV) (S S' : St) (w : World) (h : StR V S w) (h' : StR V' S' w) : Calls Try.prog 13 #[.agg (V.cells S).toArray, .agg (V'.cells S').toArray] w fun e w' => e = .returned (.bool (eqSt S S')) ∧ Below w.heap.size w w' := by
  obtain ⟨vo, vn, vc, fo, fn, fc⟩ := V
  obtain ⟨vs, fs, asks⟩ := S
  obtain ⟨vo', vn', vc', fo', fn', fc'⟩ := V'
  obtain ⟨vs', fs', asks'⟩ := S'
  simp only [SV.cells]
  have hv := h.v
  have hf := h.f
  have gv := h'.v
  have gf := h'.f
  simp only at hv hf gv gf
  clear h h'
  obtain ⟨t, ht⟩ : ∃ t, eqSt ⟨vs, fs, asks⟩ ⟨vs', fs', asks'⟩ = t := ⟨_, rfl⟩
  rw [ht]
  have e1 : eqSt ⟨vs, fs, asks⟩ ⟨vs', fs', asks'⟩ = (asks == asks' && (eqG eqVa vs vs' && eqG eqFm fs fs')) := rfl
  rw [e1] at ht
  have HT := hid ht
  obtain ⟨p, hp⟩ : ∃ p, w.heap.size = p := ⟨_, rfl⟩
  obtain ⟨w0, hw0⟩ : ∃ w0, (w.alloc (.cells #[.slice vo vn vc, .slice fo fn fc, .int .i64 asks] 25)) = w0 := ⟨_, rfl⟩
  have hb0 : Below w.heap.size w w0 := by rw [← hw0]; exact Bl.alloc (Bl.refl w) _
  have hc0 : Cel w0 p [.slice vo vn vc, .slice fo fn fc, .int .i64 asks] := by rw [← hw0, ← hp]; exact Cel.new w _ _
  have hq : w0.heap.size = p + 1 := by rw [← hw0, ← hp]; simp
  obtain ⟨w1, hw1⟩ : ∃ w1, (w0.alloc (.cells #[.slice vo' vn' vc', .slice fo' fn' fc', .int .i64 asks'] 25)) = w1 := ⟨_, rfl⟩
  have hb1 : Below w0.heap.size w0 w1 := by rw [← hw1]; exact Bl.alloc (Bl.refl w0) _
  have hc1 : Cel w1 (p + 1) [.slice vo' vn' vc', .slice fo' fn' fc', .int .i64 asks'] := by rw [← hw1, ← hq]; exact Cel.new w0 _ _
  have hd0 : Cel w1 p [.slice vo vn vc, .slice fo fn fc, .int .i64 asks] := hc0.below (Nat.succ_pos _) hb1
  have hqs : p + 1 < w1.heap.size := by rw [← hw1, ← hq]; simp
  have hps : p < w1.heap.size := by omega
  have hbb : Below w.heap.size w w1 := hb0.trans (hb1.mono hb0.size)
  have g0 := hd0.cell 0 _ rfl
  have f0 := hc1.cell 0 _ rfl
  have g1 := hd0.cell 1 _ rfl
  have f1 := hc1.cell 1 _ rfl
  have g2 := hd0.cell 2 _ rfl
  have f2 := hc1.cell 2 _ rfl
  have HR1 := hid (hv.below2 hbb)
  have HR2 := hid (hf.below5 hbb)
  have GR1 := hid (gv.below2 hbb)
  have GR2 := hid (gf.below5 hbb)
  have HB := hid hbb
  have HP := hid hp
  have HQ := hid hq
  have HW0 := hid hw0
  have HW1 := hid hw1
  clear ht e1 hv hf gv gf hb0 hb1 hbb hc0 hc1 hd0 hp hq hw0 hw1
  cases c0 : (asks == asks')
  ·
    go_enter Try.func13, Try.ntmps13
    go_wp2_with fail
    rw [HW0.out, HP.out, HW1.out]
    go_wp2_with fail
    go_ret
    exact ⟨rb (by rw [← HT.out]; simp [c0]), by first | exact HB.out | (rw [← HP.out]; exact HB.out)⟩
  obtain ⟨t0, ht0⟩ : ∃ t0, eqG eqVa vs vs' = t0 := ⟨_, rfl⟩
  have HA0 : Hid (∀ w2, Below w1.heap.size w1 w2 → Calls Try.prog 29 #[.slice vo vn vc, .slice vo' vn' vc'] w2 fun e w' => e = .returned (.bool t0) ∧ Below w2.heap.size w2 w') := hid fun w2 hb => by rw [← ht0]; exact equVa_to _ _ _ _ _ _ _ _ w2 (RdG.parx (HR1.out.below2 hb)) (RdG.parx (GR1.out.below2 hb))
  have HT0 := hid ht0
  clear ht0
  cases t0 with
  | false =>
    go_enter Try.func13, Try.ntmps13
    go_wp2_with fail
    rw [HW0.out, HP.out, HW1.out]
    go_wp2_with (first | (go_at_call 29; refine Calls.mono (HA0.out _ (Below.refl _ _)) ?_; rintro e v0 ⟨rfl, hbn⟩; have g1 := (hbn.cell (p := ⟨p, 1, none⟩) hps).trans g1; have f1 := (hbn.cell (p := ⟨p + 1, 1, none⟩) hqs).trans f1; have hbc0 := hid hbn))
    go_ret
    exact ⟨rb (by rw [← HT.out, HT0.out]; simp [c0]), by first | exact HB.out.trans (hbc0.out.mono HB.out.size) | (rw [← HP.out]; exact HB.out.trans (hbc0.out.mono HB.out.size))⟩
  | true =>
    obtain ⟨t1, ht1⟩ : ∃ t1, eqG eqFm fs fs' = t1 := ⟨_, rfl⟩
    have HA1 : Hid (∀ w2, Below w1.heap.size w1 w2 → Calls Try.prog 30 #[.slice fo fn fc, .slice fo' fn' fc', .func (.func 31) #[] #[]] w2 fun e w' => e = .returned (.bool t1) ∧ Below w2.heap.size w2 w') := hid fun w2 hb => by rw [← ht1]; exact eqfFr_to _ eqFm _ _ _ _ _ _ _ _ w2 (RdG.frrx (HR2.out.below5 hb)) (RdG.frrx (GR2.out.below5 hb)) en_eqFrame fun w cs x ds y hx hy => eqFrame_to x y cs ds w hx hy
    have HT1 := hid ht1
    clear ht1
    go_enter Try.func13, Try.ntmps13
    go_wp2_with fail
    rw [HW0.out, HP.out, HW1.out]
    go_wp2_with (first | (go_at_call 29; refine Calls.mono (HA0.out _ (Below.refl _ _)) ?_; rintro e v0 ⟨rfl, hbn⟩; have g1 := (hbn.cell (p := ⟨p, 1, none⟩) hps).trans g1; have f1 := (hbn.cell (p := ⟨p + 1, 1, none⟩) hqs).trans f1; have hbc0 := hid hbn) | (go_at_call 30; refine Calls.mono (HA1.out _ hbc0.out) ?_; rintro e v1 ⟨rfl, hbn⟩; have hbc1 := hid (hbc0.out.trans (hbn.mono hbc0.out.size))))
    go_ret
    exact ⟨rb (by rw [← HT.out, HT0.out, HT1.out]; simp [c0]), by first | exact HB.out.trans (hbc1.out.mono HB.out.size) | (rw [← HP.out]; exact HB.out.trans (hbc1.out.mono HB.out.size))⟩
end Go.Proofs.Ytnbegmlbkjjggaa
