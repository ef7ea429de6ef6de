/- extent's laws: ExtentAll: are all free, is none. -/
import Derived.Test.YtjihemgidogoeaaExA0
namespace Go.Proofs.Ytjihemgidogoeaa
open Go.RowKit
set_option linter.unusedVariables false
theorem allP_false {F : List Bool} {A : Nat} {b : Bool} {j N : Nat} (h : j ≤ N) (hz : allP F A j b = false) : allP F A N b = false := by
  obtain ⟨d, rfl⟩ : ∃ d, N = j + d := ⟨N - j, by omega⟩
  clear h
  induction d with
  | zero => exact hz
  | succ d ih => rw [← Nat.add_assoc, allP_succ, ih, Bool.false_and]
set_option maxRecDepth 1000000 in
set_option maxHeartbeats 4000000 in
theorem L3_to {a : Act} {w : World} {Q : Exit → Act → World → Prop} {at' n on ocap fg k og : Nat} {oo : Option Addr} {p : Addr} {A N : Int} {F : List Bool} {v bk : Bool} (hK : SlK a at' n oo on ocap p fg k og) (t13 : a.tmps.getD 13 undef = .bool v) (t14 : a.tmps.getD 14 undef = .bool bk) (hv : v = decide (Vld at' n A N)) (hat : at' ≤ 50) (hn : n ≤ 60)
    (c1 : w.cell? ⟨og, 1, none⟩ = some (.int .i64 A)) (c2 : w.cell? ⟨og, 2, none⟩ = some (.int .i64 N)) (hF : ∀ i, i < 130 → w.cell? ⟨fg, i, none⟩ = some (.bool (F.getD i false)))
    (hQ : ∀ a', SlK a' at' n oo on ocap p fg k og → a'.tmps.getD 13 undef = .bool (v && allP F A.toNat N.toNat true) → a'.tmps.getD 14 undef = .bool bk → Q .normal a' w) :
    Code.wp Try.prog (sub theBody [1, 1, 1, 1, 1, 1, 1, 0, 1, 0, 0, 1, 0, 0, 1, 1, 0]) Q a w := by
  have HQ := hid hQ
  have HF := hid hF
  clear hQ hF
  obtain ⟨t, ds⟩ := a
  obtain ⟨kd, ks, e0, e1, e2, e8, e9, e11, e12⟩ := hK
  simp only at kd ks e0 e1 e2 e8 e9 e11 e12 t13 t14
  subst kd
  have ht := frame_of ks
  obtain ⟨U, hU⟩ : ∃ U : Nat → Value, U = fun i => t.getD i undef := ⟨_, rfl⟩
  rw [← hU, allFrame] at ht
  have hu : ∀ i, t.getD i undef = U i := fun i => by rw [hU]
  rw [hu] at e0 e1 e2 e8 e9 e11 e12 t13 t14
  clear hU hu ks
  subst ht
  rw [e0, e1, e2, e8, e9, e11, e12, t13, t14]
  clear e0 e1 e2 e8 e9 e11 e12 t13 t14
  conv => arg 2; whnf
  cases v with
  | false =>
    clear hv
    go_wp2_with fail
    go_loopw [13] (fun z wr => z = .bool false ∧ wr = w) (fun _ _ => 0)
    case atStart => exact ⟨rfl, rfl⟩
    case round =>
      obtain ⟨rfl, rfl⟩ := hrel
      go_wp2_with fail
      exact HQ.out _ ⟨rfl, rfl, rfl, rfl, rfl, rfl, rfl, rfl, rfl⟩ rfl rfl
  | true =>
    have hvl : Vld at' n A N := of_decide_eq_true hv.symm
    obtain ⟨A', hA⟩ : ∃ A' : Nat, A = A' := ⟨A.toNat, by have := hvl.2.1; omega⟩
    obtain ⟨N', hN⟩ : ∃ N' : Nat, N = N' := ⟨N.toNat, by have := hvl.1; omega⟩
    subst hA hN
    obtain ⟨u, hu⟩ : ∃ u : Nat, (A' : Int) + N' = u := ⟨A' + N', by omega⟩
    have hub : u = A' + N' ∧ u ≤ 110 := by have := hvl.2.2; omega
    obtain ⟨hue, hu110⟩ := hub
    have HU := hid hue
    clear hv hvl hue
    simp only [Int.toNat_natCast] at HQ
    go_wp2_with fail
    go_loopw [13, 15] (fun z i wr => ∃ j : Nat, A' + j ≤ u ∧ i = .int .i64 ((A' + j : Nat) : Int) ∧ z = .bool (allP F A' j true) ∧ wr = w) (fun _ i _ => u - (intOf i).toNat)
    case atStart => exact ⟨0, by have := HU.out; omega, rfl, rfl, rfl⟩
    case round =>
      obtain ⟨j, hj, rfl, rfl, rfl⟩ := hrel
      obtain ⟨y, hy⟩ : ∃ y : Nat, A' + j = y := ⟨_, rfl⟩
      rw [hy] at hj ⊢
      have HY := hid hy
      clear hy
      cases hz : allP F A' j true with
      | false =>
        have hres : allP F A' N' true = false := allP_false (show j ≤ N' by have := HU.out; have := HY.out; omega) hz
        rw [hres] at HQ
        clear hz hres
        go_wp2_with fail
        exact HQ.out _ ⟨rfl, rfl, rfl, rfl, rfl, rfl, rfl, rfl, rfl⟩ rfl rfl
      | true =>
        by_cases hlt : y < u
        · have hlti : (y : Int) < u := by omega
          have hy130 : (y : Int) < 130 := by omega
          have hc := HF.out y (by omega)
          obtain ⟨x, hx⟩ : ∃ x, F.getD y false = x := ⟨_, rfl⟩
          rw [hx] at hc
          have hs := allP_succ F A' j true
          rw [hz, HY.out, hx, Bool.true_and] at hs
          have HS := hid hs
          clear hs hx hz
          go_wp2_with fail
          go_roundw
          case rel => exact ⟨j + 1, by have := HY.out; omega, by have := HY.out; congr 1; omega, by rw [HS.out]; cases x <;> rfl, trivial⟩
          case measure => simp [intOf]; omega
        · have hj2 : j = N' := by have := HU.out; have := HY.out; omega
          subst hj2
          rw [hz] at HQ
          have hnl : ¬ (y : Int) < u := by omega
          clear hz
          go_wp2_with fail
          exact HQ.out _ ⟨rfl, rfl, rfl, rfl, rfl, rfl, rfl, rfl, rfl⟩ rfl rfl
set_option maxRecDepth 1000000 in
set_option maxHeartbeats 4000000 in
theorem L4_to {a : Act} {w : World} {Q : Exit → Act → World → Prop} {at' n on ocap fg k og : Nat} {oo : Option Addr} {p : Addr} {A N : Int} {F : List Bool} {v bk : Bool} (hK : SlK a at' n oo on ocap p fg k og) (t14 : a.tmps.getD 14 undef = .bool v) (t13 : a.tmps.getD 13 undef = .bool bk) (hv : v = decide (Vld at' n A N)) (hat : at' ≤ 50) (hn : n ≤ 60)
    (c1 : w.cell? ⟨og, 1, none⟩ = some (.int .i64 A)) (c2 : w.cell? ⟨og, 2, none⟩ = some (.int .i64 N)) (hF : ∀ i, i < 130 → w.cell? ⟨fg, i, none⟩ = some (.bool (F.getD i false)))
    (hQ : ∀ a', SlK a' at' n oo on ocap p fg k og → a'.tmps.getD 14 undef = .bool (v && allP F A.toNat N.toNat false) → a'.tmps.getD 13 undef = .bool bk → Q .normal a' w) :
    Code.wp Try.prog (sub theBody [1, 1, 1, 1, 1, 1, 1, 0, 1, 0, 0, 1, 0, 0, 1, 1, 1, 0]) Q a w := by
  have HQ := hid hQ
  have HF := hid hF
  clear hQ hF
  obtain ⟨t, ds⟩ := a
  obtain ⟨kd, ks, e0, e1, e2, e8, e9, e11, e12⟩ := hK
  simp only at kd ks e0 e1 e2 e8 e9 e11 e12 t14 t13
  subst kd
  have ht := frame_of ks
  obtain ⟨U, hU⟩ : ∃ U : Nat → Value, U = fun i => t.getD i undef := ⟨_, rfl⟩
  rw [← hU, allFrame] at ht
  have hu : ∀ i, t.getD i undef = U i := fun i => by rw [hU]
  rw [hu] at e0 e1 e2 e8 e9 e11 e12 t14 t13
  clear hU hu ks
  subst ht
  rw [e0, e1, e2, e8, e9, e11, e12, t14, t13]
  clear e0 e1 e2 e8 e9 e11 e12 t14 t13
  conv => arg 2; whnf
  cases v with
  | false =>
    clear hv
    go_wp2_with fail
    go_loopw [14] (fun z wr => z = .bool false ∧ wr = w) (fun _ _ => 0)
    case atStart => exact ⟨rfl, rfl⟩
    case round =>
      obtain ⟨rfl, rfl⟩ := hrel
      go_wp2_with fail
      exact HQ.out _ ⟨rfl, rfl, rfl, rfl, rfl, rfl, rfl, rfl, rfl⟩ rfl rfl
  | true =>
    have hvl : Vld at' n A N := of_decide_eq_true hv.symm
    obtain ⟨A', hA⟩ : ∃ A' : Nat, A = A' := ⟨A.toNat, by have := hvl.2.1; omega⟩
    obtain ⟨N', hN⟩ : ∃ N' : Nat, N = N' := ⟨N.toNat, by have := hvl.1; omega⟩
    subst hA hN
    obtain ⟨u, hu⟩ : ∃ u : Nat, (A' : Int) + N' = u := ⟨A' + N', by omega⟩
    have hub : u = A' + N' ∧ u ≤ 110 := by have := hvl.2.2; omega
    obtain ⟨hue, hu110⟩ := hub
    have HU := hid hue
    clear hv hvl hue
    simp only [Int.toNat_natCast] at HQ
    go_wp2_with fail
    go_loopw [14, 16] (fun z i wr => ∃ j : Nat, A' + j ≤ u ∧ i = .int .i64 ((A' + j : Nat) : Int) ∧ z = .bool (allP F A' j false) ∧ wr = w) (fun _ i _ => u - (intOf i).toNat)
    case atStart => exact ⟨0, by have := HU.out; omega, rfl, rfl, rfl⟩
    case round =>
      obtain ⟨j, hj, rfl, rfl, rfl⟩ := hrel
      obtain ⟨y, hy⟩ : ∃ y : Nat, A' + j = y := ⟨_, rfl⟩
      rw [hy] at hj ⊢
      have HY := hid hy
      clear hy
      cases hz : allP F A' j false with
      | false =>
        have hres : allP F A' N' false = false := allP_false (show j ≤ N' by have := HU.out; have := HY.out; omega) hz
        rw [hres] at HQ
        clear hz hres
        go_wp2_with fail
        exact HQ.out _ ⟨rfl, rfl, rfl, rfl, rfl, rfl, rfl, rfl, rfl⟩ rfl rfl
      | true =>
        by_cases hlt : y < u
        · have hlti : (y : Int) < u := by omega
          have hy130 : (y : Int) < 130 := by omega
          have hc := HF.out y (by omega)
          obtain ⟨x, hx⟩ : ∃ x, F.getD y false = x := ⟨_, rfl⟩
          rw [hx] at hc
          have hs := allP_succ F A' j false
          rw [hz, HY.out, hx, Bool.true_and] at hs
          have HS := hid hs
          clear hs hx hz
          go_wp2_with fail
          go_roundw
          case rel => exact ⟨j + 1, by have := HY.out; omega, by have := HY.out; congr 1; omega, by rw [HS.out]; cases x <;> rfl, trivial⟩
          case measure => simp [intOf]; omega
        · have hj2 : j = N' := by have := HU.out; have := HY.out; omega
          subst hj2
          rw [hz] at HQ
          have hnl : ¬ (y : Int) < u := by omega
          clear hz
          go_wp2_with fail
          exact HQ.out _ ⟨rfl, rfl, rfl, rfl, rfl, rfl, rfl, rfl, rfl⟩ rfl rfl
end Go.Proofs.Ytjihemgidogoeaa
