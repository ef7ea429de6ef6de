/- extent's laws: ExtentAll: Take. -/
import Derived.Test.YtjihemgidogoeaaExA5
namespace Go.Proofs.Ytjihemgidogoeaa
open Go.RowKit
set_option linter.unusedVariables false
set_option maxRecDepth 1000000 in
set_option maxHeartbeats 4000000 in
theorem R44_to (X : ExtSpec) {a : Act} {w0 w : World} {Q : Exit → Act → World → Prop} {at' n on ocap fg k og : Nat} {oo : Option Addr} {p : Addr} {kd A N : Int} {F : List Bool} {M : Rm} (hK : SlK a at' n oo on ocap p fg k og) (t17 : a.tmps.getD 17 undef = .int .i64 (match M.takeAt N with | some v => (at' : Int) + (v : Int) | none => -1)) (hat : at' ≤ 50) (hn : n ≤ 60) (hlo : M.lo = at') (hlen : M.fr.length = n) (hp : M.pad F)
    (hS : MS X w0 w M p fg og F kd A N) (hN : (Lit.int .i64 N).wf = true)
    (hQ : ∀ a' w' M' F', SlK a' at' n oo on ocap p fg k og → M'.lo = at' → M'.fr.length = n → M'.pad F' → MS X w0 w' M' p fg og F' kd A N → Q .normal a' w') :
    Code.wp Try.prog (sub theBody [1, 1, 1, 1, 1, 1, 1, 0, 1, 0, 0, 1, 0, 0, 1, 1, 1, 1, 0, 1, 0, 1, 0, 1, 1]) Q a w := by
  have HQ := hid hQ
  have HS := hid hS
  have HP := hid (And.intro hp (And.intro hlo hlen))
  have hcall := hS.L.take hN
  have HCALL := hid hcall
  obtain ⟨-, c1, c2, hog⟩ := hS.c
  have hbn := bounds_i64 hN
  clear hQ hp hlo hlen hS hcall hN
  obtain ⟨t, ds⟩ := a
  obtain ⟨kd, ks, e0, e1, e2, e8, e9, e11, e12⟩ := hK
  simp only at kd ks e0 e1 e2 e8 e9 e11 e12 t17
  subst kd
  have ht := frame_of ks
  obtain ⟨U, hU⟩ : ∃ U : Nat → Value, U = fun i => t.getD i undef := ⟨_, rfl⟩
  rw [← hU, allFrame] at ht
  have hu : ∀ i, t.getD i undef = U i := fun i => by rw [hU]
  rw [hu] at e0 e1 e2 e8 e9 e11 e12 t17
  clear hU hu ks
  subst ht
  rw [e0, e1, e2, e8, e9, e11, e12, t17]
  clear e0 e1 e2 e8 e9 e11 e12 t17
  conv => arg 2; whnf
  cases ht : M.takeAt N with
  | none =>
    obtain ⟨e1, e2⟩ := take_none ht
    rw [e1, e2] at HCALL
    simp only
    clear ht e1 e2
    go_wp2_with fail
    refine HCALL.out.mono ?_
    rintro e w1 ⟨rfl, hL, hk, -⟩
    replace HS := hid (HS.out.turn hL hk)
    clear hL hk HCALL c1 c2 hog
    obtain ⟨W3, q3, hW3, hq3, hB3, hP3, hl3, hs3⟩ := span_var w1
    have g0 := hP3.c0; have g1 := hP3.c1; have g2 := hP3.f0; have g3 := hP3.f1
    have hP4 := hP3.set2 (.int .i64 0) (.int .i64 0)
    have hB4 := (hB3.setCell (p := ⟨q3, 0, none⟩) (Nat.le_refl _) (.int .i64 0)).setCell (p := ⟨q3, 1, none⟩) (Nat.le_refl _) (.int .i64 0)
    obtain ⟨W4, hW4⟩ : ∃ W4, ((W3.setCell ⟨q3, 0, none⟩ (.int .i64 0)).setCell ⟨q3, 1, none⟩ (.int .i64 0)) = W4 := ⟨_, rfl⟩
    rw [hW4] at hP4 hB4
    rw [← hq3] at hB4
    replace HS := hid (HS.out.bel hB4)
    obtain ⟨-, d1, d2, hog1⟩ := HS.out.c
    have s0 := hP4.c0; have s1 := hP4.c1
    have HBX := hid hB4
    clear hB3 hP3 hP4 hB4 hs3
    go_wp2_with fail
    go_loopw [23] (fun i wr => i = .int .i64 0 ∧ wr = W4) (fun _ _ => 0)
    case atStart => exact ⟨rfl, rfl⟩
    case round =>
      obtain ⟨rfl, rfl⟩ := hrel
      go_wp2_with fail
      exact HQ.out _ _ _ _ ⟨rfl, rfl, rfl, rfl, rfl, rfl, rfl, rfl, rfl⟩ HP.out.2.1 HP.out.2.2 HP.out.1 HS.out
  | some v0 =>
    obtain ⟨hal, hv0, -⟩ := Rm.takeAt_some ht
    have e1 : M.takeV N = ((M.lo : Int) + v0, N, true) := by unfold Rm.takeV; rw [ht]
    have e2 : M.take N = M.use (M.lo + v0) N true := by unfold Rm.take; rw [ht]
    rw [e1, e2] at HCALL
    rw [HP.out.2.1] at hal HCALL
    have hvl := ((M.all_iff _ N true).1 hal).1
    rw [HP.out.2.1, HP.out.2.2] at hvl
    rw [HP.out.2.2] at hv0
    obtain ⟨x, hx⟩ : ∃ x : Nat, (at' : Int) + (v0 : Int) = x := ⟨at' + v0, by omega⟩
    obtain ⟨N', hN⟩ : ∃ N' : Nat, N = N' := ⟨N.toNat, by have := hvl.1; omega⟩
    subst hN
    rw [hx] at hal HCALL
    simp only [hx]
    have hAN : x + N' ≤ 110 := by omega
    have hpu : (M.use (x : Int) (N' : Int) true).pad (layF F x N' false) := pad_use HP.out.1 hal fun i => layF_get (by rw [HS.out.len]; omega) i
    have HPU := hid hpu
    obtain ⟨M2, hM2⟩ : ∃ M2, M.use (x : Int) (N' : Int) true = M2 := ⟨_, rfl⟩
    have HLO : Hid (M2.lo = at' ∧ M2.fr.length = n) := hid (by rw [← hM2, use_lo, use_length]; exact HP.out.2)
    rw [hM2] at HCALL HPU
    clear ht e1 e2 hal hpu hvl hM2 hv0 hx
    go_wp2_with fail
    refine HCALL.out.mono ?_
    rintro e w1 ⟨rfl, hL, hk, -⟩
    replace HS := hid (HS.out.turn hL hk)
    clear hL hk HCALL c1 c2 hog
    obtain ⟨W3, q3, hW3, hq3, hB3, hP3, hl3, hs3⟩ := span_var w1
    have g0 := hP3.c0; have g1 := hP3.c1; have g2 := hP3.f0; have g3 := hP3.f1
    have hP4 := hP3.set2 (.int .i64 (x : Int)) (.int .i64 (N' : Int))
    have hB4 := (hB3.setCell (p := ⟨q3, 0, none⟩) (Nat.le_refl _) (.int .i64 (x : Int))).setCell (p := ⟨q3, 1, none⟩) (Nat.le_refl _) (.int .i64 (N' : Int))
    obtain ⟨W4, hW4⟩ : ∃ W4, ((W3.setCell ⟨q3, 0, none⟩ (.int .i64 (x : Int))).setCell ⟨q3, 1, none⟩ (.int .i64 (N' : Int))) = W4 := ⟨_, rfl⟩
    rw [hW4] at hP4 hB4
    rw [← hq3] at hB4
    replace HS := hid (HS.out.bel hB4)
    obtain ⟨-, d1, d2, hog1⟩ := HS.out.c
    have s0 := hP4.c0; have s1 := hP4.c1
    have HBX := hid hB4
    clear hB3 hP3 hP4 hB4 hs3
    go_wp2_with fail
    clear d1 d2 hog1 s0 s1 g0 g1 g2 g3
    go_loopw [23] (fun i wr => ∃ j : Nat, j ≤ N' ∧ i = .int .i64 (j : Int) ∧ MS X w0 wr M2 p fg og (layF F x j false) kd A N') (fun i _ => N' - (intOf i).toNat)
    case atStart => exact ⟨0, Nat.zero_le _, rfl, by rw [layF_zero]; exact HS.out⟩
    case round =>
      obtain ⟨j, hj, rfl, hS⟩ := hrel
      replace HS := hid hS
      obtain ⟨-, d1, d2, hog1⟩ := HS.out.c
      clear hS
      by_cases hlt : j < N'
      · have hlti : (j : Int) < N' := by omega
        obtain ⟨y, hy⟩ : ∃ y : Nat, (x : Int) + j = y ∧ x + j = y := ⟨x + j, by omega, rfl⟩
        obtain ⟨hy, hy2⟩ := hy
        have hyb : (y : Int) < 130 := by omega
        have f0 := HS.out.f y (by omega)
        have z0 := HS.out.z y (by omega)
        have hput := HS.out.put y false
        have hlF : x + j < F.length := by have := HS.out.len; rw [layF_len] at this; omega
        rw [← hy2, ← layF_succ hlF] at hput
        rw [hy2] at hput
        have HPUT := hid hput
        clear hput hy2 hlF
        go_wp2_with fail
        go_roundw
        case rel => exact ⟨j + 1, by omega, by go_num, HPUT.out⟩
        case measure => simp [intOf]; omega
      · have hj2 : j = N' := by omega
        subst hj2
        have hnl : ¬ (j : Int) < j := by omega
        go_wp2_with fail
        exact HQ.out _ _ _ _ ⟨rfl, rfl, rfl, rfl, rfl, rfl, rfl, rfl, rfl⟩ HLO.out.1 HLO.out.2 HPU.out HS.out
end Go.Proofs.Ytjihemgidogoeaa
