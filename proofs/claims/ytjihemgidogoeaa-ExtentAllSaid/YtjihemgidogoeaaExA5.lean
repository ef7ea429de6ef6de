/- extent's laws: ExtentAll: Use, Give. -/
import Derived.Test.YtjihemgidogoeaaExA4
namespace Go.Proofs.Ytjihemgidogoeaa
open Go.RowKit
set_option linter.unusedVariables false
set_option maxRecDepth 1000000 in
set_option maxHeartbeats 4000000 in
theorem US_to (X : ExtSpec) {a : Act} {w0 w : World} {Q : Exit → Act → World → Prop} {at' n on ocap fg k og : Nat} {oo : Option Addr} {p : Addr} {kd A N : Int} {F : List Bool} {M : Rm} (hK : SlK a at' n oo on ocap p fg k og) (t13 : a.tmps.getD 13 undef = .bool (M.all A N true)) (hat : at' ≤ 50) (hn : n ≤ 60) (hlo : M.lo = at') (hlen : M.fr.length = n) (hp : M.pad F)
    (hS : MS X w0 w M p fg og F kd A N) (hA : (Lit.int .i64 A).wf = true) (hN : (Lit.int .i64 N).wf = true)
    (hQ : ∀ a' w' M' F', SlK a' at' n oo on ocap p fg k og → M'.lo = at' → M'.fr.length = n → M'.pad F' → MS X w0 w' M' p fg og F' kd A N → Q .normal a' w') :
    Code.wp Try.prog (sub theBody [1, 1, 1, 1, 1, 1, 1, 0, 1, 0, 0, 1, 0, 0, 1, 1, 1, 1, 0, 1, 0, 1, 1, 1, 0]) Q a w := by
  have HQ := hid hQ
  have HS := hid hS
  have HP := hid (And.intro hp (And.intro hlo hlen))
  have hcall := hS.L.use hA hN
  have HCALL := hid hcall
  obtain ⟨-, c1, c2, hog⟩ := hS.c
  have hbn := bounds_i64 hN
  have hba := bounds_i64 hA
  clear hQ hp hlo hlen hS hcall hA hN
  obtain ⟨t, ds⟩ := a
  obtain ⟨kd, ks, e0, e1, e2, e8, e9, e11, e12⟩ := hK
  simp only at kd ks e0 e1 e2 e8 e9 e11 e12 t13
  subst kd
  have ht := frame_of ks
  obtain ⟨U, hU⟩ : ∃ U : Nat → Value, U = fun i => t.getD i undef := ⟨_, rfl⟩
  rw [← hU, allFrame] at ht
  have hu : ∀ i, t.getD i undef = U i := fun i => by rw [hU]
  rw [hu] at e0 e1 e2 e8 e9 e11 e12 t13
  clear hU hu ks
  subst ht
  rw [e0, e1, e2, e8, e9, e11, e12, t13]
  clear e0 e1 e2 e8 e9 e11 e12 t13
  conv => arg 2; whnf
  cases hal : M.all A N true with
  | false =>
    have hus : M.use A N true = M := by unfold Rm.use; rw [if_neg (by rw [hal]; decide)]
    rw [hal, hus] at HCALL
    clear hal hus
    go_wp2_with fail
    refine HCALL.out.mono ?_
    rintro e w1 ⟨rfl, hL, hk, -⟩
    replace HS := hid (HS.out.turn hL hk)
    obtain ⟨-, d1, d2, hog1⟩ := HS.out.c
    clear hL hk HCALL c1 c2 hog
    go_wp2_with fail
    go_loopw [24] (fun i wr => i = .int .i64 0 ∧ wr = w1) (fun _ _ => 0)
    case atStart => exact ⟨rfl, rfl⟩
    case round =>
      obtain ⟨rfl, rfl⟩ := hrel
      go_wp2_with fail
      exact HQ.out _ _ _ _ ⟨rfl, rfl, rfl, rfl, rfl, rfl, rfl, rfl, rfl⟩ HP.out.2.1 HP.out.2.2 HP.out.1 HS.out
  | true =>
    have hvl := ((M.all_iff A N true).1 hal).1
    rw [HP.out.2.1, HP.out.2.2] at hvl
    obtain ⟨A', hA⟩ : ∃ A' : Nat, A = A' := ⟨A.toNat, by have := hvl.2.1; omega⟩
    obtain ⟨N', hN⟩ : ∃ N' : Nat, N = N' := ⟨N.toNat, by have := hvl.1; omega⟩
    subst hA hN
    have hAN : A' + N' ≤ 110 := by omega
    have HAL := hid hal
    rw [hal] at HCALL
    have hpu : (M.use (A' : Int) (N' : Int) true).pad (layF F A' N' false) := pad_use HP.out.1 hal fun i => layF_get (by rw [HS.out.len]; omega) i
    have HPU := hid hpu
    obtain ⟨M2, hM2⟩ : ∃ M2, M.use (A' : Int) (N' : Int) true = M2 := ⟨_, rfl⟩
    have HLO : Hid (M2.lo = at' ∧ M2.fr.length = n) := hid (by rw [← hM2, use_lo, use_length]; exact HP.out.2)
    rw [hM2] at HCALL HPU
    clear hal hpu hvl hM2
    go_wp2_with fail
    refine HCALL.out.mono ?_
    rintro e w1 ⟨rfl, hL, hk, -⟩
    replace HS := hid (HS.out.turn hL hk)
    obtain ⟨-, d1, d2, hog1⟩ := HS.out.c
    clear hL hk HCALL c1 c2 hog
    go_wp2_with fail
    clear d1 d2 hog1
    go_loopw [24] (fun i wr => ∃ j : Nat, j ≤ N' ∧ i = .int .i64 (j : Int) ∧ MS X w0 wr M2 p fg og (layF F A' j false) kd A' N') (fun i _ => N' - (intOf i).toNat)
    case atStart => exact ⟨0, Nat.zero_le _, rfl, by rw [layF_zero]; exact HS.out⟩
    case round =>
      obtain ⟨j, hj, rfl, hS⟩ := hrel
      replace HS := hid hS
      obtain ⟨-, d1, d2, hog1⟩ := HS.out.c
      clear hS
      by_cases hlt : j < N'
      · have hlti : (j : Int) < N' := by omega
        obtain ⟨y, hy⟩ : ∃ y : Nat, (A' : Int) + j = y ∧ A' + j = y := ⟨A' + j, by omega, rfl⟩
        obtain ⟨hy, hy2⟩ := hy
        have hyb : (y : Int) < 130 := by omega
        have f0 := HS.out.f y (by omega)
        have z0 := HS.out.z y (by omega)
        have hput := HS.out.put y false
        have hlF : A' + j < F.length := by have := HS.out.len; rw [layF_len] at this; omega
        rw [← hy2, ← layF_succ hlF] at hput
        rw [hy2] at hput
        have HPUT := hid hput
        clear hput hy2 hlF
        go_wp2_with fail
        go_roundw
        case rel => exact ⟨j + 1, by omega, by go_num, HPUT.out⟩
        case measure => simp [intOf]; omega
      · have hj2 : j = N' := by omega
        subst hj2
        have hnl : ¬ (j : Int) < j := by omega
        go_wp2_with fail
        exact HQ.out _ _ _ _ ⟨rfl, rfl, rfl, rfl, rfl, rfl, rfl, rfl, rfl⟩ HLO.out.1 HLO.out.2 HPU.out HS.out
set_option maxRecDepth 1000000 in
set_option maxHeartbeats 4000000 in
theorem GV_to (X : ExtSpec) {a : Act} {w0 w : World} {Q : Exit → Act → World → Prop} {at' n on ocap fg k og : Nat} {oo : Option Addr} {p : Addr} {kd A N : Int} {F : List Bool} {M : Rm} (hK : SlK a at' n oo on ocap p fg k og) (t14 : a.tmps.getD 14 undef = .bool (M.all A N false)) (hat : at' ≤ 50) (hn : n ≤ 60) (hlo : M.lo = at') (hlen : M.fr.length = n) (hp : M.pad F)
    (hS : MS X w0 w M p fg og F kd A N) (hA : (Lit.int .i64 A).wf = true) (hN : (Lit.int .i64 N).wf = true)
    (hQ : ∀ a' w' M' F', SlK a' at' n oo on ocap p fg k og → M'.lo = at' → M'.fr.length = n → M'.pad F' → MS X w0 w' M' p fg og F' kd A N → Q .normal a' w') :
    Code.wp Try.prog (sub theBody [1, 1, 1, 1, 1, 1, 1, 0, 1, 0, 0, 1, 0, 0, 1, 1, 1, 1, 0, 1, 0, 1, 1, 1, 1]) Q a w := by
  have HQ := hid hQ
  have HS := hid hS
  have HP := hid (And.intro hp (And.intro hlo hlen))
  have hcall := hS.L.give hA hN
  have HCALL := hid hcall
  obtain ⟨-, c1, c2, hog⟩ := hS.c
  have hbn := bounds_i64 hN
  have hba := bounds_i64 hA
  clear hQ hp hlo hlen hS hcall hA hN
  obtain ⟨t, ds⟩ := a
  obtain ⟨kd, ks, e0, e1, e2, e8, e9, e11, e12⟩ := hK
  simp only at kd ks e0 e1 e2 e8 e9 e11 e12 t14
  subst kd
  have ht := frame_of ks
  obtain ⟨U, hU⟩ : ∃ U : Nat → Value, U = fun i => t.getD i undef := ⟨_, rfl⟩
  rw [← hU, allFrame] at ht
  have hu : ∀ i, t.getD i undef = U i := fun i => by rw [hU]
  rw [hu] at e0 e1 e2 e8 e9 e11 e12 t14
  clear hU hu ks
  subst ht
  rw [e0, e1, e2, e8, e9, e11, e12, t14]
  clear e0 e1 e2 e8 e9 e11 e12 t14
  conv => arg 2; whnf
  cases hal : M.all A N false with
  | false =>
    have hus : M.use A N false = M := by unfold Rm.use; rw [if_neg (by rw [hal]; decide)]
    rw [hal, hus] at HCALL
    clear hal hus
    go_wp2_with fail
    refine HCALL.out.mono ?_
    rintro e w1 ⟨rfl, hL, hk, -⟩
    replace HS := hid (HS.out.turn hL hk)
    obtain ⟨-, d1, d2, hog1⟩ := HS.out.c
    clear hL hk HCALL c1 c2 hog
    go_wp2_with fail
    go_loopw [25] (fun i wr => i = .int .i64 0 ∧ wr = w1) (fun _ _ => 0)
    case atStart => exact ⟨rfl, rfl⟩
    case round =>
      obtain ⟨rfl, rfl⟩ := hrel
      go_wp2_with fail
      exact HQ.out _ _ _ _ ⟨rfl, rfl, rfl, rfl, rfl, rfl, rfl, rfl, rfl⟩ HP.out.2.1 HP.out.2.2 HP.out.1 HS.out
  | true =>
    have hvl := ((M.all_iff A N false).1 hal).1
    rw [HP.out.2.1, HP.out.2.2] at hvl
    obtain ⟨A', hA⟩ : ∃ A' : Nat, A = A' := ⟨A.toNat, by have := hvl.2.1; omega⟩
    obtain ⟨N', hN⟩ : ∃ N' : Nat, N = N' := ⟨N.toNat, by have := hvl.1; omega⟩
    subst hA hN
    have hAN : A' + N' ≤ 110 := by omega
    have HAL := hid hal
    rw [hal] at HCALL
    have hpu : (M.use (A' : Int) (N' : Int) false).pad (layF F A' N' true) := pad_use HP.out.1 hal fun i => layF_get (by rw [HS.out.len]; omega) i
    have HPU := hid hpu
    obtain ⟨M2, hM2⟩ : ∃ M2, M.use (A' : Int) (N' : Int) false = M2 := ⟨_, rfl⟩
    have HLO : Hid (M2.lo = at' ∧ M2.fr.length = n) := hid (by rw [← hM2, use_lo, use_length]; exact HP.out.2)
    rw [hM2] at HCALL HPU
    clear hal hpu hvl hM2
    go_wp2_with fail
    refine HCALL.out.mono ?_
    rintro e w1 ⟨rfl, hL, hk, -⟩
    replace HS := hid (HS.out.turn hL hk)
    obtain ⟨-, d1, d2, hog1⟩ := HS.out.c
    clear hL hk HCALL c1 c2 hog
    go_wp2_with fail
    clear d1 d2 hog1
    go_loopw [25] (fun i wr => ∃ j : Nat, j ≤ N' ∧ i = .int .i64 (j : Int) ∧ MS X w0 wr M2 p fg og (layF F A' j true) kd A' N') (fun i _ => N' - (intOf i).toNat)
    case atStart => exact ⟨0, Nat.zero_le _, rfl, by rw [layF_zero]; exact HS.out⟩
    case round =>
      obtain ⟨j, hj, rfl, hS⟩ := hrel
      replace HS := hid hS
      obtain ⟨-, d1, d2, hog1⟩ := HS.out.c
      clear hS
      by_cases hlt : j < N'
      · have hlti : (j : Int) < N' := by omega
        obtain ⟨y, hy⟩ : ∃ y : Nat, (A' : Int) + j = y ∧ A' + j = y := ⟨A' + j, by omega, rfl⟩
        obtain ⟨hy, hy2⟩ := hy
        have hyb : (y : Int) < 130 := by omega
        have f0 := HS.out.f y (by omega)
        have z0 := HS.out.z y (by omega)
        have hput := HS.out.put y true
        have hlF : A' + j < F.length := by have := HS.out.len; rw [layF_len] at this; omega
        rw [← hy2, ← layF_succ hlF] at hput
        rw [hy2] at hput
        have HPUT := hid hput
        clear hput hy2 hlF
        go_wp2_with fail
        go_roundw
        case rel => exact ⟨j + 1, by omega, by go_num, HPUT.out⟩
        case measure => simp [intOf]; omega
      · have hj2 : j = N' := by omega
        subst hj2
        have hnl : ¬ (j : Int) < j := by omega
        go_wp2_with fail
        exact HQ.out _ _ _ _ ⟨rfl, rfl, rfl, rfl, rfl, rfl, rfl, rfl, rfl⟩ HLO.out.1 HLO.out.2 HPU.out HS.out
end Go.Proofs.Ytjihemgidogoeaa
