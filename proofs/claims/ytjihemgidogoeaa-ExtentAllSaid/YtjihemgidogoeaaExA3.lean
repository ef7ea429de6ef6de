/- extent's laws: ExtentAll: the first place where so many are free. -/
import Derived.Test.YtjihemgidogoeaaExA2
namespace Go.Proofs.Ytjihemgidogoeaa
open Go.RowKit
set_option linter.unusedVariables false
set_option maxRecDepth 1000000 in
set_option maxHeartbeats 4000000 in
theorem L5_to {a : Act} {w : World} {Q : Exit → Act → World → Prop} {at' n on ocap fg k og : Nat} {oo : Option Addr} {p : Addr} {N : Int} {F : List Bool} {M : Rm} (hK : SlK a at' n oo on ocap p fg k og) (t17 : a.tmps.getD 17 undef = .int .i64 (-1)) (hat : at' ≤ 50) (hn : n ≤ 60) (hlo : M.lo = at') (hlen : M.fr.length = n) (hp : M.pad F)
    (c2 : w.cell? ⟨og, 2, none⟩ = some (.int .i64 N)) (hF : ∀ i, i < 130 → w.cell? ⟨fg, i, none⟩ = some (.bool (F.getD i false)))
    (hQ : ∀ a', SlK a' at' n oo on ocap p fg k og → a'.tmps.getD 17 undef = .int .i64 (match M.takeAt N with | some v => (at' : Int) + (v : Int) | none => -1) → Q .normal a' w) :
    Code.wp Try.prog (sub theBody [1, 1, 1, 1, 1, 1, 1, 0, 1, 0, 0, 1, 0, 0, 1, 1, 1, 1, 0, 1, 0, 1, 0, 1, 0]) Q a w := by
  have HQ := hid hQ
  have HF := hid hF
  have HP := hid (And.intro hp (And.intro hlo hlen))
  clear hQ hF hp hlo hlen
  obtain ⟨t, ds⟩ := a
  obtain ⟨kd, ks, e0, e1, e2, e8, e9, e11, e12⟩ := hK
  simp only at kd ks e0 e1 e2 e8 e9 e11 e12 t17
  subst kd
  have ht := frame_of ks
  obtain ⟨U, hU⟩ : ∃ U : Nat → Value, U = fun i => t.getD i undef := ⟨_, rfl⟩
  rw [← hU, allFrame] at ht
  have hu : ∀ i, t.getD i undef = U i := fun i => by rw [hU]
  rw [hu] at e0 e1 e2 e8 e9 e11 e12 t17
  clear hU hu ks
  subst ht
  rw [e0, e1, e2, e8, e9, e11, e12, t17]
  clear e0 e1 e2 e8 e9 e11 e12 t17
  conv => arg 2; whnf
  by_cases hv : 1 ≤ N ∧ N ≤ n
  · obtain ⟨N', hN⟩ : ∃ N' : Nat, N = N' := ⟨N.toNat, by omega⟩
    subst hN
    obtain ⟨u, hu⟩ : ∃ u : Nat, (at' : Int) + n = u := ⟨at' + n, by omega⟩
    obtain ⟨d, hd⟩ : ∃ d : Nat, (u : Int) - N' = d := ⟨u - N', by omega⟩
    have hd2 : d + N' = at' + n := by omega
    have hN1 : 1 ≤ N' := by omega
    have hNn : (N' : Int) ≤ n := by omega
    have hNi : 1 ≤ (N' : Int) := by omega
    have hall : ∀ i : Nat, i ≤ d → at' ≤ i → M.all (i : Int) N' true = allP F i N' true := fun i h1 h2 => by
      rw [all_pad HP.out.1, HP.out.2.1, HP.out.2.2, decide_eq_true ⟨by omega, by omega, by omega⟩, Bool.true_and, Int.toNat_natCast, Int.toNat_natCast]
    have hno : ∀ i : Nat, d < i → M.all (i : Int) N' true = false := fun i h1 => by
      cases hc : M.all (i : Int) N' true with
      | false => rfl
      | true =>
        have := ((M.all_iff _ _ _).1 hc).1.2.2
        rw [HP.out.2.1, HP.out.2.2] at this
        omega
    have HALL := hid hall; have HNO := hid hno; have HD := hid hd2
    clear hv hall hno hd2
    go_wp2_with fail
    go_loopw [17, 18] (fun z i wr => ∃ v : Nat, at' ≤ v ∧ v ≤ d + 1 ∧ i = .int .i64 (v : Int) ∧ wr = w ∧ ((z = .int .i64 (-1) ∧ ∀ i, at' ≤ i → i < v → allP F i N' true = false) ∨ ∃ v0 : Nat, at' ≤ v0 ∧ v0 ≤ d ∧ z = .int .i64 (v0 : Int) ∧ allP F v0 N' true = true ∧ ∀ i, at' ≤ i → i < v0 → allP F i N' true = false)) (fun _ i _ => d + 2 - (intOf i).toNat)
    case atStart => exact ⟨at', Nat.le_refl _, by have := HD.out; omega, rfl, rfl, .inl ⟨rfl, fun i h1 h2 => by omega⟩⟩
    case round =>
      obtain ⟨v, hv1, hv2, rfl, rfl, hz⟩ := hrel
      rcases hz with ⟨rfl, hz⟩ | ⟨v0, h01, h02, rfl, h03, h04⟩
      · have HZ := hid hz
        clear hz
        by_cases hlt : v ≤ d
        · have hlti : (v : Int) ≤ d := by omega
          obtain ⟨e, he⟩ : ∃ e : Nat, (v : Int) + N' = e := ⟨v + N', by omega⟩
          have he130 : e ≤ 110 ∧ e = v + N' := by have := HD.out; omega
          obtain ⟨he1, he2⟩ := he130
          have HE := hid he2
          clear he2
          go_wp2_with fail
          obtain ⟨wo, rfl⟩ : ∃ wo : World, wo = wr := ⟨_, rfl⟩
          go_loopw [19, 20] (fun s i wr => ∃ j : Nat, v + j ≤ e ∧ i = .int .i64 ((v + j : Nat) : Int) ∧ s = .bool (allP F v j true) ∧ wr = wo) (fun _ i _ => e - (intOf i).toNat)
          case atStart => exact ⟨0, by have := HE.out; omega, rfl, rfl, rfl⟩
          case round =>
            obtain ⟨j, hj, rfl, rfl, rfl⟩ := hrel
            obtain ⟨y, hy⟩ : ∃ y : Nat, v + j = y := ⟨_, rfl⟩
            rw [hy] at hj ⊢
            have HY := hid hy
            clear hy
            by_cases hlt2 : y < e
            · have hlti2 : (y : Int) < e := by omega
              have hy130 : (y : Int) < 130 := by omega
              have hc := HF.out y (by omega)
              obtain ⟨x, hx⟩ : ∃ x, F.getD y false = x := ⟨_, rfl⟩
              rw [hx] at hc
              have hs := allP_succ F v j true
              rw [HY.out, hx] at hs
              have HS := hid hs
              clear hs hx
              cases hz : allP F v j true with
              | false =>
                rw [hz] at HS
                go_wp2_with fail
                go_roundw
                case rel => exact ⟨j + 1, by have := HY.out; omega, by have := HY.out; congr 1; omega, by rw [HS.out]; rfl, trivial⟩
                case measure => simp [intOf]; omega
              | true =>
                rw [hz] at HS
                go_wp2_with fail
                go_roundw
                case rel => exact ⟨j + 1, by have := HY.out; omega, by have := HY.out; congr 1; omega, by rw [HS.out]; cases x <;> rfl, trivial⟩
                case measure => simp [intOf]; omega
            · have hj2 : j = N' := by have := HE.out; have := HY.out; omega
              subst hj2
              have hnl : ¬ (y : Int) < e := by omega
              have HHZ := hid (show ∀ i, at' ≤ i → i < v → allP F i j true = false from HZ.out)
              cases hz : allP F v j true with
              | false =>
                have HZV := hid hz
                clear hz
                go_wp2_with fail
                go_roundw
                case rel => exact ⟨v + 1, by omega, by omega, by go_num, trivial, .inl ⟨rfl, fun i h1 h2 => by
                  by_cases hiv : i = v
                  · rw [hiv]; exact HZV.out
                  · exact HZ.out i h1 (by omega)⟩⟩
                case measure => simp [intOf]; omega
              | true =>
                have HZV := hid hz
                clear hz
                go_wp2_with fail
                go_roundw
                case rel => exact ⟨v + 1, by omega, by omega, by go_num, trivial, .inr ⟨v, hv1, hlt, rfl, HZV.out, HZ.out⟩⟩
                case measure => simp [intOf]; omega
        · have hvd : v = d + 1 := by omega
          have ht : M.takeAt N' = none := takeAt_no fun i => by
            rw [HP.out.2.1]
            rw [show ((at' : Int) + (i : Int)) = ((at' + i : Nat) : Int) by omega]
            by_cases hi : at' + i ≤ d
            · rw [HALL.out _ hi (by omega)]
              exact HZ.out _ (by omega) (by omega)
            · exact HNO.out _ (by omega)
          rw [ht] at HQ
          have hnl : ¬ (v : Int) ≤ d := by omega
          clear ht hvd
          go_wp2_with fail
          exact HQ.out _ ⟨rfl, rfl, rfl, rfl, rfl, rfl, rfl, rfl, rfl⟩ rfl
      · obtain ⟨i0, hi0⟩ : ∃ i0, v0 = at' + i0 := ⟨v0 - at', by omega⟩
        have ht : M.takeAt N' = some i0 := takeAt_eq (by
          rw [HP.out.2.1, show ((at' : Int) + (i0 : Int)) = ((at' + i0 : Nat) : Int) by omega, ← hi0, HALL.out _ h02 h01]
          exact h03) fun i hi => by
          rw [HP.out.2.1, show ((at' : Int) + (i : Int)) = ((at' + i : Nat) : Int) by omega, HALL.out _ (by omega) (by omega)]
          exact h04 _ (by omega) (by omega)
        rw [ht] at HQ
        have HI := hid hi0
        clear ht h03 h04 hi0
        have hneg : ¬ (v0 : Int) < 0 := by omega
        go_wp2_with fail
        exact HQ.out _ ⟨rfl, rfl, rfl, rfl, rfl, rfl, rfl, rfl, rfl⟩ (by show Value.int .i64 (v0 : Int) = _; rw [HI.out]; congr 1)
  · have ht : M.takeAt N = none := takeAt_no fun i => by
      cases hc : M.all (M.lo + i) N true with
      | false => rfl
      | true =>
        have := ((M.all_iff _ _ _).1 hc).1
        rw [HP.out.2.2] at this
        omega
    rw [ht] at HQ
    have HT := hid ht
    have hways : N < 1 ∨ (1 ≤ N ∧ (n : Int) < N) := by omega
    clear ht hv
    rcases hways with h1 | ⟨h1, h2⟩
    all_goals
      go_wp2_with fail
      go_loopw [17, 18] (fun z i wr => z = .int .i64 (-1) ∧ i = .int .i64 (at' : Int) ∧ wr = w) (fun _ _ _ => 0)
      case atStart => exact ⟨rfl, rfl, rfl⟩
      case round =>
        obtain ⟨rfl, rfl, rfl⟩ := hrel
        go_wp2_with fail
        exact HQ.out _ ⟨rfl, rfl, rfl, rfl, rfl, rfl, rfl, rfl, rfl⟩ rfl
end Go.Proofs.Ytjihemgidogoeaa
