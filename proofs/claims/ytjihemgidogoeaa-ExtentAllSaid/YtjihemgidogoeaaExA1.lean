/- extent's laws: ExtentAll: may it be asked for. -/
import Derived.Test.YtjihemgidogoeaaExA0
import Derived.BigQuiet
import Derived.Deep.QuietTactic
namespace Go.Proofs.Ytjihemgidogoeaa
open Go.RowKit
set_option linter.unusedVariables false
set_option maxRecDepth 1000000 in
set_option maxHeartbeats 4000000 in
theorem r16_to {a : Act} {w : World} {Q : Exit → Act → World → Prop} {at' n on ocap fg k og : Nat} {oo : Option Addr} {p : Addr} {A N : Int} (hK : SlK a at' n oo on ocap p fg k og) (hat : at' ≤ 50) (hn : n ≤ 60)
    (c1 : w.cell? ⟨og, 1, none⟩ = some (.int .i64 A)) (c2 : w.cell? ⟨og, 2, none⟩ = some (.int .i64 N)) (hog : og < w.heap.size) (hA : -9223372036854775808 ≤ A ∧ A ≤ 9223372036854775807)
    (hQ : ∀ a' m, SlK a' at' n oo on ocap p fg k og → a'.tmps.getD 13 undef = .bool (decide (Vld at' n A N)) → a'.tmps.getD 14 undef = .bool (decide (Vld at' n A N)) → Q .normal a' (w.drewN m)) :
    Code.wp Try.prog (sub theBody [1, 1, 1, 1, 1, 1, 1, 0, 1, 0, 0, 1, 0, 0, 1, 0]) Q a w := by
  have HQ := hid hQ
  clear hQ
  obtain ⟨t, ds⟩ := a
  obtain ⟨kd, ks, e0, e1, e2, e8, e9, e11, e12⟩ := hK
  simp only at kd ks e0 e1 e2 e8 e9 e11 e12 
  subst kd
  have ht := frame_of ks
  obtain ⟨U, hU⟩ : ∃ U : Nat → Value, U = fun i => t.getD i undef := ⟨_, rfl⟩
  rw [← hU, allFrame] at ht
  have hu : ∀ i, t.getD i undef = U i := fun i => by rw [hU]
  rw [hu] at e0 e1 e2 e8 e9 e11 e12 
  clear hU hu ks
  subst ht
  rw [e0, e1, e2, e8, e9, e11, e12]
  clear e0 e1 e2 e8 e9 e11 e12 
  conv => arg 2; whnf
  by_cases h1 : 1 ≤ N
  · by_cases h2 : (at' : Int) ≤ A
    · obtain ⟨u, hu⟩ : ∃ u : Nat, (at' : Int) + n = u := ⟨at' + n, by omega⟩
      obtain ⟨d, hd⟩ : ∃ d : Int, (u : Int) - A = d ∧ -9223372036854775808 ≤ d ∧ d ≤ 9223372036854775807 := ⟨_, rfl, by omega, by omega⟩
      obtain ⟨hd, hd1, hd2⟩ := hd
      have hu63 : (u : Int) ≤ 9223372036854775807 := by omega
      by_cases h3 : N ≤ d
      · have HD : Hid (decide (Vld at' n A N) = true) := hid (decide_eq_true ⟨h1, h2, by omega⟩)
        go_quiet (fail)
        exact HQ.out _ nq ⟨rfl, rfl, rfl, rfl, rfl, rfl, rfl, rfl, rfl⟩ (by rw [HD.out]; rfl) (by rw [HD.out]; rfl)
      · have HD : Hid (decide (Vld at' n A N) = false) := hid (decide_eq_false (fun h => by have := h.2.2; omega))
        go_quiet (fail)
        exact HQ.out _ nq ⟨rfl, rfl, rfl, rfl, rfl, rfl, rfl, rfl, rfl⟩ (by rw [HD.out]; rfl) (by rw [HD.out]; rfl)
    · have HD : Hid (decide (Vld at' n A N) = false) := hid (decide_eq_false (fun h => h2 h.2.1))
      go_quiet (fail)
      exact HQ.out _ nq ⟨rfl, rfl, rfl, rfl, rfl, rfl, rfl, rfl, rfl⟩ (by rw [HD.out]; rfl) (by rw [HD.out]; rfl)
  · have HD : Hid (decide (Vld at' n A N) = false) := hid (decide_eq_false (fun h => h1 h.1))
    go_quiet (fail)
    exact HQ.out _ nq ⟨rfl, rfl, rfl, rfl, rfl, rfl, rfl, rfl, rfl⟩ (by rw [HD.out]; rfl) (by rw [HD.out]; rfl)
end Go.Proofs.Ytjihemgidogoeaa
