/- extent's laws: ExtentAll: the small nodes. -/
import Derived.Test.YtjihemgidogoeaaExA6
import Derived.Test.YtjihemgidogoeaaRowsS
import Derived.Test.YtjihemgidogoeaaRowC
namespace Go.Proofs.Ytjihemgidogoeaa
open Go.RowKit
set_option linter.unusedVariables false

/-- The slots at a round's head. -/
structure SlH (a : Act) (at' n : Nat) (oo : Option Addr) (on ocap : Nat) (p : Addr) (fg k : Nat) : Prop where
  d : a.defers = []
  s : a.tmps.size = 306
  t0 : a.tmps.getD 0 undef = .int .i64 (at' : Int)
  t1 : a.tmps.getD 1 undef = .int .i64 (n : Int)
  t2 : a.tmps.getD 2 undef = .slice oo on ocap
  t8 : a.tmps.getD 8 undef = .pointer (some p)
  t9 : a.tmps.getD 9 undef = .slice (some ⟨fg, 0, none⟩) 130 130
  t11 : a.tmps.getD 11 undef = .int .i64 (k : Int)
set_option maxRecDepth 1000000 in
set_option maxHeartbeats 4000000 in
theorem r33_to {a : Act} {w : World} {Q : Exit → Act → World → Prop} {at' n on ocap fg k og : Nat} {oo : Option Addr} {p : Addr} {kd : Int} (hK : SlK a at' n oo on ocap p fg k og)
    (hQ : ∀ a', SlK a' at' n oo on ocap p fg k og → a'.tmps.getD 17 undef = .int .i64 (-1) → Q .normal a' w) : Code.wp Try.prog (sub theBody [1, 1, 1, 1, 1, 1, 1, 0, 1, 0, 0, 1, 0, 0, 1, 1, 1, 1, 0, 1, 0, 1, 0, 0]) Q a w := by
  have HQ := hid hQ
  clear hQ
  obtain ⟨t, ds⟩ := a
  obtain ⟨kd, ks, e0, e1, e2, e8, e9, e11, e12⟩ := hK
  simp only at kd ks e0 e1 e2 e8 e9 e11 e12 
  subst kd
  have ht := frame_of ks
  obtain ⟨U, hU⟩ : ∃ U : Nat → Value, U = fun i => t.getD i undef := ⟨_, rfl⟩
  rw [← hU, allFrame] at ht
  have hu : ∀ i, t.getD i undef = U i := fun i => by rw [hU]
  rw [hu] at e0 e1 e2 e8 e9 e11 e12 
  clear hU hu ks
  subst ht
  rw [e0, e1, e2, e8, e9, e11, e12]
  clear e0 e1 e2 e8 e9 e11 e12 
  conv => arg 2; whnf
  go_wp2_with fail
  exact HQ.out _ ⟨rfl, rfl, rfl, rfl, rfl, rfl, rfl, rfl, rfl⟩ rfl
set_option maxRecDepth 1000000 in
set_option maxHeartbeats 4000000 in
theorem r25_to {a : Act} {w : World} {Q : Exit → Act → World → Prop} {at' n on ocap fg k og : Nat} {oo : Option Addr} {p : Addr} {kd : Int} (hK : SlK a at' n oo on ocap p fg k og) (c0 : w.cell? ⟨og, 0, none⟩ = some (.int .i64 kd)) {v13 v14 : Bool} (t13 : a.tmps.getD 13 undef = .bool v13) (t14 : a.tmps.getD 14 undef = .bool v14)
    (hQ : ∀ a', SlK a' at' n oo on ocap p fg k og → a'.tmps.getD 13 undef = .bool v13 → a'.tmps.getD 14 undef = .bool v14 → a'.tmps.getD 150 undef = .int .i64 kd → Q .normal a' w) : Code.wp Try.prog (sub theBody [1, 1, 1, 1, 1, 1, 1, 0, 1, 0, 0, 1, 0, 0, 1, 1, 1, 1, 0, 0]) Q a w := by
  have HQ := hid hQ
  clear hQ
  obtain ⟨t, ds⟩ := a
  obtain ⟨kd, ks, e0, e1, e2, e8, e9, e11, e12⟩ := hK
  simp only at kd ks e0 e1 e2 e8 e9 e11 e12 t13 t14
  subst kd
  have ht := frame_of ks
  obtain ⟨U, hU⟩ : ∃ U : Nat → Value, U = fun i => t.getD i undef := ⟨_, rfl⟩
  rw [← hU, allFrame] at ht
  have hu : ∀ i, t.getD i undef = U i := fun i => by rw [hU]
  rw [hu] at e0 e1 e2 e8 e9 e11 e12 t13 t14
  clear hU hu ks
  subst ht
  rw [e0, e1, e2, e8, e9, e11, e12, t13, t14]
  clear e0 e1 e2 e8 e9 e11 e12 t13 t14
  conv => arg 2; whnf
  go_wp2_with fail
  exact HQ.out _ ⟨rfl, rfl, rfl, rfl, rfl, rfl, rfl, rfl, rfl⟩ rfl rfl rfl
set_option maxRecDepth 1000000 in
set_option maxHeartbeats 4000000 in
theorem r32_to {a : Act} {w : World} {Q : Exit → Act → World → Prop} {at' n on ocap fg k og : Nat} {oo : Option Addr} {p : Addr} {kd : Int} (hK : SlK a at' n oo on ocap p fg k og) {v13 v14 : Bool} (t13 : a.tmps.getD 13 undef = .bool v13) (t14 : a.tmps.getD 14 undef = .bool v14) (t150 : a.tmps.getD 150 undef = .int .i64 kd)
    (hQ : ∀ a', SlK a' at' n oo on ocap p fg k og → a'.tmps.getD 13 undef = .bool v13 → a'.tmps.getD 14 undef = .bool v14 → a'.tmps.getD 150 undef = .int .i64 kd → a'.tmps.getD 175 undef = .bool (kd == 0) → Q .normal a' w) : Code.wp Try.prog (sub theBody [1, 1, 1, 1, 1, 1, 1, 0, 1, 0, 0, 1, 0, 0, 1, 1, 1, 1, 0, 1, 0, 0]) Q a w := by
  have HQ := hid hQ
  clear hQ
  obtain ⟨t, ds⟩ := a
  obtain ⟨kd, ks, e0, e1, e2, e8, e9, e11, e12⟩ := hK
  simp only at kd ks e0 e1 e2 e8 e9 e11 e12 t13 t14 t150
  subst kd
  have ht := frame_of ks
  obtain ⟨U, hU⟩ : ∃ U : Nat → Value, U = fun i => t.getD i undef := ⟨_, rfl⟩
  rw [← hU, allFrame] at ht
  have hu : ∀ i, t.getD i undef = U i := fun i => by rw [hU]
  rw [hu] at e0 e1 e2 e8 e9 e11 e12 t13 t14 t150
  clear hU hu ks
  subst ht
  rw [e0, e1, e2, e8, e9, e11, e12, t13, t14, t150]
  clear e0 e1 e2 e8 e9 e11 e12 t13 t14 t150
  conv => arg 2; whnf
  go_wp2_with fail
  exact HQ.out _ ⟨rfl, rfl, rfl, rfl, rfl, rfl, rfl, rfl, rfl⟩ rfl rfl rfl (by simp)
set_option maxRecDepth 1000000 in
set_option maxHeartbeats 4000000 in
theorem r51_to {a : Act} {w : World} {Q : Exit → Act → World → Prop} {at' n on ocap fg k og : Nat} {oo : Option Addr} {p : Addr} {kd : Int} (hK : SlK a at' n oo on ocap p fg k og) {v13 v14 : Bool} (t13 : a.tmps.getD 13 undef = .bool v13) (t14 : a.tmps.getD 14 undef = .bool v14) (t150 : a.tmps.getD 150 undef = .int .i64 kd)
    (hQ : ∀ a', SlK a' at' n oo on ocap p fg k og → a'.tmps.getD 13 undef = .bool v13 → a'.tmps.getD 14 undef = .bool v14 → a'.tmps.getD 150 undef = .int .i64 kd → a'.tmps.getD 276 undef = .bool (kd == 1) → Q .normal a' w) : Code.wp Try.prog (sub theBody [1, 1, 1, 1, 1, 1, 1, 0, 1, 0, 0, 1, 0, 0, 1, 1, 1, 1, 0, 1, 0, 1, 1, 0]) Q a w := by
  have HQ := hid hQ
  clear hQ
  obtain ⟨t, ds⟩ := a
  obtain ⟨kd, ks, e0, e1, e2, e8, e9, e11, e12⟩ := hK
  simp only at kd ks e0 e1 e2 e8 e9 e11 e12 t13 t14 t150
  subst kd
  have ht := frame_of ks
  obtain ⟨U, hU⟩ : ∃ U : Nat → Value, U = fun i => t.getD i undef := ⟨_, rfl⟩
  rw [← hU, allFrame] at ht
  have hu : ∀ i, t.getD i undef = U i := fun i => by rw [hU]
  rw [hu] at e0 e1 e2 e8 e9 e11 e12 t13 t14 t150
  clear hU hu ks
  subst ht
  rw [e0, e1, e2, e8, e9, e11, e12, t13, t14, t150]
  clear e0 e1 e2 e8 e9 e11 e12 t13 t14 t150
  conv => arg 2; whnf
  go_wp2_with fail
  exact HQ.out _ ⟨rfl, rfl, rfl, rfl, rfl, rfl, rfl, rfl, rfl⟩ rfl rfl rfl (by simp)
set_option maxRecDepth 1000000 in
set_option maxHeartbeats 4000000 in
theorem r14_to {a : Act} {w : World} {Q : Exit → Act → World → Prop} {at' n on ocap fg k og : Nat} {oo : Option Addr} {p : Addr} {kd : Int} (hK : SlK a at' n oo on ocap p fg k og) (hk : k < 60)
    (hQ : ∀ a', SlH a' at' n oo on ocap p fg (k + 1) → Q .normal a' w) : Code.wp Try.prog (sub theBody [1, 1, 1, 1, 1, 1, 1, 0, 1, 0, 0, 1, 1]) Q a w := by
  have HQ := hid hQ
  clear hQ
  obtain ⟨t, ds⟩ := a
  obtain ⟨kd, ks, e0, e1, e2, e8, e9, e11, e12⟩ := hK
  simp only at kd ks e0 e1 e2 e8 e9 e11 e12 
  subst kd
  have ht := frame_of ks
  obtain ⟨U, hU⟩ : ∃ U : Nat → Value, U = fun i => t.getD i undef := ⟨_, rfl⟩
  rw [← hU, allFrame] at ht
  have hu : ∀ i, t.getD i undef = U i := fun i => by rw [hU]
  rw [hu] at e0 e1 e2 e8 e9 e11 e12 
  clear hU hu ks
  subst ht
  rw [e0, e1, e2, e8, e9, e11, e12]
  clear e0 e1 e2 e8 e9 e11 e12 
  conv => arg 2; whnf
  go_wp2_with fail
  exact HQ.out _ ⟨rfl, rfl, rfl, rfl, rfl, rfl, rfl, by show Value.int .i64 ((k : Int) + 1) = _; go_num⟩
set_option maxRecDepth 1000000 in
set_option maxHeartbeats 4000000 in
theorem H_go {a : Act} {w : World} {Q : Exit → Act → World → Prop} {at' n on ocap fg k og : Nat} {oo : Option Addr} {p : Addr} {kd : Int} (hK : SlH a at' n oo on ocap p fg k) (hon : on ≤ ocap) (ho63 : ocap ≤ 9223372036854775807) (h1 : k < on) (h2 : k < 60)
    (hQ : ∀ a', SlH a' at' n oo on ocap p fg k → Q .normal a' w) : Code.wp Try.prog (sub theBody [1, 1, 1, 1, 1, 1, 1, 0, 1, 0, 0, 0]) Q a w := by
  have HQ := hid hQ
  clear hQ
  obtain ⟨t, ds⟩ := a
  obtain ⟨kd, ks, e0, e1, e2, e8, e9, e11⟩ := hK
  simp only at kd ks e0 e1 e2 e8 e9 e11 
  subst kd
  have ht := frame_of ks
  obtain ⟨U, hU⟩ : ∃ U : Nat → Value, U = fun i => t.getD i undef := ⟨_, rfl⟩
  rw [← hU, allFrame] at ht
  have hu : ∀ i, t.getD i undef = U i := fun i => by rw [hU]
  rw [hu] at e0 e1 e2 e8 e9 e11 
  clear hU hu ks
  subst ht
  rw [e0, e1, e2, e8, e9, e11,]
  clear e0 e1 e2 e8 e9 e11 
  conv => arg 2; whnf
  have d1 : (k : Int) < on := by omega
  have d2 : (k : Int) < 60 := by omega
  go_wp2_with fail
  exact HQ.out _ ⟨rfl, rfl, rfl, rfl, rfl, rfl, rfl, rfl⟩
set_option maxRecDepth 1000000 in
set_option maxHeartbeats 4000000 in
theorem H_end {a : Act} {w : World} {Q : Exit → Act → World → Prop} {at' n on ocap fg k og : Nat} {oo : Option Addr} {p : Addr} {kd : Int} (hK : SlH a at' n oo on ocap p fg k) (hon : on ≤ ocap) (ho63 : ocap ≤ 9223372036854775807) (hno : ¬ (k < on ∧ k < 60))
    (hQ : ∀ a', SlH a' at' n oo on ocap p fg k → Q (.exit 2) a' w) : Code.wp Try.prog (sub theBody [1, 1, 1, 1, 1, 1, 1, 0, 1, 0, 0, 0]) Q a w := by
  have HQ := hid hQ
  clear hQ
  obtain ⟨t, ds⟩ := a
  obtain ⟨kd, ks, e0, e1, e2, e8, e9, e11⟩ := hK
  simp only at kd ks e0 e1 e2 e8 e9 e11 
  subst kd
  have ht := frame_of ks
  obtain ⟨U, hU⟩ : ∃ U : Nat → Value, U = fun i => t.getD i undef := ⟨_, rfl⟩
  rw [← hU, allFrame] at ht
  have hu : ∀ i, t.getD i undef = U i := fun i => by rw [hU]
  rw [hu] at e0 e1 e2 e8 e9 e11 
  clear hU hu ks
  subst ht
  rw [e0, e1, e2, e8, e9, e11,]
  clear e0 e1 e2 e8 e9 e11 
  conv => arg 2; whnf
  by_cases h1 : k < on
  · have d1 : (k : Int) < on := by omega
    have d2 : ¬ (k : Int) < 60 := by omega
    clear hno
    go_wp2_with fail
    exact HQ.out _ ⟨rfl, rfl, rfl, rfl, rfl, rfl, rfl, rfl⟩
  · have d1 : ¬ (k : Int) < on := by omega
    clear hno
    go_wp2_with fail
    exact HQ.out _ ⟨rfl, rfl, rfl, rfl, rfl, rfl, rfl, rfl⟩
end Go.Proofs.Ytjihemgidogoeaa
