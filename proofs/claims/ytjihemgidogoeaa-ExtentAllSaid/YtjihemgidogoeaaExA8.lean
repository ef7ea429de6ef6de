/- extent's laws: ExtentAll: one op, its end. -/
import Derived.Test.YtjihemgidogoeaaExA7
namespace Go.Proofs.Ytjihemgidogoeaa
open Go.RowKit
set_option linter.unusedVariables false

/-- What lasts from round to round. -/
structure MS0 (X : ExtSpec) (w0 w : World) (M : Rm) (p : Addr) (fg : Nat) (F : List Bool) : Prop where
  L : X.L w0 (fun b => b = fg) M p w
  row : OwnV 4 w0.heap.size w (.slice (some ⟨fg, 0, none⟩) 130 130) (boolS F)
  len : F.length = 130
theorem span3 (w : World) : ∃ W q, w.alloc (.cells #[.int .i64 0, .int .i64 0, .int .i64 0] 28) = W ∧ w.heap.size = q ∧ Below q w W ∧ Blk W q 28 [.int .i64 0, .int .i64 0, .int .i64 0] :=
  ⟨_, _, rfl, rfl, Bl.alloc (Bl.refl w) _, Blk.new w _ _⟩
set_option maxRecDepth 1000000 in
set_option maxHeartbeats 4000000 in
theorem r15_to (X : ExtSpec) {a : Act} {w0 w : World} {Q : Exit → Act → World → Prop} {at' n on ocap fg k : Nat} {b off : Nat} {p : Addr} {kd A N : Int} {F : List Bool} {M : Rm} (hK : SlH a at' n (some ⟨b, off, none⟩) on ocap p fg k) (hS : MS0 X w0 w M p fg F) (hon : on ≤ ocap) (ho63 : ocap ≤ 9223372036854775807) (h1 : k < on)
    (c0 : w.cell? ⟨b, off + k * 3, none⟩ = some (.int .i64 kd)) (c1 : w.cell? ⟨b, off + k * 3 + 1, none⟩ = some (.int .i64 A)) (c2 : w.cell? ⟨b, off + k * 3 + 2, none⟩ = some (.int .i64 N))
    (hQ : ∀ a' w' og, SlK a' at' n (some ⟨b, off, none⟩) on ocap p fg k og → MS X w0 w' M p fg og F kd A N → Q .normal a' w') :
    Code.wp Try.prog (sub theBody [1, 1, 1, 1, 1, 1, 1, 0, 1, 0, 0, 1, 0, 0, 0]) Q a w := by
  have HQ := hid hQ
  clear hQ
  obtain ⟨t, ds⟩ := a
  obtain ⟨kd, ks, e0, e1, e2, e8, e9, e11⟩ := hK
  simp only at kd ks e0 e1 e2 e8 e9 e11 
  subst kd
  have ht := frame_of ks
  obtain ⟨U, hU⟩ : ∃ U : Nat → Value, U = fun i => t.getD i undef := ⟨_, rfl⟩
  rw [← hU, allFrame] at ht
  have hu : ∀ i, t.getD i undef = U i := fun i => by rw [hU]
  rw [hu] at e0 e1 e2 e8 e9 e11 
  clear hU hu ks
  subst ht
  rw [e0, e1, e2, e8, e9, e11,]
  clear e0 e1 e2 e8 e9 e11 
  conv => arg 2; whnf
  obtain ⟨W3, q3, hW3, hq3, hB3, hb3⟩ := span3 w
  have d0 := (hB3.cell (p := ⟨b, off + k * 3, none⟩) (by rw [← hq3]; exact World.block_lt_of_cell? _ _ c0)).trans c0
  have d1 := (hB3.cell (p := ⟨b, off + k * 3 + 1, none⟩) (by rw [← hq3]; exact World.block_lt_of_cell? _ _ c1)).trans c1
  have d2 := (hB3.cell (p := ⟨b, off + k * 3 + 2, none⟩) (by rw [← hq3]; exact World.block_lt_of_cell? _ _ c2)).trans c2
  have g0 := hb3.cell 0; have g1 := hb3.cell 1; have g2 := hb3.cell 2
  have z0 := hb3.frozen 0; have z1 := hb3.frozen 1; have z2 := hb3.frozen 2
  have hl3 := hb3.lt
  simp only [List.getElem?_cons_zero, List.getElem?_cons_succ] at g0 g1 g2
  have hb4 := ((hb3.set 0 (.int .i64 kd)).set 1 (.int .i64 A)).set 2 (.int .i64 N)
  simp only [List.set_cons_zero, List.set_cons_succ] at hb4
  have hB4 := ((hB3.setCell (p := ⟨q3, 0, none⟩) (Nat.le_refl _) (.int .i64 kd)).setCell (p := ⟨q3, 1, none⟩) (Nat.le_refl _) (.int .i64 A)).setCell (p := ⟨q3, 2, none⟩) (Nat.le_refl _) (.int .i64 N)
  obtain ⟨W4, hW4⟩ : ∃ W4, (((W3.setCell ⟨q3, 0, none⟩ (.int .i64 kd)).setCell ⟨q3, 1, none⟩ (.int .i64 A)).setCell ⟨q3, 2, none⟩ (.int .i64 N)) = W4 := ⟨_, rfl⟩
  rw [hW4] at hb4 hB4
  have hMS : MS X w0 W4 M p fg q3 F kd A N := ⟨hS.L.new (by rw [hq3]; exact hB4) (fun b hb => by
    rcases hb with hb | hb
    · exact .inl hb
    · exact .inr (by have := hb4.lt; omega)), hS.row.below (B := q3) hB4 (by omega), hS.len, hb4⟩
  have HMS := hid hMS
  have hki : (k : Int) < on := by omega
  clear hb3 hb4 hB3 hB4 hMS hS
  go_wp2_with fail
  exact HQ.out _ _ q3 ⟨rfl, rfl, rfl, rfl, rfl, rfl, rfl, rfl, rfl⟩ HMS.out
set_option maxRecDepth 1000000 in
set_option maxHeartbeats 4000000 in
theorem S58_to (X : ExtSpec) {a : Act} {w0 w : World} {Q : Exit → Act → World → Prop} {at' n on ocap fg k og : Nat} {oo : Option Addr} {p : Addr} {kd A N : Int} {F : List Bool} {M : Rm} (hK : SlK a at' n oo on ocap p fg k og) (hat : at' ≤ 50) (hn : n ≤ 60) (hlo : M.lo = at') (hlen : M.fr.length = n) (hp : M.pad F)
    (hS : MS X w0 w M p fg og F kd A N) (hQ : ∀ a' w', SlK a' at' n oo on ocap p fg k og → MS0 X w0 w' M p fg F → Q .normal a' w') :
    Code.wp Try.prog (sub theBody [1, 1, 1, 1, 1, 1, 1, 0, 1, 0, 0, 1, 0, 0, 1, 1, 1, 1, 1]) Q a w := by
  have hc := same_to X w0 _ M p _ 130 F w hS.L hS.rdB hp (by omega)
  have HC := hid hc
  have HS := hid hS
  have HQ := hid hQ
  clear hQ hS hc hp
  obtain ⟨t, ds⟩ := a
  obtain ⟨kd, ks, e0, e1, e2, e8, e9, e11, e12⟩ := hK
  simp only at kd ks e0 e1 e2 e8 e9 e11 e12 
  subst kd
  have ht := frame_of ks
  obtain ⟨U, hU⟩ : ∃ U : Nat → Value, U = fun i => t.getD i undef := ⟨_, rfl⟩
  rw [← hU, allFrame] at ht
  have hu : ∀ i, t.getD i undef = U i := fun i => by rw [hU]
  rw [hu] at e0 e1 e2 e8 e9 e11 e12 
  clear hU hu ks
  subst ht
  rw [e0, e1, e2, e8, e9, e11, e12]
  clear e0 e1 e2 e8 e9 e11 e12 
  conv => arg 2; whnf
  go_wp2_with fail
  refine HC.out.mono ?_
  rintro e w1 ⟨rfl, hL, hb⟩
  have H := hid (And.intro hL hb)
  clear hL hb
  go_wp2_with fail
  exact HQ.out _ _ ⟨rfl, rfl, rfl, rfl, rfl, rfl, rfl, rfl, rfl⟩ ⟨H.out.1.sub (fun b hb => .inl hb), HS.out.row.below H.out.2 (Nat.le_refl _), HS.out.len⟩
end Go.Proofs.Ytjihemgidogoeaa
