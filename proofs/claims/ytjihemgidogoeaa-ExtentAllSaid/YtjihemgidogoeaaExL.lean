/- extent's laws: begun, ExtentNone; over ExtSpec. -/
import Derived.Test.YtjihemgidogoeaaExS
import Derived.Test.YtjihemgidogoeaaRegionTail
namespace Go.Proofs.Ytjihemgidogoeaa
open Go.RowKit
set_option linter.unusedVariables false

set_option maxRecDepth 100000 in
set_option maxHeartbeats 4000000 in
theorem begun_to (X : ExtSpec) (w : World) : Calls Try.prog 9 #[] w fun e w' => e = .returned (.bool true) ∧ Below w.heap.size w w' := by
  go_enter Try.func9, Try.ntmps9
  go_wp2_with fail
  refine (ExtSpec.L.make X (Bl.refl w) (by decide) (by decide) (by decide)).mono ?_
  rintro e w1 ⟨p, rfl, hL, hb⟩
  have HL := hid (hL.sub (G' := fun _ => False) (fun b h => h.elim))
  clear hL hb
  go_wp2_with fail
  refine (HL.out.take (by decide)).mono ?_
  rintro e w2 ⟨rfl, hL, -⟩
  have e1 : (Rm.new 2 10).takeV 3 = (2, 3, true) := by decide
  rw [e1]
  obtain ⟨M, hM⟩ : ∃ M, (Rm.new 2 10).take 3 = M := ⟨_, rfl⟩
  rw [hM] at hL
  have HM := hid hM
  replace HL := hid hL
  clear hM hL e1
  go_wp2_with fail
  obtain ⟨g, hg⟩ : ∃ g, w2.heap.size = g := ⟨_, rfl⟩
  obtain ⟨w3, hw3⟩ : ∃ w3, w2.alloc (.cells #[.int .i64 2, .int .i64 3] 30) = w3 := ⟨_, rfl⟩
  have hbl : Below w2.heap.size w2 w3 := by rw [← hw3]; exact Bl.alloc (Bl.refl _) _
  have HPA : Hid (Pair w3 g (.int .i64 2) (.int .i64 3)) := hid (by rw [← hw3]; exact Pair.new w2 _ _ _ hg.symm)
  replace HL := hid (HL.out.new (G' := fun b => b = g) hbl (fun b hb => .inr ⟨by omega, by rw [hb]; exact HPA.out.lt⟩))
  rw [hw3, hg]
  clear hbl hw3 hg
  refine (HL.out.use (by decide) (by decide)).mono ?_
  rintro e w4 ⟨rfl, hL, hk, -⟩
  have e1 : M.all 6 2 true = true := by rw [← HM.out]; decide
  rw [e1]
  replace HPA := hid (HPA.out.stay (hk g rfl))
  replace HL := hid hL
  clear e1 hL hk
  go_wp2_with fail
  refine (HL.out.give (by decide) (by decide)).mono ?_
  rintro e w5 ⟨rfl, hL, hk, -⟩
  have e1 : (M.use 6 2 true).all 3 1 false = true := by rw [← HM.out]; decide
  rw [e1]
  replace HPA := hid (HPA.out.stay (hk g rfl))
  replace HL := hid hL
  clear e1 hL hk
  obtain ⟨M2, hM2⟩ : ∃ M2, (M.use 6 2 true).use 3 1 false = M2 := ⟨_, rfl⟩
  rw [hM2] at HL
  have HM2 := hid hM2
  clear hM2
  go_wp2_with fail
  refine (HL.out.take (by decide)).mono ?_
  rintro e w6 ⟨rfl, hL, hk, -⟩
  have e1 : M2.takeV 5 = (0, 0, false) := by rw [← HM2.out, ← HM.out]; decide
  have e2 : M2.take 5 = M2 := by
    have e3 : M2.takeAt 5 = none := by rw [← HM2.out, ← HM.out]; decide
    unfold Rm.take; rw [e3]
  rw [e1]
  rw [e2] at hL
  replace HPA := hid (HPA.out.stay (hk g rfl))
  replace HL := hid hL
  clear e1 e2 hL hk
  go_wp2_with fail
  have hbl : Below w6.heap.size w6 (w6.alloc (.cells #[.int .i64 0, .int .i64 0] 30)) := Bl.alloc (Bl.refl _) _
  replace HPA := hid (HPA.out.below hbl)
  replace HL := hid (HL.out.bel hbl)
  refine HL.out.spans.mono ?_
  rintro e w7 ⟨ao, n, cap, rfl, hq, hL, hb⟩
  have e1 : M2.spans = [(3, 1), (5, 1), (8, 4)] := by rw [← HM2.out, ← HM.out]; decide
  rw [e1] at hq
  obtain rfl : n = 3 := hq.len.symm
  obtain ⟨b, off, rfl, c00, c01⟩ := hq.cell 0 3 1 rfl
  obtain ⟨_, _, hx, c10, c11⟩ := hq.cell 1 5 1 rfl
  obtain ⟨rfl, rfl⟩ : b = _ ∧ off = _ := by injection hx with hx; injection hx with h1 h2 h3; exact ⟨h1, h2⟩
  obtain ⟨_, _, hy, c20, c21⟩ := hq.cell 2 8 4 rfl
  obtain ⟨rfl, rfl⟩ : b = _ ∧ off = _ := by injection hy with hy; injection hy with h1 h2 h3; exact ⟨h1, h2⟩
  have hcap := hq.cap63
  have hle := hq.le
  replace HPA := hid (HPA.out.below hb)
  replace HL := hid hL
  have hpa := HPA.out.c0
  have hpb := HPA.out.c1
  clear hq hL hb e1 hx hy hbl
  go_wp2_with fail
  clear hpa hpb
  refine HL.out.free.mono ?_
  rintro e w8 ⟨rfl, hL, hb⟩
  have e1 : (M2.free : Int) = 6 := by rw [← HM2.out, ← HM.out]; decide
  rw [e1]
  have d00 := (hb.cell (World.block_lt_of_cell? w7 _ c00)).trans c00
  have d01 := (hb.cell (World.block_lt_of_cell? w7 _ c01)).trans c01
  have d10 := (hb.cell (World.block_lt_of_cell? w7 _ c10)).trans c10
  have d20 := (hb.cell (World.block_lt_of_cell? w7 _ c20)).trans c20
  simp only [Nat.zero_mul, Nat.add_zero, Nat.one_mul] at d00 d01 d10 d20
  replace HL := hid hL
  clear e1 hL hb c00 c01 c10 c11 c20 c21 HPA
  go_wp2_with fail
  clear d00 d01 d10 d20
  refine (HL.out.give (by decide) (by decide)).mono ?_
  rintro e w9 ⟨rfl, hL, -⟩
  have e1 : M2.all 8 1 false = false := by rw [← HM2.out, ← HM.out]; decide
  rw [e1]
  replace HL := hid hL
  clear e1 hL
  go_wp2_with fail
  refine (ExtSpec.L.make X HL.out.b (by decide) (by decide) (by decide)).mono ?_
  rintro e wa ⟨q, rfl, hL, hb⟩
  replace HL := hid hL
  clear hL hb
  go_wp2_with fail
  refine HL.out.free.mono ?_
  rintro e wb ⟨rfl, hL, hb⟩
  have e1 : ((Rm.new 0 0).free : Int) = 0 := by decide
  rw [e1]
  replace HL := hid hL
  clear e1 hL hb
  go_wp2_with fail
  go_ret
  exact ⟨rfl, HL.out.b⟩
set_option maxRecDepth 100000 in
set_option maxHeartbeats 4000000 in
theorem extentNone_walk (X : ExtSpec) (w : World) : Calls Try.prog 6 #[] w fun e w' => e = .returned (.bool true) ∧ Below w.heap.size w w' := by
  go_enter Try.func6, Try.ntmps6
  go_wp2_with fail
  refine (X.take_nil w 1).mono ?_
  rintro e w1 ⟨rfl, hb⟩
  have HB := hid hb
  clear hb
  go_wp2_with fail
  replace HB := hid (Bl.alloc HB.out (.cells #[.int .i64 0, .int .i64 0] 30))
  generalize w1.alloc (.cells #[.int .i64 0, .int .i64 0] 30) = w2 at HB ⊢
  refine (begun_to X w2).mono ?_
  rintro e w3 ⟨rfl, hb⟩
  replace HB := hid (Bl.step HB.out hb)
  clear hb
  go_wp2_with fail
  refine (X.use_nil w3 0 1).mono ?_
  rintro e w4 ⟨rfl, hb⟩
  replace HB := hid (Bl.step HB.out hb)
  clear hb
  go_wp2_with fail
  refine (X.give_nil w4 0 1).mono ?_
  rintro e w5 ⟨rfl, hb⟩
  replace HB := hid (Bl.step HB.out hb)
  clear hb
  go_wp2_with fail
  refine (X.free_nil w5).mono ?_
  rintro e w6 ⟨rfl, hb⟩
  replace HB := hid (Bl.step HB.out hb)
  clear hb
  go_wp2_with fail
  refine (X.spans_nil w6).mono ?_
  rintro e w7 ⟨ao, n, cap, rfl, hq, hb⟩
  obtain rfl : n = 0 := hq.len.symm
  replace HB := hid (Bl.step HB.out hb)
  clear hb hq
  go_wp2_with fail
  refine (X.copy_nil w7).mono ?_
  rintro e w8 ⟨rfl, hb⟩
  replace HB := hid (Bl.step HB.out hb)
  clear hb
  go_wp2_with fail
  refine (ExtSpec.L.make X HB.out (by decide) (by decide) (by decide)).mono ?_
  rintro e w9 ⟨p, rfl, hL, -⟩
  have HL := hid hL
  clear hL HB
  go_wp2_with fail
  refine HL.out.free.mono ?_
  rintro e wa ⟨rfl, hL, -⟩
  have e1 : ((Rm.new (-1) 5).free : Int) = 0 := by decide
  rw [e1]
  replace HL := hid hL
  clear e1 hL
  go_wp2_with fail
  refine (ExtSpec.L.make X HL.out.b (by decide) (by decide) (by decide)).mono ?_
  rintro e wb ⟨q, rfl, hL, -⟩
  replace HL := hid hL
  clear hL
  go_wp2_with fail
  refine HL.out.free.mono ?_
  rintro e wc ⟨rfl, hL, -⟩
  have e1 : ((Rm.new 0 2049).free : Int) = 0 := by decide
  rw [e1]
  replace HL := hid hL
  clear e1 hL
  go_wp2_with fail
  go_ret
  exact ⟨rfl, HL.out.b⟩
end Go.Proofs.Ytjihemgidogoeaa
