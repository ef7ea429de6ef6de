/- space's laws: begun, SpaceNone. -/
import Derived.Test.YthknmoaffapkhaaSpe
import Derived.Test.YthknmoaffapkhaaRefV
namespace Go.Proofs.Ythknmoaffapkhaa
open Go.RowKit Go.Maps
set_option linter.unusedVariables false

theorem gl_one (w : World) (v : Int × Int) : RdC 3 (w.alloc (.cells #[.bool false, .int .i64 v.1, .int .i64 v.2] 41)) (some ⟨w.heap.size, 0, none⟩) 1 1 ([v].map gc) := by
  refine ⟨rfl, Nat.le_refl _, by unfold maxLen; omega, fun i hi => ⟨w.heap.size, 0, rfl, fun j u hj => ?_⟩⟩
  obtain rfl : i = 0 := by omega
  have hl : (gc v)[j]? = some u := hj
  have := World.news_of_block (heap_alloc_new w (.cells #[.bool false, .int .i64 v.1, .int .i64 v.2] 41)) j u hl
  rw [Addr.add_lit] at this
  simpa using this

set_option maxHeartbeats 2000000 in
theorem begun_to (w : World) : Calls Try.prog 6 #[] w fun e w' => e = .returned (.bool true) ∧ Below w.heap.size w w' := by
  go_enter Try.func6, Try.ntmps6
  go_wp2_with fail
  refine (new_to true 2 (-1) (by decide) (.inl rfl) (some ⟨w.heap.size, 0, none⟩) 1 [(1, 5)] (by decide) _ (gl_one w (1, 5))).mono ?_
  rintro e w1 ⟨S, rfl, hS, hb⟩
  have HB := hid ((Bl.alloc (Bl.refl w) (.cells #[.bool false, .int .i64 1, .int .i64 5] 41)).trans (hb.mono (by simp)))
  have HS := hid hS
  have hsz : w.heap.size + 1 ≤ w1.heap.size := by have := hb.size; simpa using this
  have hp : w.heap.size + 1 ≤ S.p := by have := hS.hp; simpa using this
  have hbm : w.heap.size + 1 ≤ S.bm := by have := hS.hb; simpa using this
  have hsz0 : w.heap.size ≤ w1.heap.size := by omega
  clear hS hb
  go_wp2_with fail
  refine (elem_to HS.out 0 (by decide)).mono ?_
  rintro e w' ⟨rfl, rfl⟩
  rw [show elemIs (List.replicate 2 (-1)) 0 = false by decide, show elemF (List.replicate 2 (-1)) 0 = 0 by decide]
  go_wp2_with fail
  have hl := HS.out.lt
  refine (setElems_to (HS.out.alloc (.cells #[.int .i64 7] 3)) 1 (some ⟨w1.heap.size, 0, none⟩) 1 [7] (Rd.built w1 .i64 3 7 (by decide)) (by decide) (by decide) (by decide) (fun ad e => by cases e; show w1.heap.size ≠ S.bm; omega)).mono ?_
  rintro e w2 ⟨rfl, hS, hW⟩
  rw [show layT (List.replicate 2 (-1)) 1 [7] = [-1, 7] by decide] at hS
  replace HB := hid (HB.out.trans (((Bl.alloc (Bl.refl w1) (.cells #[.int .i64 7] 3)).mono hsz0).trans (hW.below (by simp; omega) (by omega))))
  replace HS := hid hS
  clear hS hW hl
  go_wp2_with fail
  refine (setElems_no (HS.out.alloc (.cells #[.int .i64 7, .int .i64 8] 3)) 1 (by decide) (some ⟨w2.heap.size, 0, none⟩) 2 2 (by decide) (.inr (by decide))).mono ?_
  rintro e w3 ⟨rfl, rfl⟩
  replace HB := hid (HB.out.trans ((Bl.alloc (Bl.refl w2) (.cells #[.int .i64 7, .int .i64 8] 3)).mono HB.out.size))
  replace HS := hid (HS.out.alloc (.cells #[.int .i64 7, .int .i64 8] 3))
  generalize w2.alloc (.cells #[.int .i64 7, .int .i64 8] 3) = w3 at HB HS ⊢
  go_wp2_with fail
  refine (elem_to HS.out 1 (by decide)).mono ?_
  rintro e w' ⟨rfl, rfl⟩
  rw [show elemIs [-1, 7] 1 = true by decide, show elemF [-1, 7] 1 = 7 by decide]
  go_wp2_with fail
  refine (setGlobal_to HS.out 0 1 6 (by decide) (by decide)).mono ?_
  rintro e w4 ⟨rfl, hS, g, hg, hW⟩
  have hgl := (HS.out.gl.lt g hg).1
  replace HB := hid (HB.out.trans (hW.below HB.out.size (by simp at hgl; omega)))
  replace HS := hid hS
  rw [show [((1 : Int), (5 : Int))].set 0 (1, 6) = [(1, 6)] by decide] at HS
  clear hS hW hg hgl
  go_wp2_with fail
  refine (setGlobal_kind HS.out 0 2 0 (by decide) (by decide)).mono ?_
  rintro e w5 ⟨rfl, hb⟩
  replace HS := hid (HS.out.bl hb)
  replace HB := hid (HB.out.trans (hb.mono HB.out.size))
  clear hb
  go_wp2_with fail
  refine (global_to HS.out 0 (by decide)).mono ?_
  rintro e w6 ⟨rfl, hb⟩
  replace HS := hid (HS.out.bl hb)
  replace HB := hid (HB.out.trans (hb.mono HB.out.size))
  clear hb
  rw [show [((1 : Int), (6 : Int))].getD 0 (0, 0) = (1, 6) by decide]
  simp only
  go_wp2_with fail
  have hpr := Pair.new w6 (.int .i64 1) (.int .i64 6) 39 rfl
  have hPR := hid hpr
  replace HS := hid (HS.out.alloc (.cells #[.int .i64 1, .int .i64 6] 39))
  replace HB := hid (HB.out.trans ((Bl.alloc (Bl.refl w6) (.cells #[.int .i64 1, .int .i64 6] 39)).mono HB.out.size))
  have hq : w6.heap.size < (w6.alloc (.cells #[.int .i64 1, .int .i64 6] 39)).heap.size := by simp
  clear hpr
  generalize w6.heap.size = q at hPR hq ⊢
  generalize w6.alloc (.cells #[.int .i64 1, .int .i64 6] 39) = w7 at HS HB hPR hq ⊢
  refine (elems_to HS.out (by decide)).mono ?_
  rintro e w8 ⟨v, rfl, ho, hb⟩
  replace HS := hid (HS.out.bl hb)
  replace HB := hid (HB.out.trans (hb.mono HB.out.size))
  have c1 := (hPR.out.below hb).c1
  obtain ⟨ao, cap, rfl, hrd⟩ := ho.rd
  obtain ⟨b, off, rfl, hc⟩ := hrd.at (by decide)
  have e0 := hc 0 (by decide)
  have hle := hrd.le
  have hc63 := hrd.cap63
  simp only [List.length_cons, List.length_nil, Nat.zero_add, Nat.add_zero, List.getD_cons_zero] at e0 hle ⊢
  clear hPR ho hb hrd hc
  go_wp2_with fail
  refine (globals_to HS.out).mono ?_
  rintro e w9 ⟨v, rfl, ho, hb⟩
  obtain ⟨ao, cp, rfl, h1, h2, _⟩ := ho.shape
  replace HB := hid (HB.out.trans (hb.mono HB.out.size))
  simp only [List.length_map, List.length_cons, List.length_nil, Nat.zero_add] at h1 ⊢
  clear ho hb HS c1 e0
  go_wp2_with fail
  go_ret
  exact ⟨rfl, HB.out⟩

set_option maxHeartbeats 1000000 in
theorem spaceNone_walk (w : World) : Calls Try.prog 4 #[] w fun e w' => e = .returned (.bool true) ∧ Below w.heap.size w w' := by
  go_enter Try.func4, Try.ntmps4
  go_wp2_with fail
  refine (elem_nil 0 w).mono ?_
  rintro e w' ⟨rfl, rfl⟩
  go_wp2_with fail
  refine (global_nil 0 w).mono ?_
  rintro e w1 ⟨rfl, hb⟩
  have HB := hid (Bl.alloc hb (.cells #[.int .i64 0, .int .i64 0] 39))
  clear hb
  go_wp2_with fail
  generalize w1.alloc (.cells #[.int .i64 0, .int .i64 0] 39) = w2 at HB ⊢
  refine (begun_to w2).mono ?_
  rintro e w3 ⟨rfl, hb⟩
  replace HB := hid (HB.out.trans (hb.mono HB.out.size))
  clear hb
  go_wp2_with fail
  refine (setElems_nil 0 _ rfl w3).mono ?_
  rintro e w' ⟨rfl, rfl⟩
  go_wp2_with fail
  refine (setGlobal_nil 0 1 0 w3).mono ?_
  rintro e w4 ⟨rfl, hb⟩
  replace HB := hid (HB.out.trans (hb.mono HB.out.size))
  clear hb
  go_wp2_with fail
  refine (elems_nil w4).mono ?_
  rintro e w' ⟨rfl, rfl⟩
  go_wp2_with fail
  refine (globals_nil w4).mono ?_
  rintro e w' ⟨rfl, rfl⟩
  go_wp2_with fail
  go_ret
  exact ⟨rfl, HB.out⟩
end Go.Proofs.Ythknmoaffapkhaa
