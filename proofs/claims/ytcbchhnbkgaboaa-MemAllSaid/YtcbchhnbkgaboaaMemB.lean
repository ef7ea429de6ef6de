/- mem's laws: begun. -/
import Derived.Test.YtcbchhnbkgaboaaMemD
namespace Go.Proofs.Ytcbchhnbkgaboaa
open Go.RowKit

theorem Own.int_at {E : TypeId} {base : Nat} {w : World} {v : Value} {k : IntKind} {xs : List Int} (h : Own E k base w v xs) (n : Nat) (hn : xs.length = n) (i : Nat) (hi : i < n) : ∃ g cap, v = .slice (some ⟨g, 0, none⟩) n cap ∧ n ≤ cap ∧ cap ≤ 9223372036854775807 ∧ w.cell? ⟨g, i, none⟩ = some (.int k (xs.getD i 0)) := by
  obtain ⟨g, cap, rfl, _, h1, h2⟩ := h.form (by omega)
  rw [hn] at h1 ⊢
  exact ⟨g, cap, rfl, h1, h2, (h.cell i (by omega)).1⟩
def bM0 : MM := newM 1 2
def bM1 : MM := storeM bM0 10 4 287454020
def bM2 : MM := cleanM bM1
def bM3 : MM := growM bM2 1
set_option maxHeartbeats 2000000 in
theorem begun_to (w : World) : Calls Try.prog 11 #[] w fun e w' => e = .returned (.bool true) ∧ Below w.heap.size w w' := by
  go_enter Try.func11, Try.ntmps11
  go_wp2_with fail
  refine (new_to 1 2 w (by decide)).mono ?_
  rintro e w1 ⟨rfl, hM, hB⟩
  change MemAt w1 (w.heap.size + 1) bM0 at hM
  have hg : w.heap.size ≤ w.heap.size + 1 := by omega
  obtain ⟨g, hgg⟩ : ∃ g, g = w.heap.size + 1 := ⟨_, rfl⟩
  rw [← hgg] at hM hg ⊢
  clear hgg
  have HB := hid hB
  have HM := hid hM
  clear hM hB
  go_wp2_with fail
  refine (store_to g bM0 10 4 287454020 w1 HM.out (by decide) (by decide) (by decide)).mono ?_
  rintro e w2 ⟨rfl, hM, hW⟩
  change MemAt w2 g bM1 at hM
  replace HM := hid hM
  replace HB := hid (HB.out.trans (hW.below HB.out.size hg))
  clear hM hW
  go_wp2_with fail
  refine (load_to g bM1 10 1 w2 HM.out (by decide) (by decide)).mono ?_
  rintro e w' ⟨rfl, rfl⟩
  rw [show numM bM1.c 10 1 = 68 by kernel_rfl]
  go_wp2_with fail
  refine (load_no g bM1 253 4 w2 HM.out (by decide)).mono ?_
  rintro e w' ⟨rfl, rfl⟩
  go_wp2_with fail
  refine (dirty_to g bM1 w2 HM.out).mono ?_
  rintro e w3 ⟨vd, rfl, hO, hb⟩
  rw [show dirtyK bM1.d bM1.p = [0] by kernel_rfl] at hO
  replace HM := hid (HM.out.bl hb)
  replace HB := hid (HB.out.trans (hb.mono HB.out.size))
  have HO := hid hO
  clear hO hb
  go_wp2_with fail
  refine (clean_to g bM1 w3 HM.out).mono ?_
  rintro e w4 ⟨rfl, hM, hW⟩
  change MemAt w4 g bM2 at hM
  replace HO := hid (HO.out.wr hW (HO.out.ne_blk HM.out.blk (by decide)))
  replace HM := hid hM
  replace HB := hid (HB.out.trans (hW.below HB.out.size hg))
  clear hM hW
  go_wp2_with fail
  refine (grow_to g bM2 1 w4 HM.out (by decide)).mono ?_
  rintro e w5 ⟨rfl, hM, hW⟩
  change MemAt w5 g bM3 at hM
  replace HO := hid (HO.out.wr hW (HO.out.ne_blk HM.out.blk (by decide)))
  replace HM := hid hM
  replace HB := hid (HB.out.trans (hW.below HB.out.size hg))
  clear hM hW
  rw [show ((bM2.p : Nat) : Int) = 1 by rfl]
  go_wp2_with fail
  refine (grow_no g bM3 1 w5 HM.out (by decide)).mono ?_
  rintro e w6 ⟨rfl, hb⟩
  replace HM := hid (HM.out.bl hb)
  replace HB := hid (HB.out.trans (hb.mono HB.out.size))
  replace HO := hid (HO.out.below hb (Nat.le_refl _))
  clear hb
  go_wp2_with fail
  refine (pg_to g bM3 0 w6 HM.out (by decide)).mono ?_
  rintro e w7 ⟨vp, rfl, hP, hb⟩
  replace HM := hid (HM.out.bl hb)
  replace HB := hid (HB.out.trans (hb.mono HB.out.size))
  replace HO := hid (HO.out.below hb (Nat.le_refl _))
  have hpl := pageM_len HM.out.ok 0 (by decide)
  obtain ⟨gd, cd, rfl, hd1, hd2, hd3⟩ := HO.out.int_at 1 rfl 0 (by decide)
  obtain ⟨gp, cp, rfl, hp1, hp2, hp3⟩ := hP.int_at 256 hpl 13 (by decide)
  rw [pageM_get 0 13 (by decide), show bM3.c.getD (256 * 0 + 13) 0 = 17 by kernel_rfl] at hp3
  change w7.cell? ⟨gd, 0, none⟩ = some (.int .i64 0) at hd3
  clear hpl hP hb
  go_wp2_with fail
  refine (pages_to g bM3 w7 HM.out).mono ?_
  rintro e w' ⟨rfl, rfl⟩
  rw [show ((bM3.p : Nat) : Int) = 2 by rfl]
  go_wp2_with fail
  refine (dirty_to g bM3 w7 HM.out).mono ?_
  rintro e w8 ⟨v2, rfl, hO, hb⟩
  rw [show dirtyK bM3.d bM3.p = [1] by kernel_rfl] at hO
  obtain ⟨g2, c2, rfl, hq1, hq2, _⟩ := hO.int_at 1 rfl 0 (by decide)
  replace HB := hid (HB.out.trans (hb.mono HB.out.size))
  clear hO hb hd3 hp3 HO
  go_wp2_with fail
  refine (new_no false 0 0 w8 (.inl rfl)).mono ?_
  rintro e w9 ⟨rfl, hb⟩
  replace HB := hid (HB.out.trans (hb.mono HB.out.size))
  clear hb
  go_wp2_with fail
  go_ret
  exact ⟨rfl, HB.out⟩
end Go.Proofs.Ytcbchhnbkgaboaa
