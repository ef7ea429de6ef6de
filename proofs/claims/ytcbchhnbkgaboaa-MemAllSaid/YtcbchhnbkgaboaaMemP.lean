/- mem: Page, SetPage, Dirty; bytes.Clone. -/
import Derived.Test.YtcbchhnbkgaboaaMemG
import Derived.Deep.RegionLaw
import Derived.WalkSpells
namespace Go.Proofs.Ytcbchhnbkgaboaa
open Go.RowKit

theorem info5 : (Try.prog.info? 5).map (fun i => (i.zero, i.size, i.bytes)) = some (some (.int .u8 0), 1, 1) := by kernel_rfl
theorem info3 : (Try.prog.info? 3).map (fun i => (i.zero, i.size, i.bytes)) = some (some (.int .i64 0), 1, 8) := by kernel_rfl
theorem stopHere {p : Prop} (h : Hid p) : p := h.out
/-- An empty row that is not nil. -/
theorem Own.empty (w : World) (E : TypeId) (k : IntKind) {base : Nat} (hb : base ≤ w.heap.size) : Own E k base (w.alloc (.cells #[] E)) (.slice (some ⟨w.heap.size, 0, none⟩) 0 0) [] :=
  ⟨⟨rfl, .inr ⟨w.heap.size, 0, #[], rfl, hb, heap_alloc_new w _, Nat.le_refl _, Nat.zero_le _, rfl, rfl⟩⟩, fun _ h => by cases h⟩
theorem clone_to (ad : Addr) (n cap : Nat) (xs : List Int) (w : World) (hr : Rd .u8 w (some ad) n cap xs) (hn : n ≤ 65536) :
    Calls Try.prog 26 #[.slice (some ad) n cap] w fun e w' => ∃ v, e = .returned v ∧ Own 5 .u8 w.heap.size w' v xs ∧ Below w.heap.size w w' := by
  have HR := hid hr
  clear hr
  have he := fun w => Lib.run_eql_slice_nil (P := Try.prog) w 28 5 (some ad) n cap 0 0 Try.underlying28
  go_enter Try.func26, Try.ntmps26
  go_wp2_with (at_builtin; apply stopHere)
  refine hid ?_
  refine wpList_append_rd rfl (.tmp 5) (.tmp 6) 28 rfl 5 .u8 w.heap.size 1 Try.underlying28 info5 _ [] rfl (Own.empty w _ _ (Nat.le_refl _)) (some ad) n cap xs rfl (HR.out.below (Bl.alloc (Bl.refl _) _)) (by simp; omega) (by simp; omega) (by simp) ?_
  intro v w2 h1 h2 _
  have H := hid (And.intro h1 ((Bl.alloc (Bl.refl w) (.cells #[] 5)).trans h2))
  clear h1 h2
  go_wp2_with fail
  go_ret
  have := H.out
  simp only [List.nil_append] at this
  exact ⟨v, rfl, this.1, this.2⟩

theorem pageM_rd {w : World} {g : Nat} {M : MM} (h : MemAt w g M) (i : Nat) (hi : i < 16) : Rd .u8 w (some ⟨g, 2 + 256 * i, none⟩) 256 (4096 - 256 * i) (pageM M i) := by
  refine ⟨pageM_len h.ok i hi, by omega, by unfold maxLen; omega, (fun h => by cases h), fun ad ha j hj => ?_, fun x hx => ?_⟩
  · cases ha
    rw [Addr.add_lit, pageM_get i j hj, show 2 + 256 * i + j = 2 + (256 * i + j) by omega]
    exact h.cc _ (by omega)
  · have := pageM_wf h.ok i x hx
    have h1 : IntKind.u8.min = 0 := rfl
    have h2 : IntKind.u8.max = 255 := rfl
    simp only [Lit.wf, h1, h2, Bool.and_eq_true, decide_eq_true_eq]
    omega
theorem pg_no (g : Nat) (M : MM) (i : Int) (w : World) (hM : MemAt w g M) (hi : i < 0 ∨ (M.p : Int) ≤ i) :
    Calls Try.prog 20 #[.pointer (some ⟨g, 0, none⟩), .int .i64 i] w fun e w' => e = .returned (.slice none 0 0) ∧ w = w' := by
  have hs := hasPage_to g M i w hM
  rw [show decide (0 ≤ i ∧ i < (M.p : Int)) = false by simp; omega] at hs
  clear hM hi
  go_enter Try.func20, Try.ntmps20
  go_wp2_with fail
  refine hs.mono ?_
  rintro e w' ⟨rfl, rfl⟩
  go_wp2_with fail
  go_ret
  exact ⟨rfl, rfl⟩
theorem pg_nil (i : Int) (w : World) : Calls Try.prog 20 #[.pointer none, .int .i64 i] w fun e w' => e = .returned (.slice none 0 0) ∧ w = w' := by
  have hs := hasPage_nil i w
  go_enter Try.func20, Try.ntmps20
  go_wp2_with fail
  refine hs.mono ?_
  rintro e w' ⟨rfl, rfl⟩
  go_wp2_with fail
  go_ret
  exact ⟨rfl, rfl⟩
theorem pg_to (g : Nat) (M : MM) (i : Nat) (w : World) (hM : MemAt w g M) (hi : i < M.p) :
    Calls Try.prog 20 #[.pointer (some ⟨g, 0, none⟩), .int .i64 (i : Int)] w fun e w' => ∃ v, e = .returned v ∧ Own 5 .u8 w.heap.size w' v (pageM M i) ∧ Below w.heap.size w w' := by
  have hp := hM.ok.pl
  have hs := hasPage_to g M i w hM
  rw [show decide (0 ≤ (i : Int) ∧ (i : Int) < (M.p : Int)) = true by simp; omega] at hs
  have h2 := page_to g M i w hM (by omega)
  have h3 := clone_to _ 256 (4096 - 256 * i) _ w (pageM_rd hM i (by omega)) (by omega)
  clear hM
  go_enter Try.func20, Try.ntmps20
  go_wp2_with fail
  refine hs.mono ?_
  rintro e w' ⟨rfl, rfl⟩
  go_wp2_with fail
  refine h2.mono ?_
  rintro e w' ⟨rfl, rfl⟩
  go_wp2_with fail
  refine h3.mono ?_
  rintro e w' ⟨v, rfl, h4, h5⟩
  have H := hid (And.intro h4 h5)
  clear h4 h5 h3 h2 hs
  go_wp2_with fail
  go_ret
  exact ⟨v, rfl, H.out⟩

theorem setPage_no (g : Nat) (M : MM) (i : Int) (ao : Option Addr) (n cap : Nat) (w : World) (hM : MemAt w g M) (hi : i < 0 ∨ (M.p : Int) ≤ i ∨ n ≠ 256) :
    Calls Try.prog 16 #[.pointer (some ⟨g, 0, none⟩), .int .i64 i, .slice ao n cap] w fun e w' => e = .returned (.bool false) ∧ w = w' := by
  have hs := hasPage_to g M i w hM
  by_cases h : 0 ≤ i ∧ i < (M.p : Int)
  · rw [show decide (0 ≤ i ∧ i < (M.p : Int)) = true by simp; omega] at hs
    have hn : ((n : Int) == 256) = false := by simp; omega
    have hn2 : ((n : Int) != 256) = true := by simp; omega
    clear hM hi h
    go_enter Try.func16, Try.ntmps16
    go_wp2_with fail
    refine hs.mono ?_
    rintro e w' ⟨rfl, rfl⟩
    go_wp2_with fail
    go_ret
    exact ⟨rfl, rfl⟩
  · rw [show decide (0 ≤ i ∧ i < (M.p : Int)) = false by simp; omega] at hs
    clear hM hi h
    go_enter Try.func16, Try.ntmps16
    go_wp2_with fail
    refine hs.mono ?_
    rintro e w' ⟨rfl, rfl⟩
    go_wp2_with fail
    go_ret
    exact ⟨rfl, rfl⟩
theorem setPage_nil (i : Int) (v : Value) (w : World) : Calls Try.prog 16 #[.pointer none, .int .i64 i, v] w fun e w' => e = .returned (.bool false) ∧ w = w' := by
  have hs := hasPage_nil i w
  go_enter Try.func16, Try.ntmps16
  go_wp2_with fail
  refine hs.mono ?_
  rintro e w' ⟨rfl, rfl⟩
  go_wp2_with fail
  go_ret
  exact ⟨rfl, rfl⟩
theorem setPage_mid {w w2 : World} {g i : Nat} {M : MM} {xs : List Int} (hM : MemAt w g M) (hw : Hid (Blk w2 g 55 (splice (memL M) (2 + 256 * i) (xs.map (Value.int .u8))) ∧ Wr g w w2)) (hi : i < M.p) (hp : M.p ≤ 16) (hl : xs.length = 256) (hx : ∀ y ∈ xs, 0 ≤ y ∧ y < 256) :
    Hid (MemAt w2 g { M with c := splice M.c (256 * i) xs } ∧ Wr g w w2) := by
  obtain ⟨h1, h2⟩ := hw
  rw [memL_splice hM.ok _ _ (by omega)] at h1
  have h3 := setPageM_ok hM.ok i xs hi hl hx
  exact ⟨⟨⟨h3.cl, hM.ok.dl, h3.wf, h3.pl, h3.ql, h3.zero⟩, h1⟩, h2⟩
theorem u8_of_wf {x : Int} (h : (Lit.int .u8 x).wf = true) : 0 ≤ x ∧ x < 256 := by
  have := bounds_u8 h
  omega
theorem setPage_to (g : Nat) (M : MM) (i : Nat) (ad : Addr) (cap : Nat) (xs : List Int) (w : World) (hM : MemAt w g M) (hi : i < M.p) (hx : Rd .u8 w (some ad) 256 cap xs) :
    Calls Try.prog 16 #[.pointer (some ⟨g, 0, none⟩), .int .i64 (i : Int), .slice (some ad) 256 cap] w fun e w' => e = .returned (.bool true) ∧ MemAt w' g (setPageM M i xs) ∧ Wr g w w' := by
  have hp := hM.ok.pl
  have hs := hasPage_to g M i w hM
  rw [show decide (0 ≤ (i : Int) ∧ (i : Int) < (M.p : Int)) = true by simp; omega] at hs
  have h2 := page_to g M i w hM (by omega)
  have HX := hid hx
  have HM := hid hM
  have hml := memL_len hM.ok
  have HML := hid hml
  clear hM hx hml
  go_enter Try.func16, Try.ntmps16
  go_wp2_with fail
  refine hs.mono ?_
  rintro e w' ⟨rfl, rfl⟩
  go_wp2_with fail
  refine h2.mono ?_
  rintro e w' ⟨rfl, rfl⟩
  clear hs h2
  have hl := HX.out.len
  have HLN := hid hl
  clear hl
  go_wp2_with (with_reducible refine wpList_copy_blk (o := ⟨some 20, _, _, _, _, none⟩) rfl (.tmp 18) (.tmp 19) 28 28 rfl 5 Try.underlying28 ?k1 g (2 + 256 * i) 256 (4096 - 256 * i) ad 256 cap ?k2 ?k3 (memL M) 55 HM.out.blk (xs.map (Value.int .u8)) ?k4 ?k7 ?k5 ?k8 ?_)
  case k1 => rfl
  case k2 => rfl
  case k3 => rfl
  case k4 => simp [HLN.out]
  case k5 => simp [HLN.out, HML.out]; omega
  case k7 => exact HX.out.news rfl
  case k8 => exact ints_oneCell _ _
  intro w2 hw2
  have hA := setPage_mid HM.out hw2 hi (by omega) HLN.out (fun x hx => u8_of_wf (HX.out.wf x hx))
  have hc := hA.out.1.cd i (by omega)
  have hf := hA.out.1.fr (4098 + i)
  clear hw2
  go_wp2_with fail
  go_ret
  have h := hA.out.1.setd i true
  exact ⟨rfl, h, hA.out.2.set _ _⟩
end Go.Proofs.Ytcbchhnbkgaboaa
