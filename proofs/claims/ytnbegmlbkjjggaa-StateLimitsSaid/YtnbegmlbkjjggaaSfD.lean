/- package state: values, labels, frames as the reader gets them; read. Written by gen_sf.py. -/
import Derived.Test.YtnbegmlbkjjggaaSfG
namespace Go.Proofs.Ytnbegmlbkjjggaa
open Go.RowKit
set_option linter.unusedVariables false

theorem OwnG.bxs {α : Type} {E : TypeId} {s B B0 : Nat} {R : World → List Value → α → Prop} {w : World} {ao : Option Addr} {n cap : Nat} {xs : List α} (h : OwnG E s R B w (.slice ao n cap) xs) (hB : B0 ≤ B) : Bx (fun b => B0 ≤ b ∧ b < w.heap.size) w fun w => RdG s R w ao n cap xs := by
  obtain ⟨ao', cap', e, hb⟩ := h.bx
  simp only [Value.slice.injEq] at e
  obtain ⟨rfl, rfl, rfl⟩ := e
  exact hb.more fun b hb => ⟨by omega, hb.2⟩
theorem wf64 {n : Int} (h : -9223372036854775808 ≤ n ∧ n ≤ 9223372036854775807) : (Lit.int .i64 n).wf = true := WalkArith.wf_i64 h

set_option maxRecDepth 100000 in
set_option maxHeartbeats 2000000 in
theorem getVal_to (K p : Nat) (xs : List Int) (w : World) (h : Rdw K p w xs) : Calls Try.prog 52 #[rp p] w (GotVa K p w (rVal xs)) := by
  obtain ⟨c1, y1, e1⟩ : ∃ c y, rNum xs = (c, y) := ⟨_, _, rfl⟩
  have N1 : ∀ wx, Rdw K p wx xs → Calls Try.prog 50 #[rp p] wx fun e w' => e = .returned (.int .i64 c1) ∧ Rdw K p w' y1 ∧ wx.grownBy w' (some p) := fun wx h => by have := rnumber_to K p wx xs h; rw [e1] at this; exact this
  have B1 : Hid (-9223372036854775808 ≤ c1 ∧ c1 ≤ 9223372036854775807) := hid (by have := rNum_bd xs; rw [e1] at this; simp only at this; omega)
  obtain ⟨c2, y2, e2⟩ : ∃ c y, rSig y1 = (c, y) := ⟨_, _, rfl⟩
  have N2 : ∀ wx, Rdw K p wx y1 → Calls Try.prog 62 #[rp p] wx fun e w' => e = .returned (.int .i64 c2) ∧ Rdw K p w' y2 ∧ wx.grownBy w' (some p) := fun wx h => by have := rsigned_to K p wx y1 h; rw [e2] at this; exact this
  have B2 : Hid (-9223372036854775808 ≤ c2 ∧ c2 ≤ 9223372036854775807) := hid (by have := rSig_bd y1; rw [e2] at this; simp only at this; omega)
  have hv : rVal xs = ((c1, c2), y2) := by simp only [rVal, e1, e2]
  rw [hv]
  clear hv e1 e2
  have HA : Hid (Cel (w.alloc (.cells #[.int .i64 0, .int .i64 0] 39)) w.heap.size [.int .i64 0, .int .i64 0]) := hid (Cel.new w [.int .i64 0, .int .i64 0] 39)
  have hKp := h.le
  have hpw := h.lt
  have HR := hid (h.alloc (.cells #[.int .i64 0, .int .i64 0] 39))
  have HG := hid (gr_alloc (gr_refl w (some p)) (.cells #[.int .i64 0, .int .i64 0] 39))
  have hBw : w.heap.size < (w.heap.size + 1) := by omega
  have hBp : p < (w.heap.size + 1) := by omega
  have HB : Hid (Cel ((w.alloc (.cells #[.int .i64 0, .int .i64 0] 39)).alloc (.cells #[.int .i64 0, .int .i64 0] 39)) (w.heap.size + 1) [.int .i64 0, .int .i64 0]) := hid (by have := Cel.new (w.alloc (.cells #[.int .i64 0, .int .i64 0] 39)) [.int .i64 0, .int .i64 0] 39; simpa using this)
  have HA := hid (HA.out.below (Nat.succ_pos _) (Bl.alloc (Bl.refl _) (.cells #[.int .i64 0, .int .i64 0] 39)))
  have HR := hid (HR.out.alloc (.cells #[.int .i64 0, .int .i64 0] 39))
  have HG := hid (gr_alloc HG.out (.cells #[.int .i64 0, .int .i64 0] 39))
  clear h
  go_enter Try.func52, Try.ntmps52
  have hcall := N1 ((w.alloc (.cells #[.int .i64 0, .int .i64 0] 39)).alloc (.cells #[.int .i64 0, .int .i64 0] 39)) HR.out
  have HCALL := hid hcall
  clear hcall
  go_wp2_with fail
  refine HCALL.out.mono ?_
  rintro e w1 ⟨rfl, hr, hg⟩
  have HR := hid hr
  have HA := hid (HA.out.grown (Nat.succ_pos _) hg (by simp <;> omega))
  have HB := hid (HB.out.grown (Nat.succ_pos _) hg (by simp <;> omega))
  have HG := hid (gr_trans HG.out hg)
  have hszg := HG.out.size
  clear hr hg HCALL 
  have b0 := HB.out.cell 0 _ rfl
  have fb0 := HB.out.fro 0 _ rfl
  have b1 := HB.out.cell 1 _ rfl
  have fb1 := HB.out.fro 1 _ rfl
  have HB := hid (HB.out.set 0 (.int .i64 c1) (by simp))
  have HA := hid (HA.out.other (show w.heap.size ≠ (w.heap.size + 1) by omega) 0 (.int .i64 c1))
  have hg2 := grown_set w1 ⟨(w.heap.size + 1), 0, none⟩ (.int .i64 c1)
  have HR := hid (HR.out.gr hg2 (fun q e => by have h : (w.heap.size + 1) = q := (by simpa using e); omega))
  have HG := hid (gr_row HG.out hg2 (fun q e => by have h : (w.heap.size + 1) = q := (by simpa using e); omega))
  clear hg2
  have hcall := N2 (w1.setCell ⟨(w.heap.size + 1), 0, none⟩ (.int .i64 c1)) HR.out
  have HCALL := hid hcall
  clear hcall
  go_wp2_with fail
  refine HCALL.out.mono ?_
  rintro e w2 ⟨rfl, hr, hg⟩
  have HR := hid hr
  have HA := hid (HA.out.grown (Nat.succ_pos _) hg (by simp <;> omega))
  have HB := hid (HB.out.grown (Nat.succ_pos _) hg (by simp <;> omega))
  have HG := hid (gr_trans HG.out hg)
  have hszg := HG.out.size
  clear hr hg HCALL 
  have b0 := HB.out.cell 0 _ rfl
  have fb0 := HB.out.fro 0 _ rfl
  have b1 := HB.out.cell 1 _ rfl
  have fb1 := HB.out.fro 1 _ rfl
  have a0 := HA.out.cell 0 _ rfl
  have fa0 := HA.out.fro 0 _ rfl
  have a1 := HA.out.cell 1 _ rfl
  have fa1 := HA.out.fro 1 _ rfl
  have HB := hid (HB.out.set 1 (.int .i64 c2) (by simp))
  have HA := hid (HA.out.other (show w.heap.size ≠ (w.heap.size + 1) by omega) 1 (.int .i64 c2))
  have hg2 := grown_set w2 ⟨(w.heap.size + 1), 1, none⟩ (.int .i64 c2)
  have HR := hid (HR.out.gr hg2 (fun q e => by have h : (w.heap.size + 1) = q := (by simpa using e); omega))
  have HG := hid (gr_row HG.out hg2 (fun q e => by have h : (w.heap.size + 1) = q := (by simpa using e); omega))
  clear hg2
  have hgA : World.grownBy (w2.setCell ⟨(w.heap.size + 1), 1, none⟩ (.int .i64 c2)) (((w2.setCell ⟨(w.heap.size + 1), 1, none⟩ (.int .i64 c2)).setCell ⟨w.heap.size, 0, none⟩ (.int .i64 c1)).setCell ⟨w.heap.size, 1, none⟩ (.int .i64 c2)) (some w.heap.size) := (gr_set (gr_set (gr_refl _ _) 0 _) 1 _)
  have HR := hid (HR.out.gr hgA (fun q e => by have h : w.heap.size = q := (by simpa using e); omega))
  have HG := hid (gr_row HG.out hgA (fun q e => by have h : w.heap.size = q := (by simpa using e); omega))
  clear hgA
  go_wp2_with fail
  refine bodyPost_ret (v := .agg #[.int .i64 c1, .int .i64 c2]) (by simp [results, Try.results52, go_sem, a0, a1]) rfl ⟨[.int .i64 c1, .int .i64 c2], rfl, rfl, ?_, HR.out, HG.out⟩
  exact Bx.pure ⟨rfl, wf64 B1.out, wf64 B2.out⟩

set_option maxRecDepth 100000 in
set_option maxHeartbeats 2000000 in
theorem getLabel_to (K p : Nat) (xs : List Int) (w : World) (h : Rdw K p w xs) : Calls Try.prog 64 #[rp p] w (GotLa K p w (rLab xs)) := by
  obtain ⟨c1, y1, e1⟩ : ∃ c y, rNum xs = (c, y) := ⟨_, _, rfl⟩
  have N1 : ∀ wx, Rdw K p wx xs → Calls Try.prog 50 #[rp p] wx fun e w' => e = .returned (.int .i64 c1) ∧ Rdw K p w' y1 ∧ wx.grownBy w' (some p) := fun wx h => by have := rnumber_to K p wx xs h; rw [e1] at this; exact this
  have B1 : Hid (-9223372036854775808 ≤ c1 ∧ c1 ≤ 9223372036854775807) := hid (by have := rNum_bd xs; rw [e1] at this; simp only at this; omega)
  obtain ⟨c2, y2, e2⟩ : ∃ c y, rNum y1 = (c, y) := ⟨_, _, rfl⟩
  have N2 : ∀ wx, Rdw K p wx y1 → Calls Try.prog 50 #[rp p] wx fun e w' => e = .returned (.int .i64 c2) ∧ Rdw K p w' y2 ∧ wx.grownBy w' (some p) := fun wx h => by have := rnumber_to K p wx y1 h; rw [e2] at this; exact this
  have B2 : Hid (-9223372036854775808 ≤ c2 ∧ c2 ≤ 9223372036854775807) := hid (by have := rNum_bd y1; rw [e2] at this; simp only at this; omega)
  have hv : rLab xs = ((c1, c2), y2) := by simp only [rLab, e1, e2]
  rw [hv]
  clear hv e1 e2
  have HA : Hid (Cel (w.alloc (.cells #[.int .i64 0, .int .i64 0] 44)) w.heap.size [.int .i64 0, .int .i64 0]) := hid (Cel.new w [.int .i64 0, .int .i64 0] 44)
  have hKp := h.le
  have hpw := h.lt
  have HR := hid (h.alloc (.cells #[.int .i64 0, .int .i64 0] 44))
  have HG := hid (gr_alloc (gr_refl w (some p)) (.cells #[.int .i64 0, .int .i64 0] 44))
  have hBw : w.heap.size < (w.heap.size + 1) := by omega
  have hBp : p < (w.heap.size + 1) := by omega
  have HB : Hid (Cel ((w.alloc (.cells #[.int .i64 0, .int .i64 0] 44)).alloc (.cells #[.int .i64 0, .int .i64 0] 44)) (w.heap.size + 1) [.int .i64 0, .int .i64 0]) := hid (by have := Cel.new (w.alloc (.cells #[.int .i64 0, .int .i64 0] 44)) [.int .i64 0, .int .i64 0] 44; simpa using this)
  have HA := hid (HA.out.below (Nat.succ_pos _) (Bl.alloc (Bl.refl _) (.cells #[.int .i64 0, .int .i64 0] 44)))
  have HR := hid (HR.out.alloc (.cells #[.int .i64 0, .int .i64 0] 44))
  have HG := hid (gr_alloc HG.out (.cells #[.int .i64 0, .int .i64 0] 44))
  clear h
  go_enter Try.func64, Try.ntmps64
  have hcall := N1 ((w.alloc (.cells #[.int .i64 0, .int .i64 0] 44)).alloc (.cells #[.int .i64 0, .int .i64 0] 44)) HR.out
  have HCALL := hid hcall
  clear hcall
  go_wp2_with fail
  refine HCALL.out.mono ?_
  rintro e w1 ⟨rfl, hr, hg⟩
  have HR := hid hr
  have HA := hid (HA.out.grown (Nat.succ_pos _) hg (by simp <;> omega))
  have HB := hid (HB.out.grown (Nat.succ_pos _) hg (by simp <;> omega))
  have HG := hid (gr_trans HG.out hg)
  have hszg := HG.out.size
  clear hr hg HCALL 
  have b0 := HB.out.cell 0 _ rfl
  have fb0 := HB.out.fro 0 _ rfl
  have b1 := HB.out.cell 1 _ rfl
  have fb1 := HB.out.fro 1 _ rfl
  have HB := hid (HB.out.set 0 (.int .i64 c1) (by simp))
  have HA := hid (HA.out.other (show w.heap.size ≠ (w.heap.size + 1) by omega) 0 (.int .i64 c1))
  have hg2 := grown_set w1 ⟨(w.heap.size + 1), 0, none⟩ (.int .i64 c1)
  have HR := hid (HR.out.gr hg2 (fun q e => by have h : (w.heap.size + 1) = q := (by simpa using e); omega))
  have HG := hid (gr_row HG.out hg2 (fun q e => by have h : (w.heap.size + 1) = q := (by simpa using e); omega))
  clear hg2
  have hcall := N2 (w1.setCell ⟨(w.heap.size + 1), 0, none⟩ (.int .i64 c1)) HR.out
  have HCALL := hid hcall
  clear hcall
  go_wp2_with fail
  refine HCALL.out.mono ?_
  rintro e w2 ⟨rfl, hr, hg⟩
  have HR := hid hr
  have HA := hid (HA.out.grown (Nat.succ_pos _) hg (by simp <;> omega))
  have HB := hid (HB.out.grown (Nat.succ_pos _) hg (by simp <;> omega))
  have HG := hid (gr_trans HG.out hg)
  have hszg := HG.out.size
  clear hr hg HCALL 
  have b0 := HB.out.cell 0 _ rfl
  have fb0 := HB.out.fro 0 _ rfl
  have b1 := HB.out.cell 1 _ rfl
  have fb1 := HB.out.fro 1 _ rfl
  have a0 := HA.out.cell 0 _ rfl
  have fa0 := HA.out.fro 0 _ rfl
  have a1 := HA.out.cell 1 _ rfl
  have fa1 := HA.out.fro 1 _ rfl
  have HB := hid (HB.out.set 1 (.int .i64 c2) (by simp))
  have HA := hid (HA.out.other (show w.heap.size ≠ (w.heap.size + 1) by omega) 1 (.int .i64 c2))
  have hg2 := grown_set w2 ⟨(w.heap.size + 1), 1, none⟩ (.int .i64 c2)
  have HR := hid (HR.out.gr hg2 (fun q e => by have h : (w.heap.size + 1) = q := (by simpa using e); omega))
  have HG := hid (gr_row HG.out hg2 (fun q e => by have h : (w.heap.size + 1) = q := (by simpa using e); omega))
  clear hg2
  have hgA : World.grownBy (w2.setCell ⟨(w.heap.size + 1), 1, none⟩ (.int .i64 c2)) (((w2.setCell ⟨(w.heap.size + 1), 1, none⟩ (.int .i64 c2)).setCell ⟨w.heap.size, 0, none⟩ (.int .i64 c1)).setCell ⟨w.heap.size, 1, none⟩ (.int .i64 c2)) (some w.heap.size) := (gr_set (gr_set (gr_refl _ _) 0 _) 1 _)
  have HR := hid (HR.out.gr hgA (fun q e => by have h : w.heap.size = q := (by simpa using e); omega))
  have HG := hid (gr_row HG.out hgA (fun q e => by have h : w.heap.size = q := (by simpa using e); omega))
  clear hgA
  go_wp2_with fail
  refine bodyPost_ret (v := .agg #[.int .i64 c1, .int .i64 c2]) (by simp [results, Try.results64, go_sem, a0, a1]) rfl ⟨[.int .i64 c1, .int .i64 c2], rfl, rfl, ?_, HR.out, HG.out⟩
  exact Bx.pure ⟨rfl, wf64 B1.out, wf64 B2.out⟩

set_option maxRecDepth 100000 in
set_option maxHeartbeats 2000000 in
theorem getFrame_to (K p : Nat) (xs : List Int) (w : World) (h : Rdw K p w xs) : Calls Try.prog 54 #[rp p] w (GotFr K p w (rFr xs)) := by
  obtain ⟨c1, y1, e1⟩ : ∃ c y, rNum xs = (c, y) := ⟨_, _, rfl⟩
  have N1 : ∀ wx, Rdw K p wx xs → Calls Try.prog 50 #[rp p] wx fun e w' => e = .returned (.int .i64 c1) ∧ Rdw K p w' y1 ∧ wx.grownBy w' (some p) := fun wx h => by have := rnumber_to K p wx xs h; rw [e1] at this; exact this
  have B1 : Hid (-9223372036854775808 ≤ c1 ∧ c1 ≤ 9223372036854775807) := hid (by have := rNum_bd xs; rw [e1] at this; simp only at this; omega)
  obtain ⟨c2, y2, e2⟩ : ∃ c y, rNum y1 = (c, y) := ⟨_, _, rfl⟩
  have N2 : ∀ wx, Rdw K p wx y1 → Calls Try.prog 50 #[rp p] wx fun e w' => e = .returned (.int .i64 c2) ∧ Rdw K p w' y2 ∧ wx.grownBy w' (some p) := fun wx h => by have := rnumber_to K p wx y1 h; rw [e2] at this; exact this
  have B2 : Hid (-9223372036854775808 ≤ c2 ∧ c2 ≤ 9223372036854775807) := hid (by have := rNum_bd y1; rw [e2] at this; simp only at this; omega)
  obtain ⟨c3, y3, e3⟩ : ∃ c y, rNum y2 = (c, y) := ⟨_, _, rfl⟩
  have N3 : ∀ wx, Rdw K p wx y2 → Calls Try.prog 50 #[rp p] wx fun e w' => e = .returned (.int .i64 c3) ∧ Rdw K p w' y3 ∧ wx.grownBy w' (some p) := fun wx h => by have := rnumber_to K p wx y2 h; rw [e3] at this; exact this
  have B3 : Hid (-9223372036854775808 ≤ c3 ∧ c3 ≤ 9223372036854775807) := hid (by have := rNum_bd y2; rw [e3] at this; simp only at this; omega)
  obtain ⟨c4, y4, e4⟩ : ∃ c y, rList 32 rVal y3 = (c, y) := ⟨_, _, rfl⟩
  obtain ⟨n4, hn4⟩ : ∃ n, c4.length = n := ⟨_, rfl⟩
  have N4 : ∀ wx, Rdw K p wx y3 → Calls Try.prog 51 #[rp p, .int .i64 32, .func (.func 52) #[] #[]] wx fun e w' => ∃ v, e = .returned v ∧ OwnG 39 2 PaR wx.heap.size w' v c4 ∧ Rdw K p w' y4 ∧ wx.grownBy w' (some p) := fun wx h => by have := glVa_to 52 rVal 32 K p y3 wx h en_getVal (by decide) (fun wy ys h => getVal_to K p ys wy h); rw [e4] at this; exact this
  obtain ⟨c5, y5, e5⟩ : ∃ c y, rList 40 rLab y4 = (c, y) := ⟨_, _, rfl⟩
  obtain ⟨n5, hn5⟩ : ∃ n, c5.length = n := ⟨_, rfl⟩
  have N5 : ∀ wx, Rdw K p wx y4 → Calls Try.prog 63 #[rp p, .int .i64 40, .func (.func 64) #[] #[]] wx fun e w' => ∃ v, e = .returned v ∧ OwnG 44 2 PaR wx.heap.size w' v c5 ∧ Rdw K p w' y5 ∧ wx.grownBy w' (some p) := fun wx h => by have := glLa_to 64 rLab 40 K p y4 wx h en_getLabel (by decide) (fun wy ys h => getLabel_to K p ys wy h); rw [e5] at this; exact this
  have hv : rFr xs = (⟨c1, c2, c4, c3, c5⟩, y5) := by simp only [rFr, rFr3, e1, e2, e3, e4, e5]
  rw [hv]
  clear hv e1 e2 e3 e4 e5
  have HA : Hid (Cel (w.alloc (.cells #[.int .i64 0, .int .i64 0, .slice none 0 0, .int .i64 0, .slice none 0 0] 42)) w.heap.size [.int .i64 0, .int .i64 0, .slice none 0 0, .int .i64 0, .slice none 0 0]) := hid (Cel.new w [.int .i64 0, .int .i64 0, .slice none 0 0, .int .i64 0, .slice none 0 0] 42)
  have hKp := h.le
  have hpw := h.lt
  have HR := hid (h.alloc (.cells #[.int .i64 0, .int .i64 0, .slice none 0 0, .int .i64 0, .slice none 0 0] 42))
  have HG := hid (gr_alloc (gr_refl w (some p)) (.cells #[.int .i64 0, .int .i64 0, .slice none 0 0, .int .i64 0, .slice none 0 0] 42))
  have hBw : w.heap.size < (w.heap.size + 1) := by omega
  have hBp : p < (w.heap.size + 1) := by omega
  have HB : Hid (Cel ((w.alloc (.cells #[.int .i64 0, .int .i64 0, .slice none 0 0, .int .i64 0, .slice none 0 0] 42)).alloc (.cells #[.int .i64 0, .int .i64 0, .slice none 0 0, .int .i64 0, .slice none 0 0] 42)) (w.heap.size + 1) [.int .i64 0, .int .i64 0, .slice none 0 0, .int .i64 0, .slice none 0 0]) := hid (by have := Cel.new (w.alloc (.cells #[.int .i64 0, .int .i64 0, .slice none 0 0, .int .i64 0, .slice none 0 0] 42)) [.int .i64 0, .int .i64 0, .slice none 0 0, .int .i64 0, .slice none 0 0] 42; simpa using this)
  have HA := hid (HA.out.below (Nat.succ_pos _) (Bl.alloc (Bl.refl _) (.cells #[.int .i64 0, .int .i64 0, .slice none 0 0, .int .i64 0, .slice none 0 0] 42)))
  have HR := hid (HR.out.alloc (.cells #[.int .i64 0, .int .i64 0, .slice none 0 0, .int .i64 0, .slice none 0 0] 42))
  have HG := hid (gr_alloc HG.out (.cells #[.int .i64 0, .int .i64 0, .slice none 0 0, .int .i64 0, .slice none 0 0] 42))
  clear h
  go_enter Try.func54, Try.ntmps54
  have hcall := N1 ((w.alloc (.cells #[.int .i64 0, .int .i64 0, .slice none 0 0, .int .i64 0, .slice none 0 0] 42)).alloc (.cells #[.int .i64 0, .int .i64 0, .slice none 0 0, .int .i64 0, .slice none 0 0] 42)) HR.out
  have HCALL := hid hcall
  clear hcall
  go_wp2_with fail
  refine HCALL.out.mono ?_
  rintro e w1 ⟨rfl, hr, hg⟩
  have HR := hid hr
  have HA := hid (HA.out.grown (Nat.succ_pos _) hg (by simp <;> omega))
  have HB := hid (HB.out.grown (Nat.succ_pos _) hg (by simp <;> omega))
  have HG := hid (gr_trans HG.out hg)
  have hszg := HG.out.size
  clear hr hg HCALL 
  have b0 := HB.out.cell 0 _ rfl
  have fb0 := HB.out.fro 0 _ rfl
  have b1 := HB.out.cell 1 _ rfl
  have fb1 := HB.out.fro 1 _ rfl
  have b2 := HB.out.cell 2 _ rfl
  have fb2 := HB.out.fro 2 _ rfl
  have b3 := HB.out.cell 3 _ rfl
  have fb3 := HB.out.fro 3 _ rfl
  have b4 := HB.out.cell 4 _ rfl
  have fb4 := HB.out.fro 4 _ rfl
  have HB := hid (HB.out.set 0 (.int .i64 c1) (by simp))
  have HA := hid (HA.out.other (show w.heap.size ≠ (w.heap.size + 1) by omega) 0 (.int .i64 c1))
  have hg2 := grown_set w1 ⟨(w.heap.size + 1), 0, none⟩ (.int .i64 c1)
  have HR := hid (HR.out.gr hg2 (fun q e => by have h : (w.heap.size + 1) = q := (by simpa using e); omega))
  have HG := hid (gr_row HG.out hg2 (fun q e => by have h : (w.heap.size + 1) = q := (by simpa using e); omega))
  clear hg2
  have hcall := N2 (w1.setCell ⟨(w.heap.size + 1), 0, none⟩ (.int .i64 c1)) HR.out
  have HCALL := hid hcall
  clear hcall
  go_wp2_with fail
  refine HCALL.out.mono ?_
  rintro e w2 ⟨rfl, hr, hg⟩
  have HR := hid hr
  have HA := hid (HA.out.grown (Nat.succ_pos _) hg (by simp <;> omega))
  have HB := hid (HB.out.grown (Nat.succ_pos _) hg (by simp <;> omega))
  have HG := hid (gr_trans HG.out hg)
  have hszg := HG.out.size
  clear hr hg HCALL 
  have b0 := HB.out.cell 0 _ rfl
  have fb0 := HB.out.fro 0 _ rfl
  have b1 := HB.out.cell 1 _ rfl
  have fb1 := HB.out.fro 1 _ rfl
  have b2 := HB.out.cell 2 _ rfl
  have fb2 := HB.out.fro 2 _ rfl
  have b3 := HB.out.cell 3 _ rfl
  have fb3 := HB.out.fro 3 _ rfl
  have b4 := HB.out.cell 4 _ rfl
  have fb4 := HB.out.fro 4 _ rfl
  have HB := hid (HB.out.set 1 (.int .i64 c2) (by simp))
  have HA := hid (HA.out.other (show w.heap.size ≠ (w.heap.size + 1) by omega) 1 (.int .i64 c2))
  have hg2 := grown_set w2 ⟨(w.heap.size + 1), 1, none⟩ (.int .i64 c2)
  have HR := hid (HR.out.gr hg2 (fun q e => by have h : (w.heap.size + 1) = q := (by simpa using e); omega))
  have HG := hid (gr_row HG.out hg2 (fun q e => by have h : (w.heap.size + 1) = q := (by simpa using e); omega))
  clear hg2
  have hcall := N3 (w2.setCell ⟨(w.heap.size + 1), 1, none⟩ (.int .i64 c2)) HR.out
  have HCALL := hid hcall
  clear hcall
  go_wp2_with fail
  refine HCALL.out.mono ?_
  rintro e w3 ⟨rfl, hr, hg⟩
  have HR := hid hr
  have HA := hid (HA.out.grown (Nat.succ_pos _) hg (by simp <;> omega))
  have HB := hid (HB.out.grown (Nat.succ_pos _) hg (by simp <;> omega))
  have HG := hid (gr_trans HG.out hg)
  have hszg := HG.out.size
  clear hr hg HCALL 
  have b0 := HB.out.cell 0 _ rfl
  have fb0 := HB.out.fro 0 _ rfl
  have b1 := HB.out.cell 1 _ rfl
  have fb1 := HB.out.fro 1 _ rfl
  have b2 := HB.out.cell 2 _ rfl
  have fb2 := HB.out.fro 2 _ rfl
  have b3 := HB.out.cell 3 _ rfl
  have fb3 := HB.out.fro 3 _ rfl
  have b4 := HB.out.cell 4 _ rfl
  have fb4 := HB.out.fro 4 _ rfl
  have HB := hid (HB.out.set 3 (.int .i64 c3) (by simp))
  have HA := hid (HA.out.other (show w.heap.size ≠ (w.heap.size + 1) by omega) 3 (.int .i64 c3))
  have hg2 := grown_set w3 ⟨(w.heap.size + 1), 3, none⟩ (.int .i64 c3)
  have HR := hid (HR.out.gr hg2 (fun q e => by have h : (w.heap.size + 1) = q := (by simpa using e); omega))
  have HG := hid (gr_row HG.out hg2 (fun q e => by have h : (w.heap.size + 1) = q := (by simpa using e); omega))
  clear hg2
  have hbl : (w.heap.size + 1) + 1 ≤ (w3.setCell ⟨(w.heap.size + 1), 3, none⟩ (.int .i64 c3)).heap.size := HB.out.lt (Nat.succ_pos _)
  have hcall := N4 (w3.setCell ⟨(w.heap.size + 1), 3, none⟩ (.int .i64 c3)) HR.out
  have HCALL := hid hcall
  clear hcall
  go_wp2_with fail
  refine HCALL.out.mono ?_
  rintro e w4 ⟨v, rfl, ho, hr, hg⟩
  obtain ⟨o4, k4, rfl, _, _, _⟩ := ho.shape
  rw [hn4] at ho ⊢
  have HR := hid hr
  have HA := hid (HA.out.grown (Nat.succ_pos _) hg (by simp <;> omega))
  have HB := hid (HB.out.grown (Nat.succ_pos _) hg (by simp <;> omega))
  have HG := hid (gr_trans HG.out hg)
  have hszg := HG.out.size
  have HO4 := hid (ho.lift hbl)
  clear hr hg HCALL ho hbl
  have b0 := HB.out.cell 0 _ rfl
  have fb0 := HB.out.fro 0 _ rfl
  have b1 := HB.out.cell 1 _ rfl
  have fb1 := HB.out.fro 1 _ rfl
  have b2 := HB.out.cell 2 _ rfl
  have fb2 := HB.out.fro 2 _ rfl
  have b3 := HB.out.cell 3 _ rfl
  have fb3 := HB.out.fro 3 _ rfl
  have b4 := HB.out.cell 4 _ rfl
  have fb4 := HB.out.fro 4 _ rfl
  have HB := hid (HB.out.set 2 (.slice o4 n4 k4) (by simp))
  have HA := hid (HA.out.other (show w.heap.size ≠ (w.heap.size + 1) by omega) 2 (.slice o4 n4 k4))
  have hg2 := grown_set w4 ⟨(w.heap.size + 1), 2, none⟩ (.slice o4 n4 k4)
  have HR := hid (HR.out.gr hg2 (fun q e => by have h : (w.heap.size + 1) = q := (by simpa using e); omega))
  have HG := hid (gr_row HG.out hg2 (fun q e => by have h : (w.heap.size + 1) = q := (by simpa using e); omega))
  have HO4 := hid (HO4.out.kept hg2 (fun q e => by have h : (w.heap.size + 1) = q := (by simpa using e); first | omega | (simp at *; omega)))
  clear hg2
  have hbl : (w.heap.size + 1) + 1 ≤ (w4.setCell ⟨(w.heap.size + 1), 2, none⟩ (.slice o4 n4 k4)).heap.size := HB.out.lt (Nat.succ_pos _)
  have hcall := N5 (w4.setCell ⟨(w.heap.size + 1), 2, none⟩ (.slice o4 n4 k4)) HR.out
  have HCALL := hid hcall
  clear hcall
  go_wp2_with fail
  refine HCALL.out.mono ?_
  rintro e w5 ⟨v, rfl, ho, hr, hg⟩
  obtain ⟨o5, k5, rfl, _, _, _⟩ := ho.shape
  rw [hn5] at ho ⊢
  have HR := hid hr
  have HA := hid (HA.out.grown (Nat.succ_pos _) hg (by simp <;> omega))
  have HB := hid (HB.out.grown (Nat.succ_pos _) hg (by simp <;> omega))
  have HO4 := hid (HO4.out.kept hg (fun q e => by have h : p = q := (by simpa using e); omega))
  have HG := hid (gr_trans HG.out hg)
  have hszg := HG.out.size
  have HO5 := hid (ho.lift hbl)
  clear hr hg HCALL ho hbl
  have b0 := HB.out.cell 0 _ rfl
  have fb0 := HB.out.fro 0 _ rfl
  have b1 := HB.out.cell 1 _ rfl
  have fb1 := HB.out.fro 1 _ rfl
  have b2 := HB.out.cell 2 _ rfl
  have fb2 := HB.out.fro 2 _ rfl
  have b3 := HB.out.cell 3 _ rfl
  have fb3 := HB.out.fro 3 _ rfl
  have b4 := HB.out.cell 4 _ rfl
  have fb4 := HB.out.fro 4 _ rfl
  have a0 := HA.out.cell 0 _ rfl
  have fa0 := HA.out.fro 0 _ rfl
  have a1 := HA.out.cell 1 _ rfl
  have fa1 := HA.out.fro 1 _ rfl
  have a2 := HA.out.cell 2 _ rfl
  have fa2 := HA.out.fro 2 _ rfl
  have a3 := HA.out.cell 3 _ rfl
  have fa3 := HA.out.fro 3 _ rfl
  have a4 := HA.out.cell 4 _ rfl
  have fa4 := HA.out.fro 4 _ rfl
  have HB := hid (HB.out.set 4 (.slice o5 n5 k5) (by simp))
  have HA := hid (HA.out.other (show w.heap.size ≠ (w.heap.size + 1) by omega) 4 (.slice o5 n5 k5))
  have hg2 := grown_set w5 ⟨(w.heap.size + 1), 4, none⟩ (.slice o5 n5 k5)
  have HR := hid (HR.out.gr hg2 (fun q e => by have h : (w.heap.size + 1) = q := (by simpa using e); omega))
  have HG := hid (gr_row HG.out hg2 (fun q e => by have h : (w.heap.size + 1) = q := (by simpa using e); omega))
  have HO4 := hid (HO4.out.kept hg2 (fun q e => by have h : (w.heap.size + 1) = q := (by simpa using e); first | omega | (simp at *; omega)))
  have HO5 := hid (HO5.out.kept hg2 (fun q e => by have h : (w.heap.size + 1) = q := (by simpa using e); first | omega | (simp at *; omega)))
  clear hg2
  have hgA : World.grownBy (w5.setCell ⟨(w.heap.size + 1), 4, none⟩ (.slice o5 n5 k5)) ((((((w5.setCell ⟨(w.heap.size + 1), 4, none⟩ (.slice o5 n5 k5)).setCell ⟨w.heap.size, 0, none⟩ (.int .i64 c1)).setCell ⟨w.heap.size, 1, none⟩ (.int .i64 c2)).setCell ⟨w.heap.size, 2, none⟩ (.slice o4 n4 k4)).setCell ⟨w.heap.size, 3, none⟩ (.int .i64 c3)).setCell ⟨w.heap.size, 4, none⟩ (.slice o5 n5 k5)) (some w.heap.size) := (gr_set (gr_set (gr_set (gr_set (gr_set (gr_refl _ _) 0 _) 1 _) 2 _) 3 _) 4 _)
  have HR := hid (HR.out.gr hgA (fun q e => by have h : w.heap.size = q := (by simpa using e); omega))
  have HG := hid (gr_row HG.out hgA (fun q e => by have h : w.heap.size = q := (by simpa using e); omega))
  have HO4 := hid (HO4.out.kept hgA (fun q e => by have h : w.heap.size = q := (by simpa using e); omega))
  have HO5 := hid (HO5.out.kept hgA (fun q e => by have h : w.heap.size = q := (by simpa using e); omega))
  clear hgA
  go_wp2_with fail
  refine bodyPost_ret (v := .agg #[.int .i64 c1, .int .i64 c2, .slice o4 n4 k4, .int .i64 c3, .slice o5 n5 k5]) (by simp [results, Try.results54, go_sem, a0, a1, a2, a3, a4]) rfl ⟨[.int .i64 c1, .int .i64 c2, .slice o4 n4 k4, .int .i64 c3, .slice o5 n5 k5], rfl, rfl, ?_, HR.out, HG.out⟩
  have q1 := HO4.out.bxs (B0 := w.heap.size) (by omega)
  have q2 := HO5.out.bxs (B0 := w.heap.size) (by omega)
  exact fun w' h' => ⟨_, _, _, _, _, _, rfl, by rw [← hn4]; exact hn4 ▸ q1 w' h', by rw [← hn5]; exact hn5 ▸ q2 w' h', wf64 B1.out, wf64 B2.out, wf64 B3.out⟩

set_option maxRecDepth 100000 in
set_option maxHeartbeats 2000000 in
theorem read_to (ao : Option Addr) (n cap : Nat) (xs : List Int) (w : World) (h : Rd .u8 w ao n cap xs) : Calls Try.prog 33 #[.slice ao n cap] w fun e w' => ∃ V : SV, e = .returned (.agg (V.cells (rSt xs)).toArray) ∧ Bx (fun b => w.heap.size ≤ b ∧ b < w'.heap.size) w' (StR V (rSt xs)) ∧ w.grownBy w' (some (w.heap.size + 1)) := by
  obtain ⟨c1, y1, e1⟩ : ∃ c y, rNum xs = (c, y) := ⟨_, _, rfl⟩
  have N1 : ∀ wx, Rdw w.heap.size (w.heap.size + 1) wx xs → Calls Try.prog 50 #[rp (w.heap.size + 1)] wx fun e w' => e = .returned (.int .i64 c1) ∧ Rdw w.heap.size (w.heap.size + 1) w' y1 ∧ wx.grownBy w' (some (w.heap.size + 1)) := fun wx h => by have := rnumber_to w.heap.size (w.heap.size + 1) wx xs h; rw [e1] at this; exact this
  have B1 : Hid (-9223372036854775808 ≤ c1 ∧ c1 ≤ 9223372036854775807) := hid (by have := rNum_bd xs; rw [e1] at this; simp only at this; omega)
  obtain ⟨c2, y2, e2⟩ : ∃ c y, rList 1000 rVal y1 = (c, y) := ⟨_, _, rfl⟩
  obtain ⟨n2, hn2⟩ : ∃ n, c2.length = n := ⟨_, rfl⟩
  have N2 : ∀ wx, Rdw w.heap.size (w.heap.size + 1) wx y1 → Calls Try.prog 51 #[rp (w.heap.size + 1), .int .i64 1000, .func (.func 52) #[] #[]] wx fun e w' => ∃ v, e = .returned v ∧ OwnG 39 2 PaR wx.heap.size w' v c2 ∧ Rdw w.heap.size (w.heap.size + 1) w' y2 ∧ wx.grownBy w' (some (w.heap.size + 1)) := fun wx h => by have := glVa_to 52 rVal 1000 w.heap.size (w.heap.size + 1) y1 wx h en_getVal (by decide) (fun wy ys h => getVal_to w.heap.size (w.heap.size + 1) ys wy h); rw [e2] at this; exact this
  obtain ⟨c3, y3, e3⟩ : ∃ c y, rList 32 rFr y2 = (c, y) := ⟨_, _, rfl⟩
  obtain ⟨n3, hn3⟩ : ∃ n, c3.length = n := ⟨_, rfl⟩
  have N3 : ∀ wx, Rdw w.heap.size (w.heap.size + 1) wx y2 → Calls Try.prog 53 #[rp (w.heap.size + 1), .int .i64 32, .func (.func 54) #[] #[]] wx fun e w' => ∃ v, e = .returned v ∧ OwnG 42 5 FrR wx.heap.size w' v c3 ∧ Rdw w.heap.size (w.heap.size + 1) w' y3 ∧ wx.grownBy w' (some (w.heap.size + 1)) := fun wx h => by have := glFr_to 54 rFr 32 w.heap.size (w.heap.size + 1) y2 wx h en_getFrame (by decide) (fun wy ys h => getFrame_to w.heap.size (w.heap.size + 1) ys wy h); rw [e3] at this; exact this
  have hv : rSt xs = ⟨c2, c3, c1 + -1⟩ := by simp only [rSt, e1, e2, e3]
  rw [hv]
  have B1b : 0 ≤ c1 ∧ c1 < 4294967296 := by have := rNum_bd xs; rw [e1] at this; exact this
  have hw1 : IntKind.i64.wrap (c1 + -1) = c1 + -1 := IntWalk.i64_in _ (by omega)
  have wfA : (Lit.int .i64 (c1 + -1)).wf = true := wf64 ⟨by omega, by omega⟩
  clear hv e1 e2 e3
  have hx := Rd.rx h
  have HA : Hid (Cel (w.alloc (.cells #[.slice none 0 0, .slice none 0 0, .int .i64 0] 25)) w.heap.size [.slice none 0 0, .slice none 0 0, .int .i64 0]) := hid (Cel.new w [.slice none 0 0, .slice none 0 0, .int .i64 0] 25)
  have HA := hid (HA.out.below (Nat.succ_pos _) (Bl.alloc (Bl.refl _) (.cells #[.slice ao n cap] 75)))
  have hcr := Cel.new (w.alloc (.cells #[.slice none 0 0, .slice none 0 0, .int .i64 0] 25)) [.slice ao n cap] 75
  have hsA : (w.alloc (.cells #[.slice none 0 0, .slice none 0 0, .int .i64 0] 25)).heap.size = w.heap.size + 1 := by simp
  rw [hsA] at hcr
  have HR : Hid (Rdw w.heap.size (w.heap.size + 1) ((w.alloc (.cells #[.slice none 0 0, .slice none 0 0, .int .i64 0] 25)).alloc (.cells #[.slice ao n cap] 75)) xs) := hid ⟨by omega, by simp, hcr.fro 0 _ rfl, ao, n, cap, hcr.cell 0 _ rfl, hx.keep fun b hb => (Below.heap_alloc _ _ b (by simp; omega)).trans (Below.heap_alloc w _ b hb)⟩
  have HG : Hid (w.grownBy ((w.alloc (.cells #[.slice none 0 0, .slice none 0 0, .int .i64 0] 25)).alloc (.cells #[.slice ao n cap] 75)) (some (w.heap.size + 1))) := hid (gr_alloc (gr_alloc (gr_refl w _) _) _)
  clear hcr hsA hx
  have hBw : w.heap.size < (w.heap.size + 2) := by omega
  have hBp : (w.heap.size + 1) < (w.heap.size + 2) := by omega
  have HB : Hid (Cel (((w.alloc (.cells #[.slice none 0 0, .slice none 0 0, .int .i64 0] 25)).alloc (.cells #[.slice ao n cap] 75)).alloc (.cells #[.slice none 0 0, .slice none 0 0, .int .i64 0] 25)) (w.heap.size + 2) [.slice none 0 0, .slice none 0 0, .int .i64 0]) := hid (by have := Cel.new ((w.alloc (.cells #[.slice none 0 0, .slice none 0 0, .int .i64 0] 25)).alloc (.cells #[.slice ao n cap] 75)) [.slice none 0 0, .slice none 0 0, .int .i64 0] 25; simpa using this)
  have HA := hid (HA.out.below (Nat.succ_pos _) (Bl.alloc (Bl.refl _) (.cells #[.slice none 0 0, .slice none 0 0, .int .i64 0] 25)))
  have HR := hid (HR.out.alloc (.cells #[.slice none 0 0, .slice none 0 0, .int .i64 0] 25))
  have HG := hid (gr_alloc HG.out (.cells #[.slice none 0 0, .slice none 0 0, .int .i64 0] 25))
  clear h
  go_enter Try.func33, Try.ntmps33
  have hcall := N1 (((w.alloc (.cells #[.slice none 0 0, .slice none 0 0, .int .i64 0] 25)).alloc (.cells #[.slice ao n cap] 75)).alloc (.cells #[.slice none 0 0, .slice none 0 0, .int .i64 0] 25)) HR.out
  have HCALL := hid hcall
  clear hcall
  go_wp2_with fail
  refine HCALL.out.mono ?_
  rintro e w1 ⟨rfl, hr, hg⟩
  have HR := hid hr
  have HA := hid (HA.out.grown (Nat.succ_pos _) hg (by simp <;> omega))
  have HB := hid (HB.out.grown (Nat.succ_pos _) hg (by simp <;> omega))
  have HG := hid (gr_trans HG.out hg)
  have hszg := HG.out.size
  clear hr hg HCALL 
  have b0 := HB.out.cell 0 _ rfl
  have fb0 := HB.out.fro 0 _ rfl
  have b1 := HB.out.cell 1 _ rfl
  have fb1 := HB.out.fro 1 _ rfl
  have b2 := HB.out.cell 2 _ rfl
  have fb2 := HB.out.fro 2 _ rfl
  have HB := hid (HB.out.set 2 (.int .i64 (c1 + -1)) (by simp))
  have HA := hid (HA.out.other (show w.heap.size ≠ (w.heap.size + 2) by omega) 2 (.int .i64 (c1 + -1)))
  have hg2 := grown_set w1 ⟨(w.heap.size + 2), 2, none⟩ (.int .i64 (c1 + -1))
  have HR := hid (HR.out.gr hg2 (fun q e => by have h : (w.heap.size + 2) = q := (by simpa using e); omega))
  have HG := hid (gr_row HG.out hg2 (fun q e => by have h : (w.heap.size + 2) = q := (by simpa using e); omega))
  clear hg2
  have hbl : (w.heap.size + 2) + 1 ≤ (w1.setCell ⟨(w.heap.size + 2), 2, none⟩ (.int .i64 (c1 + -1))).heap.size := HB.out.lt (Nat.succ_pos _)
  have hcall := N2 (w1.setCell ⟨(w.heap.size + 2), 2, none⟩ (.int .i64 (c1 + -1))) HR.out
  have HCALL := hid hcall
  clear hcall
  go_wp2_with fail
  refine HCALL.out.mono ?_
  rintro e w2 ⟨v, rfl, ho, hr, hg⟩
  obtain ⟨o2, k2, rfl, _, _, _⟩ := ho.shape
  rw [hn2] at ho ⊢
  have HR := hid hr
  have HA := hid (HA.out.grown (Nat.succ_pos _) hg (by simp <;> omega))
  have HB := hid (HB.out.grown (Nat.succ_pos _) hg (by simp <;> omega))
  have HG := hid (gr_trans HG.out hg)
  have hszg := HG.out.size
  have HO2 := hid (ho.lift hbl)
  clear hr hg HCALL ho hbl
  have b0 := HB.out.cell 0 _ rfl
  have fb0 := HB.out.fro 0 _ rfl
  have b1 := HB.out.cell 1 _ rfl
  have fb1 := HB.out.fro 1 _ rfl
  have b2 := HB.out.cell 2 _ rfl
  have fb2 := HB.out.fro 2 _ rfl
  have HB := hid (HB.out.set 0 (.slice o2 n2 k2) (by simp))
  have HA := hid (HA.out.other (show w.heap.size ≠ (w.heap.size + 2) by omega) 0 (.slice o2 n2 k2))
  have hg2 := grown_set w2 ⟨(w.heap.size + 2), 0, none⟩ (.slice o2 n2 k2)
  have HR := hid (HR.out.gr hg2 (fun q e => by have h : (w.heap.size + 2) = q := (by simpa using e); omega))
  have HG := hid (gr_row HG.out hg2 (fun q e => by have h : (w.heap.size + 2) = q := (by simpa using e); omega))
  have HO2 := hid (HO2.out.kept hg2 (fun q e => by have h : (w.heap.size + 2) = q := (by simpa using e); first | omega | (simp at *; omega)))
  clear hg2
  have hbl : (w.heap.size + 2) + 1 ≤ (w2.setCell ⟨(w.heap.size + 2), 0, none⟩ (.slice o2 n2 k2)).heap.size := HB.out.lt (Nat.succ_pos _)
  have hcall := N3 (w2.setCell ⟨(w.heap.size + 2), 0, none⟩ (.slice o2 n2 k2)) HR.out
  have HCALL := hid hcall
  clear hcall
  go_wp2_with fail
  refine HCALL.out.mono ?_
  rintro e w3 ⟨v, rfl, ho, hr, hg⟩
  obtain ⟨o3, k3, rfl, _, _, _⟩ := ho.shape
  rw [hn3] at ho ⊢
  have HR := hid hr
  have HA := hid (HA.out.grown (Nat.succ_pos _) hg (by simp <;> omega))
  have HB := hid (HB.out.grown (Nat.succ_pos _) hg (by simp <;> omega))
  have HO2 := hid (HO2.out.kept hg (fun q e => by have h : (w.heap.size + 1) = q := (by simpa using e); omega))
  have HG := hid (gr_trans HG.out hg)
  have hszg := HG.out.size
  have HO3 := hid (ho.lift hbl)
  clear hr hg HCALL ho hbl
  have b0 := HB.out.cell 0 _ rfl
  have fb0 := HB.out.fro 0 _ rfl
  have b1 := HB.out.cell 1 _ rfl
  have fb1 := HB.out.fro 1 _ rfl
  have b2 := HB.out.cell 2 _ rfl
  have fb2 := HB.out.fro 2 _ rfl
  have a0 := HA.out.cell 0 _ rfl
  have fa0 := HA.out.fro 0 _ rfl
  have a1 := HA.out.cell 1 _ rfl
  have fa1 := HA.out.fro 1 _ rfl
  have a2 := HA.out.cell 2 _ rfl
  have fa2 := HA.out.fro 2 _ rfl
  have HB := hid (HB.out.set 1 (.slice o3 n3 k3) (by simp))
  have HA := hid (HA.out.other (show w.heap.size ≠ (w.heap.size + 2) by omega) 1 (.slice o3 n3 k3))
  have hg2 := grown_set w3 ⟨(w.heap.size + 2), 1, none⟩ (.slice o3 n3 k3)
  have HR := hid (HR.out.gr hg2 (fun q e => by have h : (w.heap.size + 2) = q := (by simpa using e); omega))
  have HG := hid (gr_row HG.out hg2 (fun q e => by have h : (w.heap.size + 2) = q := (by simpa using e); omega))
  have HO2 := hid (HO2.out.kept hg2 (fun q e => by have h : (w.heap.size + 2) = q := (by simpa using e); first | omega | (simp at *; omega)))
  have HO3 := hid (HO3.out.kept hg2 (fun q e => by have h : (w.heap.size + 2) = q := (by simpa using e); first | omega | (simp at *; omega)))
  clear hg2
  have hgA : World.grownBy (w3.setCell ⟨(w.heap.size + 2), 1, none⟩ (.slice o3 n3 k3)) ((((w3.setCell ⟨(w.heap.size + 2), 1, none⟩ (.slice o3 n3 k3)).setCell ⟨w.heap.size, 0, none⟩ (.slice o2 n2 k2)).setCell ⟨w.heap.size, 1, none⟩ (.slice o3 n3 k3)).setCell ⟨w.heap.size, 2, none⟩ (.int .i64 (c1 + -1))) (some w.heap.size) := (gr_set (gr_set (gr_set (gr_refl _ _) 0 _) 1 _) 2 _)
  skip
  have HG := hid (gr_row HG.out hgA (fun q e => by have h : w.heap.size = q := (by simpa using e); omega))
  have HO2 := hid (HO2.out.kept hgA (fun q e => by have h : w.heap.size = q := (by simpa using e); omega))
  have HO3 := hid (HO3.out.kept hgA (fun q e => by have h : w.heap.size = q := (by simpa using e); omega))
  clear hgA
  go_wp2_with fail
  refine bodyPost_ret (v := .agg #[.slice o2 n2 k2, .slice o3 n3 k3, .int .i64 (c1 + -1)]) (by simp [results, Try.results33, go_sem, a0, a1, a2]) rfl ⟨⟨o2, n2, k2, o3, n3, k3⟩, rfl, ?_, HG.out⟩
  have q1 := HO2.out.bxs (B0 := w.heap.size) (by omega)
  have q2 := HO3.out.bxs (B0 := w.heap.size) (by omega)
  refine fun w' h' => ⟨?_, ?_, wfA⟩
  · exact q1 w' h'
  · exact q2 w' h'

end Go.Proofs.Ytnbegmlbkjjggaa
