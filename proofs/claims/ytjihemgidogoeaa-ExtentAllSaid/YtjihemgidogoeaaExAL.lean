/- extent's laws: ExtentAll: the law. -/
import Derived.Test.YtjihemgidogoeaaExA9
import Derived.Deep.CutBlock
namespace Go.Proofs.Ytjihemgidogoeaa
open Go.RowKit
set_option linter.unusedVariables false

theorem makeF (w : World) : (Instr.makeSlice 26 (.int .i64 130) (.int .i64 130)).run Try.prog w = .ok (.slice (some ⟨w.heap.size, 0, none⟩) 130 130) (w.alloc (.cells (boolS (List.replicate 130 false)).toArray 4)) := by kernel_rfl
theorem OwnV.made (w : World) (E : TypeId) (vs : List Value) {base : Nat} (hb : base ≤ w.heap.size) (hm : vs.length ≤ maxLen) : OwnV E base (w.alloc (.cells vs.toArray E)) (.slice (some ⟨w.heap.size, 0, none⟩) vs.length vs.length) vs :=
  ⟨⟨by simp, .inr ⟨w.heap.size, vs.length, vs.toArray, rfl, hb, heap_alloc_new w _, Nat.le_refl _, hm, by simp, by simp⟩⟩⟩
theorem pad_new {at' n : Nat} (h : at' + n ≤ 130) (hn : n ≤ 2048) : (Rm.new (at' : Int) (n : Int)).pad (layF (List.replicate 130 false) at' n true) := by
  intro i
  rw [layF_get (by rw [List.length_replicate]; exact h)]
  have e : Rm.new (at' : Int) (n : Int) = ⟨at', List.replicate n true⟩ := by unfold Rm.new; rw [if_pos ⟨by omega, by omega, by omega⟩]; simp
  rw [e]
  simp only [List.getD_eq_getElem?_getD, List.getElem?_replicate]
  by_cases h1 : at' ≤ i
  · by_cases h2 : i < at' + n
    · rw [if_pos (by omega), if_pos (by omega)]; simp [h1]
    · have h3 : ¬ i - at' < n := by omega
      rw [if_neg (by omega), if_neg h3]
      split <;> simp
  · rw [if_neg (by omega)]
    split <;> simp [h1]
set_option maxRecDepth 1000000 in
set_option maxHeartbeats 4000000 in
theorem extentAll_walk (X : ExtSpec) (a0 n0 : Int) (oo : Option Addr) (on ocap : Nat) (rows : List (List Int)) (w : World) (ha : (Lit.int .i64 a0).wf = true) (hn : (Lit.int .i64 n0).wf = true) (hX : RdS [.i64, .i64, .i64] w oo on ocap rows) :
    Calls Try.prog 3 #[.int .i64 a0, .int .i64 n0, .slice oo on ocap] w fun e w' => e = .returned (.bool true) ∧ Below w.heap.size w w' := by
  have HX := hid hX
  have HA := hid ha; have HN := hid hn
  have ho63 := hX.cap63
  have hon := hX.le
  clear hX ha hn
  have hbg := begun_to X w
  by_cases hr : 0 ≤ a0 ∧ a0 ≤ 50 ∧ 0 ≤ n0 ∧ n0 ≤ 60
  · obtain ⟨at', rfl⟩ : ∃ at' : Nat, a0 = at' := ⟨a0.toNat, by omega⟩
    obtain ⟨n, rfl⟩ : ∃ n : Nat, n0 = n := ⟨n0.toNat, by omega⟩
    have q1 : ¬ (at' : Int) < 0 := by omega
    have q2 : ¬ (50 : Int) < at' := by omega
    have q3 : ¬ (n : Int) < 0 := by omega
    have q4 : ¬ (60 : Int) < n := by omega
    have hat : at' ≤ 50 := by omega
    have hnn : n ≤ 60 := by omega
    obtain ⟨u, hu⟩ : ∃ u : Nat, (at' : Int) + n = u ∧ u = at' + n := ⟨at' + n, by omega, rfl⟩
    obtain ⟨hu, hu2⟩ := hu
    have HU := hid hu2
    clear hr hu2
    go_enter Try.func3, Try.ntmps3
    go_wp2_with fail
    refine hbg.mono ?_
    rintro e w1 ⟨rfl, hb⟩
    have HB := hid hb
    clear hb hbg
    go_wp2_with fail
    refine (ExtSpec.L.make X HB.out HA.out HN.out (by omega)).mono ?_
    rintro e w2 ⟨p, rfl, hL, -⟩
    have hmk := makeF w2
    obtain ⟨W, hW⟩ : ∃ W, w2.alloc (.cells (boolS (List.replicate 130 false)).toArray 4) = W := ⟨_, rfl⟩
    obtain ⟨fg, hfg⟩ : ∃ fg, w2.heap.size = fg := ⟨_, rfl⟩
    rw [hW, hfg] at hmk
    have hrow : OwnV 4 w.heap.size W (.slice (some ⟨fg, 0, none⟩) 130 130) (boolS (List.replicate 130 false)) := by
      have h := OwnV.made w2 4 (boolS (List.replicate 130 false)) hL.z (by rw [List.length_map, List.length_replicate]; unfold maxLen; omega)
      rw [hW, hfg, List.length_map, List.length_replicate] at h
      exact h
    have hbW : Below w2.heap.size w2 W := by rw [← hW]; exact Bl.alloc (Bl.refl w2) _
    have hsW : fg < W.heap.size := by rw [← hW, ← hfg]; simp
    have hLW := hL.new (G' := fun b => b = fg) hbW (fun b hb => .inr ⟨by omega, by rw [hb]; exact hsW⟩)
    have HS : Hid (MS0 X w W (Rm.new (at' : Int) (n : Int)) p fg (layF (List.replicate 130 false) at' 0 true)) := hid ⟨hLW, by rw [layF_zero]; exact hrow, by rw [layF_len, List.length_replicate]⟩
    have HNW : Hid (Rm.new (at' : Int) (n : Int) = ⟨at', List.replicate n true⟩) := hid (by unfold Rm.new; rw [if_pos ⟨by omega, by omega, by omega⟩]; simp)
    have HPD := hid (pad_new (at' := at') (n := n) (by omega) (by omega))
    clear hW hrow hbW hLW hL HB
    go_wp2_with fail
    go_loopw [10] (fun i wr => ∃ j : Nat, at' + j ≤ u ∧ i = .int .i64 ((at' + j : Nat) : Int) ∧ MS0 X w wr (Rm.new (at' : Int) (n : Int)) p fg (layF (List.replicate 130 false) at' j true)) (fun i _ => u - (intOf i).toNat)
    case atStart => exact ⟨0, by have := HU.out; omega, rfl, HS.out⟩
    case round =>
      obtain ⟨j, hj, rfl, hS⟩ := hrel
      replace HS := hid hS
      clear hS
      obtain ⟨y, hy⟩ : ∃ y : Nat, at' + j = y := ⟨_, rfl⟩
      rw [hy] at hj ⊢
      by_cases hlt : y < u
      · have hlti : (y : Int) < u := by omega
        have hub := HU.out
        have hyb : (y : Int) < 130 := by omega
        have hl130 : y < (boolS (layF (List.replicate 130 false) at' j true)).length := by rw [List.length_map, layF_len, List.length_replicate]; omega
        obtain ⟨f0, f1, f2, f3⟩ := HS.out.row.cell y (List.getElem?_eq_getElem hl130)
        generalize (boolS (layF (List.replicate 130 false) at' j true))[y] = old at f0
        have hput : MS0 X w (wr.setCell ⟨fg, y, none⟩ (.bool true)) (Rm.new (at' : Int) (n : Int)) p fg (layF (List.replicate 130 false) at' (j + 1) true) := by
          have hr := HS.out.row.set y (.bool true)
          rw [layF_succ (by rw [List.length_replicate]; omega), hy]
          exact ⟨HS.out.L.set rfl f2 y _, by simpa [boolS, List.map_set] using hr, by rw [List.length_set]; exact HS.out.len⟩
        have HPUT := hid hput
        have HY := hid hy
        clear hput hl130 hy hub
        go_wp2_with fail
        go_roundw
        case rel => exact ⟨j + 1, by have := HY.out; omega, by have := HY.out; congr 1; omega, HPUT.out⟩
        case measure => simp [intOf]; omega
      · have hj2 : j = n := by have := HU.out; omega
        subst hj2
        have hnl : ¬ (y : Int) < u := by omega
        have HY := hid hy
        clear hy
        go_upto_block 2 with (fail)
        obtain ⟨wo, rfl⟩ : ∃ wo : World, wo = wr := ⟨_, rfl⟩
        refine wp_block ?_
        refine wp_loop (EI X w at' j oo on ocap p fg) (fun a _ => Emu a) ?_ (fun a w'' hI => round_to X HX.out hat hnn ?_ a w'' hI)
        · exact ⟨0, _, _, ⟨rfl, rfl, rfl, rfl, rfl, rfl, rfl, rfl⟩, by omega, by rw [HNW.out], by rw [HNW.out]; simp, HPD.out, HS.out⟩
        · intro a' w3 hE
          obtain ⟨k, M, F, hK, -, -, -, -, hS3⟩ := hE
          have HS3 := hid hS3
          clear hS3
          obtain ⟨t, ds⟩ := a'
          obtain ⟨kd, ks, e0, e1, e2, e8, e9, e11⟩ := hK
          simp only at kd ks e0 e1 e2 e8 e9 e11
          subst kd
          have ht := frame_of ks
          obtain ⟨U, hU⟩ : ∃ U : Nat → Value, U = fun i => t.getD i undef := ⟨_, rfl⟩
          rw [← hU, allFrame] at ht
          clear hU e0 e1 e2 e8 e9 e11 ks
          subst ht
          simp only [Exit.inBlock, if_true]
          go_wp2_with fail
          go_ret
          exact ⟨rfl, HS3.out.L.b⟩
  · have hways : a0 < 0 ∨ (¬ a0 < 0 ∧ 50 < a0) ∨ (¬ a0 < 0 ∧ ¬ 50 < a0 ∧ n0 < 0) ∨ (¬ a0 < 0 ∧ ¬ 50 < a0 ∧ ¬ n0 < 0 ∧ 60 < n0) := by omega
    clear hr
    rcases hways with h1 | ⟨h1, h2⟩ | ⟨h1, h2, h3⟩ | ⟨h1, h2, h3, h4⟩
    all_goals
      go_enter Try.func3, Try.ntmps3
      go_wp2_with fail
      refine hbg.mono ?_
      rintro e w1 ⟨rfl, hb⟩
      go_wp2_with fail
      go_ret
      exact ⟨rfl, hb⟩
end Go.Proofs.Ytjihemgidogoeaa
