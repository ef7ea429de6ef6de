/- extent's program side: Take. -/
import Derived.Test.YtjihemgidogoeaaEyF
namespace Go.Proofs.Ytjihemgidogoeaa
open Go.RowKit
set_option linter.unusedVariables false
set_option maxRecDepth 100000

theorem Pair.put1 {w : World} {p : Nat} {x y : Value} (h : Pair w p x y) (y' : Value) : Pair (w.setCell ⟨p, 1, none⟩ y') p x y' := by
  have c0 := h.c0
  have c1 := h.c1
  have f0 := h.f0
  have f1 := h.f1
  constructor <;> go_simp
/-- The call that takes, and what follows it. -/
theorem take_end {A : Nat → Prop} {M : Rm} {p q q3 : Nat} {w W5 : World} {x n : Int} (hq : w.heap.size = q) (hB : Below q w W5) (hl : q < W5.heap.size) (hat : exAt A M ⟨p, 0, none⟩ W5) (hA : ∀ b, A b → b < q) (hq3 : q ≤ q3)
    (hx : (Lit.int .i64 x).wf = true) (hn : (Lit.int .i64 n).wf = true) (hall : M.all x n true = true) (hP : Pair W5 q (.int .i64 0) (.int .i64 0)) (hP3 : Pair W5 q3 (.int .i64 x) (.int .i64 n)) :
    Calls Try.prog 12 #[.pointer (some ⟨p, 0, none⟩), .agg #[.int .i64 x, .int .i64 n]] W5.drew fun e w' => e = .returned (.bool true) ∧ Pair w' q (.int .i64 0) (.int .i64 0) ∧ Pair w' q3 (.int .i64 x) (.int .i64 n) ∧
      Hid (∀ w2, Hid (w2 = (w'.setCell ⟨q, 0, none⟩ (.int .i64 x)).setCell ⟨q, 1, none⟩ (.int .i64 n)) → ∃ A', (∀ b, A' b → A b ∨ w.heap.size ≤ b) ∧ exAt A' (M.use x n true) ⟨p, 0, none⟩ w2 ∧ Wrs A w w2) := by
  refine (exUse_to A M _ W5.drew x n (hat.keep fun _ _ => rfl) hx hn).mono ?_
  rintro e w' ⟨A', rfl, h1, h2, h3⟩
  have hs : W5.heap.size ≤ w'.heap.size := h3.size
  have hk : ∀ g, q ≤ g → g < W5.heap.size → w'.heap[g]? = W5.heap[g]? := fun g hg hl => h3.block g hl (fun h => by have := hA g h; omega)
  refine ⟨by rw [hall], hP.stay (hk q (Nat.le_refl _) hl), hP3.stay (hk q3 hq3 hP3.lt), hid fun w2 hw2 => ?_⟩
  have hw2 := hw2.out
  subst hw2
  have hset : ∀ b, b ≠ q → ((w'.setCell ⟨q, 0, none⟩ (.int .i64 x)).setCell ⟨q, 1, none⟩ (.int .i64 n)).heap[b]? = w'.heap[b]? := fun b hb => by
    rw [Below.heap_setCell _ _ _ b hb, Below.heap_setCell _ _ _ b hb]
  have hsz : W5.drew.heap.size = W5.heap.size := rfl
  refine ⟨A', fun b hb => ?_, h2.keep fun b hb => hset b fun e => ?_, ?_⟩
  · rcases h1 b hb with h | h
    · exact .inl h
    · exact .inr (by omega)
  · rcases h1 b hb with h | h
    · have := hA b h; omega
    · omega
  · refine ⟨h3.os.trans hB.os, h3.tape.trans hB.tape, h3.output.trans hB.output, ?_, fun b hb hn => ?_⟩
    · simp [World.setCell]
      omega
    · rw [hset b (by omega)]
      exact (h3.block b (by omega) hn).trans (hB.block b (by omega))
set_option maxHeartbeats 2000000 in
theorem exTake_to (A : Nat → Prop) (M : Rm) (a : Addr) (w : World) (n : Int) (h : exAt A M a w) (hn : (Lit.int .i64 n).wf = true) :
    Calls Try.prog 11 #[.pointer (some a), .int .i64 n] w fun e w' => ∃ A', e = .returned (.tuple #[.agg #[.int .i64 (M.takeV n).1, .int .i64 (M.takeV n).2.1], .bool (M.takeV n).2.2]) ∧ (∀ b, A' b → A b ∨ w.heap.size ≤ b) ∧ exAt A' (M.take n) a w' ∧ Wrs A w w' := by
  by_cases h1 : n < 1
  · have e1 : M.takeAt n = none := takeAt_no fun a => by
      cases hc : M.all (M.lo + a) n true with
      | false => rfl
      | true => have := ((M.all_iff _ _ _).1 hc).1; omega
    obtain ⟨e2, e3⟩ := take_none e1
    rw [e2, e3]
    refine (exTake_small _ w n h1).mono ?_
    rintro e w' ⟨rfl, hb⟩
    have hb' := hb.size
    exact ⟨A, rfl, fun b hb => .inl hb, h.keep fun b hA => hb.block b (by obtain ⟨_, _, _, _, _, _, h3⟩ := h; exact h3 b hA), Wrs.of hb⟩
  · obtain ⟨W, q, hW, hq, hB, hP, hl, hs⟩ := span_var w
    have hAlt : ∀ b, A b → b < q := by obtain ⟨_, _, _, _, _, _, h3⟩ := h; rw [← hq]; exact h3
    have hW1 := h.keep (w' := W) fun b hA => hB.block b (hAlt b hA)
    have hsp := exSpans_to A M a W hW1
    obtain ⟨p, v, rfl, hR, hA1, hA2, -⟩ := hW1
    have HSP := hid hsp
    have HB := hid hB
    have HP := hid hP
    have HR := hid hR
    have HA := hid (And.intro hA1 (And.intro hA2 hAlt))
    have hpq : p < q := hAlt p hA1
    have hvq : ∀ b, v.ownBlock = some b → b < q := fun b e => hAlt b (hA2 b e)
    have HVQ := hid hvq
    have hsl := spans_len M
    have hok := hR.ok.n
    have hbn := bounds_i64 hn
    clear hB hP hsp hR hA1 hA2 hAlt h hn hvq
    obtain ⟨S, hS⟩ : ∃ S, M.spans = S := ⟨_, rfl⟩
    rw [hS] at HSP hsl
    have HS := hid hS
    have HFIT : Hid (∀ s ∈ S, (M.lo : Int) ≤ s.1 ∧ 1 ≤ s.2 ∧ s.1 + s.2 ≤ (M.lo : Int) + M.fr.length) := hid (by rw [← hS]; exact spans_fit M)
    have hlo := HR.out.ok.lo
    clear hS
    go_enter Try.func11, Try.ntmps11
    go_wp2_with fail
    refine HSP.out.mono ?_
    rintro e w1 ⟨so, sn, sc, rfl, hq1, hb⟩
    have hsc := hq1.cap63
    have hsc2 := hq1.le
    have hSn := hq1.len
    replace HP := hid (HP.out.below hb)
    replace HB := hid (HB.out.trans (hb.mono (by omega)))
    replace HR := hid (HR.out.below hb)
    have HQ := hid hq1
    have hl1 : q < w1.heap.size := Nat.lt_of_lt_of_le hl hb.size
    have HSN := hid hSn
    clear hb hq1 HSP hs hl hW hSn hsl
    go_wp2_with fail
    go_loopw [14] (fun i wr => ∃ j : Nat, j ≤ sn ∧ i = .int .i64 j ∧ RoomL wr M p v ∧ Pair wr q (.int .i64 0) (.int .i64 0) ∧ RdQ wr so sn sc S ∧ Below q w wr ∧ q < wr.heap.size ∧ ∀ i s, i < j → S[i]? = some s → s.2 < n) (fun i _ => sn - (intOf i).toNat)
    case atStart => exact ⟨0, Nat.zero_le _, rfl, HR.out, HP.out, HQ.out, HB.out, hl1, fun i s hi => by omega⟩
    case round =>
      clear HR HP HQ HB hl1
      obtain ⟨j, hj, rfl, hR, hP, hQ, hB, hl, hno⟩ := hrel
      have HR := hid hR; have HP := hid hP; have HQ := hid hQ; have HB := hid hB; have HNO := hid hno
      clear hR hP hQ hB hno
      by_cases hlt : j < sn
      · have hlti : (j : Int) < sn := by omega
        obtain ⟨x, y, hxy⟩ : ∃ x y, S[j]? = some (x, y) := ⟨(S[j]'(by rw [HSN.out]; exact hlt)).1, (S[j]'(by rw [HSN.out]; exact hlt)).2, List.getElem?_eq_getElem _⟩
        obtain ⟨b, off, rfl, b0, b1⟩ := HQ.out.cell j x y hxy
        have hfit := HFIT.out (x, y) (List.mem_of_getElem? hxy)
        simp only at hfit
        obtain ⟨W3, q3, hW3, hq3, hB3, hP3, hl3, hs3⟩ := span_var wr
        have d0 := (hB3.cell (p := ⟨b, off + j * 2, none⟩) (by rw [← hq3]; exact World.block_lt_of_cell? _ _ b0)).trans b0
        have d1 := (hB3.cell (p := ⟨b, off + j * 2 + 1, none⟩) (by rw [← hq3]; exact World.block_lt_of_cell? _ _ b1)).trans b1
        have g0 := hP3.c0; have g1 := hP3.c1; have g2 := hP3.f0; have g3 := hP3.f1
        have hP4 := hP3.set2 (.int .i64 x) (.int .i64 y)
        have hB4 := (hB3.setCell (p := ⟨q3, 0, none⟩) (Nat.le_refl _) (.int .i64 x)).setCell (p := ⟨q3, 1, none⟩) (Nat.le_refl _) (.int .i64 y)
        obtain ⟨W4, hW4⟩ : ∃ W4, ((W3.setCell ⟨q3, 0, none⟩ (.int .i64 x)).setCell ⟨q3, 1, none⟩ (.int .i64 y)) = W4 := ⟨_, rfl⟩
        have hs4 : W4.heap.size = q3 + 1 := by rw [← hW4]; simpa [World.setCell] using hs3
        rw [hW4] at hP4 hB4
        have HP4 := hid hP4
        have HB4 : Hid (Below wr.heap.size wr W4) := hid (by rw [hq3]; exact hB4)
        have k0 := hP4.c0; have k1 := hP4.c1; have k2 := hP4.f1
        have hl4 : q3 < W4.heap.size := by omega
        have HXY := hid hxy
        clear hB3 hP3 hP4 hB4 hxy hs3
        by_cases hyn : n ≤ y
        · have hP5 := HP4.out.put1 (.int .i64 n)
          obtain ⟨W5, hW5⟩ : ∃ W5, W4.setCell ⟨q3, 1, none⟩ (.int .i64 n) = W5 := ⟨_, rfl⟩
          have hB5 : Below wr.heap.size wr W5 := by rw [← hW5]; exact HB4.out.setCell (p := ⟨q3, 1, none⟩) (by rw [hq3]; exact Nat.le_refl _) _
          rw [hW5] at hP5
          obtain ⟨t1, t2, t3⟩ := spans_first (M := M) (n := n) (by omega) (j := j) (x := x) (y := y) (by rw [HS.out]; exact HXY.out) hyn (by rw [HS.out]; exact HNO.out)
          obtain ⟨a1, a2, a3⟩ := HA.out
          have hR5 := HR.out.below hB5
          have hat5 : exAt A M ⟨p, 0, none⟩ W5 := ⟨p, v, rfl, hR5, a1, a2, fun g hg => by have := a3 g hg; have := hB5.size; omega⟩
          have hu := take_end (x := x) (n := n) hq (HB.out.trans (hB5.mono (by omega))) (by have := hB5.size; omega) hat5 a3 (by omega : q ≤ q3) (WalkArith.wf_i64 ⟨by omega, by omega⟩) (WalkArith.wf_i64 ⟨by omega, by omega⟩) t3 (HP.out.below hB5) hP5
          have HU := hid hu
          have HTV := hid t1; have HTK := hid t2
          have m0 := hP5.c0; have m1 := hP5.c1
          clear hP5 hu hat5 hR5 a1 a2 a3 t1 t2 t3 hB5
          go_wp2_with fail
          go_region_with (go_at_call 12; refine HU.out.mono ?_; rintro e w8 ⟨rfl, hp8, hp9, hfin⟩; have r0 := hp9.c0; have r1 := hp9.c1; have o0 := hp8.c0; have o1 := hp8.c1; have o2 := hp8.f0; have o3 := hp8.f1; have HP8 := hid hp8; clear hp8 hp9)
          all_goals
            go_wp2_with fail
            obtain ⟨A2, f1, f2, f3⟩ := hfin.out _ (hid rfl)
            have hP2 := HP8.out.set2 (.int .i64 x) (.int .i64 n)
            have z0 := hP2.c0; have z1 := hP2.c1
            rw [HTV.out, HTK.out]
            exact bodyPost_ret (v := .tuple #[.agg #[.int .i64 x, .int .i64 n], .bool true]) (by simp [results, Try.results11, go_sem, z0, z1]) rfl ⟨A2, rfl, f1, f2, f3⟩
        · go_wp2_with fail
          go_roundw
          case rel => exact ⟨j + 1, by omega, by go_num, HR.out.below HB4.out, HP.out.below HB4.out, HQ.out.below HB4.out, HB.out.trans (HB4.out.mono (by omega)), by omega, fun i s hi hs => by
            by_cases hij : i = j
            · rw [hij, HXY.out] at hs
              cases hs
              simp only
              omega
            · exact HNO.out i s (by omega) hs⟩
          case measure => simp [intOf]; omega
      · obtain rfl : j = sn := by omega
        have e1 : M.takeAt n = none := spans_no (by omega) fun s hs => by
          rw [HS.out] at hs
          obtain ⟨i, hi, rfl⟩ := List.getElem_of_mem hs
          exact HNO.out i _ (by rw [← HSN.out]; exact hi) (List.getElem?_eq_getElem hi)
        obtain ⟨e2, e3⟩ := take_none e1
        have HE2 := hid e2; have HE3 := hid e3
        have hp0 := HP.out.c0; have hp1 := HP.out.c1; have hf0 := HP.out.f0; have hf1 := HP.out.f1
        clear e1 e2 e3
        go_wp2_with fail
        have hP2 := HP.out.set2 (.int .i64 0) (.int .i64 0)
        have k0 := hP2.c0; have k1 := hP2.c1
        rw [HE2.out, HE3.out]
        obtain ⟨A1, A2, A3⟩ := HA.out
        have hBB := (HB.out.setCell (p := ⟨q, 0, none⟩) (Nat.le_refl _) (.int .i64 0)).setCell (p := ⟨q, 1, none⟩) (Nat.le_refl _) (.int .i64 0)
        have hblk : ∀ b, b < q → ((wr.setCell ⟨q, 0, none⟩ (.int .i64 0)).setCell ⟨q, 1, none⟩ (.int .i64 0)).heap[b]? = wr.heap[b]? := fun b hb => by
          rw [Below.heap_setCell _ _ _ b (by simp only; omega), Below.heap_setCell _ _ _ b (by simp only; omega)]
        refine bodyPost_ret (v := .tuple #[.agg #[.int .i64 0, .int .i64 0], .bool false]) (by simp [results, Try.results11, go_sem, k0, k1]) rfl ⟨A, rfl, fun b hb => .inl hb, ⟨p, v, rfl, HR.out.keep (hblk p hpq) (fun b e => hblk b (HVQ.out b e)), A1, A2, fun g hg => ?_⟩, Wrs.of (by rw [hq]; exact hBB)⟩
        have := A3 g hg
        simp [World.setCell]
        omega
end Go.Proofs.Ytjihemgidogoeaa
