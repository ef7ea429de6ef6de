/- extent's program side: New, Take. -/
import Derived.Test.YtjihemgidogoeaaEyM
import Derived.Test.YtjihemgidogoeaaRepB
namespace Go.Proofs.Ytjihemgidogoeaa
open Go.RowKit
set_option linter.unusedVariables false
set_option maxRecDepth 100000

theorem exNew_to (a n : Int) (w : World) (ha : (Lit.int .i64 a).wf = true) (hn : (Lit.int .i64 n).wf = true) (h : a ≤ 1000000) :
    Calls Try.prog 10 #[.int .i64 a, .int .i64 n] w fun e w' => ∃ p A, e = .returned (.pointer (some p)) ∧ (∀ b, A b → w.heap.size ≤ b) ∧ exAt A (Rm.new a n) p w' ∧ Below w.heap.size w w' := by
  by_cases hg : 0 ≤ a ∧ 0 ≤ n ∧ n ≤ 2048
  · obtain ⟨lo, rfl⟩ : ∃ lo : Nat, a = lo := ⟨a.toNat, by omega⟩
    obtain ⟨m, rfl⟩ : ∃ m : Nat, n = m := ⟨n.toNat, by omega⟩
    have e1 : Rm.new (lo : Int) (m : Int) = ⟨lo, List.replicate m true⟩ := by unfold Rm.new; rw [if_pos hg]; simp
    rw [e1]
    have hok : Rm.ok ⟨lo, List.replicate m true⟩ := ⟨by rw [List.length_replicate]; omega, by show lo ≤ 1000000; omega⟩
    obtain ⟨W, hW⟩ : ∃ W, w.alloc (.cells #[.bool true] 4) = W := ⟨_, rfl⟩
    obtain ⟨q, hq⟩ : ∃ q, w.heap.size = q := ⟨_, rfl⟩
    have hc0 : W.cell? ⟨q, 0, none⟩ = some (.bool true) := by rw [← hW, ← hq]; simp [World.cell?_alloc_at]
    have hb0 : Below q w W := by rw [← hW, ← hq]; exact Bl.alloc (Bl.refl w) _
    have hrep : Calls Try.prog 18 #[.slice (some ⟨q, 0, none⟩) 1 1, .int .i64 (m : Int)] W fun e w' => ∃ v, e = .returned v ∧ OwnV 4 W.heap.size w' v (boolS (List.replicate m true)) ∧ Below W.heap.size W w' := by
      by_cases h0 : m = 0
      · subst h0
        exact repeat_none true q 0 1 W hc0
      · exact repeat_to true m (by omega) (by omega) q 0 1 W hc0
    have x1 : ¬ (lo : Int) < 0 := by omega
    have x2 : ¬ (m : Int) < 0 := by omega
    have x3 : ¬ (2048 : Int) < m := by omega
    have hzW : q ≤ W.heap.size := by have := hb0.size; omega
    have HREP := hid hrep; have HB0 := hid hb0; have HOK := hid hok
    clear hrep hb0 hok e1 hg h ha hn hc0
    go_enter Try.func10, Try.ntmps10
    go_wp2_with fail
    refine HREP.out.mono ?_
    rintro e w1 ⟨v, rfl, hv, hb⟩
    obtain ⟨vo, vc, ev, -⟩ := hv.shape
    obtain ⟨vn, hvn⟩ : ∃ vn, (boolS (List.replicate m true)).length = vn := ⟨_, rfl⟩
    rw [hvn] at ev
    subst ev
    have HV := hid hv
    have HB := hid (HB0.out.trans (hb.mono hzW))
    have hz1 : q ≤ w1.heap.size := Nat.le_trans hzW hb.size
    obtain ⟨wf, hwf⟩ : ∃ wf, w1.alloc (.cells #[.int .i64 lo, .slice vo vn vc] 45) = wf := ⟨_, rfl⟩
    have hBf : Below w1.heap.size w1 wf := by rw [← hwf]; exact Bl.alloc (Bl.refl w1) _
    have hBlk : Blk wf w1.heap.size 45 [.int .i64 lo, .slice vo vn vc] := by rw [← hwf]; exact Blk.new w1 _ _
    have hsf : w1.heap.size < wf.heap.size := by rw [← hwf]; simp
    have HF := hid (And.intro hBf (And.intro hBlk hsf))
    clear hv hb hvn HREP HB0 hBf hBlk hsf
    go_wp2_with fail
    go_ret
    obtain ⟨hBf, hBlk, hsf⟩ := HF.out
    have hrow := HV.out.below hBf (Nat.le_refl _)
    refine ⟨⟨w1.heap.size, 0, none⟩, fun x => x = w1.heap.size ∨ (Value.slice vo vn vc).ownBlock = some x, rfl, fun x hx => ?_, ⟨w1.heap.size, _, rfl, ⟨hBlk, hrow.lift (Nat.zero_le _), HOK.out⟩, .inl rfl, fun g e => .inr e, fun g hg => ?_⟩, by rw [hq]; exact HB.out.trans (hBf.mono hz1)⟩
    · rw [hq]
      rcases hx with rfl | hx
      · exact hz1
      · exact Nat.le_trans hzW (HV.out.lt x hx).1
    · rcases hg with rfl | hg
      · exact hsf
      · exact (hrow.lt g hg).2
  · have e1 : Rm.new a n = ⟨0, []⟩ := by unfold Rm.new; rw [if_neg hg]
    rw [e1]
    have key : ∀ w' : World, Hid (w' = w.alloc (.cells #[.int .i64 0, .slice none 0 0] 45)) → exAt (fun x => x = w.heap.size) ⟨0, []⟩ ⟨w.heap.size, 0, none⟩ w' ∧ Below w.heap.size w w' := by
      intro w' hw'
      have hw' := hw'.out
      subst hw'
      exact ⟨⟨w.heap.size, .slice none 0 0, rfl, ⟨Blk.new w _ _, OwnV.nil _ _ _, ⟨Nat.zero_le _, Nat.zero_le _⟩⟩, rfl, (fun g e => by cases e), (fun g hg => by have e : g = w.heap.size := hg; simp; omega)⟩, Bl.alloc (Bl.refl w) _⟩
    have HK := hid key
    have hways : a < 0 ∨ (¬ a < 0 ∧ n < 0) ∨ (¬ a < 0 ∧ ¬ n < 0 ∧ 2048 < n) := by omega
    clear key e1 hg
    rcases hways with h1 | ⟨h1, h2⟩ | ⟨h1, h2, h3⟩
    all_goals
      go_enter Try.func10, Try.ntmps10
      go_wp2_with fail
      go_ret
      first | exact ⟨_, fun x => x = w.heap.size, rfl, (fun b hb => by have e : b = w.heap.size := hb; omega), HK.out _ (hid rfl)⟩ | exact ⟨_, rfl, fun x => x = w.heap.size, (fun b hb => by have e : b = w.heap.size := hb; omega), HK.out _ (hid rfl)⟩
/-- What lies behind a zero span of the call's own. -/
theorem span_var (w : World) : ∃ W q, w.alloc (.cells #[.int .i64 0, .int .i64 0] 30) = W ∧ w.heap.size = q ∧ Below q w W ∧ Pair W q (.int .i64 0) (.int .i64 0) ∧ q < W.heap.size ∧ W.heap.size = q + 1 := by
  have hP := Pair.new w (.int .i64 0) (.int .i64 0) 30 (p := w.heap.size) rfl
  exact ⟨_, _, rfl, rfl, Bl.alloc (Bl.refl w) _, hP, hP.lt, by simp⟩
theorem exTake_small (a : Option Addr) (w : World) (n : Int) (h : n < 1) : Calls Try.prog 11 #[.pointer a, .int .i64 n] w fun e w' => e = .returned (.tuple #[.agg #[.int .i64 0, .int .i64 0], .bool false]) ∧ Below w.heap.size w w' := by
  obtain ⟨W, q, hW, hq, hB, hP, hl, hs⟩ := span_var w
  have hp0 := hP.c0; have hp1 := hP.c1; have hf0 := hP.f0; have hf1 := hP.f1
  have HB := hid hB
  have HP := hid hP
  clear hB hP
  go_enter Try.func11, Try.ntmps11
  go_wp2_with fail
  have hP2 := HP.out.set2 (.int .i64 0) (.int .i64 0)
  have k0 := hP2.c0; have k1 := hP2.c1
  exact bodyPost_ret (v := .tuple #[.agg #[.int .i64 0, .int .i64 0], .bool false]) (by simp [results, Try.results11, go_sem, k0, k1]) rfl ⟨rfl, by rw [hq]; exact (HB.out.setCell (p := ⟨q, 0, none⟩) (Nat.le_refl _) _).setCell (p := ⟨q, 1, none⟩) (Nat.le_refl _) _⟩
theorem exTake_nil (w : World) (n : Int) : Calls Try.prog 11 #[.pointer none, .int .i64 n] w fun e w' => e = .returned (.tuple #[.agg #[.int .i64 0, .int .i64 0], .bool false]) ∧ Below w.heap.size w w' := by
  by_cases hn : n < 1
  · exact exTake_small none w n hn
  · obtain ⟨W, q, hW, hq, hB, hP, hl, hs⟩ := span_var w
    have hsp := exSpans_nil W
    have HSP := hid hsp
    have HB := hid hB
    have HP := hid hP
    clear hB hP hsp
    go_enter Try.func11, Try.ntmps11
    go_wp2_with fail
    refine HSP.out.mono ?_
    rintro e w1 ⟨ao, m, cap, rfl, hq1, hb⟩
    obtain rfl : m = 0 := hq1.len.symm
    replace HP := hid (HP.out.below hb)
    replace HB := hid (HB.out.trans (hb.mono (by omega)))
    have hl1 : q < w1.heap.size := Nat.lt_of_lt_of_le hl hb.size
    clear hb hq1
    have hp0 := HP.out.c0; have hp1 := HP.out.c1; have hf0 := HP.out.f0; have hf1 := HP.out.f1
    go_wp2_with fail
    refine wp_loop_rounds 1 ?_
    rw [rounds_succ]
    go_wp2_with fail
    have hP2 := HP.out.set2 (.int .i64 0) (.int .i64 0)
    have k0 := hP2.c0; have k1 := hP2.c1
    exact bodyPost_ret (v := .tuple #[.agg #[.int .i64 0, .int .i64 0], .bool false]) (by simp [results, Try.results11, go_sem, k0, k1]) rfl ⟨rfl, by rw [hq]; exact (HB.out.setCell (p := ⟨q, 0, none⟩) (Nat.le_refl _) _).setCell (p := ⟨q, 1, none⟩) (Nat.le_refl _) _⟩
end Go.Proofs.Ytjihemgidogoeaa
