/- extent's program side: part. -/
import Derived.Test.YtjihemgidogoeaaEyA
import Derived.BigQuiet
import Derived.Deep.QuietTactic
namespace Go.Proofs.Ytjihemgidogoeaa
open Go.RowKit
set_option linter.unusedVariables false
set_option maxRecDepth 100000

/-- What lies behind a box of a span. -/
theorem span_box (w : World) (a n : Int) : ∃ W q, w.alloc (.cells #[.int .i64 a, .int .i64 n] 30) = W ∧ w.heap.size = q ∧ Below q w W ∧ W.cell? ⟨q, 0, none⟩ = some (.int .i64 a) ∧ W.cell? ⟨q, 1, none⟩ = some (.int .i64 n) ∧ q < W.heap.size := by
  have hP := Pair.new w (.int .i64 a) (.int .i64 n) 30 (p := w.heap.size) rfl
  exact ⟨_, _, rfl, rfl, Bl.alloc (Bl.refl w) _, hP.c0, hP.c1, hP.lt⟩
set_option maxHeartbeats 1000000 in
theorem part_no {w : World} {M : Rm} {p : Nat} {v : Value} (h : RoomL w M p v) (a n : Int) (ha : (Lit.int .i64 a).wf = true) (hn : (Lit.int .i64 n).wf = true) (hno : ¬ (1 ≤ n ∧ (M.lo : Int) ≤ a ∧ n ≤ M.lo + M.fr.length - a)) :
    Calls Try.prog 22 #[.pointer (some ⟨p, 0, none⟩), .agg #[.int .i64 a, .int .i64 n]] w fun e w' => e = .returned (.slice none 0 0) ∧ Below w.heap.size w w' := by
  obtain ⟨ao, m, cap, rfl, hm, hm2, hmc, hcap, c0, c1, -, -⟩ := h.facts
  obtain ⟨W, q, hW, hq, hB, s0, s1, hqW⟩ := span_box w a n
  have hp := h.blk.lt
  rw [hq] at hp
  have d0 := (hB.cell (p := ⟨p, 0, none⟩) hp).trans c0
  have d1 := (hB.cell (p := ⟨p, 1, none⟩) hp).trans c1
  have hpW : p < W.heap.size := by omega
  have hlo := h.ok.lo
  have hb1 := bounds_i64 ha
  have hb2 := bounds_i64 hn
  rw [hm] at hno
  obtain ⟨lo, hlo2⟩ : ∃ lo, M.lo = lo := ⟨_, rfl⟩
  rw [hlo2] at hno d0 hlo
  have HB := hid hB
  clear c0 c1 h hB ha hn hp hm hlo2
  by_cases h1 : n < 1
  · clear hno
    go_enter Try.func22, Try.ntmps22
    go_wp2_with fail
    go_quiet (fail)
    go_wp2_with fail
    go_ret
    exact ⟨rfl, by rw [hq]; exact HB.out.trans (below_drewN _ _ _)⟩
  · by_cases h2 : a < lo
    · clear hno
      go_enter Try.func22, Try.ntmps22
      go_wp2_with fail
      go_quiet (fail)
      go_wp2_with fail
      go_ret
      exact ⟨rfl, by rw [hq]; exact HB.out.trans (below_drewN _ _ _)⟩
    · obtain ⟨f, hf⟩ : ∃ f : Nat, a - lo = f := ⟨(a - lo).toNat, by omega⟩
      obtain ⟨d, hd⟩ : ∃ d : Int, (m : Int) - f = d ∧ d < n ∧ -9223372036854775808 ≤ d ∧ d ≤ 9223372036854775807 := ⟨_, rfl, by omega, by omega, by omega⟩
      obtain ⟨hd, hdn, hd1, hd2⟩ := hd
      have hf2 : (f : Int) ≤ 9223372036854775807 := by omega
      clear hno
      go_enter Try.func22, Try.ntmps22
      go_wp2_with fail
      go_quiet (fail)
      go_wp2_with fail
      go_quiet (fail)
      go_wp2_with fail
      go_quiet (fail)
      go_wp2_with fail
      go_ret
      exact ⟨rfl, by rw [hq]; exact ((HB.out.trans (below_drewN _ _ _)).trans (below_drewN _ _ _)).trans (below_drewN _ _ _)⟩
theorem elem_b : Try.prog.underlying 26 = some (.slice (Try.prog.elem 26)) := by kernel_rfl
theorem size_b (w : World) : (sizeOf (Try.prog.elem 26)).run Try.prog w = .ok 1 w := by kernel_rfl
set_option maxHeartbeats 1000000 in
theorem part_yes {w : World} {M : Rm} {p g m cap : Nat} (h : RoomL w M p (.slice (some ⟨g, 0, none⟩) m cap)) (a n : Int) (f k : Nat) (ha : a = M.lo + (f : Int)) (hn : n = k) (h1 : 1 ≤ k) (hfk : f + k ≤ m) :
    Calls Try.prog 22 #[.pointer (some ⟨p, 0, none⟩), .agg #[.int .i64 a, .int .i64 n]] w fun e w' => e = .returned (.slice (some ⟨g, f, none⟩) k (cap - f)) ∧ Below w.heap.size w w' := by
  obtain ⟨ao, m', cap', e, hm, hm2, hmc, hcap, c0, c1, -, -⟩ := h.facts
  injection e with e1 e2 e3
  subst e1 e2 e3
  obtain ⟨W, q, hW, hq, hB, s0, s1, hqW⟩ := span_box w a n
  have hp := h.blk.lt
  rw [hq] at hp
  have d0 := (hB.cell (p := ⟨p, 0, none⟩) hp).trans c0
  have d1 := (hB.cell (p := ⟨p, 1, none⟩) hp).trans c1
  have hpW : p < W.heap.size := by omega
  have hlo := h.ok.lo
  obtain ⟨lo, hlo2⟩ : ∃ lo, M.lo = lo := ⟨_, rfl⟩
  rw [hlo2] at d0 hlo ha
  have HB := hid hB
  clear c0 c1 h hB hp hm hlo2
  subst hn
  have x1 : ¬ (k : Int) < 1 := by omega
  have x2 : ¬ a < (lo : Int) := by omega
  have hf : a - lo = f := by omega
  obtain ⟨d, hd⟩ : ∃ d : Nat, (m : Int) - f = d := ⟨m - f, by omega⟩
  have x3 : ¬ (d : Int) < k := by omega
  obtain ⟨u, hu⟩ : ∃ u : Nat, (f : Int) + k = u := ⟨f + k, by omega⟩
  have hcut := run_cut (P := Try.prog) 26 elem_b size_b (some ⟨g, 0, none⟩) m cap (f : Int) (u : Int) f u rfl rfl (by omega) (by omega)
  have hca : cutAt (some ⟨g, 0, none⟩) f cap = some ⟨g, f, none⟩ := by
    unfold cutAt
    rw [if_neg (by omega)]
    simp [Addr.add_lit]
  have huf : u - f = k := by omega
  rw [hca, huf] at hcut
  clear hca huf ha
  go_enter Try.func22, Try.ntmps22
  go_wp2_with fail
  go_quiet (fail)
  go_wp2_with fail
  go_quiet (fail)
  go_wp2_with fail
  go_quiet (fail)
  go_wp2_with fail
  go_quiet (fail)
  go_wp2_with fail
  go_ret
  exact ⟨rfl, by rw [hq]; exact (((HB.out.trans (below_drewN _ _ _)).trans (below_drewN _ _ _)).trans (below_drewN _ _ _)).trans (below_drewN _ _ _)⟩
theorem part_nil (w : World) (a n : Int) :
    Calls Try.prog 22 #[.pointer none, .agg #[.int .i64 a, .int .i64 n]] w fun e w' => e = .returned (.slice none 0 0) ∧ Below w.heap.size w w' := by
  obtain ⟨W, q, hW, hq, hB, s0, s1, hqW⟩ := span_box w a n
  have HB := hid hB
  clear hB
  go_enter Try.func22, Try.ntmps22
  go_wp2_with fail
  go_quiet (fail)
  go_wp2_with fail
  go_ret
  exact ⟨rfl, by rw [hq]; exact HB.out.trans (below_drewN _ _ _)⟩
end Go.Proofs.Ytjihemgidogoeaa
