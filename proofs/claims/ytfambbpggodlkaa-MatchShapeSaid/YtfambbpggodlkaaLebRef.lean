import Derived.Test.YtfambbpggodlkaaLeb
namespace Go.Proofs.Ytfambbpggodlkaa
open Go.RowKit

set_option maxHeartbeats 400000 in
theorem refU_any (u : Int) (w : World) (h1 : 0 ≤ u) (h2 : u ≤ 18446744073709551615) :
    Calls Try.prog 42 #[.int .u64 u] w fun e w' => ∃ v, e = .returned v ∧ Own 5 .u8 w.heap.size w' v (encU 9 u) ∧ Below w.heap.size w w' := by
  go_enter Try.func42, Try.ntmps42
  go_wp2
  go_loopw [0, 3] (fun n v wr => ∃ (f : Nat) (u' : Int) (pre : List Int), n = .int .u64 u' ∧ Own 5 .u8 w.heap.size wr v pre ∧ Below w.heap.size w wr ∧ Hid (pre ++ encU f u' = encU 9 u) ∧ fitsU f u' ∧ 0 ≤ u' ∧ u' ≤ 18446744073709551615 ∧ Hid (pre.length + f = 9))
    (fun n _ _ => (intOf n).toNat)
  case atStart => exact ⟨9, u, [], rfl, Own.nil _ _ _ _, Below.refl _ _, rfl, fits9 u h1 h2, h1, h2, rfl⟩
  case round =>
    obtain ⟨f, u', pre, rfl, hv, hb, Hp, hf, g1, g2, Hl⟩ := hrel
    have hlen : pre.length ≤ 9 := by have := Hl.out; omega
    have hsz := hb.size
    by_cases hc : 128 ≤ u'
    · go_wp2_with (at_builtin; refine wpList_append_rd rfl _ _ 41 rfl 5 .u8 w.heap.size 1 Try.underlying41 infoU8 _ _ rfl (hv.alloc _) _ 1 1 _ rfl (Rd.built _ _ _ _ (WalkArith.wf_u8 (by omega))) (by simp; omega) (by simp; omega) (by simp; omega) ?_; intro v' w1 h3 h4 _)
      obtain ⟨f', rfl⟩ : ∃ f', f = f' + 1 := by
        cases f with
        | zero => simp only [fitsU] at hf; omega
        | succ f' => exact ⟨f', rfl⟩
      go_roundw
      case rel =>
        refine ⟨f', u' / 128, pre ++ [u' % 128 + 128], rfl, h3, (hb.alloc hsz _).trans h4, ?_, ?_, by omega, by omega, ?_⟩
        · show _ = _
          rw [← Hp.out, encU_big hc]; simp
        · simp only [fitsU] at hf; exact hf.resolve_left (by omega)
        · have := Hl.out; show _ = _; simp; omega
      case measure => simp [intOf]; omega
    · go_wp2_with (at_builtin; refine wpList_append_rd rfl _ _ 41 rfl 5 .u8 w.heap.size 1 Try.underlying41 infoU8 _ _ rfl (hv.alloc _) _ 1 1 _ rfl (Rd.built _ _ _ _ (WalkArith.wf_u8 (by omega))) (by simp; omega) (by simp; omega) (by simp; omega) ?_; intro v' w1 h3 h4 _)
      go_ret
      refine ⟨_, rfl, ?_, (hb.alloc hsz _).trans h4⟩
      rw [← Hp.out, encU_small (by omega)]
      exact h3
set_option maxHeartbeats 400000 in
theorem refS_any (u : Int) (w : World) (h1 : -9223372036854775808 ≤ u) (h2 : u ≤ 9223372036854775807) :
    Calls Try.prog 43 #[.int .i64 u] w fun e w' => ∃ v, e = .returned v ∧ Own 5 .u8 w.heap.size w' v (encS 9 u) ∧ Below w.heap.size w w' := by
  go_enter Try.func43, Try.ntmps43
  go_wp2
  go_loopw [0, 3] (fun n v wr => ∃ (f : Nat) (u' : Int) (pre : List Int), n = .int .i64 u' ∧ Own 5 .u8 w.heap.size wr v pre ∧ Below w.heap.size w wr ∧ Hid (pre ++ encS f u' = encS 9 u) ∧ fitsS f u' ∧ -9223372036854775808 ≤ u' ∧ u' ≤ 9223372036854775807 ∧ Hid (pre.length + f = 9))
    (fun n _ _ => (max (intOf n) (-intOf n)).toNat)
  case atStart => exact ⟨9, u, [], rfl, Own.nil _ _ _ _, Below.refl _ _, rfl, fitsS9 u h1 h2, h1, h2, rfl⟩
  case round =>
    obtain ⟨f, u', pre, rfl, hv, hb, Hp, hf, g1, g2, Hl⟩ := hrel
    have hlen : pre.length ≤ 9 := by have := Hl.out; omega
    have hsz := hb.size
    rcases (show (u' < -64 ∨ 64 ≤ u') ∨ (-64 ≤ u' ∧ u' < 64) from by omega) with hc | ⟨hc, hc'⟩
    · obtain ⟨f', rfl⟩ : ∃ f', f = f' + 1 := by
        cases f with
        | zero => simp only [fitsS] at hf; omega
        | succ f' => exact ⟨f', rfl⟩
      have hfs : fitsS f' (u' / 128) := by simp only [fitsS] at hf; exact hf.resolve_left (by omega)
      have Hc := hid hc
      rcases hc with hc | hc
      all_goals
        go_wp2_with (at_builtin; refine wpList_append_rd rfl _ _ 41 rfl 5 .u8 w.heap.size 1 Try.underlying41 infoU8 _ _ rfl (hv.alloc _) _ 1 1 _ rfl (Rd.built _ _ _ _ (WalkArith.wf_u8 (by omega))) (by simp; omega) (by simp; omega) (by simp; omega) ?_; intro v' w1 h3 h4 _)
        go_roundw
        case rel =>
          refine ⟨f', u' / 128, pre ++ [u' % 128 + 128], rfl, ?_, (hb.alloc hsz _).trans h4, ?_, hfs, by omega, by omega, ?_⟩
          · rw [and127_i64] at h3
            rw [show (u' % 128 + 128) % 256 = u' % 128 + 128 from by omega] at h3
            exact h3
          · show _ = _
            rw [← Hp.out, encS_big Hc.out]; simp
          · have := Hl.out; show _ = _; simp; omega
        case measure => simp [intOf]; omega
    · go_wp2_with (at_builtin; refine wpList_append_rd rfl _ _ 41 rfl 5 .u8 w.heap.size 1 Try.underlying41 infoU8 _ _ rfl (hv.alloc _) _ 1 1 _ rfl (Rd.built _ _ _ _ (WalkArith.wf_u8 (by omega))) (by simp; omega) (by simp; omega) (by simp; omega) ?_; intro v' w1 h3 h4 _)
      go_ret
      refine ⟨_, rfl, ?_, (hb.alloc hsz _).trans h4⟩
      rw [← Hp.out, encS_small (by omega)]
      rw [and127_i64] at h3
      rw [show u' % 128 % 256 = u' % 128 from by omega] at h3
      exact h3
end Go.Proofs.Ytfambbpggodlkaa
