import Derived.Test.YtnbegmlbkjjggaaProg
import Derived.Test.YtnbegmlbkjjggaaLebMath
namespace Go.Proofs.Ytnbegmlbkjjggaa
open Go.RowKit

theorem infoU8 : (Try.prog.info? 5).map (fun i => (i.zero, i.size, i.bytes)) = some (some (.int .u8 0), 1, 1) := by kernel_rfl

set_option maxHeartbeats 400000 in
theorem fresh_any (ao : Option Addr) (n cap : Nat) (xs : List Int) (w : World) (hr : Rd .u8 w ao n cap xs) (hn : n ≤ 1099511627776) :
    Calls Try.prog 65 #[.slice ao n cap] w fun e w' => ∃ v, e = .returned v ∧ Own 5 .u8 w.heap.size w' v xs ∧ Below w.heap.size w w' := by
  obtain ⟨i, hi, hz0, hz1, hz2⟩ := info_parts infoU8
  have hb : i.bytes * (n + 10) ≤ 281474976710656 := by rw [hz2]; omega
  clear hz2
  go_enter Try.func65, Try.ntmps65
  go_wp2_with (first
    | (at_make; refine wpList_make_own _ rfl _ _ 28 rfl w.heap.size 5 i (.int .u8 0) 1 Try.underlying28 hi hz0 hz1 _ _ _ (n + 10) rfl rfl (by omega) hb (by unfold maxLen; omega) (Nat.le_refl _) ?_; intro w1 hown hgrow)
    | (at_builtin; refine wpList_append_rd rfl _ _ 28 rfl 5 .u8 w.heap.size 1 Try.underlying28 infoU8 _ [] rfl ⟨hown, fun _ h => by cases h⟩ ao n cap xs rfl (hr.below ((Below.refl _ _).grown hgrow (Nat.le_refl _) (fun _ h => by cases h))) (by simp; omega) (by simp; omega) hgrow.size ?_; intro v' w' h1 h2 _))
  go_ret
  exact ⟨_, rfl, by simpa using h1, ((Below.refl _ _).grown hgrow (Nat.le_refl _) (fun _ h => by cases h)).trans h2⟩

set_option maxHeartbeats 400000 in
theorem putU_any (ao : Option Addr) (n cap : Nat) (xs : List Int) (u : Int) (w : World) (hr : Rd .u8 w ao n cap xs) (hn : n ≤ 1099511627776) (h1 : 0 ≤ u) (h2 : u ≤ 18446744073709551615) :
    Calls Try.prog 56 #[.slice ao n cap, .int .u64 u] w fun e w' => ∃ v, e = .returned v ∧ Own 5 .u8 w.heap.size w' v (xs ++ encU 9 u) ∧ Below w.heap.size w w' := by
  go_enter Try.func56, Try.ntmps56
  go_wp2_with fail
  refine wp_scope_loop 0 (fun a' w' => ∃ (f : Nat) (u' : Int) (pre : List Int) (v u2 u3 u6 u7 u8 u9 u10 u11 u12 u13 u14 u15 u16 u17 u18 u19 u20 u21 u22 : Value),
      a' = { tmps := #[.slice ao n cap, .int .u64 u', u2, u3, .slice none 0 0, v, u6, u7, u8, u9, u10, u11, u12, u13, u14, u15, u16, u17, u18, u19, u20, u21, u22], defers := [] } ∧
      Own 5 .u8 w.heap.size w' v (xs ++ pre) ∧ Below w.heap.size w w' ∧ pre ++ encU f u' = encU 9 u ∧ fitsU f u' ∧ 0 ≤ u' ∧ u' ≤ 18446744073709551615 ∧ pre.length + f = 9)
    (fun a' _ => (intOf (a'.tmps.getD 1 undef)).toNat) rfl ?_ ?_
  · intro Q' hQ'
    go_wp2_with (go_at_call 65; refine (fresh_any ao n cap xs _ hr hn).mono ?_; rintro e w' ⟨v, rfl, hv, hb⟩)
    go_step3
    rename_i K hK
    refine hK _ _ (hQ' _ _ ⟨9, u, [], v, _, _, _, _, _, _, _, _, _, _, _, _, _, _, _, _, _, _, _, rfl, by simpa using hv, hb, rfl, fits9 u h1 h2, h1, h2, rfl⟩)
  · rintro a' w' ⟨f, u', pre, v, u2, u3, u6, u7, u8, u9, u10, u11, u12, u13, u14, u15, u16, u17, u18, u19, u20, u21, u22, rfl, hv, hb, hp, hf, g1, g2, hl⟩
    have Hp := hid hp
    have Hl := hid hl
    clear hp hl
    have hlen : pre.length ≤ 9 := by have := Hl.out; omega
    have hx := hr.len
    have Hx := hid hx
    have hxl : xs.length ≤ 1099511627776 := by omega
    clear hx
    have hsz := hb.size
    by_cases hc : 128 ≤ u'
    · go_wp2_with (at_builtin; refine wpList_append_rd rfl _ _ 28 rfl 5 .u8 w.heap.size 1 Try.underlying28 infoU8 _ _ rfl (hv.alloc _) _ 1 1 _ rfl (Rd.built _ _ _ _ (wf_bits _ _ _ _)) (by simp; omega) (by simp; omega) (by simp; omega) ?_; intro v' w1 h3 h4 _)
      go_step3
      obtain ⟨f', rfl⟩ : ∃ f', f = f' + 1 := by
        cases f with
        | zero => simp only [fitsU] at hf; omega
        | succ f' => exact ⟨f', rfl⟩
      refine ⟨rfl, ⟨f', u' / 128, pre ++ [u' % 128 + 128], v', _, _, _, _, _, _, _, _, _, _, _, _, _, _, _, _, _, _, _, rfl, ?_, (hb.alloc hsz _).trans h4, ?_, ?_, by omega, by omega, ?_⟩, ?_⟩
      · rw [← List.append_assoc]
        rw [or128 _ (by omega) (by omega)] at h3
        rw [show u' % 256 % 128 = u' % 128 from by omega] at h3
        exact h3
      · rw [← Hp.out, encU_big hc]; simp
      · simp only [fitsU] at hf; exact hf.resolve_left (by omega)
      · have := Hl.out; simp; omega
      · simp [intOf]; omega
    · go_wp2_with (at_builtin; refine wpList_append_rd rfl _ _ 28 rfl 5 .u8 w.heap.size 1 Try.underlying28 infoU8 _ _ rfl (hv.alloc _) _ 1 1 _ rfl (Rd.built _ _ _ _ (WalkArith.wf_u8 (by omega))) (by simp; omega) (by simp; omega) (by simp; omega) ?_; intro v' w1 h3 h4 _)
      simp only [Exit.jump]
      go_ret
      refine ⟨_, rfl, ?_, (hb.alloc hsz _).trans h4⟩
      rw [← Hp.out, encU_small (by omega), ← List.append_assoc]
      exact h3

set_option maxHeartbeats 400000 in
theorem putS_any (ao : Option Addr) (n cap : Nat) (xs : List Int) (u : Int) (w : World) (hr : Rd .u8 w ao n cap xs) (hn : n ≤ 1099511627776) (h1 : -9223372036854775808 ≤ u) (h2 : u ≤ 9223372036854775807) :
    Calls Try.prog 57 #[.slice ao n cap, .int .i64 u] w fun e w' => ∃ v, e = .returned v ∧ Own 5 .u8 w.heap.size w' v (xs ++ encS 9 u) ∧ Below w.heap.size w w' := by
  go_enter Try.func57, Try.ntmps57
  go_wp2_with fail
  refine wp_scope_loop 0 (fun a' w' => ∃ (f : Nat) (u' : Int) (pre : List Int) (v u2 u3 u6 u7 u8 u9 u10 u11 u12 u13 u14 u15 u16 u17 u18 u19 u20 u21 u22 u23 u24 u25 u26 u27: Value),
      a' = { tmps := #[.slice ao n cap, .int .i64 u', u2, u3, .slice none 0 0, v, u6, u7, u8, u9, u10, u11, u12, u13, u14, u15, u16, u17, u18, u19, u20, u21, u22, u23, u24, u25, u26, u27], defers := [] } ∧
      Own 5 .u8 w.heap.size w' v (xs ++ pre) ∧ Below w.heap.size w w' ∧ pre ++ encS f u' = encS 9 u ∧ fitsS f u' ∧ -9223372036854775808 ≤ u' ∧ u' ≤ 9223372036854775807 ∧ pre.length + f = 9)
    (fun a' _ => (max (intOf (a'.tmps.getD 1 undef)) (-intOf (a'.tmps.getD 1 undef))).toNat) rfl ?_ ?_
  · intro Q' hQ'
    go_wp2_with (go_at_call 65; refine (fresh_any ao n cap xs _ hr hn).mono ?_; rintro e w' ⟨v, rfl, hv, hb⟩)
    go_step3
    rename_i K hK
    refine hK _ _ (hQ' _ _ ⟨9, u, [], v, _, _, _, _, _, _, _, _, _, _, _, _, _, _, _, _, _, _, _, _, _, _, _, _, rfl, by simpa using hv, hb, rfl, fitsS9 u h1 h2, h1, h2, rfl⟩)
  · rintro a' w' ⟨f, u', pre, v, u2, u3, u6, u7, u8, u9, u10, u11, u12, u13, u14, u15, u16, u17, u18, u19, u20, u21, u22, u23, u24, u25, u26, u27, rfl, hv, hb, hp, hf, g1, g2, hl⟩
    have Hp := hid hp
    have Hl := hid hl
    clear hp hl
    have hlen : pre.length ≤ 9 := by have := Hl.out; omega
    have hx := hr.len
    have Hx := hid hx
    have hxl : xs.length ≤ 1099511627776 := by omega
    clear hx
    have hsz := hb.size
    rcases (show (u' < -64 ∨ 64 ≤ u') ∨ (-64 ≤ u' ∧ u' < 64) from by omega) with hc | ⟨hc, hc'⟩
    · obtain ⟨f', rfl⟩ : ∃ f', f = f' + 1 := by
        cases f with
        | zero => simp only [fitsS] at hf; omega
        | succ f' => exact ⟨f', rfl⟩
      have hfs : fitsS f' (u' / 128) := by simp only [fitsS] at hf; exact hf.resolve_left (by omega)
      have Hc := hid hc
      rcases hc with hc | hc
      all_goals
        go_wp2_with (at_builtin; refine wpList_append_rd rfl _ _ 28 rfl 5 .u8 w.heap.size 1 Try.underlying28 infoU8 _ _ rfl (hv.alloc _) _ 1 1 _ rfl (Rd.built _ _ _ _ (wf_bits _ _ _ _)) (by simp; omega) (by simp; omega) (by simp; omega) ?_; intro v' w1 h3 h4 _)
        go_step3
        refine ⟨rfl, ⟨f', u' / 128, pre ++ [u' % 128 + 128], v', _, _, _, _, _, _, _, _, _, _, _, _, _, _, _, _, _, _, _, _, _, _, _, _, rfl, ?_, (hb.alloc hsz _).trans h4, ?_, hfs, by omega, by omega, ?_⟩, ?_⟩
        · rw [← List.append_assoc]
          rw [or128 _ (by omega) (by omega)] at h3
          rw [show u' % 256 % 128 = u' % 128 from by omega] at h3
          exact h3
        · rw [← Hp.out, encS_big Hc.out]; simp
        · have := Hl.out; simp; omega
        · simp [intOf]; omega
    · go_wp2_with (at_builtin; refine wpList_append_rd rfl _ _ 28 rfl 5 .u8 w.heap.size 1 Try.underlying28 infoU8 _ _ rfl (hv.alloc _) _ 1 1 _ rfl (Rd.built _ _ _ _ (wf_bits _ _ _ _)) (by simp; omega) (by simp; omega) (by simp; omega) ?_; intro v' w1 h3 h4 _)
      simp only [Exit.jump]
      go_ret
      refine ⟨_, rfl, ?_, (hb.alloc hsz _).trans h4⟩
      rw [← Hp.out, encS_small (by omega), ← List.append_assoc]
      rw [and127 _ (by omega) (by omega)] at h3
      rw [show u' % 256 % 128 = u' % 128 from by omega] at h3
      exact h3
end Go.Proofs.Ytnbegmlbkjjggaa
