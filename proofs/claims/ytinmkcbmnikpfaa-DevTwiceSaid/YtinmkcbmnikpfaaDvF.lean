/- dev's laws: DevFuse; over DevSpec. -/
import Derived.Test.YtinmkcbmnikpfaaDvL
namespace Go.Proofs.Ytinmkcbmnikpfaa
open Go.RowKit
set_option linter.unusedVariables false

set_option maxRecDepth 100000 in
set_option maxHeartbeats 4000000 in
theorem devFuse_walk (X : DevSpec) (n f : Int) (w : World) (hf : (Lit.int .i64 f).wf = true) : Calls Try.prog 6 #[.int .i64 n, .int .i64 f] w fun e w' => e = .returned (.bool true) ∧ Below w.heap.size w w' := by
  have HF := hid hf
  clear hf
  go_enter Try.func6, Try.ntmps6
  go_wp2_with fail
  refine (begun_to X w).mono ?_
  rintro e w1 ⟨rfl, hb⟩
  have HB := hid hb
  clear hb
  by_cases hr : n < 0 ∨ 30 < n ∨ f < 0 ∨ 40 < f
  · rcases hr with h | h | h | h
    all_goals
      go_wp2_with fail
      all_goals
        go_ret
        exact ⟨rfl, HB.out⟩
  · obtain ⟨m, rfl⟩ : ∃ m : Nat, n = m := ⟨n.toNat, by omega⟩
    obtain ⟨g, rfl⟩ : ∃ g : Nat, f = g := ⟨f.toNat, by omega⟩
    have h1 : ¬ 30 < (m : Int) := by omega
    have h2 : ¬ 40 < (g : Int) := by omega
    clear hr
    go_wp2_with fail
    refine (X.new_to 4 w1 (by decide)).mono ?_
    rintro e w2 ⟨p, A, rfl, hA, hat, hb⟩
    have HA : Hid (∀ b, A b → w.heap.size ≤ b) := hid fun b hb => Nat.le_trans HB.out.size (hA b hb)
    have HT := hid hat
    replace HB := hid (Bl.step HB.out hb)
    clear hA hat hb
    go_wp2_with fail
    refine (X.fuse_to A (Dv.new 4) p w2 g HT.out HF.out).mono ?_
    rintro e w3 ⟨A3, rfl, hA3, hat, hw⟩
    have HA3 : Hid (∀ b, A3 b → w.heap.size ≤ b) := hid fun b hb => by rcases hA3 b hb with h | h; exact HA.out b h; have := HB.out.size; omega
    replace HB := hid (HB.out.trans (hw.below HA.out HB.out.size))
    replace HT := hid hat
    clear hA3 hat hw HA HF
    obtain ⟨M, hM, q1, q2, q3⟩ : ∃ M, (Dv.new 4).fuseTo g = M ∧ M.calls = 0 ∧ M.fuse = g ∧ M.now.length = 4 := by
      refine ⟨_, rfl, rfl, ?_, rfl⟩
      show max (-1) (g : Int) = g
      omega
    rw [hM] at HT
    clear hM
    have HQ : Hid (M.calls = min 0 g ∧ M.fuse = (g : Int) - (min 0 g : Nat) ∧ M.now.length = 4) := hid ⟨by rw [q1]; simp, by rw [q2]; simp, q3⟩
    clear q1 q2 q3
    go_wp2_with fail
    go_loopw [7] (fun i wr => ∃ (k : Nat) (A : Nat → Prop) (M : Dv), k ≤ m ∧ i = .int .i64 k ∧ (∀ b, A b → w.heap.size ≤ b) ∧ X.At A M p wr ∧ (M.calls = min k g ∧ M.fuse = (g : Int) - (min k g : Nat) ∧ M.now.length = 4) ∧ Below w.heap.size w wr) (fun i _ => m - (intOf i).toNat)
    case atStart => exact ⟨0, A3, M, Nat.zero_le _, rfl, HA3.out, HT.out, HQ.out, HB.out⟩
    case round =>
      clear HA3 HT HQ HB
      obtain ⟨k, A, M, hk, rfl, hA, hat, hq, hB⟩ := hrel
      have HA := hid hA; have HT := hid hat; have HQ := hid hq; have HB := hid hB
      clear hA hat hq hB
      by_cases hlt : k < m
      · by_cases h3 : (k : Int) % 3 = 2
        · by_cases hg : (k : Int) < g
          · obtain ⟨e1, e2, e3, e4⟩ := Dv.flush_live (M := M) (by rw [HQ.out.2.1]; omega)
            rw [HQ.out.1] at e2
            rw [HQ.out.2.1] at e3
            rw [HQ.out.2.2] at e4
            have HE := hid (And.intro e2 (And.intro e3 e4))
            go_wp2_with fail
            refine (X.flush_to A M p wr HT.out (by rw [HQ.out.1]; omega)).mono ?_
            rintro e wa ⟨A2, rfl, hA2, hat, hw⟩
            rw [e1]
            have HA2 : Hid (∀ b, A2 b → w.heap.size ≤ b) := hid fun b hb => by rcases hA2 b hb with h | h; exact HA.out b h; have := HB.out.size; omega
            replace HB := hid (HB.out.trans (hw.below HA.out HB.out.size))
            replace HT := hid hat
            clear hA2 hat hw e1 e2 e3 e4
            go_wp2_with fail
            go_roundw
            case rel => exact ⟨k + 1, A2, M.flush, by omega, by go_num, HA2.out, HT.out, ⟨by rw [HE.out.1]; omega, by rw [HE.out.2.1, if_pos (by omega)]; omega, HE.out.2.2⟩, HB.out⟩
            case measure => simp [intOf]; omega
          · obtain ⟨e1, e2⟩ := Dv.flush_dead (M := M) (by rw [HQ.out.2.1]; omega)
            go_wp2_with fail
            refine (X.flush_to A M p wr HT.out (by rw [HQ.out.1]; omega)).mono ?_
            rintro e wa ⟨A2, rfl, hA2, hat, hw⟩
            rw [e2] at hat
            rw [e1]
            have HA2 : Hid (∀ b, A2 b → w.heap.size ≤ b) := hid fun b hb => by rcases hA2 b hb with h | h; exact HA.out b h; have := HB.out.size; omega
            replace HB := hid (HB.out.trans (hw.below HA.out HB.out.size))
            replace HT := hid hat
            clear hA2 hat hw e1 e2
            go_wp2_with fail
            go_roundw
            case rel => exact ⟨k + 1, A2, M, by omega, by go_num, HA2.out, HT.out, ⟨by rw [HQ.out.1]; omega, by rw [HQ.out.2.1]; omega, HQ.out.2.2⟩, HB.out⟩
            case measure => simp [intOf]; omega
        · obtain ⟨i4, hi4⟩ : ∃ i4 : Nat, (k : Int) % 4 = i4 ∧ i4 < 4 := ⟨((k : Int) % 4).toNat, by omega, by omega⟩
          obtain ⟨hi4, hi5⟩ := hi4
          have hbl := (Bl.refl wr).alloc (Nat.le_refl _) (.cells #[.int .u8 ((k : Int) + 1)] 5)
          have hrd := Rd.built wr .u8 5 ((k : Int) + 1) (WalkArith.wf_u8 ⟨by omega, by omega⟩)
          have HBL := hid hbl
          have HRD := hid hrd
          clear hbl hrd
          by_cases hg : (k : Int) < g
          · obtain ⟨e1, e2, e3, e4, _⟩ := Dv.write_live (M := M) (by rw [HQ.out.2.1]; omega) (i := (k : Int) % 4) (by omega) (by rw [HQ.out.2.2]; omega) (b := [(k : Int) + 1]) (m := 1) rfl (by decide)
            rw [hi4] at e1 e2 e3 e4
            rw [HQ.out.1] at e2
            rw [HQ.out.2.1] at e3
            rw [HQ.out.2.2] at e4
            have HE := hid (And.intro e2 (And.intro e3 e4))
            clear e2 e3 e4
            go_wp2_with fail
            refine (X.write_to A M p _ i4 _ 1 1 [(k : Int) + 1] (X.bel HT.out HBL.out) (WalkArith.wf_i64 ⟨by omega, by omega⟩) HRD.out (fun ad e h => by cases e; have := X.lt HT.out _ h; simp at this) (by rw [HQ.out.1]; omega)).mono ?_
            rintro e wa ⟨A2, rfl, hA2, hat, hw⟩
            rw [e1]
            have HA2 : Hid (∀ b, A2 b → w.heap.size ≤ b) := hid fun b hb => by rcases hA2 b hb with h | h; exact HA.out b h; have := HB.out.size; have := HBL.out.size; omega
            replace HB := hid ((HB.out.trans (HBL.out.mono HB.out.size)).trans (hw.below HA.out (Nat.le_trans HB.out.size HBL.out.size)))
            replace HT := hid hat
            clear hA2 hat hw e1 HBL HRD
            go_wp2_with fail
            go_roundw
            case rel => exact ⟨k + 1, A2, _, by omega, by go_num, HA2.out, HT.out, ⟨by rw [HE.out.1]; omega, by rw [HE.out.2.1, if_pos (by omega)]; omega, HE.out.2.2⟩, HB.out⟩
            case measure => simp [intOf]; omega
          · obtain ⟨e1, e2⟩ := Dv.write_dead (M := M) (by rw [HQ.out.2.1]; omega) i4 1 [(k : Int) + 1]
            go_wp2_with fail
            refine (X.write_to A M p _ i4 _ 1 1 [(k : Int) + 1] (X.bel HT.out HBL.out) (WalkArith.wf_i64 ⟨by omega, by omega⟩) HRD.out (fun ad e h => by cases e; have := X.lt HT.out _ h; simp at this) (by rw [HQ.out.1]; omega)).mono ?_
            rintro e wa ⟨A2, rfl, hA2, hat, hw⟩
            rw [e2] at hat
            rw [e1]
            have HA2 : Hid (∀ b, A2 b → w.heap.size ≤ b) := hid fun b hb => by rcases hA2 b hb with h | h; exact HA.out b h; have := HB.out.size; have := HBL.out.size; omega
            replace HB := hid ((HB.out.trans (HBL.out.mono HB.out.size)).trans (hw.below HA.out (Nat.le_trans HB.out.size HBL.out.size)))
            replace HT := hid hat
            clear hA2 hat hw e1 e2 HBL HRD
            go_wp2_with fail
            go_roundw
            case rel => exact ⟨k + 1, A2, M, by omega, by go_num, HA2.out, HT.out, ⟨by rw [HQ.out.1]; omega, by rw [HQ.out.2.1]; omega, HQ.out.2.2⟩, HB.out⟩
            case measure => simp [intOf]; omega
      · obtain rfl : k = m := by omega
        clear hk hlt
        go_wp2_with fail
        refine (X.calls_to A M p wr HT.out (by rw [HQ.out.1]; omega)).mono ?_
        rintro e wa ⟨rfl, hb⟩
        rw [HQ.out.1]
        replace HT := hid (X.bel HT.out hb); replace HB := hid (Bl.step HB.out hb)
        clear hb
        by_cases hg : (k : Int) < g
        · rw [show min k g = k by omega]
          go_wp2_with fail
          refine (X.dead_to A M p wa HT.out).mono ?_
          rintro e wb ⟨rfl, hb⟩
          have e1 : decide (M.fuse = 0) = false := by rw [HQ.out.2.1]; simp; omega
          rw [e1]
          replace HB := hid (Bl.step HB.out hb)
          clear hb
          go_wp2_with fail
          go_ret
          refine ⟨?_, HB.out⟩
          simp
          omega
        · rw [show min k g = g by omega]
          go_wp2_with fail
          all_goals
            refine (X.dead_to A M p wa HT.out).mono ?_
            rintro e wb ⟨rfl, hb⟩
            have e1 : decide (M.fuse = 0) = true := by rw [HQ.out.2.1]; simp; omega
            rw [e1]
            replace HB := hid (Bl.step HB.out hb)
            clear hb
            go_wp2_with fail
            go_ret
            refine ⟨?_, HB.out⟩
            simp
            try omega
end Go.Proofs.Ytinmkcbmnikpfaa
