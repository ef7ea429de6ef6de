/- extent's program side: turn, Use, Give. -/
import Derived.Test.YtjihemgidogoeaaEyB
import Derived.Lib.SliceRun
namespace Go.Proofs.Ytjihemgidogoeaa
open Go.RowKit
set_option linter.unusedVariables false
set_option maxRecDepth 100000

theorem RoomL.put {w : World} {M : Rm} {p g m cap : Nat} (h : RoomL w M p (.slice (some ⟨g, 0, none⟩) m cap)) (i : Nat) (c : Bool) : RoomL (w.setCell ⟨g, i, none⟩ (.bool c)) ⟨M.lo, M.fr.set i c⟩ p (.slice (some ⟨g, 0, none⟩) m cap) := by
  refine ⟨h.blk.far (fun e => h.apart (by rw [e]; rfl)) _, ?_, ⟨by rw [List.length_set]; exact h.ok.n, h.ok.lo⟩⟩
  have := h.row.set i (.bool c)
  simpa [boolS, List.map_set] using this
theorem part_contains {M : Rm} {a n : Int} {f k : Nat} (ha : a = M.lo + (f : Int)) (hn : n = k) (h1 : 1 ≤ k) (hfk : f + k ≤ M.fr.length) (b : Bool) : ((M.fr.drop f).take k).contains (!b) = !M.all a n b := by
  have e : M.all a n b = ((M.fr.drop f).take k).all (· == b) := by
    rw [Bool.eq_iff_iff, M.all_iff, List.all_eq_true]
    constructor
    · rintro ⟨_, h⟩ x hx
      obtain ⟨j, hj, rfl⟩ := List.getElem_of_mem hx
      have hjk : j < k := by rw [List.length_take] at hj; omega
      have := h (f + j) (by omega) (by omega)
      rw [List.getElem_take, List.getElem_drop, beq_iff_eq]
      rw [List.getD_eq_getElem?_getD, List.getElem?_eq_getElem (by omega)] at this
      exact this
    · intro h
      refine ⟨by omega, fun i h2 h3 => ?_⟩
      have hi : i < M.fr.length := by omega
      have := h (M.fr[i]) (by
        rw [List.mem_iff_getElem]
        refine ⟨i - f, by rw [List.length_take, List.length_drop]; omega, ?_⟩
        rw [List.getElem_take, List.getElem_drop]
        congr 1
        omega)
      rw [List.getD_eq_getElem?_getD, List.getElem?_eq_getElem hi]
      simpa using this
  rw [e, List.contains_eq_any_beq]
  generalize (M.fr.drop f).take k = S
  induction S with
  | nil => rfl
  | cons x S ih =>
    rw [List.any_cons, List.all_cons, ih]
    cases x <;> cases b <;> rfl
theorem RoomL.sub {w : World} {M : Rm} {p g m cap : Nat} (h : RoomL w M p (.slice (some ⟨g, 0, none⟩) m cap)) (f k : Nat) (hfk : f + k ≤ M.fr.length) : RdB w (some ⟨g, f, none⟩) k (cap - f) ((M.fr.drop f).take k) := by
  obtain ⟨ao, m', cap', e, hm, hm2, hmc, hcap, -, -, hr, -⟩ := h.facts
  injection e with e1 e2 e3
  subst e1 e2 e3
  have := hr.max
  refine ⟨by rw [List.length_take, List.length_drop]; omega, by omega, by omega, (fun h => by cases h), fun ad e i hi => ?_⟩
  cases e
  have hc := hr.cell _ rfl (f + i) (by omega)
  rw [Addr.add_lit] at hc ⊢
  rw [Nat.zero_add] at hc
  rw [hc]
  simp [List.getD, hi]
set_option maxHeartbeats 1000000 in
theorem turn_to {w : World} {M : Rm} {p : Nat} {v : Value} (h : RoomL w M p v) (a n : Int) (ha : (Lit.int .i64 a).wf = true) (hn : (Lit.int .i64 n).wf = true) (b c : Bool) (hc : c = !b) :
    Calls Try.prog 19 #[.pointer (some ⟨p, 0, none⟩), .agg #[.int .i64 a, .int .i64 n], .bool c] w fun e w' => e = .returned (.bool (M.all a n b)) ∧ RoomL w' (M.use a n b) p v ∧ Wrs (fun x => v.ownBlock = some x) w w' := by
  obtain ⟨W, q, hW, hq, hB, s0, s1, hqW⟩ := span_box w a n
  have hqs : Below w.heap.size w W := by rw [hq]; exact hB
  have hR := h.below hqs
  by_cases hr : 1 ≤ n ∧ (M.lo : Int) ≤ a ∧ n ≤ M.lo + M.fr.length - a
  · obtain ⟨f, hf⟩ : ∃ f : Nat, a = M.lo + (f : Int) := ⟨(a - M.lo).toNat, by omega⟩
    obtain ⟨k, hk⟩ : ∃ k : Nat, n = k := ⟨n.toNat, by omega⟩
    have hk1 : 1 ≤ k := by omega
    have hfk : f + k ≤ M.fr.length := by omega
    obtain ⟨ao, m, cap, rfl, hm, hm2, hmc, hcap, -, -, hrd, had⟩ := hR.facts
    obtain ⟨g, rfl⟩ : ∃ g, ao = some ⟨g, 0, none⟩ := by
      cases ao with
      | none => have := hrd.nil rfl; omega
      | some ad => obtain ⟨g, rfl⟩ := had ad rfl; exact ⟨g, rfl⟩
    have hpart := part_yes hR a n f k hf hk hk1 (by omega)
    have hcon := part_contains hf hk hk1 hfk b
    rw [← hc] at hcon
    have hgw : g < w.heap.size := (h.row.lt g rfl).2
    have HP := hid hpart
    have HF := hid hf; have HK := hid hk
    have HR := hid hR
    have HB := hid hqs
    have HCN := hid hcon
    have HC := hid hc
    have hkm : f + k ≤ m := by omega
    have HM := hid hm
    have heq := fun w => Lib.run_eql_slice_nil (P := Try.prog) w 26 4 (some ⟨g, f, none⟩) k (cap - f) 0 0 Try.underlying26
    clear hpart hf hk hR hqs hB hcon hr hrd had h ha hn hc hfk hm
    cases hal : M.all a n b with
    | false =>
      have e1 : M.use a n b = M := by unfold Rm.use; rw [if_neg (by rw [hal]; decide)]
      rw [e1]
      rw [hal] at HCN
      clear hal e1
      go_enter Try.func19, Try.ntmps19
      go_wp2_with fail
      refine HP.out.mono ?_
      rintro e w1 ⟨rfl, hb⟩
      replace HR := hid (HR.out.below hb)
      replace HB := hid (Bl.step HB.out hb)
      have hct := contains_to _ _ _ _ c w1 (HR.out.sub f k (by rw [HM.out]; exact hkm)) (by omega)
      rw [HCN.out] at hct
      have HCT := hid hct
      clear hb hct HP s0 s1
      go_wp2_with fail
      refine HCT.out.mono ?_
      rintro e w2 ⟨rfl, rfl⟩
      clear HCT
      go_wp2_with fail
      go_ret
      exact ⟨rfl, HR.out, Wrs.of HB.out⟩
    | true =>
      have e1 : M.use a n b = M.set a n (!b) := by unfold Rm.use; rw [if_pos hal]
      rw [e1, ← HC.out]
      rw [hal] at HCN
      clear hal e1 HC
      go_enter Try.func19, Try.ntmps19
      go_wp2_with fail
      refine HP.out.mono ?_
      rintro e w1 ⟨rfl, hb⟩
      replace HR := hid (HR.out.below hb)
      replace HB := hid (Bl.step HB.out hb)
      have hct := contains_to _ _ _ _ c w1 (HR.out.sub f k (by rw [HM.out]; exact hkm)) (by omega)
      rw [HCN.out] at hct
      have HCT := hid hct
      clear hb hct HP s0 s1
      go_wp2_with fail
      refine HCT.out.mono ?_
      rintro e w2 ⟨rfl, rfl⟩
      clear HCT
      have hsz := HB.out.size
      have hgb : g < w1.heap.size := by omega
      go_wp2_with fail
      go_loopw [21] (fun i wr => ∃ j : Nat, j ≤ k ∧ i = .int .i64 j ∧ RoomL wr (M.set a j c) p (.slice (some ⟨g, 0, none⟩) m cap) ∧ Wrs (fun x => (Value.slice (some ⟨g, 0, none⟩) m cap).ownBlock = some x) w wr) (fun i _ => k - (intOf i).toNat)
      case atStart =>
        have e0 : M.set a (0 : Nat) c = M := by
          have := set_zero M a c
          unfold Rm.set at this ⊢
          simp only at this
          rw [this]
        exact ⟨0, Nat.zero_le _, rfl, by rw [e0]; exact HR.out, Wrs.of HB.out⟩
      case round =>
        obtain ⟨j, hj, rfl, hR, hW⟩ := hrel
        have HRJ := hid hR; have HWJ := hid hW
        clear hR hW HR HB
        by_cases hlt : j < k
        · have hji : (j : Int) < k := by omega
          have hln : f + j < (boolS (M.set a j c).fr).length := by rw [List.length_map, Rm.set_length, HM.out]; omega
          obtain ⟨hd1, hd2, -, hd3⟩ := HRJ.out.row.cell (f + j) (List.getElem?_eq_getElem hln)
          generalize (boolS (M.set a j c).fr)[f + j] = old at hd1
          have hput := HRJ.out.put (f + j) c
          have e1 : (⟨(M.set a j c).lo, (M.set a j c).fr.set (f + j) c⟩ : Rm) = M.set a (j + 1 : Nat) c := by
            have := set_step (c := c) HF.out (j := j) (by rw [HM.out]; omega)
            rw [← this]
            rfl
          rw [e1] at hput
          have HPUT := hid hput
          have HWP : Hid (Wrs (fun x => (Value.slice (some ⟨g, 0, none⟩) m cap).ownBlock = some x) w (wr.setCell ⟨g, f + j, none⟩ (.bool c))) := hid ⟨HWJ.out.os, HWJ.out.tape, HWJ.out.output, by simpa [World.setCell] using HWJ.out.size, fun b hb hn => (Below.heap_setCell wr _ _ b (fun e => hn (by rw [e]; rfl))).trans (HWJ.out.block b hb hn)⟩
          clear hln hput e1
          go_wp2_with fail
          go_roundw
          case rel => exact ⟨j + 1, by omega, by go_num, HPUT.out, HWP.out⟩
          case measure => simp [intOf]; omega
        · obtain rfl : j = k := by omega
          have HKK := HK.out
          go_wp2_with fail
          go_ret
          exact ⟨rfl, by rw [HK.out]; exact HRJ.out, HWJ.out⟩
  · have e1 : M.all a n b = false := by
      cases hc : M.all a n b with
      | false => rfl
      | true => exact absurd ((M.all_iff a n b).1 hc).1 hr
    have e2 : M.use a n b = M := by unfold Rm.use; rw [if_neg (by rw [e1]; decide)]
    have hpart := part_no hR a n ha hn hr
    rw [e1, e2]
    have heq := fun w => Lib.run_eql_slice_nil (P := Try.prog) w 26 4 none 0 0 0 0 Try.underlying26
    have HP := hid hpart
    have HR := hid hR
    have HB := hid hqs
    clear hpart hR hqs hB hr h e1 e2 ha hn hc
    go_enter Try.func19, Try.ntmps19
    go_wp2_with fail
    refine HP.out.mono ?_
    rintro e w1 ⟨rfl, hb⟩
    replace HR := hid (HR.out.below hb)
    replace HB := hid (Bl.step HB.out hb)
    clear hb
    go_wp2_with fail
    go_ret
    exact ⟨rfl, HR.out, Wrs.of HB.out⟩
theorem turn_nil (w : World) (a n : Int) (c : Bool) : Calls Try.prog 19 #[.pointer none, .agg #[.int .i64 a, .int .i64 n], .bool c] w fun e w' => e = .returned (.bool false) ∧ Below w.heap.size w w' := by
  obtain ⟨W, q, hW, hq, hB, s0, s1, hqW⟩ := span_box w a n
  have ht := part_nil W a n
  have heq := fun w => Lib.run_eql_slice_nil (P := Try.prog) w 26 4 none 0 0 0 0 Try.underlying26
  have HB := hid (show Below w.heap.size w W by rw [hq]; exact hB)
  have HT := hid ht
  clear ht hB
  go_enter Try.func19, Try.ntmps19
  go_wp2_with fail
  refine HT.out.mono ?_
  rintro e w1 ⟨rfl, hb⟩
  replace HB := hid (Bl.step HB.out hb)
  clear hb
  go_wp2_with fail
  go_ret
  exact ⟨rfl, HB.out⟩
theorem exUse_to (A : Nat → Prop) (M : Rm) (p : Addr) (w : World) (a n : Int) (h : exAt A M p w) (ha : (Lit.int .i64 a).wf = true) (hn : (Lit.int .i64 n).wf = true) :
    Calls Try.prog 12 #[.pointer (some p), .agg #[.int .i64 a, .int .i64 n]] w fun e w' => ∃ A', e = .returned (.bool (M.all a n true)) ∧ (∀ b, A' b → A b ∨ w.heap.size ≤ b) ∧ exAt A' (M.use a n true) p w' ∧ Wrs A w w' := by
  obtain ⟨pb, v, rfl, hR, h1, h2, h3⟩ := h
  obtain ⟨W, q, hW, hq, hB, s0, s1, hqW⟩ := span_box w a n
  have hqs : Below w.heap.size w W := by rw [hq]; exact hB
  have ht := turn_to (hR.below hqs) a n ha hn true false rfl
  have HT := hid ht
  have HA := hid (And.intro h1 (And.intro h2 h3))
  have HB := hid hqs
  clear ht h1 h2 h3 hB hqs hR ha hn
  go_enter Try.func12, Try.ntmps12
  go_wp2_with fail
  refine HT.out.mono ?_
  rintro e w1 ⟨rfl, hR1, hW1⟩
  have HR := hid hR1; have HW := hid hW1
  clear hR1 hW1
  go_wp2_with fail
  go_ret
  obtain ⟨h1, h2, h3⟩ := HA.out
  have hz := HW.out.size
  have hz2 := HB.out.size
  refine ⟨A, rfl, fun b hb => .inl hb, ⟨pb, v, rfl, HR.out, h1, h2, fun g hg => ?_⟩, (Wrs.of HB.out).trans HW.out (fun b hb => .inl (h2 b hb))⟩
  have := h3 g hg
  omega
theorem exUse_nil (w : World) (a n : Int) : Calls Try.prog 12 #[.pointer none, .agg #[.int .i64 a, .int .i64 n]] w fun e w' => e = .returned (.bool false) ∧ Below w.heap.size w w' := by
  obtain ⟨W, q, hW, hq, hB, s0, s1, hqW⟩ := span_box w a n
  have ht := turn_nil W a n false
  have HB := hid (show Below w.heap.size w W by rw [hq]; exact hB)
  have HT := hid ht
  clear ht hB
  go_enter Try.func12, Try.ntmps12
  go_wp2_with fail
  refine HT.out.mono ?_
  rintro e w1 ⟨rfl, hb⟩
  replace HB := hid (Bl.step HB.out hb)
  clear hb
  go_wp2_with fail
  go_ret
  exact ⟨rfl, HB.out⟩
theorem exGive_to (A : Nat → Prop) (M : Rm) (p : Addr) (w : World) (a n : Int) (h : exAt A M p w) (ha : (Lit.int .i64 a).wf = true) (hn : (Lit.int .i64 n).wf = true) :
    Calls Try.prog 13 #[.pointer (some p), .agg #[.int .i64 a, .int .i64 n]] w fun e w' => ∃ A', e = .returned (.bool (M.all a n false)) ∧ (∀ b, A' b → A b ∨ w.heap.size ≤ b) ∧ exAt A' (M.use a n false) p w' ∧ Wrs A w w' := by
  obtain ⟨pb, v, rfl, hR, h1, h2, h3⟩ := h
  obtain ⟨W, q, hW, hq, hB, s0, s1, hqW⟩ := span_box w a n
  have hqs : Below w.heap.size w W := by rw [hq]; exact hB
  have ht := turn_to (hR.below hqs) a n ha hn false true rfl
  have HT := hid ht
  have HA := hid (And.intro h1 (And.intro h2 h3))
  have HB := hid hqs
  clear ht h1 h2 h3 hB hqs hR ha hn
  go_enter Try.func13, Try.ntmps13
  go_wp2_with fail
  refine HT.out.mono ?_
  rintro e w1 ⟨rfl, hR1, hW1⟩
  have HR := hid hR1; have HW := hid hW1
  clear hR1 hW1
  go_wp2_with fail
  go_ret
  obtain ⟨h1, h2, h3⟩ := HA.out
  have hz := HW.out.size
  have hz2 := HB.out.size
  refine ⟨A, rfl, fun b hb => .inl hb, ⟨pb, v, rfl, HR.out, h1, h2, fun g hg => ?_⟩, (Wrs.of HB.out).trans HW.out (fun b hb => .inl (h2 b hb))⟩
  have := h3 g hg
  omega
theorem exGive_nil (w : World) (a n : Int) : Calls Try.prog 13 #[.pointer none, .agg #[.int .i64 a, .int .i64 n]] w fun e w' => e = .returned (.bool false) ∧ Below w.heap.size w w' := by
  obtain ⟨W, q, hW, hq, hB, s0, s1, hqW⟩ := span_box w a n
  have ht := turn_nil W a n true
  have HB := hid (show Below w.heap.size w W by rw [hq]; exact hB)
  have HT := hid ht
  clear ht hB
  go_enter Try.func13, Try.ntmps13
  go_wp2_with fail
  refine HT.out.mono ?_
  rintro e w1 ⟨rfl, hb⟩
  replace HB := hid (Bl.step HB.out hb)
  clear hb
  go_wp2_with fail
  go_ret
  exact ⟨rfl, HB.out⟩
end Go.Proofs.Ytjihemgidogoeaa
