/- extent's program side: Clone of bools, Copy. -/
import Derived.Test.YtjihemgidogoeaaEyD
import Derived.Test.YtjihemgidogoeaaRegionTail
namespace Go.Proofs.Ytjihemgidogoeaa
open Go.RowKit
set_option linter.unusedVariables false
set_option maxRecDepth 100000

theorem infoB : (Try.prog.info? 4).map (fun i => (i.zero, i.size, i.bytes)) = some (some (.bool false), 1, 1) := by kernel_rfl
theorem OwnV.emp (w : World) (E : TypeId) {base : Nat} (hb : base ≤ w.heap.size) : OwnV E base (w.alloc (.cells #[] E)) (.slice (some ⟨w.heap.size, 0, none⟩) 0 0) [] :=
  ⟨⟨by simp, .inr ⟨w.heap.size, 0, #[], rfl, hb, heap_alloc_new w _, Nat.le_refl _, Nat.zero_le _, by simp, by simp⟩⟩⟩
theorem cloneB_to (ao : Option Addr) (n cap : Nat) (l : List Bool) (w : World) (h : RdB w ao n cap l) (hn : n ≤ 4096) :
    Calls Try.prog 20 #[.slice ao n cap] w fun e w' => ∃ v, e = .returned v ∧ OwnV 4 w.heap.size w' v (boolS l) ∧ Below w.heap.size w w' := by
  have heq := fun w => Lib.run_eql_slice_nil (P := Try.prog) w 26 4 ao n cap 0 0 Try.underlying26
  have hl := h.len
  have HR := hid h
  obtain ⟨i0, hi0, hz0, hz1, hz2⟩ := info_parts infoB
  cases ao with
  | none =>
    have h0 := h.nil rfl
    have h1 := h.le
    obtain rfl : n = 0 := by omega
    obtain rfl : l = [] := List.eq_nil_of_length_eq_zero hl
    subst h0
    clear h hl h1
    go_enter Try.func20, Try.ntmps20
    go_wp2_with fail
    go_ret
    exact ⟨_, rfl, OwnV.nil _ _ _, Below.refl _ _⟩
  | some ad =>
    clear h
    have HL := hid hl
    clear hl
    go_enter Try.func20, Try.ntmps20
    go_wp2_with (at_builtin; apply stopHere)
    refine hid ?_
    have hb1 : Below w.heap.size w (w.alloc (.cells #[] 4)) := Bl.alloc (Bl.refl w) _
    have hr1 := HR.out.below hb1
    refine wpList_append_own _ rfl (.tmp 5) (.tmp 6) 26 rfl w.heap.size 4 i0 (.bool false) 1 1 Try.underlying26 hi0 hz0 hz1 hz2 rfl (by decide) (.slice (some ⟨w.heap.size, 0, none⟩) 0 0) 0 [] rfl (OwnV.emp w _ (Nat.le_refl _)).row ad n cap (boolS l) rfl (by rw [List.length_map, HL.out, Nat.mul_one]) (fun j u hu => ?_) (fun u hu => ?_) (by unfold maxLen; omega) (by omega) (by simp) ?_
    · have hj : j < l.length := by have := (List.getElem?_eq_some_iff.1 hu).1; simpa using this
      rw [boolS_get l j hj] at hu
      cases hu
      exact hr1.cell ad rfl j (by rw [← HL.out]; exact hj)
    · obtain ⟨x, _, rfl⟩ := List.mem_map.1 hu
      rfl
    · intro v w2 h1 h2 _
      have H : Hid (OwnV 4 w.heap.size w2 v (boolS l) ∧ Below w.heap.size w w2) := hid ⟨⟨by
        have e : (boolS l).length = n := by rw [List.length_map, HL.out]
        rw [e]
        simpa using h1⟩, hb1.trans ((Below.refl _ _).grown h2 (by simp) (fun b hb => by
        simp [Value.ownBlock] at hb
        omega))⟩
      clear h1 h2
      go_wp2_with fail
      go_ret
      exact ⟨v, rfl, H.out.1, H.out.2⟩
/-- A row of bools of the call's own. -/
def IsOB (E : TypeId) (B : Nat) (l : List Bool) : Value → World → Prop := fun v w => OwnV E B w v (boolS l)
theorem Stays.ob (E : TypeId) (B : Nat) (l : List Bool) : Stays (IsOB E B l) := fun _ _ _ h hb => h.below hb (Nat.le_refl _)
set_option maxHeartbeats 1000000 in
theorem exCopy_to (A : Nat → Prop) (M : Rm) (a : Addr) (w : World) (h : exAt A M a w) : Calls Try.prog 17 #[.pointer (some a)] w fun e w' => ∃ q A', e = .returned (.pointer (some q)) ∧ (∀ b, A' b → w.heap.size ≤ b) ∧ exAt A' M q w' ∧ Below w.heap.size w w' := by
  obtain ⟨p, v, rfl, hR, -, -, -⟩ := h
  obtain ⟨ao, n, cap, rfl, hn, hn2, hnc, hcap, c0, c1, hf, -⟩ := hR.facts
  have hpw : p < w.heap.size := hR.blk.lt
  have HR := hid hR
  have HF := hid hf
  clear hR hf c0 c1 hn
  go_enter Try.func17, Try.ntmps17
  go_wp2_with fail
  refine wp_region_below_tail 9 (by kernel_rfl) [Is (.pointer (some ⟨p, 0, none⟩)), Is (.pointer (some ⟨p, 0, none⟩)), Is ?vc2, Is (.int .i64 M.lo), Is (.pointer (some ⟨p, 0, none⟩)), Is (.pointer (some ⟨p, 0, none⟩)), Is ?vc6, Is (.slice ao n cap), IsOB 4 w.heap.size M.fr] _ rfl (by kernel_rfl) rfl (by kernel_rfl) ?hopc ?hstc ?hendc
  case hopc =>
    refine ⟨rq _ _ _ [(0, .pointer (some ⟨p, 0, none⟩))] ⟨⟨by kernel_rfl, rfl⟩, trivial⟩ ?_, ?_⟩
    · intro a w1 hC e0
      refine Or.inl ⟨.pointer (some ⟨p, 0, none⟩), ?_, rfl⟩
      go_simp
    refine ⟨rq _ _ _ [] trivial ?_, ?_⟩
    · intro a w1 hC  (h0 : a.tmps.getD 5 undef = _)
      refine Or.inl ⟨.pointer (some ⟨p, 0, none⟩), ?_, rfl⟩
      go_simp
    refine ⟨rq _ _ _ [] trivial ?_, ?_⟩
    · intro a w1 hC  (h1 : a.tmps.getD 6 undef = _)
      refine Or.inl ⟨_, ?_, rfl⟩
      go_simp
      rfl
    refine ⟨rq _ _ _ [] trivial ?_, ?_⟩
    · intro a w1 hC  (h2 : a.tmps.getD 7 undef = _)
      refine Or.inl ⟨.int .i64 M.lo, ?_, rfl⟩
      have hcc := (HR.out.blk.bl hC).cell 0
      go_simp
    refine ⟨rq _ _ _ [(0, .pointer (some ⟨p, 0, none⟩))] ⟨⟨by kernel_rfl, rfl⟩, trivial⟩ ?_, ?_⟩
    · intro a w1 hC e0
      refine Or.inl ⟨.pointer (some ⟨p, 0, none⟩), ?_, rfl⟩
      go_simp
    refine ⟨rq _ _ _ [] trivial ?_, ?_⟩
    · intro a w1 hC  (h4 : a.tmps.getD 9 undef = _)
      refine Or.inl ⟨.pointer (some ⟨p, 0, none⟩), ?_, rfl⟩
      go_simp
    refine ⟨rq _ _ _ [] trivial ?_, ?_⟩
    · intro a w1 hC  (h5 : a.tmps.getD 10 undef = _)
      refine Or.inl ⟨_, ?_, rfl⟩
      go_simp
      rfl
    refine ⟨rq _ _ _ [] trivial ?_, ?_⟩
    · intro a w1 hC  (h6 : a.tmps.getD 11 undef = _)
      refine Or.inl ⟨.slice ao n cap, ?_, rfl⟩
      have hcc := (HR.out.blk.bl hC).cell 1
      go_simp
    refine ⟨rq _ _ _ [] trivial ?_, ?_⟩
    · intro a w1 hC  (h7 : a.tmps.getD 12 undef = _)
      refine Or.inr (Or.inl ⟨20, #[.slice ao n cap], ?_, ?_⟩)
      · go_simp
      · refine (cloneB_to ao n cap M.fr w1 (HF.out.below hC) (by omega)).mono ?_
        rintro e w2 ⟨vv, rfl, hown, hbel⟩
        exact ⟨_, rfl, hown.lift hC.size, hbel⟩
    exact trivial
  case hstc => repeat (first | exact trivial | refine ⟨Stays.is _, ?_⟩ | refine ⟨Stays.ob _ _ _, ?_⟩)
  case hendc =>
    intro w1 hC
    rintro _ rfl _ rfl _ rfl _ rfl _ rfl _ rfl _ rfl _ rfl
    intro x8 h8
    simp only [Ends, Act.put, List.setIfInBounds_toArray, List.set_cons_succ, List.set_cons_zero, List.drop_succ_cons, List.drop_zero]
    have HO := hid h8
    have HC := hid hC
    obtain ⟨wf, hwf⟩ : ∃ wf, w1.alloc (.cells #[.int .i64 M.lo, x8] 45) = wf := ⟨_, rfl⟩
    have hBf : Below w1.heap.size w1 wf := by rw [← hwf]; exact Bl.alloc (Bl.refl w1) _
    have hBlk : Blk wf w1.heap.size 45 [.int .i64 M.lo, x8] := by rw [← hwf]; exact Blk.new w1 _ _
    have h8o := HO.out.shape
    obtain ⟨o8, c8, e8, -⟩ := h8o
    obtain ⟨n8, hn8⟩ : ∃ n8, (boolS M.fr).length = n8 := ⟨_, rfl⟩
    rw [hn8] at e8
    subst e8
    clear h8 hC hn8
    go_wp2_with fail
    have hbw := HC.out.size
    go_ret
    have hrow := HO.out.below hBf (Nat.le_refl _)
    refine ⟨⟨w1.heap.size, 0, none⟩, fun x => x = w1.heap.size ∨ (Value.slice o8 n8 c8).ownBlock = some x, rfl, fun x hx => ?_, ⟨w1.heap.size, _, rfl, ⟨hBlk, hrow.lift (Nat.zero_le _), HR.out.ok⟩, .inl rfl, fun g e => .inr e, fun g hg => ?_⟩, Bl.step HC.out hBf⟩
    · rcases hx with rfl | hx
      · exact hbw
      · exact (HO.out.lt x hx).1
    · rcases hg with rfl | hg
      · rw [← hwf]; simp
      · exact (hrow.lt g hg).2
theorem exCopy_nil (w : World) : Calls Try.prog 17 #[.pointer none] w fun e w' => e = .returned (.pointer none) ∧ Below w.heap.size w w' := by
  go_enter Try.func17, Try.ntmps17
  go_wp2_with fail
  go_ret
  exact ⟨rfl, Below.refl _ _⟩
end Go.Proofs.Ytjihemgidogoeaa
