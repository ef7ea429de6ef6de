/- A REGION THAT DRAWS ITS ORDER, ENDS IN OPERATIONS OF ONE FORCED ORDER, AND MAKES TWO BLOCKS ('c, d := Copy(s), Copy(s)'): as wp_region_below_tail, and the two pointers are not one. No program is named here. -/
import Derived.Test.YtnbegmlbkjjggaaRegionTail
namespace Go.Proofs.Ytnbegmlbkjjggaa
open Go.RowKit

/-- What lies in the slots s and t: pointers to blocks that are there, not to one and the same. -/
structure Apart (s t : Tmp) (a : Act) (w : World) : Prop where
  l : ∀ q, a.tmps.getD s undef = .pointer (some ⟨q, 0, none⟩) → q < w.heap.size
  r : ∀ q, a.tmps.getD t undef = .pointer (some ⟨q, 0, none⟩) → q < w.heap.size
  ne : ∀ q, a.tmps.getD s undef = .pointer (some ⟨q, 0, none⟩) → a.tmps.getD t undef ≠ .pointer (some ⟨q, 0, none⟩)
theorem put_other (a : Act) (d : Option Tmp) (v : Value) (s : Tmp) (h : d ≠ some s) : (a.put d v).tmps.getD s undef = a.tmps.getD s undef := by
  cases d with
  | none => rfl
  | some d =>
    have e : ¬ d = s := fun e => h (by rw [e])
    simp only [Act.put, Array.getD_eq_getD_getElem?, Array.getElem?_setIfInBounds, if_neg e]
theorem put_either (a : Act) (s : Tmp) (v : Value) : (a.put (some s) v).tmps.getD s undef = v ∨ (a.put (some s) v).tmps.getD s undef = a.tmps.getD s undef := by
  simp only [Act.put, Array.getD_eq_getD_getElem?, Array.getElem?_setIfInBounds]
  by_cases h : s < a.tmps.size
  · left; simp [h]
  · right; simp [h]
theorem Apart.keep {s t : Tmp} {a : Act} {w w' : World} (h : Apart s t a w) (d : Option Tmp) (v : Value) (hs : d ≠ some s) (ht : d ≠ some t) (hw : w.heap.size ≤ w'.heap.size) : Apart s t (a.put d v) w' := by
  refine ⟨fun q hq => ?_, fun q hq => ?_, fun q hq => ?_⟩
  · rw [put_other a d v s hs] at hq; have := h.l q hq; omega
  · rw [put_other a d v t ht] at hq; have := h.r q hq; omega
  · rw [put_other a d v s hs] at hq; rw [put_other a d v t ht]; exact h.ne q hq
theorem Apart.left {s t : Tmp} {a : Act} {w w' : World} (h : Apart s t a w) (hst : s ≠ t) (hw : w'.heap.size = w.heap.size + 1) : Apart s t (a.put (some s) (.pointer (some ⟨w.heap.size, 0, none⟩))) w' := by
  have ht := put_other a (some s) (.pointer (some ⟨w.heap.size, 0, none⟩)) t (fun e => hst (Option.some.inj e))
  refine ⟨fun q hq => ?_, fun q hq => ?_, fun q hq => ?_⟩
  · rcases put_either a s (.pointer (some ⟨w.heap.size, 0, none⟩)) with e | e
    · rw [e] at hq; cases hq; omega
    · rw [e] at hq; have := h.l q hq; omega
  · rw [ht] at hq; have := h.r q hq; omega
  · rw [ht]
    rcases put_either a s (.pointer (some ⟨w.heap.size, 0, none⟩)) with e | e
    · rw [e] at hq; cases hq; intro h2; have := h.r _ h2; omega
    · rw [e] at hq; exact h.ne q hq
theorem Apart.right {s t : Tmp} {a : Act} {w w' : World} (h : Apart s t a w) (hst : s ≠ t) (hw : w'.heap.size = w.heap.size + 1) : Apart s t (a.put (some t) (.pointer (some ⟨w.heap.size, 0, none⟩))) w' := by
  have hs := put_other a (some t) (.pointer (some ⟨w.heap.size, 0, none⟩)) s (fun e => hst (Option.some.inj e).symm)
  refine ⟨fun q hq => ?_, fun q hq => ?_, fun q hq => ?_⟩
  · rw [hs] at hq; have := h.l q hq; omega
  · rcases put_either a t (.pointer (some ⟨w.heap.size, 0, none⟩)) with e | e
    · rw [e] at hq; cases hq; omega
    · rw [e] at hq; have := h.r q hq; omega
  · rw [hs] at hq
    rcases put_either a t (.pointer (some ⟨w.heap.size, 0, none⟩)) with e | e
    · rw [e]; intro h2; cases h2; have := h.l _ hq; omega
    · rw [e]; exact h.ne q hq

section
variable {P : Program} {ops : Array Oper} {Q : Exit → Act → World → Prop} {C : World → Prop} {T : World → World → Prop} {Fl : List (Value → World → Prop)} {a0 : Act}

theorem any_of_inv_tailJ (J : Act → World → Prop) {n : Nat} (hst : stOk ops a0.tmps.size = true) (hT : ∀ w w', C w → T w w' → C w' ∧ ∀ i v, factAt Fl i v w → factAt Fl i v w')
    (hs : Region.sinkB .any ops n = true) (hc : Region.chainB .any ops n = true) (hn : n < ops.size) (hq : Region.seqB .any ops (ops.size - n) n (headListed n (ops.size - n)) = true)
    (hop : ∀ i, i < n → ∀ o, ops[i]? = some o → ∀ a w, C w → J a w → (∀ s, slotAt ops i s = true → a.tmps.getD s undef = a0.tmps.getD s undef) → Deps ops Fl a w (wpOp P ops Q i (fun a' w' => ∃ v, a' = a.put o.dst v ∧ factAt Fl i (if o.dst = none then undef else v) w' ∧ T w w' ∧ J a' w') a w) (depsOf o))
    (hend : ∀ a w, C w → J a w → puts ops (valAt ops a) a0 n = a → (∀ i, i < n → factAt Fl i (valAt ops a i) w) → wpList P ops Q (ops.toList.drop n) a w) :
    ∀ (f : Nat) (listed : Array Bool) (a : Act) (w : World), unlisted listed = f + (ops.size - n) → (∀ t, n ≤ t → t < ops.size → listed.getD t true = false) → Inv ops C Fl a0 listed a w → J a w → wpAny P .any ops Q (f + (ops.size - n)) listed a w := by
  have hsz : n + (ops.size - n) = ops.size := by omega
  intro f
  induction f with
  | zero =>
    intro listed a w hu ht h hj
    have hh : ∀ i, i < n → listed.getD i false = true := by
      intro i hi
      cases hb : listed.getD i false with
      | true => rfl
      | false =>
        exfalso
        have hil : i < listed.size := by rw [h.size]; omega
        have hi' : listed[i]? = some false := by
          rw [Array.getElem?_eq_getElem hil]
          simp [Array.getD, hil] at hb
          rw [hb]
        have e1 := unlisted_set hi'
        -- the tail alone has as many
        have hle : ops.size - n ≤ unlisted (listed.setIfInBounds i true) := by
          unfold unlisted
          rw [Array.toList_setIfInBounds]
          have hlen : listed.toList.length = n + (ops.size - n) := by rw [Array.length_toList, h.size, hsz]
          have hd : (listed.toList.set i true).drop n = List.replicate (ops.size - n) false := by
            refine List.ext_getElem (by simp [h.size]) fun j h1 h2 => ?_
            simp only [List.getElem_drop, List.getElem_replicate]
            rw [List.getElem_set_ne (by omega)]
            have hjs : n + j < ops.size := by simp at h2; omega
            have := ht (n + j) (by omega) hjs
            have hjl : n + j < listed.size := by rw [h.size]; exact hjs
            simpa [Array.getD, hjl] using this
          have := List.take_append_drop n (listed.toList.set i true)
          rw [← this, List.filter_append, List.length_append, hd]
          simp
        omega
    have he := listed_head (n := n) (m := ops.size - n) (by rw [h.size, hsz]) hh (fun t h1 h2 => ht t h1 (by omega))
    have := hend a w h.c hj (puts_head hst h ht) fun i hi => h.facts i (hh i hi)
    rw [Nat.zero_add]
    have := wpAny_of_seq (md := .any) (Q' := Q) (ops.toList.drop n) n listed a w (fun j => by simp [List.getElem?_drop]) (by rw [he]; simpa using hq) this
    simpa using this
  | succ f ih =>
    intro listed a w hu ht h hj
    rw [show f + 1 + (ops.size - n) = (f + (ops.size - n)) + 1 by omega]
    have hinv := h.head ht
    have hex : ∃ i, i < n ∧ listed.getD i true = false := by
      refine Classical.byContradiction fun hno => ?_
      have hh : ∀ i, i < n → listed.getD i false = true := by
        intro i hi
        have hil : i < listed.size := by rw [h.size]; omega
        cases hb : listed.getD i false with
        | true => rfl
        | false => exact absurd ⟨i, hi, getD_in hil hb⟩ hno
      have he := listed_head (n := n) (m := ops.size - n) (by rw [h.size, hsz]) hh (fun t h1 h2 => ht t h1 (by omega))
      rw [he, unlisted_head] at hu
      omega
    obtain ⟨i0, hi0, hun0⟩ := hex
    refine ⟨fun hr => ?_, ?_⟩
    · have := ready_ne hst h.size hr i0 (by omega)
      rw [getD_both hun0] at this
      cases this
    · intro i hi
      have hin : i < n := by
        rcases Nat.lt_or_ge i n with g | g
        · exact g
        · exact absurd hi (tail_waits hs hc hn hinv _ i0 rfl hi0 hun0 i g)
      have hi' := hi
      unfold Region.ready at hi
      rw [List.mem_filter, List.mem_range] at hi
      obtain ⟨hilt, hr⟩ := hi
      have ho : ops[i]? = some ops[i] := Array.getElem?_eq_getElem hilt
      rw [ho] at hr
      simp only [Option.map_some, Option.getD_some, Bool.and_eq_true, Bool.not_eq_true'] at hr
      have hun : listed[i]? = some false := by
        have hlt : i < listed.size := by rw [h.size]; exact hilt
        have h1 := hr.1
        rw [Array.getElem?_eq_getElem hlt]
        simp [Array.getD, hlt] at h1
        rw [h1]
      have hready : ∀ j ∈ depsOf ops[i], listed.getD j false = true := by
        intro j hj
        unfold depsOf at hj
        obtain ⟨e, he, rfl⟩ := List.mem_map.1 hj
        obtain ⟨he1, he2⟩ := List.mem_filter.1 he
        have := Array.all_eq_true_iff_forall_mem.1 hr.2 e (Array.mem_toList_iff.1 he1)
        rw [he2] at this
        simpa using this
      have hfresh : ∀ s, slotAt ops i s = true → a.tmps.getD s undef = a0.tmps.getD s undef := by
        intro s hs
        refine h.fresh s fun j hj => ?_
        obtain ⟨o', h1, h2⟩ := Option.bind_eq_some_iff.1 hj
        unfold slotAt at hs
        rw [List.all_eq_true] at hs
        have := hs j (List.mem_range.2 (Array.getElem?_eq_some_iff.1 h1).1)
        rw [h1] at this
        simp only [h2, bne_self_eq_false, Bool.false_or, Bool.or_eq_true, decide_eq_true_eq, List.contains_iff_mem] at this
        have hli : listed.getD i false = false := by
          rw [Array.getD_eq_getD_getElem?, hun]; rfl
        cases hb : listed.getD j false with
        | false => rfl
        | true =>
          rcases this with rfl | hm
          · rw [hb] at hli; cases hli
          · have := h.closed j o' hb h1 i hm
            rw [this] at hli; cases hli
      have hdeps := Deps.to _ (hop i hin _ ho a w h.c hj hfresh) (fun j hj => h.facts j (hready j hj))
      refine wpOp_mono ?_ hdeps
      rintro a' w' ⟨v, rfl, hF, htt, hj'⟩
      exact ih _ _ _ (by have := unlisted_set hun; omega) (HeadInv.set hinv hi' hin).tail (h.step hst hT ho hF htt hready) hj'

/-- As wp_region_below_tail; operations i4 and i5 make a block each, their pointers go to the slots s and t. -/
theorem wp_region_below_two (n i4 i5 : Nat) (s t : Tmp) {id : Nat} {w0 : World} (hm : P.follows .mixedOrders = true) (Fl : List (Value → World → Prop)) (l : List Nat) (hnf : Fl.length = n) (hst : stOk ops a0.tmps.size = true) (hl : l = List.range n)
    (htl : (Region.sinkB .any ops n && Region.chainB .any ops n && decide (n < ops.size) && Region.seqB .any ops (ops.size - n) n (headListed n (ops.size - n))) = true)
    (hds : (decide (s ≠ t) && (dstAt ops i4 == some s) && (dstAt ops i5 == some t) && ((List.range n).all fun i => i == i4 || i == i5 || (dstAt ops i != some s && dstAt ops i != some t))) = true)
    (ha : ∀ i, i = i4 ∨ i = i5 → ∀ o, ops[i]? = some o → o.guard = none ∧ ∀ (a : Act) (w : World), Below w0.heap.size w0 w → ∃ ob, (execOp a.eval o).run P w = .ok (.value (.pointer (some ⟨w.heap.size, 0, none⟩))) (w.alloc ob) ∧ factAt Fl i (.pointer (some ⟨w.heap.size, 0, none⟩)) (w.alloc ob))
    (h0 : (∀ q, a0.tmps.getD s undef ≠ .pointer (some ⟨q, 0, none⟩)) ∧ ∀ q, a0.tmps.getD t undef ≠ .pointer (some ⟨q, 0, none⟩))
    (hop : RulesF P ops (Below w0.heap.size w0) Fl a0 l) (hs : AllStay Fl)
    (hend : ∀ w, Below w0.heap.size w0 w → Ends (fun _ a w => Apart s t a w → wpList P ops Q (ops.toList.drop n) a w) w Fl ((ops.toList.take n).map (·.dst)) a0) : (Code.region id ops true).wp P Q a0 w0 := by
  simp only [Bool.and_eq_true, decide_eq_true_eq] at htl hds
  obtain ⟨⟨⟨h1, h2⟩, h3⟩, h4⟩ := htl
  obtain ⟨⟨⟨d1, d2⟩, d3⟩, d4⟩ := hds
  rw [beq_iff_eq] at d2 d3
  subst hl
  refine wp_region_any hm ?_
  have := any_of_inv_tailJ (P := P) (Q := Q) (C := Below w0.heap.size w0) (T := BelowT) (Fl := Fl) (a0 := a0) (Apart s t) hst (fun w w' hc ht => ⟨hc.trans (Below.mono ht hc.size), fun i v hf => hs.at i v w w' hf ht⟩) h1 h2 h3 h4
    (fun i hi o ho a w hc hj hf => by
      by_cases hi45 : i = i4 ∨ i = i5
      · obtain ⟨hg, hrun⟩ := ha i hi45 o ho
        obtain ⟨ob, hr, hfact⟩ := hrun a w hc
        have hgoal : wpOp P ops Q i (fun a' w' => ∃ v, a' = a.put o.dst v ∧ factAt Fl i (if o.dst = none then undef else v) w' ∧ BelowT w w' ∧ Apart s t a' w') a w := by
          refine wpOp_step ho fun K hK => ?_
          rw [if_pos (wanted_none hg _)]
          unfold Oper.wp
          rw [hr]
          have hd : dstAt ops i = o.dst := by simp [dstAt, ho]
          rcases hi45 with rfl | rfl
          · rw [d2] at hd
            exact hK _ _ ⟨_, rfl, by rw [← hd]; simpa using hfact, Below.alloc (Below.refl _ _) (Nat.le_refl _) ob, by rw [← hd]; exact hj.left d1 (by simp)⟩
          · rw [d3] at hd
            exact hK _ _ ⟨_, rfl, by rw [← hd]; simpa using hfact, Below.alloc (Below.refl _ _) (Nat.le_refl _) ob, by rw [← hd]; exact hj.right d1 (by simp)⟩
        have hdd : ∀ js, Deps ops Fl a w (wpOp P ops Q i (fun a' w' => ∃ v, a' = a.put o.dst v ∧ factAt Fl i (if o.dst = none then undef else v) w' ∧ BelowT w w' ∧ Apart s t a' w') a w) js := by
          intro js
          induction js with
          | nil => exact hgoal
          | cons j js ih => exact fun _ => ih
        exact hdd _
      · have hr := (RulesF.to (Q := Q) hop).at i (List.mem_range.2 hi) o ho a w hc hf
        refine Deps.imp hr fun hw => wpOp_mono ?_ hw
        rintro a' w' ⟨v, rfl, hF, htt⟩
        have hx := List.all_eq_true.1 d4 i (List.mem_range.2 hi)
        have hd : dstAt ops i = o.dst := by simp [dstAt, ho]
        rw [hd] at hx
        simp only [Bool.or_eq_true, beq_iff_eq, Bool.and_eq_true, bne_iff_ne] at hx
        have hx2 : o.dst ≠ some s ∧ o.dst ≠ some t := by
          rcases hx with (e | e) | e
          · exact absurd (.inl e) hi45
          · exact absurd (.inr e) hi45
          · exact e
        exact ⟨v, rfl, hF, htt, hj.keep _ _ hx2.1 hx2.2 htt.size⟩)
    (fun a w hc hj hp hf => by
      have := Ends.to (Q := fun _ a w => Apart s t a w → wpList P ops Q (ops.toList.drop n) a w) (ops := ops) (a0 := a0) (w := w) (valAt ops a) n 0 Fl ((ops.toList.take n).map (·.dst)) hnf (by simp; omega) (fun i hi => by simp [dstAt, hi, show i < ops.size by omega]) (fun i f hi => by
        have hlt : i < n := by rw [← hnf]; exact (List.getElem?_eq_some_iff.1 hi).1
        have := hf i hlt
        rw [factAt_eq hi] at this
        simpa using this) (hend w hc)
      rw [Nat.zero_add, hp] at this
      exact this hj) n (Array.replicate ops.size false) a0 w0.drew (by simp [unlisted]; omega) (fun t _ ht => getD_in (by simpa using ht) (getD_replicate_false _ _))
      ⟨by simp, ⟨rfl, rfl, fun _ _ => rfl⟩, (Below.refl _ _).drew, (fun j o hj => by simp [Array.getD] at hj), fun _ _ => rfl, fun i hi => by simp [Array.getD] at hi⟩ ⟨fun q hq => absurd hq (h0.1 q), fun q hq => absurd hq (h0.2 q), fun q hq => absurd hq (h0.1 q)⟩
  rw [show n + (ops.size - n) = ops.size by omega] at this
  exact this
theorem Deps.intro {a : Act} {w : World} {G : Prop} : ∀ {js : List Nat}, ((∀ j ∈ js, factAt Fl j (valAt ops a j) w) → G) → Deps ops Fl a w G js
  | [], h => h fun _ hj => by cases hj
  | j :: js, h => fun hf => Deps.intro (js := js) fun hfs => h fun k hk => by
    rcases List.mem_cons.1 hk with rfl | hk
    · exact hf
    · exact hfs k hk
/-- As wp_region_below_tail, with a word J on the frame and the world that each operation keeps. -/
theorem wp_region_below_J (J : Act → World → Prop) (n : Nat) {id : Nat} {w0 : World} (hm : P.follows .mixedOrders = true) (Fl : List (Value → World → Prop)) (l : List Nat) (hnf : Fl.length = n) (hst : stOk ops a0.tmps.size = true) (hl : l = List.range n)
    (htl : (Region.sinkB .any ops n && Region.chainB .any ops n && decide (n < ops.size) && Region.seqB .any ops (ops.size - n) n (headListed n (ops.size - n))) = true)
    (hj : ∀ i, i < n → ∀ o, ops[i]? = some o → ∀ (a : Act) (w : World), Below w0.heap.size w0 w → J a w → (∀ s, slotAt ops i s = true → a.tmps.getD s undef = a0.tmps.getD s undef) → (∀ j ∈ depsOf o, factAt Fl j (valAt ops a j) w) →
      wpOp P ops Q i (fun a' w' => ∃ v, a' = a.put o.dst v ∧ factAt Fl i (if o.dst = none then undef else v) w' ∧ BelowT w w') a w → wpOp P ops Q i (fun a' w' => ∃ v, a' = a.put o.dst v ∧ factAt Fl i (if o.dst = none then undef else v) w' ∧ BelowT w w' ∧ J a' w') a w)
    (hJ0 : J a0 w0.drew)
    (hop : RulesF P ops (Below w0.heap.size w0) Fl a0 l) (hs : AllStay Fl)
    (hend : ∀ w, Below w0.heap.size w0 w → Ends (fun _ a w => J a w → wpList P ops Q (ops.toList.drop n) a w) w Fl ((ops.toList.take n).map (·.dst)) a0) : (Code.region id ops true).wp P Q a0 w0 := by
  simp only [Bool.and_eq_true, decide_eq_true_eq] at htl
  obtain ⟨⟨⟨h1, h2⟩, h3⟩, h4⟩ := htl
  subst hl
  refine wp_region_any hm ?_
  have := any_of_inv_tailJ (P := P) (Q := Q) (C := Below w0.heap.size w0) (T := BelowT) (Fl := Fl) (a0 := a0) J hst (fun w w' hc ht => ⟨hc.trans (Below.mono ht hc.size), fun i v hf => hs.at i v w w' hf ht⟩) h1 h2 h3 h4
    (fun i hi o ho a w hc hjj hf => Deps.intro fun hfs => hj i hi o ho a w hc hjj hf hfs (Deps.to _ ((RulesF.to (Q := Q) hop).at i (List.mem_range.2 hi) o ho a w hc hf) hfs))
    (fun a w hc hjj hp hf => by
      have := Ends.to (Q := fun _ a w => J a w → wpList P ops Q (ops.toList.drop n) a w) (ops := ops) (a0 := a0) (w := w) (valAt ops a) n 0 Fl ((ops.toList.take n).map (·.dst)) hnf (by simp; omega) (fun i hi => by simp [dstAt, hi, show i < ops.size by omega]) (fun i f hi => by
        have hlt : i < n := by rw [← hnf]; exact (List.getElem?_eq_some_iff.1 hi).1
        have := hf i hlt
        rw [factAt_eq hi] at this
        simpa using this) (hend w hc)
      rw [Nat.zero_add, hp] at this
      exact this hjj) n (Array.replicate ops.size false) a0 w0.drew (by simp [unlisted]; omega) (fun t _ ht => getD_in (by simpa using ht) (getD_replicate_false _ _))
      ⟨by simp, ⟨rfl, rfl, fun _ _ => rfl⟩, (Below.refl _ _).drew, (fun j o hj => by simp [Array.getD] at hj), fun _ _ => rfl, fun i hi => by simp [Array.getD] at hi⟩ hJ0
  rw [show n + (ops.size - n) = ops.size by omega] at this
  exact this
/-- An operation that makes a block. -/
theorem wpOp_alloc {i : Nat} {o : Oper} {a : Act} {w : World} {ob : Obj} {s : Tmp} (ho : ops[i]? = some o) (hg : o.guard = none) (hd : o.dst = some s) (hr : (execOp a.eval o).run P w = .ok (.value (.pointer (some ⟨w.heap.size, 0, none⟩))) (w.alloc ob)) {K : Act → World → Prop} (h : K (a.put (some s) (.pointer (some ⟨w.heap.size, 0, none⟩))) (w.alloc ob)) : wpOp P ops Q i K a w := by
  refine wpOp_step ho fun K' hK => ?_
  rw [if_pos (wanted_none hg _)]
  unfold Oper.wp
  rw [hr]
  exact hK _ _ (by rw [hd]; exact h)
/-- An operation that calls. -/
theorem wpOp_call {i : Nat} {o : Oper} {a : Act} {w : World} {f : FuncId} {args : Array Value} {s : Tmp} {R : Value → World → Prop} (ho : ops[i]? = some o) (hg : o.guard = none) (hd : o.dst = some s) (hr : (execOp a.eval o).run P w = .ok (.enter f args) w) (hc : Calls P f args w fun e w' => ∃ v, e = .returned v ∧ R v w') {K : Act → World → Prop} (h : ∀ v w', R v w' → K (a.put (some s) v) w') : wpOp P ops Q i K a w := by
  refine wpOp_step ho fun K' hK => ?_
  rw [if_pos (wanted_none hg _)]
  unfold Oper.wp
  rw [hr, Oper.upon_enter]
  refine hc.mono ?_
  rintro e w' ⟨v, rfl, hR⟩
  exact hK _ _ (by rw [hd]; exact h v w' hR)
end
end Go.Proofs.Ytnbegmlbkjjggaa
