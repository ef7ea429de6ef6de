/- A REGION THAT DRAWS ITS ORDER AND ENDS IN OPERATIONS OF ONE FORCED ORDER (an append next to calls): the head one operation at a time, the tail walked in the order of the text. No program is named here. -/
import Derived.Test.YtjihemgidogoeaaRegion
import Derived.StillTail
namespace Go.Proofs.Ytjihemgidogoeaa
open Go.RowKit

/-- The first n are listed, the others are not. -/
def headListed (n m : Nat) : Array Bool := Array.replicate n true ++ Array.replicate m false

theorem headListed_getD (n m j : Nat) (d : Bool) : (headListed n m).getD j d = if j < n then true else if j < n + m then false else d := by
  unfold headListed
  rw [Array.getD_eq_getD_getElem?, Array.getElem?_append]
  simp only [Array.size_replicate, Array.getElem?_replicate]
  by_cases h : j < n
  · simp [h]
  · rw [if_neg h, if_neg h]
    by_cases h2 : j < n + m
    · rw [if_pos h2, if_pos (by omega)]; rfl
    · rw [if_neg h2, if_neg (by omega)]; rfl

theorem listed_head {listed : Array Bool} {n m : Nat} (hs : listed.size = n + m) (hh : ∀ i, i < n → listed.getD i false = true) (ht : ∀ t, n ≤ t → t < n + m → listed.getD t true = false) : listed = headListed n m := by
  refine Array.ext (by simp [headListed, hs]) fun i hi hi' => ?_
  have h1 := headListed_getD n m i false
  have e1 : (headListed n m).getD i false = (headListed n m)[i] := by simp [Array.getD, hi']
  rw [← e1, h1]
  by_cases h : i < n
  · rw [if_pos h]
    have := hh i h
    simpa [Array.getD, hi] using this
  · rw [if_neg h, if_pos (by omega)]
    have := ht i (by omega) (by omega)
    simpa [Array.getD, hi] using this

theorem unlisted_head (n m : Nat) : unlisted (headListed n m) = m := by
  unfold unlisted headListed
  simp

section
variable {P : Program} {ops : Array Oper} {Q : Exit → Act → World → Prop} {C : World → Prop} {T : World → World → Prop} {Fl : List (Value → World → Prop)} {a0 : Act}

theorem Inv.head {listed : Array Bool} {a : Act} {w : World} {n : Nat} (h : Inv ops C Fl a0 listed a w) (ht : ∀ t, n ≤ t → t < ops.size → listed.getD t true = false) : HeadInv .any ops n listed :=
  ⟨h.size, fun j oj hj hl e he hb => h.closed j oj hl hj e.on (by
    unfold depsOf
    exact List.mem_map.2 ⟨e, List.mem_filter.2 ⟨Array.mem_toList_iff.2 he, hb⟩, rfl⟩), ht⟩

theorem puts_head {listed : Array Bool} {a : Act} {w : World} {n : Nat} (hst : stOk ops a0.tmps.size = true) (h : Inv ops C Fl a0 listed a w) (ht : ∀ t, n ≤ t → t < ops.size → listed.getD t true = false) :
    puts ops (valAt ops a) a0 n = a := by
  have h1 := puts_size (ops := ops) (a0 := a0) (valAt ops a) n
  have h2 : (puts ops (valAt ops a) a0 n).tmps = a.tmps := by
    refine Array.ext (h1.1.trans h.agree.size.symm) fun s hs hs' => ?_
    have := puts_getD a hst n s
    simp only [Array.getD, hs, hs', dif_pos] at this
    rw [Array.getInternal_eq_getElem] at this
    rw [this]
    split
    · simp
    · rename_i hno
      have := h.fresh s (fun j hj => by
        have hjn : n ≤ j := by
          rcases Nat.lt_or_ge j n with g | g
          · exact absurd ⟨j, g, hj⟩ hno
          · exact g
        have hlt : j < ops.size := by
          obtain ⟨o, h1, h2⟩ := Option.bind_eq_some_iff.1 hj
          exact (Array.getElem?_eq_some_iff.1 h1).1
        exact getD_both (ht j hjn hlt))
      simp only [Array.getD, hs', dif_pos] at this
      exact this.symm
  cases hp : puts ops (valAt ops a) a0 n
  cases a
  rw [hp] at h1 h2
  have := h1.2.trans h.agree.defers.symm
  simp_all

theorem any_of_inv_tail {n : Nat} (hst : stOk ops a0.tmps.size = true) (hT : ∀ w w', C w → T w w' → C w' ∧ ∀ i v, factAt Fl i v w → factAt Fl i v w')
    (hs : Region.sinkB .any ops n = true) (hc : Region.chainB .any ops n = true) (hn : n < ops.size) (hq : Region.seqB .any ops (ops.size - n) n (headListed n (ops.size - n)) = true)
    (hop : ∀ i, i < n → OpRule P ops Q C T Fl a0 i)
    (hend : ∀ a w, C w → puts ops (valAt ops a) a0 n = a → (∀ i, i < n → factAt Fl i (valAt ops a i) w) → wpList P ops Q (ops.toList.drop n) a w) :
    ∀ (f : Nat) (listed : Array Bool) (a : Act) (w : World), unlisted listed = f + (ops.size - n) → (∀ t, n ≤ t → t < ops.size → listed.getD t true = false) → Inv ops C Fl a0 listed a w → wpAny P .any ops Q (f + (ops.size - n)) listed a w := by
  have hsz : n + (ops.size - n) = ops.size := by omega
  intro f
  induction f with
  | zero =>
    intro listed a w hu ht h
    have hh : ∀ i, i < n → listed.getD i false = true := by
      intro i hi
      cases hb : listed.getD i false with
      | true => rfl
      | false =>
        exfalso
        have hil : i < listed.size := by rw [h.size]; omega
        have hi' : listed[i]? = some false := by
          rw [Array.getElem?_eq_getElem hil]
          simp [Array.getD, hil] at hb
          rw [hb]
        have e1 := unlisted_set hi'
        -- the tail alone has as many
        have hle : ops.size - n ≤ unlisted (listed.setIfInBounds i true) := by
          unfold unlisted
          rw [Array.toList_setIfInBounds]
          have hlen : listed.toList.length = n + (ops.size - n) := by rw [Array.length_toList, h.size, hsz]
          have hd : (listed.toList.set i true).drop n = List.replicate (ops.size - n) false := by
            refine List.ext_getElem (by simp [h.size]) fun j h1 h2 => ?_
            simp only [List.getElem_drop, List.getElem_replicate]
            rw [List.getElem_set_ne (by omega)]
            have hjs : n + j < ops.size := by simp at h2; omega
            have := ht (n + j) (by omega) hjs
            have hjl : n + j < listed.size := by rw [h.size]; exact hjs
            simpa [Array.getD, hjl] using this
          have := List.take_append_drop n (listed.toList.set i true)
          rw [← this, List.filter_append, List.length_append, hd]
          simp
        omega
    have he := listed_head (n := n) (m := ops.size - n) (by rw [h.size, hsz]) hh (fun t h1 h2 => ht t h1 (by omega))
    have := hend a w h.c (puts_head hst h ht) fun i hi => h.facts i (hh i hi)
    rw [Nat.zero_add]
    have := wpAny_of_seq (md := .any) (Q' := Q) (ops.toList.drop n) n listed a w (fun j => by simp [List.getElem?_drop]) (by rw [he]; simpa using hq) this
    simpa using this
  | succ f ih =>
    intro listed a w hu ht h
    rw [show f + 1 + (ops.size - n) = (f + (ops.size - n)) + 1 by omega]
    have hinv := h.head ht
    have hex : ∃ i, i < n ∧ listed.getD i true = false := by
      refine Classical.byContradiction fun hno => ?_
      have hh : ∀ i, i < n → listed.getD i false = true := by
        intro i hi
        have hil : i < listed.size := by rw [h.size]; omega
        cases hb : listed.getD i false with
        | true => rfl
        | false => exact absurd ⟨i, hi, getD_in hil hb⟩ hno
      have he := listed_head (n := n) (m := ops.size - n) (by rw [h.size, hsz]) hh (fun t h1 h2 => ht t h1 (by omega))
      rw [he, unlisted_head] at hu
      omega
    obtain ⟨i0, hi0, hun0⟩ := hex
    refine ⟨fun hr => ?_, ?_⟩
    · have := ready_ne hst h.size hr i0 (by omega)
      rw [getD_both hun0] at this
      cases this
    · intro i hi
      have hin : i < n := by
        rcases Nat.lt_or_ge i n with g | g
        · exact g
        · exact absurd hi (tail_waits hs hc hn hinv _ i0 rfl hi0 hun0 i g)
      have hi' := hi
      unfold Region.ready at hi
      rw [List.mem_filter, List.mem_range] at hi
      obtain ⟨hilt, hr⟩ := hi
      have ho : ops[i]? = some ops[i] := Array.getElem?_eq_getElem hilt
      rw [ho] at hr
      simp only [Option.map_some, Option.getD_some, Bool.and_eq_true, Bool.not_eq_true'] at hr
      have hun : listed[i]? = some false := by
        have hlt : i < listed.size := by rw [h.size]; exact hilt
        have h1 := hr.1
        rw [Array.getElem?_eq_getElem hlt]
        simp [Array.getD, hlt] at h1
        rw [h1]
      have hready : ∀ j ∈ depsOf ops[i], listed.getD j false = true := by
        intro j hj
        unfold depsOf at hj
        obtain ⟨e, he, rfl⟩ := List.mem_map.1 hj
        obtain ⟨he1, he2⟩ := List.mem_filter.1 he
        have := Array.all_eq_true_iff_forall_mem.1 hr.2 e (Array.mem_toList_iff.1 he1)
        rw [he2] at this
        simpa using this
      have hfresh : ∀ s, slotAt ops i s = true → a.tmps.getD s undef = a0.tmps.getD s undef := by
        intro s hs
        refine h.fresh s fun j hj => ?_
        obtain ⟨o', h1, h2⟩ := Option.bind_eq_some_iff.1 hj
        unfold slotAt at hs
        rw [List.all_eq_true] at hs
        have := hs j (List.mem_range.2 (Array.getElem?_eq_some_iff.1 h1).1)
        rw [h1] at this
        simp only [h2, bne_self_eq_false, Bool.false_or, Bool.or_eq_true, decide_eq_true_eq, List.contains_iff_mem] at this
        have hli : listed.getD i false = false := by
          rw [Array.getD_eq_getD_getElem?, hun]; rfl
        cases hb : listed.getD j false with
        | false => rfl
        | true =>
          rcases this with rfl | hm
          · rw [hb] at hli; cases hli
          · have := h.closed j o' hb h1 i hm
            rw [this] at hli; cases hli
      have hdeps := Deps.to _ (hop i hin _ ho a w h.c hfresh) (fun j hj => h.facts j (hready j hj))
      refine wpOp_mono ?_ hdeps
      rintro a' w' ⟨v, rfl, hF, htt⟩
      exact ih _ _ _ (by have := unlisted_set hun; omega) (HeadInv.set hinv hi' hin).tail (h.step hst hT ho hF htt hready)

theorem wp_region_below_tail (n : Nat) {id : Nat} {w0 : World} (hm : P.follows .mixedOrders = true) (Fl : List (Value → World → Prop)) (l : List Nat) (hnf : Fl.length = n) (hst : stOk ops a0.tmps.size = true) (hl : l = List.range n)
    (htl : (Region.sinkB .any ops n && Region.chainB .any ops n && decide (n < ops.size) && Region.seqB .any ops (ops.size - n) n (headListed n (ops.size - n))) = true)
    (hop : RulesF P ops (Below w0.heap.size w0) Fl a0 l) (hs : AllStay Fl)
    (hend : ∀ w, Below w0.heap.size w0 w → Ends (fun _ a w => wpList P ops Q (ops.toList.drop n) a w) w Fl ((ops.toList.take n).map (·.dst)) a0) : (Code.region id ops true).wp P Q a0 w0 := by
  simp only [Bool.and_eq_true, decide_eq_true_eq] at htl
  obtain ⟨⟨⟨h1, h2⟩, h3⟩, h4⟩ := htl
  subst hl
  refine wp_region_any hm ?_
  have := any_of_inv_tail (P := P) (Q := Q) (C := Below w0.heap.size w0) (T := BelowT) (Fl := Fl) (a0 := a0) hst (fun w w' hc ht => ⟨hc.trans (Below.mono ht hc.size), fun i v hf => hs.at i v w w' hf ht⟩) h1 h2 h3 h4
    (fun i hi => (RulesF.to (Q := Q) hop).at i (List.mem_range.2 hi)) (fun a w hc ha hf => by
      have := Ends.to (Q := fun _ a w => wpList P ops Q (ops.toList.drop n) a w) (ops := ops) (a0 := a0) (w := w) (valAt ops a) n 0 Fl ((ops.toList.take n).map (·.dst)) hnf (by simp; omega) (fun i hi => by simp [dstAt, hi, show i < ops.size by omega]) (fun i f hi => by
        have hlt : i < n := by rw [← hnf]; exact (List.getElem?_eq_some_iff.1 hi).1
        have := hf i hlt
        rw [factAt_eq hi] at this
        simpa using this) (hend w hc)
      rw [Nat.zero_add, ha] at this
      exact this) n (Array.replicate ops.size false) a0 w0.drew (by simp [unlisted]; omega) (fun t _ ht => getD_in (by simpa using ht) (getD_replicate_false _ _))
      ⟨by simp, ⟨rfl, rfl, fun _ _ => rfl⟩, (Below.refl _ _).drew, (fun j o hj => by simp [Array.getD] at hj), fun _ _ => rfl, fun i hi => by simp [Array.getD] at hi⟩
  rw [show n + (ops.size - n) = ops.size by omega] at this
  exact this
end
end Go.Proofs.Ytjihemgidogoeaa
