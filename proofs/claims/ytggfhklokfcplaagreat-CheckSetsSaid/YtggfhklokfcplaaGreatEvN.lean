/- A region that draws its order: which operations wait for which; what an operation reads; an invariant is carried through every order. No program is named here. -/
import Derived.Test.YtggfhklokfcplaaGreatEvM
import Derived.Test.YtggfhklokfcplaaGreatRegion
namespace Go.Proofs.YtggfhklokfcplaaGreat
open Go.RowKit
namespace Ev
noncomputable section

/- who waits for whom -/
def bit (m k : Nat) : Bool := Nat.beq (Nat.mod (Nat.div m (Nat.pow 2 k)) 2) 1
theorem bit_eq (m k : Nat) : bit m k = m.testBit k := by
  have h : bit m k = (m / 2 ^ k % 2 == 1) := by
    show Nat.beq (m / 2 ^ k % 2) 1 = (m / 2 ^ k % 2 == 1)
    rcases Nat.mod_two_eq_zero_or_one (m / 2 ^ k) with h | h <;> rw [h] <;> rfl
  rw [h, Nat.testBit_eq_decide_div_mod_eq]
  rcases Nat.mod_two_eq_zero_or_one (m / 2 ^ k) with h | h <;> rw [h] <;> rfl

def getN (t : T Nat) (k : Nat) : Nat := match T.get fuel k t with
  | some m => m
  | none => 0

def maskOf (acc : T Nat) : List Nat → Nat → Nat
  | [], m => m
  | j :: r, m => maskOf acc r (Nat.lor m (Nat.lor (Nat.pow 2 j) (getN acc j)))

def masks : List Oper → Nat → T Nat → T Nat
  | [], _, acc => acc
  | o :: r, i, acc => frcN (maskOf acc (depsOf o) 0) fun m => T.force (T.upd fuel i (some m) acc) (masks r (Nat.succ i))

inductive Reach (ops : Array Oper) : Nat → Nat → Prop
  | one {i j : Nat} {o : Oper} (h : ops[i]? = some o) (hj : j ∈ depsOf o) : Reach ops i j
  | more {i j k : Nat} {o : Oper} (h : ops[i]? = some o) (hj : j ∈ depsOf o) (hr : Reach ops j k) : Reach ops i k

theorem maskOf_bit (acc : T Nat) : ∀ (l : List Nat) (m k : Nat), bit (maskOf acc l m) k = true ↔ bit m k = true ∨ ∃ j ∈ l, k = j ∨ bit (getN acc j) k = true
  | [], m, k => by simp [maskOf]
  | j :: r, m, k => by
    rw [maskOf, maskOf_bit acc r]
    have h : bit (Nat.lor m (Nat.lor (Nat.pow 2 j) (getN acc j))) k = true ↔ bit m k = true ∨ k = j ∨ bit (getN acc j) k = true := by
      simp only [bit_eq]
      show (m ||| (2 ^ j ||| getN acc j)).testBit k = true ↔ _
      simp only [Nat.testBit_or, Bool.or_eq_true, Nat.testBit_two_pow, decide_eq_true_eq]
      constructor
      · rintro (h | h | h)
        · exact .inl h
        · exact .inr (.inl h.symm)
        · exact .inr (.inr h)
      · rintro (h | h | h)
        · exact .inl h
        · exact .inr (.inl h.symm)
        · exact .inr (.inr h)
    rw [h]
    constructor
    · rintro ((h | h | h) | ⟨j', h1, h2⟩)
      · exact .inl h
      · exact .inr ⟨j, by simp, .inl h⟩
      · exact .inr ⟨j, by simp, .inr h⟩
      · exact .inr ⟨j', by simp [h1], h2⟩
    · rintro (h | ⟨j', h1, h2⟩)
      · exact .inl (.inl h)
      · rcases List.mem_cons.1 h1 with rfl | h1
        · exact .inl (.inr h2)
        · exact .inr ⟨j', h1, h2⟩

theorem masks_ok {ops : Array Oper} {size : Nat} (hst : stOk ops size = true) : ∀ (l : List Oper) (i : Nat) (acc : T Nat), ops.toList.drop i = l →
    (∀ j, j < i → ∀ k, bit (getN acc j) k = true ↔ Reach ops j k) → ∀ j, j < ops.size → ∀ k, bit (getN (masks l i acc) j) k = true ↔ Reach ops j k
  | [], i, acc, hl, h, j, hj, k => by
    have : ops.size ≤ i := by have := congrArg List.length hl; simp at this; omega
    exact h j (by omega) k
  | o :: r, i, acc, hl, h, j, hj, k => by
    rw [masks, frcN_eq, T.force_eq]
    have hi : i < ops.size := by have := congrArg List.length hl; simp at this; omega
    have hio : ops[i]? = some o := by
      have h2 := congrArg List.head? hl
      rw [List.head?_drop] at h2
      simpa using h2
    refine masks_ok hst r (i + 1) _ (by rw [← List.drop_drop, hl]; rfl) ?_ j hj k
    intro j hj k
    by_cases e : j = i
    · subst e
      have hg : getN (T.upd fuel j (some (maskOf acc (depsOf o) 0)) acc) j = maskOf acc (depsOf o) 0 := by
        unfold getN
        rw [show T.get fuel j (T.upd fuel j (some (maskOf acc (depsOf o) 0)) acc) = some (maskOf acc (depsOf o) 0) from T.at_put_eq _ _ _]
      rw [hg, maskOf_bit]
      have h0 : bit 0 k = false := by rw [bit_eq]; simp
      have hlt : ∀ x ∈ depsOf o, x < j := by
        intro x hx
        unfold depsOf at hx
        obtain ⟨e, he, rfl⟩ := List.mem_map.1 hx
        obtain ⟨he1, he2⟩ := List.mem_filter.1 he
        exact (stOk_after hst hio).1 e (Array.mem_toList_iff.1 he1) he2
      constructor
      · rintro (h1 | ⟨x, hx, h2⟩)
        · rw [h0] at h1; cases h1
        · rcases h2 with rfl | h2
          · exact .one hio hx
          · exact .more hio hx ((h x (hlt x hx) k).1 h2)
      · intro hr
        right
        cases hr with
        | one h1 h2 => rw [hio] at h1; cases h1; exact ⟨_, h2, .inl rfl⟩
        | more h1 h2 h3 => rw [hio] at h1; cases h1; exact ⟨_, h2, .inr ((h _ (hlt _ h2) k).2 h3)⟩
    · have hg : getN (T.upd fuel i (some (maskOf acc (depsOf o) 0)) acc) j = getN acc j := by
        unfold getN; rw [T.get_upd_ne _ _ _ _ _ e]
      rw [hg]
      exact h j (by omega) k

/-- All that are done are closed under who waits for whom. -/
theorem Reach.closed {ops : Array Oper} {D : Nat → Prop} (hc : ∀ j o, D j → ops[j]? = some o → ∀ i ∈ depsOf o, D i) {i k : Nat} (hr : Reach ops i k) : (∀ o, ops[i]? = some o → ∀ j ∈ depsOf o, D j) → D k := by
  induction hr with
  | one h hj => intro hd; exact hd _ h _ hj
  | more h hj hr ih => intro hd; exact ih fun o ho x hx => hc _ o (hd _ h _ hj) ho x hx

theorem Reach.lt {ops : Array Oper} {size : Nat} (hst : stOk ops size = true) {i k : Nat} (hr : Reach ops i k) : k < i := by
  have hlt : ∀ {i : Nat} {o : Oper}, ops[i]? = some o → ∀ x ∈ depsOf o, x < i := by
    intro i o hio x hx
    unfold depsOf at hx
    obtain ⟨e, he, rfl⟩ := List.mem_map.1 hx
    obtain ⟨he1, he2⟩ := List.mem_filter.1 he
    exact (stOk_after hst hio).1 e (Array.mem_toList_iff.1 he1) he2
  induction hr with
  | one h hj => exact hlt h _ hj
  | more h hj hr ih => exact Nat.lt_trans ih (hlt h _ hj)

/- an invariant through every order -/
theorem any_order {P : Program} {ops : Array Oper} {Q : Exit → Act → World → Prop} {size : Nat} (hst : stOk ops size = true) (I : Array Bool → Act → World → Prop)
    (hsz : ∀ listed a w, I listed a w → listed.size = ops.size)
    (hstep : ∀ listed a w i o, I listed a w → ops[i]? = some o → listed[i]? = some false → (∀ j ∈ depsOf o, listed.getD j false = true) → wpOp P ops Q i (fun a' w' => I (listed.setIfInBounds i true) a' w') a w)
    (hend : ∀ listed a w, I listed a w → (∀ i, i < ops.size → listed.getD i false = true) → Q .normal a w) :
    ∀ (fuel : Nat) (listed : Array Bool) (a : Act) (w : World), unlisted listed = fuel → I listed a w → wpAny P .any ops Q fuel listed a w := by
  intro fuel
  induction fuel with
  | zero =>
    intro listed a w hu h
    have hs := hsz _ _ _ h
    have hall : ∀ i, i < listed.size → listed.getD i false = true := by
      intro i hi
      unfold unlisted at hu
      have := List.filter_eq_nil_iff.1 (List.eq_nil_of_length_eq_zero hu) listed[i] (by simp)
      simpa [Array.getD, hi] using this
    refine ⟨?_, hend _ a w h fun i hi => hall i (by rw [hs]; exact hi)⟩
    unfold Region.ready
    rw [List.filter_eq_nil_iff]
    intro i hi
    rw [List.mem_range] at hi
    have h1 := hall i (by rw [hs]; exact hi)
    have : i < listed.size := by rw [hs]; exact hi
    simp [Array.getD, this] at h1 ⊢
    simp [h1]
  | succ fuel ih =>
    intro listed a w hu h
    have hs := hsz _ _ _ h
    refine ⟨fun hr => hend _ a w h fun i hi => ready_ne hst hs hr i hi, ?_⟩
    intro i hi
    unfold Region.ready at hi
    rw [List.mem_filter, List.mem_range] at hi
    obtain ⟨hilt, hr⟩ := hi
    have ho : ops[i]? = some ops[i] := Array.getElem?_eq_getElem hilt
    rw [ho] at hr
    simp only [Option.map_some, Option.getD_some, Bool.and_eq_true, Bool.not_eq_true'] at hr
    have hun : listed[i]? = some false := by
      have hlt : i < listed.size := by rw [hs]; exact hilt
      have h1 := hr.1
      rw [Array.getElem?_eq_getElem hlt]
      simp [Array.getD, hlt] at h1
      rw [h1]
    have hready : ∀ j ∈ depsOf ops[i], listed.getD j false = true := by
      intro j hj
      unfold depsOf at hj
      obtain ⟨e, he, rfl⟩ := List.mem_map.1 hj
      obtain ⟨he1, he2⟩ := List.mem_filter.1 he
      have := Array.all_eq_true_iff_forall_mem.1 hr.2 e (Array.mem_toList_iff.1 he1)
      rw [he2] at this
      simpa using this
    refine wpOp_mono ?_ (hstep _ a w i _ h ho hun hready)
    intro a' w' hI
    exact ih _ _ _ (by have := unlisted_set hun; omega) hI

/- what an operation reads -/
theorem opnds_congr {t t' : T AV} : ∀ {l : List Operand}, (∀ x ∈ l, opnd t x = opnd t' x) → opnds t l = opnds t' l
  | [], _ => rfl
  | x :: r, h => by
    simp only [opnds]
    rw [h x (by simp), opnds_congr fun y hy => h y (by simp [hy])]
theorem opndsP_congr {t t' : T AV} : ∀ {l : List (Nat × Operand)}, (∀ x ∈ l.map (·.2), opnd t x = opnd t' x) → opndsP t l = opndsP t' l
  | [], _ => rfl
  | (i, x) :: r, h => by
    simp only [opndsP]
    rw [h x (by simp), opndsP_congr fun y hy => h y (by simp at hy ⊢; right; exact hy)]
theorem opndO_congr {t t' : T AV} {x : Option Operand} (h : ∀ y ∈ x.toArray, opnd t y = opnd t' y) : opndO t x = opndO t' x := by
  cases x with
  | none => rfl
  | some y => simp only [opndO]; rw [h y (by simp)]

theorem opA_congr (P : Program) {t t' : T AV} {m : M} {o : Oper} (h : ∀ x ∈ o.op.operands, opnd t x = opnd t' x) : opA P t m o = opA P t' m o := by
  obtain ⟨dst, op, ty, pos, after, guard⟩ := o
  dsimp only at h
  cases op <;> simp only [Op.operands] at h <;> simp only [opA]
  case move x => rw [h x (by simp)]
  case assign x => rw [h x (by simp)]
  case pick c a b => rw [h c (by simp), h a (by simp), h b (by simp)]
  case box el x => rw [h x (by simp)]
  case build ty ps => rw [opndsP_congr fun x hx => h x (by simpa using hx)]
  case buildSlice ty n ps => rw [opndsP_congr fun x hx => h x (by simpa using hx)]
  case load ty x => rw [h x (by simp)]
  case store ty x y => rw [h x (by simp), h y (by simp)]
  case nilCheck x => rw [h x (by simp)]
  case binOp op ty x y yt => rw [h x (by simp), h y (by simp)]
  case unOp op ty x => rw [h x (by simp)]
  case convert s d x => rw [h x (by simp)]
  case makeFunc fn first cap => rw [opnds_congr fun x hx => h x (by simp at hx ⊢; exact .inl hx), opnds_congr fun x hx => h x (by simp at hx ⊢; exact .inr hx)]
  case makeSlice ty x y => rw [h x (by simp), h y (by simp)]
  case slice ty x lo hi mx => rw [h x (by simp), opndO_congr fun y hy => h y (by simp only [Array.mem_append]; exact .inl (.inl (.inr hy))), opndO_congr fun y hy => h y (by simp only [Array.mem_append]; exact .inl (.inr hy)), opndO_congr fun y hy => h y (by simp only [Array.mem_append]; exact .inr hy)]
  case fieldAddr s x f => rw [h x (by simp)]
  case field s x f => rw [h x (by simp)]
  case indexAddr ty x i => rw [h x (by simp), h i (by simp)]
  case index ty x i => rw [h x (by simp), h i (by simp)]
  case extract x i => rw [h x (by simp)]
  case call c =>
    simp only [Call.operands] at h
    rw [opnds_congr (t := t) (t' := t') (l := c.args.toList) fun x hx => h x (by simp only [Array.mem_append]; exact .inr (by simpa using hx))]
    cases hc : c.callee with
    | value f =>
      rw [hc] at h
      have e := h f (by simp)
      cases opnds t' c.args.toList with
      | none => rfl
      | some args => dsimp only; rw [e]
    | invoke r n => rfl
    | builtin b => cases opnds t' c.args.toList <;> rfl
end
end Ev
end Go.Proofs.YtggfhklokfcplaaGreat
