/- A REGION THAT DRAWS ITS ORDER, ONE OPERATION AT A TIME: each operation is shown once, from the facts that those have left which it waits for; each fact stays whatever the others do. No program is named here. -/
import Derived.Test.YtjihemgidogoeaaBase
namespace Go.Proofs.Ytjihemgidogoeaa
open Go.RowKit

def dstAt (ops : Array Oper) (i : Nat) : Option Tmp := (ops[i]?).bind (·.dst)
def valAt (ops : Array Oper) (a : Act) (i : Nat) : Value := match dstAt ops i with | some d => a.tmps.getD d undef | none => undef
/-- What an operation leaves is a known value. -/
def Is (x : Value) : Value → World → Prop := fun v _ => v = x
/-- The operations before it that it waits for stand ahead of it in the text; each writes a slot of its own. -/
def stOk (ops : Array Oper) (size : Nat) : Bool :=
  (List.range ops.size).all fun i => match ops[i]? with
    | some o => o.after.all (fun e => !Region.binds .any e || decide (e.on < i)) && (match o.dst with | some d => decide (d < size) && (List.range i).all (fun j => dstAt ops j != some d) | none => true)
    | none => true
def depsOf (o : Oper) : List Nat := (o.after.toList.filter (Region.binds .any)).map (·.on)
structure Agree (ops : Array Oper) (a0 a : Act) : Prop where
  defers : a.defers = a0.defers
  size : a.tmps.size = a0.tmps.size
  same : ∀ s, (ops.all fun o => o.dst != some s) = true → a.tmps.getD s undef = a0.tmps.getD s undef
def factAt : List (Value → World → Prop) → Nat → Value → World → Prop
  | [], _ => fun _ _ => True
  | f :: _, 0 => f
  | _ :: r, i + 1 => factAt r i
def Deps (ops : Array Oper) (Fl : List (Value → World → Prop)) (a : Act) (w : World) (G : Prop) : List Nat → Prop
  | [] => G
  | j :: js => factAt Fl j (valAt ops a j) w → Deps ops Fl a w G js
/-- Whoever writes the slot s waits for operation i (or is it): so the slot is as it was when i comes. -/
def slotAt (ops : Array Oper) (i s : Nat) : Bool := (List.range ops.size).all fun j => match ops[j]? with
  | some o => o.dst != some s || decide (j = i) || (depsOf o).contains i
  | none => true
/-- One operation's goal: whatever the frame, whatever the world that keeps C, the facts of those that it waits for at hand. -/
def OpRule (P : Program) (ops : Array Oper) (Q : Exit → Act → World → Prop) (C : World → Prop) (T : World → World → Prop) (Fl : List (Value → World → Prop)) (a0 : Act) (i : Nat) : Prop :=
  ∀ o, ops[i]? = some o → ∀ a w, C w → (∀ s, slotAt ops i s = true → a.tmps.getD s undef = a0.tmps.getD s undef) → Deps ops Fl a w (wpOp P ops Q i (fun a' w' => ∃ v, a' = a.put o.dst v ∧ factAt Fl i (if o.dst = none then undef else v) w' ∧ T w w') a w) (depsOf o)
def Ends (Q : Exit → Act → World → Prop) (w : World) : List (Value → World → Prop) → List (Option Tmp) → Act → Prop
  | f :: fs, d :: ds, a => ∀ v, f v w → Ends Q w fs ds (a.put d v)
  | _, _, a => Q .normal a w

section
variable {P : Program} {ops : Array Oper} {Q : Exit → Act → World → Prop} {C : World → Prop} {T : World → World → Prop} {Fl : List (Value → World → Prop)} {a0 : Act}

theorem Deps.to {a : Act} {w : World} {G : Prop} : ∀ (js : List Nat), Deps ops Fl a w G js → (∀ j ∈ js, factAt Fl j (valAt ops a j) w) → G
  | [], h, _ => h
  | j :: js, h, hf => Deps.to js (h (hf j (by simp))) fun i hi => hf i (by simp [hi])

theorem factAt_eq : ∀ {Fl : List (Value → World → Prop)} {i : Nat} {f : Value → World → Prop}, Fl[i]? = some f → factAt Fl i = f
  | g :: r, 0, f, h => by simpa [factAt] using h
  | g :: r, i + 1, f, h => factAt_eq (Fl := r) (by simpa using h)

theorem Deps.imp {a : Act} {w : World} {G G' : Prop} : ∀ {js : List Nat}, Deps ops Fl a w G js → (G → G') → Deps ops Fl a w G' js
  | [], h, hi => hi h
  | _ :: js, h, hi => fun hf => Deps.imp (js := js) (h hf) hi

theorem stOk_after {size i : Nat} {o : Oper} (h : stOk ops size = true) (ho : ops[i]? = some o) : (∀ e ∈ o.after, Region.binds .any e = true → e.on < i) ∧ (∀ d, o.dst = some d → d < size ∧ ∀ j, j < i → dstAt ops j ≠ some d) := by
  unfold stOk at h
  rw [List.all_eq_true] at h
  have hi : i < ops.size := (Array.getElem?_eq_some_iff.1 ho).1
  have := h i (List.mem_range.2 hi)
  rw [ho] at this
  simp only [Bool.and_eq_true] at this
  refine ⟨fun e he hb => ?_, fun d hd => ?_⟩
  · have := Array.all_eq_true_iff_forall_mem.1 this.1 e he
    simpa [hb] using this
  · have h2 := this.2
    rw [hd] at h2
    simp only [Bool.and_eq_true, decide_eq_true_eq, List.all_eq_true, List.mem_range, bne_iff_ne, ne_eq] at h2
    exact h2
theorem stOk_apart {size i j : Nat} {d : Tmp} (h : stOk ops size = true) (hi : dstAt ops i = some d) (hj : dstAt ops j = some d) : i = j := by
  obtain ⟨oi, h1, h2⟩ := Option.bind_eq_some_iff.1 hi
  obtain ⟨oj, h3, h4⟩ := Option.bind_eq_some_iff.1 hj
  rcases Nat.lt_trichotomy i j with g | g | g
  · exact absurd hi (((stOk_after h h3).2 d h4).2 i g)
  · exact g
  · exact absurd hj (((stOk_after h h1).2 d h2).2 j g)

theorem put_size (a : Act) (d : Option Tmp) (v : Value) : (a.put d v).tmps.size = a.tmps.size := by cases d <;> simp [Act.put]
theorem put_defers (a : Act) (d : Option Tmp) (v : Value) : (a.put d v).defers = a.defers := by cases d <;> rfl
theorem put_getD (a : Act) (d s : Nat) (v : Value) (h : d < a.tmps.size) : (a.put (some d) v).tmps.getD s undef = if s = d then v else a.tmps.getD s undef := by
  simp only [Act.put, Array.getD_eq_getD_getElem?, Array.getElem?_setIfInBounds]
  by_cases e : d = s
  · subst e; simp [h]
  · simp [e, Ne.symm e]

structure Inv (ops : Array Oper) (C : World → Prop) (Fl : List (Value → World → Prop)) (a0 : Act) (listed : Array Bool) (a : Act) (w : World) : Prop where
  size : listed.size = ops.size
  agree : Agree ops a0 a
  c : C w
  closed : ∀ (j : Nat) (o : Oper), listed.getD j false = true → ops[j]? = some o → ∀ i ∈ depsOf o, listed.getD i false = true
  fresh : ∀ s, (∀ j, dstAt ops j = some s → listed.getD j false = false) → a.tmps.getD s undef = a0.tmps.getD s undef
  facts : ∀ i, listed.getD i false = true → factAt Fl i (valAt ops a i) w

theorem Inv.step {listed : Array Bool} {a : Act} {w w' : World} {i : Nat} {o : Oper} {v : Value} (hst : stOk ops a0.tmps.size = true)
    (hT : ∀ w w', C w → T w w' → C w' ∧ ∀ i v, factAt Fl i v w → factAt Fl i v w') (h : Inv ops C Fl a0 listed a w) (ho : ops[i]? = some o)
    (hF : factAt Fl i (if o.dst = none then undef else v) w') (ht : T w w') (hready : ∀ j ∈ depsOf o, listed.getD j false = true) : Inv ops C Fl a0 (listed.setIfInBounds i true) (a.put o.dst v) w' := by
  have hset : ∀ j, listed.getD j false = true → (listed.setIfInBounds i true).getD j false = true := by
    intro j hj
    simp only [Array.getD_eq_getD_getElem?, Array.getElem?_setIfInBounds] at hj ⊢
    split
    · split <;> simp_all
    · exact hj
  have hseti : (listed.setIfInBounds i true).getD i false = true := by
    have : i < listed.size := by rw [h.size]; exact (Array.getElem?_eq_some_iff.1 ho).1
    simp [this]
  obtain ⟨hc, hf⟩ := hT w w' h.c ht
  have hdo : dstAt ops i = o.dst := by simp [dstAt, ho]
  refine ⟨by simp [h.size], ⟨by rw [put_defers]; exact h.agree.defers, by rw [put_size]; exact h.agree.size, ?_⟩, hc, ?_, ?_, ?_⟩
  · intro s hs
    cases hd : o.dst with
    | none => exact h.agree.same s hs
    | some d =>
      have hlt := ((stOk_after hst ho).2 d hd).1
      rw [put_getD _ _ _ _ (by rw [h.agree.size]; exact hlt)]
      have hne : s ≠ d := by
        rintro rfl
        have := Array.all_eq_true_iff_forall_mem.1 hs o (Array.mem_of_getElem? ho)
        simp [hd] at this
      rw [if_neg hne]
      exact h.agree.same s hs
  · intro j o' hj hoj k hk
    by_cases e : j = i
    · subst e
      rw [ho] at hoj
      cases hoj
      exact hset k (hready k hk)
    · refine hset k (h.closed j o' ?_ hoj k hk)
      simp only [Array.getD_eq_getD_getElem?, Array.getElem?_setIfInBounds] at hj ⊢
      rw [if_neg (Ne.symm e)] at hj
      exact hj
  · intro s hs
    have hold := h.fresh s (fun j hj => by
      have := hs j hj
      cases hb : listed.getD j false with
      | false => rfl
      | true => rw [hset j hb] at this; cases this)
    cases hd : o.dst with
    | none => exact hold
    | some d =>
      have hlt := ((stOk_after hst ho).2 d hd).1
      rw [put_getD _ _ _ _ (by rw [h.agree.size]; exact hlt), if_neg]
      · exact hold
      · rintro rfl
        have := hs i (hdo.trans hd)
        rw [hseti] at this
        cases this
  · intro j hj
    by_cases e : j = i
    · subst e
      unfold valAt
      rw [hdo]
      cases hd : o.dst with
      | none => simpa [hd] using hF
      | some d =>
        have hlt := ((stOk_after hst ho).2 d hd).1
        dsimp only
        rw [put_getD _ _ _ _ (by rw [h.agree.size]; exact hlt)]
        simpa [hd] using hF
    · have hj' : listed.getD j false = true := by
        simp only [Array.getD_eq_getD_getElem?, Array.getElem?_setIfInBounds] at hj ⊢
        rw [if_neg (Ne.symm e)] at hj
        exact hj
      have hv : valAt ops (a.put o.dst v) j = valAt ops a j := by
        unfold valAt
        cases hdj : dstAt ops j with
        | none => rfl
        | some d' =>
          cases hd : o.dst with
          | none => rfl
          | some d =>
            have hlt := ((stOk_after hst ho).2 d hd).1
            dsimp only
            rw [put_getD _ _ _ _ (by rw [h.agree.size]; exact hlt), if_neg]
            rintro rfl
            exact e (stOk_apart hst hdj (hdo.trans hd))
      rw [hv]
      exact hf j _ (h.facts j hj')

/-- How many are not listed. -/
def unlisted (listed : Array Bool) : Nat := (listed.toList.filter (! ·)).length
theorem unlisted_set {listed : Array Bool} {i : Nat} (h : listed[i]? = some false) : unlisted (listed.setIfInBounds i true) + 1 = unlisted listed := by
  unfold unlisted
  have hi := (Array.getElem?_eq_some_iff.1 h).1
  have hv := (Array.getElem?_eq_some_iff.1 h).2
  rw [Array.toList_setIfInBounds]
  have : listed.toList[i]? = some false := by simpa using h
  generalize listed.toList = l at this
  clear h hi hv
  induction l generalizing i with
  | nil => simp at this
  | cons b r ih =>
    cases i with
    | zero => simp at this; subst this; simp
    | succ i =>
      have := ih (i := i) (by simpa using this)
      cases b <;> simp [List.set_cons_succ] <;> omega

theorem ready_ne {size : Nat} {listed : Array Bool} (hst : stOk ops size = true) (hs : listed.size = ops.size) (h : Region.ready .any ops listed = []) : ∀ i, i < ops.size → listed.getD i false = true := by
  intro i
  induction i using Nat.strongRecOn with
  | _ i ih =>
    intro hi
    by_cases hl : listed.getD i false = true
    · exact hl
    · exfalso
      have hmem : i ∈ Region.ready .any ops listed := by
        unfold Region.ready
        rw [List.mem_filter]
        refine ⟨List.mem_range.2 hi, ?_⟩
        have ho : ops[i]? = some ops[i] := Array.getElem?_eq_getElem hi
        have hlt : listed.getD i true = false := by
          have : i < listed.size := by omega
          simp [Array.getD, this] at hl ⊢
          exact hl
        simp only [ho, hlt, Option.map_some, Option.getD_some, Bool.not_false, Bool.true_and]
        rw [Array.all_eq_true_iff_forall_mem]
        intro e he
        by_cases hb : Region.binds .any e = true
        · have := (stOk_after hst ho).1 e he hb
          rw [ih e.on this (by omega)]
          simp
        · simp [hb]
      rw [h] at hmem
      cases hmem

theorem any_of_inv (hst : stOk ops a0.tmps.size = true) (hT : ∀ w w', C w → T w w' → C w' ∧ ∀ i v, factAt Fl i v w → factAt Fl i v w')
    (hop : ∀ i, i < ops.size → OpRule P ops Q C T Fl a0 i)
    (hend : ∀ a w, C w → Agree ops a0 a → (∀ i, i < ops.size → factAt Fl i (valAt ops a i) w) → Q .normal a w) :
    ∀ (fuel : Nat) (listed : Array Bool) (a : Act) (w : World), unlisted listed = fuel → Inv ops C Fl a0 listed a w → wpAny P .any ops Q fuel listed a w := by
  intro fuel
  induction fuel with
  | zero =>
    intro listed a w hu h
    have hall : ∀ i, i < listed.size → listed.getD i false = true := by
      intro i hi
      unfold unlisted at hu
      have := List.filter_eq_nil_iff.1 (List.eq_nil_of_length_eq_zero hu) listed[i] (by simp)
      simpa [Array.getD, hi] using this
    refine ⟨?_, hend a w h.c h.agree fun i hi => h.facts i (hall i (by rw [h.size]; exact hi))⟩
    unfold Region.ready
    rw [List.filter_eq_nil_iff]
    intro i hi
    rw [List.mem_range] at hi
    have h1 := hall i (by rw [h.size]; exact hi)
    have : i < listed.size := by rw [h.size]; exact hi
    simp [Array.getD, this] at h1 ⊢
    simp [h1]
  | succ fuel ih =>
    intro listed a w hu h
    refine ⟨fun hr => hend a w h.c h.agree fun i hi => h.facts i (ready_ne hst h.size hr i hi), ?_⟩
    intro i hi
    unfold Region.ready at hi
    rw [List.mem_filter, List.mem_range] at hi
    obtain ⟨hilt, hr⟩ := hi
    have ho : ops[i]? = some ops[i] := Array.getElem?_eq_getElem hilt
    rw [ho] at hr
    simp only [Option.map_some, Option.getD_some, Bool.and_eq_true, Bool.not_eq_true'] at hr
    have hun : listed[i]? = some false := by
      have hlt : i < listed.size := by rw [h.size]; exact hilt
      have h1 := hr.1
      rw [Array.getElem?_eq_getElem hlt]
      simp [Array.getD, hlt] at h1
      rw [h1]
    have hready : ∀ j ∈ depsOf ops[i], listed.getD j false = true := by
      intro j hj
      unfold depsOf at hj
      obtain ⟨e, he, rfl⟩ := List.mem_map.1 hj
      obtain ⟨he1, he2⟩ := List.mem_filter.1 he
      have := Array.all_eq_true_iff_forall_mem.1 hr.2 e (Array.mem_toList_iff.1 he1)
      rw [he2] at this
      simpa using this
    have hfresh : ∀ s, slotAt ops i s = true → a.tmps.getD s undef = a0.tmps.getD s undef := by
      intro s hs
      refine h.fresh s fun j hj => ?_
      obtain ⟨o', h1, h2⟩ := Option.bind_eq_some_iff.1 hj
      unfold slotAt at hs
      rw [List.all_eq_true] at hs
      have := hs j (List.mem_range.2 (Array.getElem?_eq_some_iff.1 h1).1)
      rw [h1] at this
      simp only [h2, bne_self_eq_false, Bool.false_or, Bool.or_eq_true, decide_eq_true_eq, List.contains_iff_mem] at this
      have hli : listed.getD i false = false := by
        rw [Array.getD_eq_getD_getElem?, hun]; rfl
      cases hb : listed.getD j false with
      | false => rfl
      | true =>
        rcases this with rfl | hm
        · rw [hb] at hli; cases hli
        · have := h.closed j o' hb h1 i hm
          rw [this] at hli; cases hli
    have hdeps := Deps.to _ (hop i hilt _ ho a w h.c hfresh) (fun j hj => h.facts j (hready j hj))
    refine wpOp_mono ?_ hdeps
    rintro a' w' ⟨v, rfl, hF, ht⟩
    exact ih _ _ _ (by have := unlisted_set hun; omega) (h.step hst hT ho hF ht hready)

def puts (ops : Array Oper) (vs : Nat → Value) (a0 : Act) : Nat → Act
  | 0 => a0
  | n + 1 => (puts ops vs a0 n).put (dstAt ops n) (vs n)
theorem puts_size (vs : Nat → Value) : ∀ n, (puts ops vs a0 n).tmps.size = a0.tmps.size ∧ (puts ops vs a0 n).defers = a0.defers
  | 0 => ⟨rfl, rfl⟩
  | n + 1 => ⟨by rw [puts, put_size]; exact (puts_size vs n).1, by rw [puts, put_defers]; exact (puts_size vs n).2⟩
theorem puts_getD (a : Act) (hst : stOk ops a0.tmps.size = true) : ∀ n s, (puts ops (valAt ops a) a0 n).tmps.getD s undef = if (∃ i, i < n ∧ dstAt ops i = some s) then a.tmps.getD s undef else a0.tmps.getD s undef
  | 0, s => by simp [puts]
  | n + 1, s => by
    rw [puts]
    cases hd : dstAt ops n with
    | none =>
      show (puts ops (valAt ops a) a0 n).tmps.getD s undef = _
      rw [puts_getD a hst n s]
      congr 1
      refine propext ⟨fun ⟨i, h1, h2⟩ => ⟨i, by omega, h2⟩, fun ⟨i, h1, h2⟩ => ⟨i, ?_, h2⟩⟩
      by_cases e : i = n
      · subst e; rw [hd] at h2; cases h2
      · omega
    | some d =>
      have hlt : d < a0.tmps.size := by
        obtain ⟨o, h1, h2⟩ := Option.bind_eq_some_iff.1 hd
        exact ((stOk_after hst h1).2 d h2).1
      rw [put_getD _ _ _ _ (by rw [(puts_size _ n).1]; exact hlt), puts_getD a hst n s]
      by_cases e : s = d
      · subst e
        rw [if_pos rfl, if_pos ⟨n, by omega, hd⟩]
        simp [valAt, hd]
      · rw [if_neg e]
        congr 1
        refine propext ⟨fun ⟨i, h1, h2⟩ => ⟨i, by omega, h2⟩, fun ⟨i, h1, h2⟩ => ⟨i, ?_, h2⟩⟩
        by_cases e' : i = n
        · subst e'; rw [hd] at h2; cases h2; exact absurd rfl e
        · omega
theorem puts_eq (a : Act) (hst : stOk ops a0.tmps.size = true) (h : Agree ops a0 a) : puts ops (valAt ops a) a0 ops.size = a := by
  have h1 := puts_size (ops := ops) (a0 := a0) (valAt ops a) ops.size
  have h2 : (puts ops (valAt ops a) a0 ops.size).tmps = a.tmps := by
    refine Array.ext (h1.1.trans h.size.symm) fun s hs hs' => ?_
    have := puts_getD a hst ops.size s
    simp only [Array.getD, hs, hs', dif_pos] at this
    rw [Array.getInternal_eq_getElem] at this
    rw [this]
    split
    · simp
    · rename_i hn
      have := h.same s (by
        rw [Array.all_eq_true_iff_forall_mem]
        intro o ho
        obtain ⟨i, hi, rfl⟩ := Array.mem_iff_getElem.1 ho
        rw [bne_iff_ne]
        exact fun e => hn ⟨i, hi, by simp [dstAt, hi, e]⟩)
      simp only [Array.getD, hs', dif_pos] at this
      exact this.symm
  cases hp : puts ops (valAt ops a) a0 ops.size
  cases a
  rw [hp] at h1 h2
  have := h1.2.trans h.defers.symm
  simp_all

theorem Ends.to {w : World} (vs : Nat → Value) : ∀ (n k : Nat) (fs : List (Value → World → Prop)) (ds : List (Option Tmp)), fs.length = n → ds.length = n → (∀ i, i < n → ds[i]? = some (dstAt ops (k + i))) → (∀ (i : Nat) (f : Value → World → Prop), fs[i]? = some f → f (vs (k + i)) w) →
    Ends Q w fs ds (puts ops vs a0 k) → Q .normal (puts ops vs a0 (k + n)) w
  | 0, k, [], [], _, _, _, _, h => h
  | n + 1, k, f :: fs, d :: ds, h1, h2, hd, hf, h => by
    have e := hd 0 (by omega)
    simp at e
    have := Ends.to vs n (k + 1) fs ds (by simpa using h1) (by simpa using h2) (fun i hi => by have := hd (i + 1) (by omega); simpa [Nat.add_assoc, Nat.add_comm 1 i] using this) (fun i g hg => by have := hf (i + 1) g (by simpa using hg); simpa [Nat.add_assoc, Nat.add_comm 1 i] using this) (by
      rw [puts, ← e]
      exact h (vs k) (hf 0 f rfl))
    rw [show k + (n + 1) = k + 1 + n from by omega]
    exact this

/-- THE THEOREM: a region in whatever order. -/
theorem wp_region_rg {id : Nat} {w0 : World} (hm : P.follows .mixedOrders = true) (C : World → Prop) (T : World → World → Prop) (Fl : List (Value → World → Prop)) (hn : Fl.length = ops.size) (hst : stOk ops a0.tmps.size = true)
    (hC0 : C w0.drew) (hT : ∀ w w', C w → T w w' → C w' ∧ ∀ i v, factAt Fl i v w → factAt Fl i v w')
    (hop : ∀ i, i < ops.size → OpRule P ops Q C T Fl a0 i)
    (hend : ∀ w, C w → Ends Q w Fl (ops.toList.map (·.dst)) a0) : (Code.region id ops true).wp P Q a0 w0 := by
  refine wp_region_any hm ?_
  refine any_of_inv hst hT hop ?_ ops.size _ a0 _ ?_ ⟨by simp, ⟨rfl, rfl, fun _ _ => rfl⟩, hC0, (fun j o hj => by simp [Array.getD] at hj), fun _ _ => rfl, ?_⟩
  · intro a w hc ha hf
    rw [← puts_eq a hst ha]
    have := Ends.to (Q := Q) (ops := ops) (a0 := a0) (w := w) (valAt ops a) ops.size 0 Fl (ops.toList.map (·.dst)) hn (by simp) (fun i hi => by simp [dstAt, hi]) (fun i f hi => by
      have hlt : i < ops.size := by rw [← hn]; exact (List.getElem?_eq_some_iff.1 hi).1
      have := hf i hlt
      rw [factAt_eq hi] at this
      simpa using this) (hend w hc)
    simpa using this
  · simp [unlisted]
  · intro i hi
    simp [Array.getD] at hi

/-! ### The everyday case: each operation reads, or calls what makes new memory alone. -/
def Stays (f : Value → World → Prop) : Prop := ∀ v a b, f v a → Below a.heap.size a b → f v b
theorem Stays.is (x : Value) : Stays (Is x) := fun _ _ _ h _ => h
/-- A slice of numbers that reads as xs. -/
def IsRd (k : IntKind) (xs : List Int) : Value → World → Prop := fun v w => ∃ ao cap, v = .slice ao xs.length cap ∧ Rd k w ao xs.length cap xs
theorem Stays.rd (k : IntKind) (xs : List Int) : Stays (IsRd k xs) := fun _ _ _ ⟨ao, cap, e, h⟩ hb => ⟨ao, cap, e, h.below hb⟩
def AllStay : List (Value → World → Prop) → Prop
  | [] => True
  | f :: r => Stays f ∧ AllStay r
theorem AllStay.at : ∀ {Fl : List (Value → World → Prop)}, AllStay Fl → ∀ i, Stays (factAt Fl i)
  | [], _, i => by simp [factAt, Stays]
  | f :: r, h, 0 => h.1
  | f :: r, h, i + 1 => by
    have := AllStay.at h.2 i
    simpa [factAt] using this
/-- The rules of the operations k .. n - 1, one behind the other. -/
def Rules (P : Program) (ops : Array Oper) (Q : Exit → Act → World → Prop) (C : World → Prop) (T : World → World → Prop) (Fl : List (Value → World → Prop)) (a0 : Act) : List Nat → Prop
  | [] => True
  | i :: r => OpRule P ops Q C T Fl a0 i ∧ Rules P ops Q C T Fl a0 r
theorem Rules.at : ∀ {l : List Nat}, Rules P ops Q C T Fl a0 l → ∀ i ∈ l, OpRule P ops Q C T Fl a0 i
  | [], _, i, h => by cases h
  | j :: r, h, i, hi => by
    rcases List.mem_cons.1 hi with rfl | hi
    · exact h.1
    · exact Rules.at h.2 i hi
def BelowT (a b : World) : Prop := Below a.heap.size a b

/-- The slots that an operation waits for, with what is known of each. -/
def depsF (ops : Array Oper) (Fl : List (Value → World → Prop)) (o : Oper) : List (Option Tmp × (Value → World → Prop)) := (depsOf o).map fun j => (dstAt ops j, factAt Fl j)
def guardF (ops : Array Oper) (o : Oper) : Option (Option Tmp × Bool) := o.guard.map fun g => (dstAt ops g.1, g.2)
def slotV (a : Act) (d : Option Tmp) : Value := match d with | some d => a.tmps.getD d undef | none => undef
def DepsD (a : Act) (w : World) (G : Prop) : List (Option Tmp × (Value → World → Prop)) → Prop
  | [] => G
  | (d, f) :: r => f (slotV a d) w → DepsD a w G r
def FrameD (a : Act) (G : Prop) : List (Tmp × Value) → Prop
  | [] => G
  | (s, v) :: r => a.tmps.getD s undef = v → FrameD a G r
/-- What is asked of one operation: the value, with the fact; or a call, by its contract. -/
def RunGoal (P : Program) (o : Oper) (F : Value → World → Prop) (a : Act) (w : World) : Prop :=
  (∃ v, (execOp a.eval o).run P w = .ok (.value v) w ∧ F v w) ∨
  (∃ f args, (execOp a.eval o).run P w = .ok (.enter f args) w ∧ Calls P f args w fun e w' => ∃ v, e = .returned v ∧ F v w' ∧ Below w.heap.size w w') ∨
  (∃ v w', (execOp a.eval o).run P w = .ok (.value v) w' ∧ F v w' ∧ Below w.heap.size w w')
def GuardGoal (P : Program) (o : Oper) (F : Value → World → Prop) (a : Act) (w : World) : Option (Option Tmp × Bool) → Prop
  | none => RunGoal P o F a w
  | some (d, b) => (slotV a d = .bool b ∧ RunGoal P o F a w) ∨ (slotV a d ≠ .bool b ∧ F undef w)
def OpGoal (P : Program) (C : World → Prop) (fl : List (Tmp × Value)) (o : Oper) (F : Value → World → Prop) (gd : Option (Option Tmp × Bool)) (dl : List (Option Tmp × (Value → World → Prop))) : Prop :=
  ∀ a w, C w → FrameD a (DepsD a w (GuardGoal P o F a w gd) dl) fl

theorem slotV_at (a : Act) (j : Nat) : slotV a (dstAt ops j) = valAt ops a j := by unfold slotV valAt; rfl
theorem FrameD.to {a : Act} {G : Prop} : ∀ {fl : List (Tmp × Value)}, FrameD a G fl → (∀ x ∈ fl, a.tmps.getD x.1 undef = x.2) → G
  | [], h, _ => h
  | x :: r, h, hf => FrameD.to (fl := r) (h (hf x (by simp))) fun y hy => hf y (by simp [hy])
theorem DepsD.to {a : Act} {w : World} {G : Prop} : ∀ {js : List Nat}, DepsD a w G (js.map fun j => (dstAt ops j, factAt Fl j)) → Deps ops Fl a w G js
  | [], h => h
  | j :: js, h => fun hf => DepsD.to (h (by rw [slotV_at]; exact hf))
theorem RunGoal.wp {i : Nat} {o : Oper} {a : Act} {w : World} (d : Tmp) (hd : o.dst = some d) (h : RunGoal P o (factAt Fl i) a w) (K : Act → World → Prop)
    (hK : ∀ a' w', (∃ v, a' = a.put o.dst v ∧ factAt Fl i (if o.dst = none then undef else v) w' ∧ BelowT w w') → K a' w') : o.wp P a w K Q := by
  unfold Oper.wp
  rcases h with ⟨v, hr, hF⟩ | ⟨f, args, hr, hc⟩ | ⟨v, w', hr, hF, hb⟩
  · rw [hr]
    exact hK _ _ ⟨v, rfl, by simpa [hd] using hF, Below.refl _ _⟩
  · rw [hr, Oper.upon_enter]
    refine hc.mono ?_
    rintro e w' ⟨v, rfl, hF, hb⟩
    exact hK _ _ ⟨v, rfl, by simpa [hd] using hF, hb⟩
  · rw [hr]
    exact hK _ _ ⟨v, rfl, by simpa [hd] using hF, hb⟩
theorem wanted_none {o : Oper} (h : o.guard = none) (f : Nat → Option Bool) : Region.wanted o f = true := by simp [Region.wanted, h]
theorem yielded_iff {a : Act} {j : Nat} {b : Bool} : yielded ops a.tmps j = some b ↔ valAt ops a j = .bool b := by
  unfold valAt dstAt yielded
  cases hd : (ops[j]?).bind (·.dst) with
  | none =>
    simp
    intro h
    cases h
  | some d =>
    simp only [Option.bind_some, Array.getD_eq_getD_getElem?]
    cases h : a.tmps[d]? with
    | none =>
      simp
      intro h
      cases h
    | some u => cases u <;> simp
theorem OpGoal.rule {i : Nat} {o : Oper} {d : Tmp} {fl : List (Tmp × Value)} (hfl : ∀ x ∈ fl, slotAt ops i x.1 = true ∧ a0.tmps.getD x.1 undef = x.2) (ho : ops[i]? = some o) (hd : o.dst = some d)
    {F : Value → World → Prop} (hF : factAt Fl i = F) {gd : Option (Option Tmp × Bool)} (hg : guardF ops o = gd) {dl : List (Option Tmp × (Value → World → Prop))} (hdl : depsF ops Fl o = dl) (h : OpGoal P C fl o F gd dl) :
    OpRule P ops Q C BelowT Fl a0 i := by
  subst hF hg hdl
  intro o' ho' a w hC hA
  rw [ho] at ho'
  cases ho'
  have h1 := FrameD.to (h a w hC) (fun x hx => (hA x.1 (hfl x hx).1).trans (hfl x hx).2)
  unfold depsF at h1
  refine Deps.imp (DepsD.to h1) ?_
  intro hgd
  refine wpOp_step ho fun K hK => ?_
  unfold GuardGoal guardF at hgd
  cases hgu : o.guard with
  | none =>
    rw [hgu] at hgd
    rw [if_pos (wanted_none hgu _)]
    exact RunGoal.wp d hd hgd K hK
  | some g =>
    obtain ⟨j, b⟩ := g
    rw [hgu] at hgd
    rcases hgd with ⟨hb', hrun⟩ | ⟨hb', hrun⟩
    · rw [slotV_at] at hb'
      rw [if_pos (by simp [Region.wanted, hgu, yielded_iff.2 hb'])]
      exact RunGoal.wp d hd hrun K hK
    · rw [slotV_at] at hb'
      rw [if_neg (by
        simp only [Region.wanted, hgu, beq_iff_eq]
        exact fun h => hb' (yielded_iff.1 h))]
      exact hK _ _ ⟨undef, rfl, by simpa [hd] using hrun, Below.refl _ _⟩

/-- The slots as they stand ahead of the region, for operation i. -/
def framesAt (ops : Array Oper) (a0 : Act) (i : Nat) : List (Tmp × Value) → Prop
  | [] => True
  | (s, v) :: r => (slotAt ops i s = true ∧ a0.tmps.getD s undef = v) ∧ framesAt ops a0 i r
theorem framesAt.to {i : Nat} : ∀ {fl : List (Tmp × Value)}, framesAt ops a0 i fl → ∀ x ∈ fl, slotAt ops i x.1 = true ∧ a0.tmps.getD x.1 undef = x.2
  | [], _, x, hx => by cases hx
  | y :: r, h, x, hx => by
    rcases List.mem_cons.1 hx with rfl | hx
    · exact h.1
    · exact framesAt.to h.2 x hx
/-- One operation's rule, its parts read off the text. -/
def OpRuleF (P : Program) (ops : Array Oper) (C : World → Prop) (Fl : List (Value → World → Prop)) (a0 : Act) (i : Nat) : Prop :=
  ∃ o d F gd dl fl, ops[i]? = some o ∧ o.dst = some d ∧ factAt Fl i = F ∧ guardF ops o = gd ∧ depsF ops Fl o = dl ∧ framesAt ops a0 i fl ∧ OpGoal P C fl o F gd dl
def RulesF (P : Program) (ops : Array Oper) (C : World → Prop) (Fl : List (Value → World → Prop)) (a0 : Act) : List Nat → Prop
  | [] => True
  | i :: r => OpRuleF P ops C Fl a0 i ∧ RulesF P ops C Fl a0 r
theorem rq {i : Nat} {o : Oper} {d : Tmp} (F : Value → World → Prop) (gd : Option (Option Tmp × Bool)) (dl : List (Option Tmp × (Value → World → Prop))) (fl : List (Tmp × Value)) (h6 : framesAt ops a0 i fl) (h7 : OpGoal P C fl o F gd dl)
    (h1 : ops[i]? = some o := by exact rfl) (h2 : o.dst = some d := by exact rfl) (h3 : factAt Fl i = F := by exact rfl) (h4 : guardF ops o = gd := by exact rfl) (h5 : depsF ops Fl o = dl := by exact rfl) : OpRuleF P ops C Fl a0 i := ⟨o, d, F, gd, dl, fl, h1, h2, h3, h4, h5, h6, h7⟩
theorem RulesF.to : ∀ {l : List Nat}, RulesF P ops C Fl a0 l → Rules P ops Q C BelowT Fl a0 l
  | [], _ => trivial
  | i :: r, h => by
    obtain ⟨o, d, F, gd, dl, fl, h1, h2, h3, h4, h5, h6, h7⟩ := h.1
    exact ⟨OpGoal.rule h6.to h1 h2 h3 h4 h5 h7, RulesF.to h.2⟩

theorem wp_region_below {id : Nat} {w0 : World} (hm : P.follows .mixedOrders = true) (Fl : List (Value → World → Prop)) (l : List Nat) (hn : Fl.length = ops.size) (hst : stOk ops a0.tmps.size = true) (hl : l = List.range ops.size)
    (hop : RulesF P ops (Below w0.heap.size w0) Fl a0 l) (hs : AllStay Fl)
    (hend : ∀ w, Below w0.heap.size w0 w → Ends Q w Fl (ops.toList.map (·.dst)) a0) : (Code.region id ops true).wp P Q a0 w0 := by
  refine wp_region_rg hm (Below w0.heap.size w0) BelowT Fl hn hst (Below.refl _ _).drew ?_ ?_ hend
  · intro w w' hc ht
    exact ⟨hc.trans (Below.mono ht hc.size), fun i v hf => hs.at i v w w' hf ht⟩
  · intro i hi
    subst hl
    exact (RulesF.to hop).at i (List.mem_range.2 hi)
end
end Go.Proofs.Ytjihemgidogoeaa
