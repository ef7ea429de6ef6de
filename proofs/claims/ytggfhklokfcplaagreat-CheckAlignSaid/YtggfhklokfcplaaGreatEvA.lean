/- AN EVALUATOR FOR CALLS THAT ARE CLOSED (every number known): values, memory and how they stand to the model's. No program is named here. -/
import Derived.WalkKit
import Derived.OpenShut
import Derived.Below
import Derived.KernelRfl
namespace Go.Proofs.YtggfhklokfcplaaGreat
open Go.RowKit
namespace Ev

/-- A map from numbers, as a binary tree. -/
inductive T (α : Type) where
  | nil
  | node (l : T α) (o : Option α) (r : T α)

/-- The way to a number's place. -/
inductive Pth where
  | e
  | l (p : Pth)
  | r (p : Pth)

noncomputable def pathN (f : Nat) : Nat → Pth :=
  Nat.rec (motive := fun _ => Nat → Pth) (fun _ => .e) (fun _ ih k => Bool.rec (motive := fun _ => Pth) (Bool.rec (motive := fun _ => Pth) (.r (ih (Nat.div (Nat.sub k 1) 2))) (.l (ih (Nat.div (Nat.sub k 1) 2))) (Nat.beq (Nat.mod k 2) 1)) .e (Nat.beq k 0)) f
noncomputable def path (k : Nat) : Pth := pathN k k

def Pth.val : Pth → Nat
  | .e => 0
  | .l p => 2 * p.val + 1
  | .r p => 2 * p.val + 2

theorem pathN_val : ∀ (f k : Nat), k ≤ f → (pathN f k).val = k
  | 0, k, h => by have : k = 0 := by omega
                  subst this; rfl
  | f + 1, k, h => by
    show (Bool.rec (motive := fun _ => Pth) (Bool.rec (motive := fun _ => Pth) (.r (pathN f (Nat.div (Nat.sub k 1) 2))) (.l (pathN f (Nat.div (Nat.sub k 1) 2))) (Nat.beq (Nat.mod k 2) 1)) .e (Nat.beq k 0) : Pth).val = k
    have ih := pathN_val f ((k - 1) / 2) (by omega)
    have ih' : (pathN f (Nat.div (Nat.sub k 1) 2)).val = (k - 1) / 2 := ih
    cases hk : Nat.beq k 0
    · have hk := Nat.ne_of_beq_eq_false hk
      cases hp : Nat.beq (Nat.mod k 2) 1
      · have hp : k % 2 ≠ 1 := Nat.ne_of_beq_eq_false hp
        show 2 * (pathN f (Nat.div (Nat.sub k 1) 2)).val + 2 = k
        rw [ih']; omega
      · have hp : k % 2 = 1 := Nat.eq_of_beq_eq_true hp
        show 2 * (pathN f (Nat.div (Nat.sub k 1) 2)).val + 1 = k
        rw [ih']; omega
    · exact (Nat.eq_of_beq_eq_true hk).symm

theorem path_inj {k k' : Nat} (h : path k = path k') : k = k' := by
  have h1 := pathN_val k k (Nat.le_refl _)
  have h2 := pathN_val k' k' (Nat.le_refl _)
  unfold path at h
  rw [← h1, ← h2, h]

section
variable {α : Type}
noncomputable def T.top (t : T α) : Option α := T.rec (motive := fun _ => Option α) none (fun _ o _ _ _ => o) t
noncomputable def T.goL (ih : T α → Option α) (t : T α) : Option α := T.rec (motive := fun _ => Option α) none (fun l _ _ _ _ => ih l) t
noncomputable def T.goR (ih : T α → Option α) (t : T α) : Option α := T.rec (motive := fun _ => Option α) none (fun _ _ r _ _ => ih r) t
noncomputable def T.at (p : Pth) : T α → Option α := Pth.rec (motive := fun _ => T α → Option α) T.top (fun _ => T.goL) (fun _ => T.goR) p
noncomputable def T.get (_f : Nat) (k : Nat) (t : T α) : Option α := T.at (path k) t

/-- A tree that is there already, handed on. -/
noncomputable def T.force {β : Type} (t : T α) (k : T α → β) : β := T.rec (motive := fun _ => β) (k .nil) (fun a b c _ _ => k (.node a b c)) t
noncomputable def T.setTop (v : Option α) (t : T α) : T α := T.rec (motive := fun _ => T α) (.node .nil v .nil) (fun l _ r _ _ => .node l v r) t
def T.withL (o : Option α) (r l : T α) : T α := .node l o r
def T.withR (l : T α) (o : Option α) (r : T α) : T α := .node l o r
noncomputable def T.putL (ih : Option α → T α → T α) (v : Option α) (t : T α) : T α := T.rec (motive := fun _ => T α) (T.force (ih v .nil) (T.withL none .nil)) (fun l o r _ _ => T.force (ih v l) (T.withL o r)) t
noncomputable def T.putR (ih : Option α → T α → T α) (v : Option α) (t : T α) : T α := T.rec (motive := fun _ => T α) (T.force (ih v .nil) (T.withR .nil none)) (fun l o r _ _ => T.force (ih v r) (T.withR l o)) t
noncomputable def T.put (p : Pth) : Option α → T α → T α := Pth.rec (motive := fun _ => Option α → T α → T α) T.setTop (fun _ => T.putL) (fun _ => T.putR) p
noncomputable def T.upd (_f : Nat) (k : Nat) (v : Option α) (t : T α) : T α := T.put (path k) v t

theorem T.force_eq {β : Type} (t : T α) (k : T α → β) : T.force t k = k t := by cases t <;> rfl
theorem T.at_nil : ∀ (p : Pth), T.at p (.nil : T α) = none
  | .e => rfl
  | .l _ => rfl
  | .r _ => rfl
theorem T.get_nil (f k : Nat) : T.get f k (.nil : T α) = none := T.at_nil _

theorem T.at_put_eq : ∀ (p : Pth) (v : Option α) (t : T α), T.at p (T.put p v t) = v
  | .e, v, t => by cases t <;> rfl
  | .l p, v, t => by
    have ih := fun t => T.at_put_eq p v t
    cases t with
    | nil => show T.goL (T.at p) (T.force (T.put p v .nil) (T.withL none .nil)) = v; rw [T.force_eq]; exact ih _
    | node l o r => show T.goL (T.at p) (T.force (T.put p v l) (T.withL o r)) = v; rw [T.force_eq]; exact ih _
  | .r p, v, t => by
    have ih := fun t => T.at_put_eq p v t
    cases t with
    | nil => show T.goR (T.at p) (T.force (T.put p v .nil) (T.withR .nil none)) = v; rw [T.force_eq]; exact ih _
    | node l o r => show T.goR (T.at p) (T.force (T.put p v r) (T.withR l o)) = v; rw [T.force_eq]; exact ih _

theorem T.at_put_ne : ∀ (p p' : Pth) (v : Option α) (t : T α), p' ≠ p → T.at p' (T.put p v t) = T.at p' t
  | .e, p', v, t, h => by
    cases p' with
    | e => exact absurd rfl h
    | l q => cases t with
      | nil => exact T.at_nil q
      | node l o r => rfl
    | r q => cases t with
      | nil => exact T.at_nil q
      | node l o r => rfl
  | .l p, p', v, t, h => by
    have key : ∀ (l : T α) (o : Option α) (r : T α), T.at p' (T.force (T.put p v l) (T.withL o r)) = T.at p' (.node l o r) := by
      intro l o r
      rw [T.force_eq]
      cases p' with
      | e => rfl
      | l q => exact T.at_put_ne p q v l fun e => h (by rw [e])
      | r q => rfl
    cases t with
    | nil =>
      refine (key .nil none .nil).trans ?_
      cases p' with
      | e => rfl
      | l q => exact T.at_nil q
      | r q => exact T.at_nil q
    | node l o r => exact key l o r
  | .r p, p', v, t, h => by
    have key : ∀ (l : T α) (o : Option α) (r : T α), T.at p' (T.force (T.put p v r) (T.withR l o)) = T.at p' (.node l o r) := by
      intro l o r
      rw [T.force_eq]
      cases p' with
      | e => rfl
      | l q => rfl
      | r q => exact T.at_put_ne p q v r fun e => h (by rw [e])
    cases t with
    | nil =>
      refine (key .nil none .nil).trans ?_
      cases p' with
      | e => rfl
      | l q => exact T.at_nil q
      | r q => exact T.at_nil q
    | node l o r => exact key l o r

/-- Another place than the changed one is as it was. -/
theorem T.get_upd_ne (f k k' : Nat) (v : Option α) (t : T α) (h : k' ≠ k) : T.get f k' (T.upd f k v t) = T.get f k' t :=
  T.at_put_ne _ _ _ _ fun e => h (path_inj e)

/-- Whatever is there behind a change was laid just now, or was there. -/
theorem T.get_upd (f k k' : Nat) (v : Option α) (t : T α) (x : α) (h : T.get f k' (T.upd f k v t) = some x) : (k' = k ∧ v = some x) ∨ (k' ≠ k ∧ T.get f k' t = some x) := by
  by_cases e : k' = k
  · subst e; exact .inl ⟨rfl, (T.at_put_eq _ _ _).symm.trans h⟩
  · exact .inr ⟨e, by rw [← T.get_upd_ne f k k' v t e]; exact h⟩
end

/-- A value as the evaluator knows it: blocks have numbers of its own. -/
inductive AV where
  | lit (v : Value)
  | ptr (b o : Nat)
  | sl (b o len cap : Nat)
  | su (b o len es : Nat)
  | se
  | agg (cs : List AV)
  | tup (vs : List AV)
  | fn (f : Fn) (first captured : List AV)
  deriving Inhabited

/-- Where a block of the evaluator's lies: the model's block, from which cell on, how many cells. -/
abbrev Map := Nat → Option (Nat × Nat × Nat)

mutual
def RelV (σ : Map) : AV → Value → Prop
  | .lit v, V => V = v
  | .ptr b o, V => ∃ k sh sz, σ b = some (k, sh, sz) ∧ V = .pointer (some ⟨k, sh + o, none⟩)
  | .sl b o n c, V => ∃ k sh sz, σ b = some (k, sh, sz) ∧ V = .slice (some ⟨k, sh + o, none⟩) n c
  | .su b o n es, V => ∃ k sh sz c, σ b = some (k, sh, sz) ∧ n ≤ c ∧ o + c * es ≤ sz ∧ V = .slice (some ⟨k, sh + o, none⟩) n c
  | .se, V => ∃ k o c, V = .slice (some ⟨k, o, none⟩) 0 c
  | .agg cs, V => ∃ vs, V = .agg vs ∧ RelL σ cs vs.toList
  | .tup cs, V => ∃ vs, V = .tuple vs ∧ RelL σ cs vs.toList
  | .fn f a b, V => ∃ vs us, V = .func f vs us ∧ RelL σ a vs.toList ∧ RelL σ b us.toList
def RelL (σ : Map) : List AV → List Value → Prop
  | [], l => l = []
  | v :: vs, l => ∃ V l', l = V :: l' ∧ RelV σ v V ∧ RelL σ vs l'
end

def Le (σ σ' : Map) : Prop := ∀ b x, σ b = some x → σ' b = some x

mutual
theorem RelV.mono {σ σ' : Map} (h : Le σ σ') : ∀ (v : AV) {V : Value}, RelV σ v V → RelV σ' v V
  | .lit v, V, r => by simpa only [RelV] using r
  | .ptr b o, V, r => by simp only [RelV] at r ⊢; obtain ⟨k, sh, sz, e, r⟩ := r; exact ⟨k, sh, sz, h _ _ e, r⟩
  | .sl b o n c, V, r => by simp only [RelV] at r ⊢; obtain ⟨k, sh, sz, e, r⟩ := r; exact ⟨k, sh, sz, h _ _ e, r⟩
  | .su b o n es, V, r => by simp only [RelV] at r ⊢; obtain ⟨k, sh, sz, c, e, r⟩ := r; exact ⟨k, sh, sz, c, h _ _ e, r⟩
  | .se, V, r => by simpa only [RelV] using r
  | .agg cs, V, r => by simp only [RelV] at r ⊢; obtain ⟨vs, e, r⟩ := r; exact ⟨vs, e, RelL.mono h cs r⟩
  | .tup cs, V, r => by simp only [RelV] at r ⊢; obtain ⟨vs, e, r⟩ := r; exact ⟨vs, e, RelL.mono h cs r⟩
  | .fn f a b, V, r => by simp only [RelV] at r ⊢; obtain ⟨vs, us, e, r, r'⟩ := r; exact ⟨vs, us, e, RelL.mono h a r, RelL.mono h b r'⟩
theorem RelL.mono {σ σ' : Map} (h : Le σ σ') : ∀ (l : List AV) {L : List Value}, RelL σ l L → RelL σ' l L
  | [], L, r => by simpa only [RelL] using r
  | v :: vs, L, r => by simp only [RelL] at r ⊢; obtain ⟨V, l', e, r, r'⟩ := r; exact ⟨V, l', e, RelV.mono h v r, RelL.mono h vs r'⟩
end

theorem Le.refl (σ : Map) : Le σ σ := fun _ _ h => h
theorem Le.trans {a b c : Map} (h : Le a b) (h' : Le b c) : Le a c := fun x y e => h' x y (h x y e)

abbrev Blk := T AV
def fuel : Nat := 48

/-- The evaluator's memory: the blocks, the next number, below which number a change is written down, what was. -/
structure M where
  h : T Blk
  nx : Nat
  fl : Nat
  lg : List Nat

noncomputable def M.blk (m : M) (b : Nat) : Option Blk := T.get fuel b m.h
noncomputable def M.cell (m : M) (b o : Nat) : Option AV := (m.blk b).bind (T.get fuel o)

/-- What of a row is frozen lies behind its end. -/
def Unfr (fr : Nat × Nat) (n : Nat) : Prop := fr.1 = fr.2 ∨ n ≤ fr.1
theorem Unfr.not {fr : Nat × Nat} {n : Nat} (h : Unfr fr n) (i : Nat) (hi : i < n) : (decide (fr.1 ≤ i) && decide (i < fr.2)) = false := by
  rcases h with h | h
  · rw [Bool.and_eq_false_iff]
    by_cases g : fr.1 ≤ i
    · right; simp; omega
    · left; simp; omega
  · rw [Bool.and_eq_false_iff]; left; simp; omega

/-- How a block stands in a world. -/
def BRel (σ : Map) (B : Blk) (k sh sz : Nat) (w : World) : Prop :=
  ∃ c el fr, w.heap[k]? = some (.cells c el fr) ∧ sh + sz = c.size ∧ (∀ i v, T.get fuel i B = some v → i < sz ∧ RelV σ v (c.getD (sh + i) undef)) ∧ Unfr fr c.size

structure Sim (own : Nat → Prop) (lim : Nat) (σ : Map) (m : M) (w : World) : Prop where
  blk : ∀ b B, m.blk b = some B → ∃ k sh sz, σ b = some (k, sh, sz) ∧ own k ∧ BRel σ B k sh sz w
  inj : ∀ b b' B B' x x', m.blk b = some B → m.blk b' = some B' → b ≠ b' → σ b = some x → σ b' = some x' → x.1 ≠ x'.1
  fresh : ∀ b, m.nx ≤ b → b < lim → σ b = none
  low : ∀ b B, m.blk b = some B → b < m.nx
  news : ∀ c, w.heap.size ≤ c → own c

/-- What an evaluation may change in the evaluator's memory. -/
structure Pure (m m' : M) : Prop where
  nx : m.nx ≤ m'.nx
  fl : m'.fl = m.fl
  lg : ∀ b, b ∈ m.lg → b ∈ m'.lg
  kept : ∀ b, b < m.fl → b ∉ m'.lg → m'.blk b = m.blk b
  low : (∀ b, m.nx ≤ b → m.blk b = none) → ∀ b, m'.nx ≤ b → m'.blk b = none
  was : ∀ b, b ∈ m'.lg → b ∈ m.lg ∨ (b < m.fl ∧ m.blk b ≠ none)

/-- What it may change in the world. -/
structure Ext (own : Nat → Prop) (σ σ' : Map) (m m' : M) (w w' : World) : Prop where
  le : Le σ σ'
  only : ∀ b, b < m.nx ∨ m'.nx ≤ b → σ' b = σ b
  size : w.heap.size ≤ w'.heap.size
  frame : ∀ c, ¬ own c → w'.heap[c]? = w.heap[c]?
  os : w'.os = w.os
  tape : w'.tape = w.tape
  output : w'.output = w.output

/-- The evaluator's memory is in order. -/
structure Okm (m : M) : Prop where
  fl : m.fl ≤ m.nx
  low : ∀ b, m.nx ≤ b → m.blk b = none
theorem Okm.next {m m' : M} (h : Okm m) (p : Pure m m') : Okm m' := ⟨by rw [p.fl]; exact Nat.le_trans h.fl p.nx, p.low h.low⟩

theorem Pure.refl (m : M) : Pure m m := ⟨Nat.le_refl _, rfl, fun _ h => h, fun _ _ _ => rfl, fun h => h, fun _ h => .inl h⟩
theorem Pure.trans {a b c : M} (h : Pure a b) (h' : Pure b c) : Pure a c :=
  ⟨Nat.le_trans h.nx h'.nx, h'.fl.trans h.fl, fun x hx => h'.lg x (h.lg x hx), fun x hx hn => (h'.kept x (by rw [h.fl]; exact hx) hn).trans (h.kept x hx fun hx' => hn (h'.lg x hx')), fun hl => h'.low (h.low hl), fun x hx => by
    rcases h'.was x hx with g | ⟨g1, g2⟩
    · exact h.was x g
    · by_cases hb : x ∈ b.lg
      · exact h.was x hb
      · rw [h.fl] at g1; exact .inr ⟨g1, by rw [← h.kept x g1 hb]; exact g2⟩⟩
theorem Ext.refl (own : Nat → Prop) (σ : Map) (m : M) (w : World) : Ext own σ σ m m w w := ⟨Le.refl σ, fun _ _ => rfl, Nat.le_refl _, fun _ _ => rfl, rfl, rfl, rfl⟩
theorem Ext.trans {own : Nat → Prop} {σ σ' σ'' : Map} {m m' m'' : M} {w w' w'' : World} (h : Ext own σ σ' m m' w w') (h' : Ext own σ' σ'' m' m'' w' w'') (p : Pure m m') (p' : Pure m' m'') : Ext own σ σ'' m m'' w w'' :=
  ⟨h.le.trans h'.le, fun b hb => (h'.only b (by have := p.nx; have := p'.nx; omega)).trans (h.only b (by have := p.nx; have := p'.nx; omega)), Nat.le_trans h.size h'.size, fun c hc => (h'.frame c hc).trans (h.frame c hc), h'.os.trans h.os, h'.tape.trans h.tape, h'.output.trans h.output⟩

theorem BRel.mono {σ σ' : Map} {B : Blk} {k sh sz : Nat} {w w' : World} (h : BRel σ B k sh sz w) (hl : Le σ σ') (hw : w'.heap[k]? = w.heap[k]?) : BRel σ' B k sh sz w' := by
  obtain ⟨c, el, fr, e1, e2, e3, e4⟩ := h
  exact ⟨c, el, fr, hw.trans e1, e2, fun i v hi => ⟨(e3 i v hi).1, (e3 i v hi).2.mono hl⟩, e4⟩

theorem Sim.world {own : Nat → Prop} {lim : Nat} {σ : Map} {m : M} {w w' : World} (h : Sim own lim σ m w) (e : w'.heap = w.heap) : Sim own lim σ m w' :=
  ⟨fun b B hb => let ⟨k, sh, sz, h1, h2, h3⟩ := h.blk b B hb; ⟨k, sh, sz, h1, h2, h3.mono (Le.refl _) (by rw [e])⟩, h.inj, h.fresh, h.low, by rw [e]; exact h.news⟩

/-- A cell that the evaluator knows can be read. -/
theorem Sim.cell {own : Nat → Prop} {lim : Nat} {σ : Map} {m : M} {w : World} (h : Sim own lim σ m w) {b o : Nat} {v : AV} (hc : m.cell b o = some v) :
    ∃ k sh sz V, σ b = some (k, sh, sz) ∧ o < sz ∧ w.cell? ⟨k, sh + o, none⟩ = some V ∧ RelV σ v V ∧ w.frozen? ⟨k, sh + o, none⟩ = false := by
  unfold M.cell at hc
  cases hB : m.blk b with
  | none => rw [hB] at hc; simp at hc
  | some B =>
    rw [hB] at hc
    simp only [Option.bind_some] at hc
    obtain ⟨k, sh, sz, e1, e2, c, el, fr, e3, e4, e5, e6⟩ := h.blk b B hB
    obtain ⟨h1, h2⟩ := e5 o v hc
    refine ⟨k, sh, sz, c.getD (sh + o) undef, e1, h1, ?_, h2, ?_⟩
    · simp only [World.cell?, e3, Option.isSome_none, Bool.false_eq_true, if_false]
      rw [Array.getElem?_eq_getElem (by omega), Array.getD_eq_getD_getElem?, Array.getElem?_eq_getElem (by omega)]
      rfl
    · simp only [World.frozen?, e3]
      exact e6.not _ (by omega)

theorem cellsA_lit_rel (σ : Map) : ∀ (l : List Value), RelL σ (l.map .lit) l
  | [] => rfl
  | v :: vs => ⟨v, vs, rfl, rfl, cellsA_lit_rel σ vs⟩

theorem RelL.length {σ : Map} : ∀ {l : List AV} {L : List Value}, RelL σ l L → L.length = l.length
  | [], L, h => by simp only [RelL] at h; subst h; rfl
  | v :: vs, L, h => by simp only [RelL] at h; obtain ⟨V, l', rfl, _, h⟩ := h; simp [h.length]

theorem RelL.get {σ : Map} : ∀ {l : List AV} {L : List Value} (_ : RelL σ l L) {i : Nat} {v : AV}, l[i]? = some v → ∃ V, L[i]? = some V ∧ RelV σ v V
  | [], L, h, i, v, e => by simp at e
  | x :: xs, L, h, 0, v, e => by simp only [RelL] at h; obtain ⟨V, l', rfl, h1, _⟩ := h; simp at e; subst e; exact ⟨V, rfl, h1⟩
  | x :: xs, L, h, i + 1, v, e => by simp only [RelL] at h; obtain ⟨V, l', rfl, _, h2⟩ := h; simp at e; simpa using h2.get e

theorem RelL.append {σ : Map} : ∀ {l l' : List AV} {L L' : List Value}, RelL σ l L → RelL σ l' L' → RelL σ (l ++ l') (L ++ L')
  | [], l', L, L', h, h' => by simp only [RelL] at h; subst h; exact h'
  | v :: vs, l', L, L', h, h' => by simp only [RelL] at h; obtain ⟨V, r, rfl, h1, h2⟩ := h; exact ⟨V, r ++ L', rfl, h1, h2.append h'⟩

theorem RelL.take {σ : Map} : ∀ (n : Nat) {l : List AV} {L : List Value}, RelL σ l L → RelL σ (l.take n) (L.take n)
  | 0, _, _, _ => by simp [RelL]
  | n + 1, [], L, h => by simp only [RelL] at h; subst h; simp [RelL]
  | n + 1, v :: vs, L, h => by simp only [RelL] at h; obtain ⟨V, r, rfl, h1, h2⟩ := h; exact ⟨V, r.take n, rfl, h1, h2.take n⟩

theorem RelL.drop {σ : Map} : ∀ (n : Nat) {l : List AV} {L : List Value}, RelL σ l L → RelL σ (l.drop n) (L.drop n)
  | 0, _, _, h => h
  | n + 1, [], L, h => by simp only [RelL] at h; subst h; simp [RelL]
  | n + 1, v :: vs, L, h => by simp only [RelL] at h; obtain ⟨V, r, rfl, h1, h2⟩ := h; exact h2.drop n

/-- The cells of a value. -/
def cellsA : AV → List AV
  | .agg cs => cs
  | .lit v => v.cells.toList.map .lit
  | v => [v]

theorem cellsA_rel {σ : Map} {v : AV} {V : Value} (h : RelV σ v V) : RelL σ (cellsA v) V.cells.toList := by
  cases v <;> simp only [RelV] at h
  case lit v => subst h; exact cellsA_lit_rel σ _
  case agg cs => obtain ⟨vs, rfl, h⟩ := h; exact h
  case ptr b o => obtain ⟨k, sh, sz, e, rfl⟩ := h; exact ⟨_, [], rfl, ⟨k, sh, sz, e, rfl⟩, rfl⟩
  case sl b o n c => obtain ⟨k, sh, sz, e, rfl⟩ := h; exact ⟨_, [], rfl, ⟨k, sh, sz, e, rfl⟩, rfl⟩
  case su b o n es => obtain ⟨k, sh, sz, c, e, e', e2, rfl⟩ := h; exact ⟨_, [], rfl, ⟨k, sh, sz, c, e, e', e2, rfl⟩, rfl⟩
  case se => obtain ⟨k, o, c, rfl⟩ := h; exact ⟨_, [], rfl, ⟨k, o, c, rfl⟩, rfl⟩
  case tup cs => obtain ⟨vs, rfl, h⟩ := h; exact ⟨_, [], rfl, ⟨vs, rfl, h⟩, rfl⟩
  case fn f a b => obtain ⟨vs, us, rfl, h, h'⟩ := h; exact ⟨_, [], rfl, ⟨vs, us, rfl, h, h'⟩, rfl⟩

/-- A row as a tree. -/
noncomputable def ofList : Nat → List AV → Blk → Blk
  | _, [], t => t
  | i, v :: vs, t => ofList (Nat.succ i) vs (T.upd fuel i (some v) t)

theorem ofList_get : ∀ (l : List AV) (i j : Nat) (t : Blk) (x : AV), T.get fuel j (ofList i l t) = some x → (i ≤ j ∧ l[j - i]? = some x) ∨ ((j < i ∨ i + l.length ≤ j) ∧ T.get fuel j t = some x)
  | [], i, j, t, x, h => by
    refine .inr ⟨?_, h⟩
    simp; omega
  | v :: vs, i, j, t, x, h => by
    rcases ofList_get vs (i + 1) j _ x h with ⟨h1, h2⟩ | ⟨h1, h2⟩
    · left
      refine ⟨by omega, ?_⟩
      rw [show j - i = (j - (i + 1)) + 1 by omega]
      simpa using h2
    · rcases T.get_upd _ _ _ _ _ _ h2 with ⟨e1, e2⟩ | ⟨e1, e2⟩
      · left; subst e1; refine ⟨Nat.le_refl _, ?_⟩; simpa using e2
      · right; refine ⟨?_, e2⟩; simp only [List.length_cons]; omega

/-- The pure part of the model's own operations. -/
def pure? (P : Program) {α : Type} : Sem α → Option α
  | .pure a => some a
  | .program k => pure? P (k P)
  | _ => none

theorem pure?_run {P : Program} {α : Type} : ∀ {s : Sem α} {a : α} (w : World), pure? P s = some a → s.run P w = .ok a w := by
  intro s
  induction s with
  | pure a => intro x w h; simp only [pure?, Option.some.injEq] at h; subst h; rfl
  | program k ih => intro x w h; simp only [pure?] at h; exact ih P w h
  | _ => intro x w h; simp [pure?] at h
end Ev
end Go.Proofs.YtggfhklokfcplaaGreat
