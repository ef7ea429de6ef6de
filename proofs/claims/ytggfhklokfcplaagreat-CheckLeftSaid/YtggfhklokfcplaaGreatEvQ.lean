/- A region that draws its order: in whatever order, it leaves what was evaluated. No program is named here. -/
import Derived.Test.YtggfhklokfcplaaGreatEvP
namespace Go.Proofs.YtggfhklokfcplaaGreat
open Go.RowKit
namespace Ev
noncomputable section
open Classical

/-- Memory behind some of the steps. F: the states' memories; tch: which step touches which block. -/
def HD (F : Nat → Nat → Option Blk) (tch : Nat → Nat → Prop) (D : Nat → Prop) : Nat → Nat → Option Blk
  | 0, b => F 0 b
  | i + 1, b => if D i ∧ tch i b then F (i + 1) b else HD F tch D i b

section
variable {F : Nat → Nat → Option Blk} {tch : Nat → Nat → Prop}

theorem HD_congr {D D' : Nat → Prop} {b : Nat} : ∀ n, (∀ l, l < n → tch l b → (D l ↔ D' l)) → HD F tch D n b = HD F tch D' n b
  | 0, _ => rfl
  | n + 1, h => by
    unfold HD
    rw [HD_congr n fun l hl => h l (by omega)]
    by_cases ht : tch n b
    · have := h n (by omega) ht
      simp only [this]
    · simp [ht]

theorem HD_all {n : Nat} (hk : ∀ i, i < n → ∀ b, ¬ tch i b → F (i + 1) b = F i b) (D : Nat → Prop) (b : Nat) : ∀ i, i ≤ n → (∀ l, l < i → D l) → HD F tch D i b = F i b
  | 0, _, _ => rfl
  | i + 1, hi, hd => by
    unfold HD
    by_cases ht : tch i b
    · rw [if_pos ⟨hd i (by omega), ht⟩]
    · rw [if_neg fun h => ht h.2, HD_all hk D b i (by omega) fun l hl => hd l (by omega), hk i (by omega) b ht]

theorem HD_none {D : Nat → Prop} {b i : Nat} : ∀ n, i ≤ n → (∀ l, i ≤ l → l < n → tch l b → ¬ D l) → HD F tch D n b = HD F tch D i b
  | 0, hi, _ => by have : i = 0 := by omega
                   subst this; rfl
  | n + 1, hi, h => by
    by_cases e : i = n + 1
    · subst e; rfl
    · unfold HD
      rw [if_neg fun hc => h n (by omega) (by omega) hc.2 hc.1]
      rw [HD_none n (by omega) fun l h1 h2 => h l h1 (by omega)]
      cases i <;> rfl

theorem HD_at {D : Nat → Prop} {b i n : Nat} (hi : i < n) (hd : D i) (ht : tch i b) (h : ∀ l, i < l → l < n → tch l b → ¬ D l) : HD F tch D n b = F (i + 1) b := by
  rw [HD_none n (show i + 1 ≤ n by omega) fun l h1 h2 => h l (by omega) h2]
  show (if D i ∧ tch i b then F (i + 1) b else _) = _
  rw [if_pos ⟨hd, ht⟩]
end

/-- Slots that are taken out of the view of an operation. -/
def dropT (t : T AV) : List Nat → T AV
  | [] => t
  | k :: r => T.upd fuel k none (dropT t r)
theorem dropT_get (t : T AV) : ∀ (l : List Nat) (k : Nat), T.get fuel k (dropT t l) = if k ∈ l then none else T.get fuel k t
  | [], k => by simp [dropT]
  | x :: r, k => by
    rw [dropT]
    by_cases e : k = x
    · subst e; rw [T.get_upd_same, if_pos List.mem_cons_self]
    · rw [T.get_upd_ne _ _ _ _ _ e, dropT_get t r k]
      by_cases h : k ∈ r
      · rw [if_pos h, if_pos (List.mem_cons_of_mem _ h)]
      · rw [if_neg h, if_neg fun hc => (List.mem_cons.1 hc).elim e h]

theorem setT_get (t : T AV) (d : Option Tmp) (v : AV) (k : Nat) : T.get fuel k (setT t d v) = if d = some k then some v else T.get fuel k t := by
  unfold setT
  cases d with
  | none => simp
  | some d =>
    dsimp only
    rw [frcV_eq]
    by_cases e : d = k
    · subst e; rw [if_pos rfl, T.get_upd_same]
    · rw [if_neg (by simpa using e), T.get_upd_ne _ _ _ _ _ (Ne.symm e)]

structure SD where
  view : M
  m : M
  v : AV
  dn : Prop

section
variable {P : Program} {pr : Prim} {self : Self} {ops : Array Oper} {ms : T Nat} {s : St} {ds : Nat → DS} {X : Nat → SD}

/-- What is known of the steps. -/
structure Stps (P : Program) (pr : Prim) (slf : Self) (ops : Array Oper) (ms : T Nat) (s : St) (ds : Nat → DS) (X : Nat → SD) : Prop where
  st : Static ops s.nt ms
  d0 : ds 0 = ⟨s.m.h, s.m.nx, s.t, [], 0, [], []⟩
  pi : ∀ i, i ≤ ops.size → PI i (ds i)
  step : ∀ i o, ops[i]? = some o → (¬ (X i).dn ∧ wantedA ops (ds i).t o = some false ∧ Skip i o (ds i) (ds (i + 1))) ∨ ((X i).dn ∧ wantedA ops (ds i).t o = some true ∧ Done P pr slf ms s.nt i o (ds i) (ds (i + 1)) (X i).view (X i).m (X i).v)

def Tch (ops : Array Oper) (ds : Nat → DS) (X : Nat → SD) (i b : Nat) : Prop := i < ops.size ∧ (X i).dn ∧ (b ∈ (X i).m.lg ∨ ((ds i).nx ≤ b ∧ b < (X i).m.nx))
def MF (ds : Nat → DS) (i b : Nat) : Option Blk := T.get fuel b (ds i).h

theorem Stps.done (H : Stps P pr self ops ms s ds X) {i : Nat} {o : Oper} (ho : ops[i]? = some o) (h : (X i).dn) : Done P pr self ms s.nt i o (ds i) (ds (i + 1)) (X i).view (X i).m (X i).v := by
  rcases H.step i o ho with ⟨h', _⟩ | ⟨_, _, h'⟩
  · exact absurd h h'
  · exact h'

theorem Stps.nx1 (H : Stps P pr self ops ms s ds X) {i : Nat} (hi : i < ops.size) : (ds i).nx ≤ (ds (i + 1)).nx := by
  rcases H.step i _ (Array.getElem?_eq_getElem hi) with ⟨_, _, h⟩ | ⟨_, _, h⟩
  · rw [h.nx]; exact Nat.le_refl _
  · rw [h.nx, ← h.vnx]; exact h.pure.nx
theorem Stps.nx (H : Stps P pr self ops ms s ds X) {i : Nat} : ∀ {j : Nat}, i ≤ j → j ≤ ops.size → (ds i).nx ≤ (ds j).nx
  | 0, h, _ => by have : i = 0 := by omega
                  subst this; exact Nat.le_refl _
  | j + 1, h, hj => by
    by_cases e : i = j + 1
    · subst e; exact Nat.le_refl _
    · exact Nat.le_trans (H.nx (j := j) (by omega) (by omega)) (H.nx1 (by omega))
theorem Stps.rc (H : Stps P pr self ops ms s ds X) {i : Nat} {r : Rc} : ∀ {j : Nat}, i ≤ j → j ≤ ops.size → r ∈ (ds i).rc → r ∈ (ds j).rc
  | 0, h, _, hr => by have : i = 0 := by omega
                      subst this; exact hr
  | j + 1, h, hj, hr => by
    by_cases e : i = j + 1
    · subst e; exact hr
    · have := H.rc (j := j) (by omega) (by omega) hr
      rcases H.step j _ (Array.getElem?_eq_getElem (by omega : j < ops.size)) with ⟨_, _, h⟩ | ⟨_, _, h⟩
      · rw [h.rc]; exact this
      · exact h.rc r this
theorem Stps.rv (H : Stps P pr self ops ms s ds X) {i k : Nat} : ∀ {j : Nat}, i ≤ j → j ≤ ops.size → bit (ds i).rv k = true → bit (ds j).rv k = true
  | 0, h, _, hr => by have : i = 0 := by omega
                      subst this; exact hr
  | j + 1, h, hj, hr => by
    by_cases e : i = j + 1
    · subst e; exact hr
    · have := H.rv (j := j) (by omega) (by omega) hr
      rcases H.step j _ (Array.getElem?_eq_getElem (by omega : j < ops.size)) with ⟨_, _, h⟩ | ⟨_, _, h⟩
      · rw [h.rv]; exact this
      · exact h.rv k this
theorem Stps.rs (H : Stps P pr self ops ms s ds X) {i : Nat} {r : Nat × Nat} : ∀ {j : Nat}, i ≤ j → j ≤ ops.size → r ∈ (ds i).rs → r ∈ (ds j).rs
  | 0, h, _, hr => by have : i = 0 := by omega
                      subst this; exact hr
  | j + 1, h, hj, hr => by
    by_cases e : i = j + 1
    · subst e; exact hr
    · have := H.rs (j := j) (by omega) (by omega) hr
      rcases H.step j _ (Array.getElem?_eq_getElem (by omega : j < ops.size)) with ⟨_, _, h⟩ | ⟨_, _, h⟩
      · rw [h.rs]; exact this
      · exact h.rs r this
theorem Stps.lg (H : Stps P pr self ops ms s ds X) {i b : Nat} : ∀ {j : Nat}, i ≤ j → j ≤ ops.size → b ∈ (ds i).lg → b ∈ (ds j).lg
  | 0, h, _, hr => by have : i = 0 := by omega
                      subst this; exact hr
  | j + 1, h, hj, hr => by
    by_cases e : i = j + 1
    · subst e; exact hr
    · have := H.lg (j := j) (by omega) (by omega) hr
      rcases H.step j _ (Array.getElem?_eq_getElem (by omega : j < ops.size)) with ⟨_, _, h⟩ | ⟨_, _, h⟩
      · rw [h.lg]; exact this
      · exact h.lgk b this
/-- A slot that nobody writes between two states. -/
theorem Stps.slot (H : Stps P pr self ops ms s ds X) {i k : Nat} : ∀ {j : Nat}, i ≤ j → j ≤ ops.size → (∀ x, i ≤ x → x < j → dstAt ops x ≠ some k) → T.get fuel k (ds j).t = T.get fuel k (ds i).t
  | 0, h, _, _ => by have : i = 0 := by omega
                     subst this; rfl
  | j + 1, h, hj, hx => by
    by_cases e : i = j + 1
    · subst e; rfl
    · rw [← H.slot (j := j) (by omega) (by omega) fun x h1 h2 => hx x h1 (by omega)]
      have hjo : ops[j]? = some ops[j] := Array.getElem?_eq_getElem (by omega : j < ops.size)
      have hd : ops[j].dst ≠ some k := by
        have := hx j (by omega) (by omega)
        unfold dstAt at this
        rw [hjo] at this
        exact this
      rcases H.step j _ hjo with ⟨_, _, h⟩ | ⟨_, _, h⟩
      · rw [h.t, setT_get, if_neg hd]
      · rw [h.t, setT_get, if_neg hd]

theorem Stps.keptF (H : Stps P pr self ops ms s ds X) {i b : Nat} (hi : i < ops.size) (h : ¬ Tch ops ds X i b) : MF ds (i + 1) b = MF ds i b := by
  unfold MF
  rcases H.step i _ (Array.getElem?_eq_getElem hi) with ⟨_, _, h'⟩ | ⟨hd, _, h'⟩
  · rw [h'.h]
  · exact h'.kept b fun hc => h ⟨hi, hd, hc⟩

theorem Stps.tchF (H : Stps P pr self ops ms s ds X) {i b : Nat} (h : Tch ops ds X i b) : MF ds (i + 1) b = (X i).m.blk b ∧ b < (ds (i + 1)).nx := by
  obtain ⟨hi, hd, hc⟩ := h
  have D := H.done (Array.getElem?_eq_getElem hi) hd
  refine ⟨D.touched b hc, ?_⟩
  rw [D.nx]
  rcases hc with hc | hc
  · rcases D.pure.was b hc with g | ⟨g, _⟩
    · rw [D.vlg] at g; cases g
    · rw [D.vfl, ← D.vnx] at g; exact Nat.lt_of_lt_of_le g D.pure.nx
  · exact hc.2

/-- Whoever touched, ahead of i, what i looks at: i waits for it. -/
theorem Stps.sees (H : Stps P pr self ops ms s ds X) {i l b : Nat} {o : Oper} (ho : ops[i]? = some o) (hd : (X i).dn) (hv : (X i).view.blk b ≠ none) (hl : l < i) (ht : Tch ops ds X l b) : Reach ops i l := by
  have hi : i < ops.size := (Array.getElem?_eq_some_iff.1 ho).1
  have D := H.done ho hd
  obtain ⟨hln, hld, hc⟩ := ht
  have L := H.done (Array.getElem?_eq_getElem hln) hld
  refine (H.st.mask i hi l).1 ?_
  cases hb : bit (getN ms i) l with
  | true => rfl
  | false =>
    exfalso
    have hr := H.rc (i := l + 1) (j := i) (by omega) (by omega) (L.rcn (by
      rcases hc with h | h
      · left; intro e; rw [e] at h; cases h
      · right; omega))
    obtain ⟨g1, g2⟩ := D.hid b hv _ hr hb
    rcases hc with h | h
    · exact g1 h
    · exact g2 h

/-- Whoever turns, behind i, what i looks at, waits for i. -/
theorem Stps.turns (H : Stps P pr self ops ms s ds X) {i l b : Nat} {o : Oper} (ho : ops[i]? = some o) (hd : (X i).dn) (hv : (X i).view.blk b ≠ none) (hl : i < l) (ht : Tch ops ds X l b) : Reach ops l i := by
  have hi : i < ops.size := (Array.getElem?_eq_some_iff.1 ho).1
  have D := H.done ho hd
  obtain ⟨hln, hld, hc⟩ := ht
  have L := H.done (Array.getElem?_eq_getElem hln) hld
  rcases hc with h | h
  · refine (H.st.mask l hln i).1 (L.imp b h i ?_)
    exact (D.real b hv).imp (H.rv (i := i + 1) (by omega) (by omega)) (H.rs (i := i + 1) (by omega) (by omega))
  · exfalso
    have hb : ¬ (ds i).nx ≤ b := fun hle => hv (D.vlow b hle)
    have := H.nx (i := i) (j := l) (by omega) (by omega)
    omega

structure DI (ops : Array Oper) (s : St) (ds : Nat → DS) (X : Nat → SD) (own : Nat → Prop) (σ0 : Map) (a0 : Act) (w0 : World) (σ : Map) (listed : Array Bool) (a : Act) (w : World) : Prop where
  size : listed.size = ops.size
  closed : ∀ (j : Nat) (o : Oper), listed.getD j false = true → ops[j]? = some o → ∀ i ∈ depsOf o, listed.getD i false = true
  asz : a.tmps.size = s.nt
  adef : a.defers = []
  aout : ∀ k, (∀ l, dstAt ops l = some k → ¬ listed.getD l false = true) → a.tmps.getD k undef = a0.tmps.getD k undef
  le : Le σ0 σ
  only : ∀ b, b < (ds 0).nx ∨ (ds ops.size).nx ≤ b → σ b = σ0 b
  nosig : ∀ l, l < ops.size → ¬ listed.getD l false = true → ∀ b, (ds l).nx ≤ b → b < (ds (l + 1)).nx → σ b = none
  blk : ∀ b B, HD (MF ds) (Tch ops ds X) (fun l => listed.getD l false = true) ops.size b = some B → ∃ k sh sz, σ b = some (k, sh, sz) ∧ own k ∧ BRel σ B k sh sz w
  inj : ∀ b b' B B' x x', HD (MF ds) (Tch ops ds X) (fun l => listed.getD l false = true) ops.size b = some B → HD (MF ds) (Tch ops ds X) (fun l => listed.getD l false = true) ops.size b' = some B' → b ≠ b' → σ b = some x → σ b' = some x' → x.1 ≠ x'.1
  news : ∀ c, w.heap.size ≤ c → own c
  vals : ∀ l, l < ops.size → listed.getD l false = true → ∀ d, dstAt ops l = some d → ∀ v, T.get fuel d (ds (l + 1)).t = some v → RelV σ v (a.tmps.getD d undef)
  wsize : w0.heap.size ≤ w.heap.size
  frame : ∀ c, ¬ own c → w.heap[c]? = w0.heap[c]?
  os : w.os = w0.os
  tape : w.tape = w0.tape
  output : w.output = w0.output

theorem listed_set {listed : Array Bool} {i j : Nat} (hi : i < listed.size) : (listed.setIfInBounds i true).getD j false = true ↔ listed.getD j false = true ∨ j = i := by
  simp only [Array.getD_eq_getD_getElem?, Array.getElem?_setIfInBounds]
  by_cases e : i = j
  · subst e; simp [hi]
  · rw [if_neg e]
    exact ⟨.inl, fun h => h.elim id fun h => absurd h.symm e⟩
end

end
end Ev
end Go.Proofs.YtggfhklokfcplaaGreat
