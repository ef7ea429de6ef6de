/- A loop over an iterator whose rounds are evaluated: blocks that are held out meanwhile, and what a round keeps. No program is named here. -/
import Derived.Test.YtggfhklokfcplaaGreatEvT
import Derived.RangeFuncOwn
import Derived.RangeFuncFrom
namespace Go.Proofs.YtggfhklokfcplaaGreat
open Go.RowKit
namespace Ev
noncomputable section

variable {own own' : Nat → Prop} {lim : Nat} {σ σ' : Map} {m m' : M} {w w' W W' : World}

theorem Sim.wider (h : ∀ c, own' c → own c) (s : Sim own' lim σ m w) : Sim own lim σ m w :=
  ⟨fun b B hb => let ⟨k, sh, sz, e1, e2, e3⟩ := s.blk b B hb; ⟨k, sh, sz, e1, h _ e2, e3⟩, s.inj, s.fresh, s.low, fun c hc => h _ (s.news c hc)⟩
theorem Ext.wider (h : ∀ c, own' c → own c) (x : Ext own' σ σ' m m' w w') : Ext own σ σ' m m' w w' :=
  ⟨x.le, x.only, x.size, fun c hc => x.frame c fun h' => hc (h _ h'), x.os, x.tape, x.output⟩

theorem Sim.grown (s : Sim own lim σ m W) {row : Option Nat} (hg : W.grownBy W' row) (hr : ∀ r, row = some r → ∃ o : Obj, W.heap[r]? = some o ∧ o.isCells = false) : Sim own lim σ m W' := by
  refine ⟨fun b B hb => ?_, s.inj, s.fresh, s.low, fun c hc => s.news c (Nat.le_trans hg.size hc)⟩
  obtain ⟨k, sh, sz, e1, e2, e3⟩ := s.blk b B hb
  refine ⟨k, sh, sz, e1, e2, e3.mono (Le.refl _) ?_⟩
  obtain ⟨c, el, fr, e4, _⟩ := e3
  refine hg.block k (Array.getElem?_eq_some_iff.1 e4).1 fun e => ?_
  obtain ⟨o, h1, h2⟩ := hr k e.symm
  rw [e4] at h1; cases h1; cases h2

theorem Ext.grown (x : Ext own σ σ' m m' w W) (hn : ∀ c, w.heap.size ≤ c → own c) {row : Option Nat} (hg : W.grownBy W' row) (hr : ∀ r, row = some r → w.heap.size ≤ r) : Ext own σ σ' m m' w W' :=
  ⟨x.le, x.only, Nat.le_trans x.size hg.size, fun c hc => (hg.block c (Nat.lt_of_lt_of_le (Nat.lt_of_not_le fun h => hc (hn c h)) x.size) fun e => hc (hn c (hr c e.symm))).trans (x.frame c hc), hg.os.trans x.os, hg.tape.trans x.tape, hg.output.trans x.output⟩

theorem Sim.box (s : Sim own lim σ m w) (o : Obj) : Sim (fun c => own c ∧ c ≠ w.heap.size) lim σ m (w.alloc o) := by
  refine ⟨fun b B hb => ?_, s.inj, s.fresh, s.low, fun c hc => ?_⟩
  · obtain ⟨k, sh, sz, e1, e2, e3⟩ := s.blk b B hb
    have hk : k < w.heap.size := by obtain ⟨c, el, fr, e4, _⟩ := e3; exact (Array.getElem?_eq_some_iff.1 e4).1
    refine ⟨k, sh, sz, e1, ⟨e2, by omega⟩, e3.mono (Le.refl _) ?_⟩
    show (w.heap.push o)[k]? = _
    rw [Array.getElem?_push, if_neg (by omega)]
  · rw [World.size_alloc] at hc
    exact ⟨s.news c (by omega), by omega⟩

theorem Ext.box (x : Ext own σ σ' m m' w W) (hn : ∀ c, w.heap.size ≤ c → own c) (o : Obj) : Ext own σ σ' m m' w (W.alloc o) :=
  x.grown hn (World.grownBy_alloc W o none) (fun r e => by cases e)

/- held out, and laid back -/
def hideB (m : M) (b : Nat) : M := { m with h := T.upd fuel b none m.h }
def showB (m : M) (b : Nat) (B : Blk) : M := { m with h := T.upd fuel b (some B) m.h }
theorem hideB_same (m : M) (b : Nat) : (hideB m b).blk b = none := T.at_put_eq _ _ _
theorem hideB_ne (m : M) {b c : Nat} (h : c ≠ b) : (hideB m b).blk c = m.blk c := T.get_upd_ne _ _ _ _ _ h
theorem showB_same (m : M) (b : Nat) (B : Blk) : (showB m b B).blk b = some B := T.at_put_eq _ _ _
theorem showB_ne (m : M) {b c : Nat} (B : Blk) (h : c ≠ b) : (showB m b B).blk c = m.blk c := T.get_upd_ne _ _ _ _ _ h
theorem hideB_some {b c : Nat} {C : Blk} (h : (hideB m b).blk c = some C) : c ≠ b ∧ m.blk c = some C := by
  by_cases e : c = b
  · subst e; rw [hideB_same] at h; cases h
  · exact ⟨e, by rw [← hideB_ne m e]; exact h⟩

theorem Sim.hide (s : Sim own lim σ m w) {b : Nat} {B : Blk} (hB : m.blk b = some B) : ∃ k sh sz, σ b = some (k, sh, sz) ∧ own k ∧ k < w.heap.size ∧ BRel σ B k sh sz w ∧ Sim (fun c => own c ∧ c ≠ k) lim σ (hideB m b) w := by
  obtain ⟨k, sh, sz, e1, e2, e3⟩ := s.blk b B hB
  have hk : k < w.heap.size := by obtain ⟨c, el, fr, e4, _⟩ := e3; exact (Array.getElem?_eq_some_iff.1 e4).1
  refine ⟨k, sh, sz, e1, e2, hk, e3, ⟨fun c C hc => ?_, fun c d C D x y hc hd hne hx hy => ?_, s.fresh, fun c C hc => s.low c C (hideB_some hc).2, fun c hc => ⟨s.news c hc, by omega⟩⟩⟩
  · obtain ⟨hne, hc⟩ := hideB_some hc
    obtain ⟨k', sh', sz', f1, f2, f3⟩ := s.blk c C hc
    exact ⟨k', sh', sz', f1, ⟨f2, s.inj c b C B _ _ hc hB hne f1 e1⟩, f3⟩
  · exact s.inj c d C D x y (hideB_some hc).2 (hideB_some hd).2 hne hx hy

theorem Sim.show {k sh sz b : Nat} {B : Blk} (s : Sim (fun c => own c ∧ c ≠ k) lim σ m w) (e : σ b = some (k, sh, sz)) (ho : own k) (hr : BRel σ B k sh sz w) (hb : b < m.nx) : Sim own lim σ (showB m b B) w := by
  have hs : ∀ {c C}, (showB m b B).blk c = some C → (c = b ∧ C = B) ∨ (c ≠ b ∧ m.blk c = some C) := fun {c C} h => by
    by_cases e : c = b
    · subst e; rw [showB_same] at h; cases h; exact .inl ⟨rfl, rfl⟩
    · exact .inr ⟨e, by rw [← showB_ne m B e]; exact h⟩
  refine ⟨fun c C hc => ?_, fun c d C D x y hc hd hne hx hy => ?_, s.fresh, fun c C hc => ?_, fun c hc => (s.news c hc).1⟩
  · rcases hs hc with ⟨rfl, rfl⟩ | ⟨hne, hc⟩
    · exact ⟨k, sh, sz, e, ho, hr⟩
    · obtain ⟨k', sh', sz', f1, f2, f3⟩ := s.blk c C hc; exact ⟨k', sh', sz', f1, f2.1, f3⟩
  · rcases hs hc with ⟨e1, _⟩ | ⟨h1, hc1⟩ <;> rcases hs hd with ⟨e2, _⟩ | ⟨h2, hd1⟩
    · exact absurd (e1.trans e2.symm) hne
    · obtain ⟨k', sh', sz', f1, f2, f3⟩ := s.blk d D hd1
      rw [e1, e] at hx; rw [f1] at hy; cases hx; cases hy
      exact fun h => f2.2 h.symm
    · obtain ⟨k', sh', sz', f1, f2, f3⟩ := s.blk c C hc1
      rw [e2, e] at hy; rw [f1] at hx; cases hx; cases hy
      exact f2.2
    · exact s.inj c d C D x y hc1 hd1 hne hx hy
  · rcases hs hc with ⟨rfl, rfl⟩ | ⟨h1, hc⟩
    · exact hb
    · exact s.low c C hc

theorem hide_pure {b : Nat} {B : Blk} (hB : m.blk b = some B) (hf : Okm m) (p : Pure (hideB m b) m') : Pure m (showB m' b B) := by
  have hb : b < m.nx := Nat.lt_of_not_le fun h => by rw [hf.low b h] at hB; cases hB
  refine ⟨p.nx, p.fl, p.lg, fun c hc hn => ?_, fun hl c hc => ?_, fun c hc => ?_⟩
  · by_cases e : c = b
    · subst e; rw [showB_same, hB]
    · rw [showB_ne _ _ e]; exact (p.kept c hc hn).trans (hideB_ne m e)
  · have hnx := p.nx
    have e : c ≠ b := by
      have h1 : m'.nx ≤ c := hc
      have h2 : (hideB m b).nx = m.nx := rfl
      omega
    rw [showB_ne _ _ e]
    refine p.low (fun d hd => ?_) c hc
    have hd : m.nx ≤ d := hd
    exact (hideB_ne m (by omega)).trans (hl d hd)
  · rcases p.was c hc with h | ⟨h1, h2⟩
    · exact .inl h
    · refine .inr ⟨h1, ?_⟩
      by_cases e : c = b
      · subst e; rw [hideB_same] at h2; exact absurd rfl h2
      · rw [hideB_ne m e] at h2; exact h2

theorem hide_okm {b : Nat} (hf : Okm m) : Okm (hideB m b) := ⟨hf.fl, fun c hc => by
  by_cases e : c = b
  · subst e; exact hideB_same _ _
  · exact (hideB_ne m e).trans (hf.low c hc)⟩

/-- The numbers of a row, from the last one on. -/
def rowA (B : Blk) (o : Nat) : Nat → Option (List Int)
  | 0 => some []
  | k + 1 => match T.get fuel (Nat.add o k) B with
    | some (.lit (.int .i64 z)) => match rowA B o k with
      | some l => some (z :: l)
      | none => none
    | _ => none

theorem rowA_at {B : Blk} {o : Nat} : ∀ {n : Nat} {l : List Int}, rowA B o n = some l → l.length = n ∧ ∀ j, j < n → T.get fuel (o + j) B = some (.lit (.int .i64 (l.getD (n - 1 - j) 0)))
  | 0, l, h => by cases h; exact ⟨rfl, fun j hj => absurd hj (by omega)⟩
  | k + 1, l, h => by
    unfold rowA at h
    split at h
    · rename_i z hz
      split at h
      · rename_i l' hl
        cases h
        obtain ⟨h1, h2⟩ := rowA_at hl
        refine ⟨by simp [h1], fun j hj => ?_⟩
        by_cases e : j = k
        · subst e; rw [show j + 1 - 1 - j = 0 by omega]; exact hz
        · rw [h2 j (by omega), show k + 1 - 1 - j = (k - 1 - j) + 1 by omega]; rfl
      · cases h
    · cases h

section
variable {P : Program} {pr : Prim} {slf : Self}
variable (P pr slf) in
/-- A round: the element in slot 5, a cell in slot 2. -/
def roundA (ops : Array Oper) (nt : Nat) (cell : AV) (z : Int) (m : M) : Option M := match drawA P pr slf ops ⟨T.upd fuel 5 (some (.lit (.int .i64 z))) (T.upd fuel 2 (some cell) .nil), nt, m⟩ with
  | some s => some s.m
  | none => none
variable (P pr slf) in
def roundsA (ops : Array Oper) (nt : Nat) (cell : AV) : List Int → M → Option M
  | [], m => some m
  | z :: r, m => match roundA P pr slf ops nt cell z m with
    | some m' => roundsA ops nt cell r m'
    | none => none

theorem roundA_pure (hm : P.follows .mixedOrders = true) (hp : PrimOk P pr) (hg : Good P slf) {ops : Array Oper} {nt : Nat} {cell : AV} {z : Int} (h : roundA P pr slf ops nt cell z m = some m') (hf : Okm m) : Pure m m' := by
  unfold roundA at h
  split at h
  · rename_i s e; cases h; exact (drawA_ok hm hp slf hg ops _ s e hf).1
  · cases h
theorem roundsA_pure (hm : P.follows .mixedOrders = true) (hp : PrimOk P pr) (hg : Good P slf) {ops : Array Oper} {nt : Nat} {cell : AV} : ∀ {l : List Int} {m m' : M}, roundsA P pr slf ops nt cell l m = some m' → Okm m → Pure m m'
  | [], m, m', h, _ => by cases h; exact Pure.refl m
  | z :: r, m, m', h, hf => by
    unfold roundsA at h
    split at h
    · rename_i m1 e
      have p := roundA_pure hm hp hg e hf
      exact p.trans (roundsA_pure hm hp hg h (hf.next p))
    · cases h

theorem round_in (hm : P.follows .mixedOrders = true) (hp : PrimOk P pr) (hg : Good P slf) {ops : Array Oper} (hnd : ∀ o, o ∈ ops → ∀ c, o.op ≠ .defer c) {nt : Nat} {cell : AV} {z : Int} (h : roundA P pr slf ops nt cell z m = some m') (hf : Okm m) (hlim : m'.nx ≤ lim)
    (s : Sim own lim σ m W) {a : Act} (hsz : a.tmps.size = nt) (hd : a.defers = []) (hc : RelV σ cell (a.tmps.getD 2 undef)) (hz : a.tmps.getD 5 undef = .int .i64 z) (id l n : Nat) :
    (Code.region id ops true).wpIn (Fence.wide.inRound l) n P (fun e _ W' => e = .normal ∧ (∀ B, KeepsFrom B W W') ∧ ∃ σ', Sim own lim σ' m' W' ∧ Ext own σ σ' m m' W W') a W := by
  unfold roundA at h
  split at h
  · rename_i s' e
    cases h
    have s2 : Sim (fun c => own c ∧ ∀ o : Obj, W.heap[c]? = some o → o.isCells = true) lim σ m W :=
      ⟨fun b B hb => let ⟨k, sh, sz, e1, e2, e3⟩ := s.blk b B hb; ⟨k, sh, sz, e1, ⟨e2, fun o ho => by obtain ⟨c, el, fr, e4, _⟩ := e3; rw [e4] at ho; cases ho; rfl⟩, e3⟩, s.inj, s.fresh, s.low,
        fun c hc => ⟨s.news c hc, fun o ho => absurd (Array.getElem?_eq_some_iff.1 ho).1 (by omega)⟩⟩
    refine wpIn_mono (drawIn hm hp hg hnd e hf hlim ⟨s2, hsz, ?_, hd⟩ id l n) ?_
    · intro k v hk
      replace hk : T.get fuel k (T.upd fuel 5 (some (.lit (.int .i64 z))) (T.upd fuel 2 (some cell) .nil)) = some v := hk
      rcases T.get_upd _ _ _ _ _ _ hk with ⟨rfl, e1⟩ | ⟨_, hk⟩
      · cases e1; exact hz
      · rcases T.get_upd _ _ _ _ _ _ hk with ⟨rfl, e1⟩ | ⟨_, hk⟩
        · cases e1; exact hc
        · rw [T.get_nil] at hk; cases hk
    · rintro E a' W' ⟨rfl, σ', h1, h2⟩
      refine ⟨rfl, fun B => ⟨h2.size, fun k o _ hk ho => (h2.frame k fun hc => by rw [hc.2 o hk] at ho; cases ho).trans hk⟩, σ', h1.sim.wider fun _ h => h.1, h2.wider fun _ h => h.1⟩
  · cases h
end
end
end Ev
end Go.Proofs.YtggfhklokfcplaaGreat
