/- MatchShape: what its loops keep. -/
import Derived.Test.YtfambbpggodlkaaCodeShapeM
import Derived.Test.YtfambbpggodlkaaCodeApp
import Derived.Test.YtfambbpggodlkaaCodeRefMatch
namespace Go.Proofs.Ytfambbpggodlkaa
open Go.RowKit Go.Maps

theorem OwnP.grownBare {B : Nat} {w w' : World} {v : Value} {X : List Int} {r : Option Nat} (h : OwnP B w v (X.map bare)) (hg : w.grownBy w' r) (hne : ∀ g, v.ownBlock = some g → r ≠ some g) : OwnP B w' v (X.map bare) := by
  obtain ⟨ps, e, hrow, hin⟩ := h
  refine ⟨ps, e, hrow.kept hg ?_, fun p hp => ?_⟩
  · cases hv : v.ownBlock with
    | none => exact .inl rfl
    | some g => exact .inr (fun e => hne g hv e.symm)
  · obtain ⟨hr, hC⟩ := hin p hp
    have hl : p.l = [] := by
      have : p.ins ∈ X.map bare := by rw [← e]; exact List.mem_map.2 ⟨p, hp, rfl⟩
      obtain ⟨x, _, hx⟩ := List.mem_map.1 this
      have := congrArg Ins.l hx
      exact this.symm
    have hn : p.ln = 0 := by rw [← hr.len, hl]; rfl
    refine ⟨⟨hr.len, hr.le, hr.max, hr.nil, fun ad ha i hi => by omega, hr.wf⟩, fun ad ha => ⟨Nat.lt_of_lt_of_le (hC ad ha).1 hg.size, (hC ad ha).2⟩⟩

/-- An append of one instruction that is its byte alone; what else is touched. -/
theorem wpList_app_bareF {w : World} {ops : Array Oper} {rest : List Oper} {o : Oper} {a : Act} {Q : Exit → Act → World → Prop} (hgd : o.guard = none) (s x : Operand)
    (ho : o.op = .call { callee := .builtin .append, args := #[s, x], argTypes := #[22, 22] })
    (B : Nat) (v : Value) (is : List Ins) (hs : a.eval s = v) (hown : OwnP B w v is) (op : Int) (b : Nat) (hx : a.eval x = .slice (some ⟨b, 0, none⟩) 1 1)
    (hc : ∀ j u, (bareC op)[j]? = some u → w.cell? ((⟨b, 0, none⟩ : Addr).add j) = some u) (hl : is.length ≤ 1000) (hB : B ≤ w.heap.size)
    (h : ∀ v' w', OwnP B w' v' (is ++ [bare op]) → w.grownBy w' v.ownBlock → (∀ y, v'.ownBlock = some y → v.ownBlock = some y ∨ w.heap.size ≤ y) → wpList Try.prog ops Q rest (a.put o.dst v') w') : wpList Try.prog ops Q (o :: rest) a w := by
  obtain ⟨i0', hi0, hz0, hz1, hz2⟩ := info_parts infoIns
  obtain ⟨ps, hps, hrow, hin⟩ := hown
  have hpl : ps.length = is.length := by have := congrArg List.length hps; simpa using this
  refine wpList_append_lies _ hgd s x 22 ho B 39 i0' _ 4 48 Try.underlying22 hi0 hz0 hz1 hz2 rfl (by decide) v ps.length _ hs hrow ⟨b, 0, none⟩ 1 1 (bareC op) hx rfl hc (by simp [bareC, Value.oneCell']) (by decide) (by unfold maxLen; omega) (by omega) hB (w.heap.size) rfl ?_
  intro g cap w2 o2 g2 hg2 _
  refine h _ _ (OwnP.step hps hin ⟨op, 0, 0, none, 0, 0, []⟩ (Rd.empty _ _) (fun ad ha => by cases ha) o2 g2 hg2 rfl) g2 (fun y hy => ?_)
  simp [Value.ownBlock] at hy
  subst hy
  rcases hg2 with q | q
  · exact .inl q
  · exact .inr (by omega)

def atC (n : Int) : List Value := [.int .i64 n]
/-- The body v4, the open places v5 (the innermost first in O), the map M of the ends. -/
structure ShP (B : Nat) (w : World) (M : Nat) (v4 v5 : Value) (X O : List Int) (q : Nat) (D : DataW Unit) : Prop where
  body : OwnP B w v4 (X.map bare)
  open' : OwnC 3 1 B w v5 (O.reverse.map atC)
  map : w.ownsMap Try.prog 3 (plainElem Try.prog 3) M q D
  m4 : v4.ownBlock ≠ some M
  m5 : v5.ownBlock ≠ some M
  n45 : ∀ x, v4.ownBlock = some x → v5.ownBlock ≠ some x
  base : B ≤ M

section
variable {B M q : Nat} {w w' : World} {v4 v5 : Value} {X O : List Int} {D : DataW Unit}
theorem ShP.size (h : ShP B w M v4 v5 X O q D) : B ≤ w.heap.size := by have := h.map.lt; have := h.base; omega
theorem ShP.below (h : ShP B w M v4 v5 X O q D) (hb : Below w.heap.size w w') : ShP B w' M v4 v5 X O q D :=
  ⟨h.body.below hb (Nat.le_refl _), h.open'.below hb (Nat.le_refl _), h.map.kept (row := none) ⟨hb.os, hb.tape, hb.output, hb.size, fun k hk _ => hb.block k hk⟩ (by simp), h.m4, h.m5, h.n45, h.base⟩
theorem ShP.alloc (h : ShP B w M v4 v5 X O q D) (o : Obj) : ShP B (w.alloc o) M v4 v5 X O q D := h.below (Bl.alloc (Bl.refl w) o)
theorem ShP.bodyApp (h : ShP B w M v4 v5 X O q D) {v4' : Value} {x : Int} (ob : OwnP B w' v4' (X.map bare ++ [bare x])) (g : w.grownBy w' v4.ownBlock) (hy : ∀ y, v4'.ownBlock = some y → v4.ownBlock = some y ∨ w.heap.size ≤ y) :
    ShP B w' M v4' v5 (X ++ [x]) O q D ∧ Below B w w' := by
  have hM := h.map.lt
  refine ⟨⟨by simpa using ob, h.open'.grown g (fun y hy5 e => h.n45 y e hy5), h.map.kept g (fun e => h.m4 e.symm), fun e => ?_, h.m5, fun y e e5 => ?_, h.base⟩, (Below.refl _ _).grown g h.size (fun k hk => (h.body.lt k hk).1)⟩
  · rcases hy M e with z | z
    · exact h.m4 z
    · omega
  · rcases hy y e with z | z
    · exact h.n45 y z e5
    · have := (h.open'.lt y e5).2
      omega
theorem ShP.openApp (h : ShP B w M v4 v5 X O q D) {g cap on : Nat} {n : Int} (hon : on = O.length) (o2 : w'.ownsRow B 3 1 (.slice (some ⟨g, 0, none⟩) (on + 1) cap) (on + 1) ((O.reverse.map atC).flatten ++ [.int .i64 n])) (g2 : w.grownBy w' v5.ownBlock) (hg : v5.ownBlock = some g ∨ g = w.heap.size) :
    ShP B w' M v4 (.slice (some ⟨g, 0, none⟩) (on + 1) cap) X (n :: O) q D ∧ Below B w w' := by
  have hM := h.map.lt
  refine ⟨⟨h.body.grownBare g2 (fun y hy e => h.n45 y hy e), ?_, h.map.kept g2 (fun e => h.m5 e.symm), h.m4, fun e => ?_, fun y e e5 => ?_, h.base⟩, (Below.refl _ _).grown g2 h.size (fun k hk => (h.open'.lt k hk).1)⟩
  · have : OwnC 3 1 B w' (.slice (some ⟨g, 0, none⟩) (on + 1) cap) (O.reverse.map atC ++ [atC n]) := OwnC.snoc (atC n) rfl h.open'.wid (by simp [hon]) o2
    simpa using this
  · simp [Value.ownBlock] at e
    subst e
    rcases hg with z | z
    · exact h.m5 z
    · omega
  · simp [Value.ownBlock] at e5
    subst e5
    rcases hg with z | z
    · exact h.n45 _ e z
    · have := (h.body.lt _ e).2
      omega
theorem ShP.put (h : ShP B w M v4 v5 X O q D) {n e : Int} (hm : w'.ownsMap Try.prog 3 (plainElem Try.prog 3) M (q + 1) (D.put (key n) (.lit (key e)))) (g : w.grownBy w' (some M)) :
    ShP B w' M v4 v5 X O (q + 1) (D.put (key n) (.lit (key e))) ∧ Below B w w' :=
  ⟨⟨h.body.grownBare g (fun y hy e => by cases e; exact h.m4 hy), h.open'.grown g (fun y hy e => by cases e; exact h.m5 hy), hm, h.m4, h.m5, h.n45, h.base⟩, (Below.refl _ _).grown g h.size (fun k hk => by cases hk; exact h.base)⟩
theorem ShP.cut {g m cap : Nat} {n : Int} (h : ShP B w M v4 (.slice (some ⟨g, 0, none⟩) (m + 1) cap) X (n :: O) q D) (hm : m = O.length) : ShP B w M v4 (.slice (some ⟨g, 0, none⟩) m cap) X O q D := by
  have hT := h.open'.take m (by simp [hm])
  have hr : ((n :: O).reverse.map atC).take m = O.reverse.map atC := by
    rw [List.reverse_cons, List.map_append, hm, List.take_left' (by simp)]
  rw [hr] at hT
  exact ⟨h.body, hT, h.map, h.m4, h.m5, h.n45, h.base⟩
theorem ShP.top {g m cap : Nat} {n : Int} (h : ShP B w M v4 (.slice (some ⟨g, 0, none⟩) (m + 1) cap) X (n :: O) q D) (hm : m = O.length) : w.cell? ⟨g, m, none⟩ = some (.int .i64 n) := by
  have hi : O.length < ((n :: O).reverse.map atC).length := by simp
  have hg : ((n :: O).reverse.map atC).getD O.length [] = atC n := by simp [List.getD]
  have h0 := h.open'.cell O.length 0 hi (u := .int .i64 n) (by rw [hg]; rfl)
  rw [hm]
  simpa using h0.1
theorem ShP.shape (h : ShP B w M v4 v5 X O q D) : (∃ ao cap, v4 = .slice ao X.length cap) ∧ ∃ bo bc, v5 = .slice bo O.length bc ∧ O.length ≤ bc ∧ bc ≤ 9223372036854775807 ∧ (0 < O.length → ∃ g, bo = some ⟨g, 0, none⟩) := by
  obtain ⟨ao, cap, e, _⟩ := h.body.rd (bare_ok X)
  obtain ⟨bo, bc, e5, p1, p2, p3⟩ := h.open'.shape
  exact ⟨⟨ao, cap, by simpa using e⟩, bo, bc, by simpa using e5, by simpa using p1, p2, by simpa using p3⟩
end
end Go.Proofs.Ytfambbpggodlkaa
