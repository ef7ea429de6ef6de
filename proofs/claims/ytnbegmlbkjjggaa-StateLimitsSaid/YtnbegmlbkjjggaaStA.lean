/- state: what a State is (its numbers), its cells, as an argument gives it. -/
import Derived.Test.YtnbegmlbkjjggaaCel
import Derived.Test.YtnbegmlbkjjggaaBlk
import Derived.Deep.Slices
import Derived.Deep.Fields
import Derived.ChangeSame
import Derived.OpenShut
import Derived.Test.YtnbegmlbkjjggaaRows
namespace Go.Proofs.Ytnbegmlbkjjggaa
open Go.RowKit Go.ChangeShapes Go.WideShapes Go.Deep

/-- A frame. -/
structure Fm where
  fn : Int
  pc : Int
  ls : List (Int × Int)
  base : Int
  lb : List (Int × Int)
instance : Inhabited Fm := ⟨⟨0, 0, [], 0, []⟩⟩
/-- A state. -/
structure St where
  vs : List (Int × Int)
  fs : List Fm
  asks : Int
/-- Two numbers: a value, a label. -/
def PaR (_ : World) (cs : List Value) (x : Int × Int) : Prop := cs = [.int .i64 x.1, .int .i64 x.2] ∧ (Lit.int .i64 x.1).wf = true ∧ (Lit.int .i64 x.2).wf = true
def FrR (w : World) (cs : List Value) (f : Fm) : Prop :=
  ∃ a n c a' n' c', cs = [.int .i64 f.fn, .int .i64 f.pc, .slice a n c, .int .i64 f.base, .slice a' n' c'] ∧ RdG 2 PaR w a n c f.ls ∧ RdG 2 PaR w a' n' c' f.lb ∧
    (Lit.int .i64 f.fn).wf = true ∧ (Lit.int .i64 f.pc).wf = true ∧ (Lit.int .i64 f.base).wf = true
/-- Where a state's rows lie. -/
structure SV where
  vo : Option Addr
  vn : Nat
  vc : Nat
  fo : Option Addr
  fn : Nat
  fc : Nat
def SV.cells (V : SV) (S : St) : List Value := [.slice V.vo V.vn V.vc, .slice V.fo V.fn V.fc, .int .i64 S.asks]
structure StR (V : SV) (S : St) (w : World) : Prop where
  v : RdG 2 PaR w V.vo V.vn V.vc S.vs
  f : RdG 5 FrR w V.fo V.fn V.fc S.fs
  a : (Lit.int .i64 S.asks).wf = true

theorem zInt : Try.prog.cellsOf 3 = 1 := by kernel_rfl
theorem zI64 : Try.prog.cellsOf 2 = 1 := by kernel_rfl
theorem zVals : Try.prog.cellsOf 22 = 1 := by kernel_rfl
theorem zFrames : Try.prog.cellsOf 23 = 1 := by kernel_rfl
theorem zLabels : Try.prog.cellsOf 40 = 1 := by kernel_rfl
theorem zVal : Try.prog.cellsOf 39 = 2 := by kernel_rfl
theorem zLabel : Try.prog.cellsOf 44 = 2 := by kernel_rfl
theorem zFrame : Try.prog.cellsOf 42 = 5 := by kernel_rfl
theorem zState : Try.prog.cellsOf 25 = 3 := by kernel_rfl

theorem RdG.rx_of {α : Type} {s : Nat} {R : World → List Value → α → Prop} {w : World} {ao : Option Addr} {n cap : Nat} {xs : List α} (h : RdG s (fun w cs x => Rx w fun w => R w cs x) w ao n cap xs) : Rx w fun w => RdG s R w ao n cap xs := fun w' h' =>
  ⟨h.len, h.le, h.max, h.nil, fun i x hi => by
    obtain ⟨b, off, cs, e, hl, hR, hc⟩ := h.cell i x hi
    exact ⟨b, off, cs, e, hl, hR w' h', fun j v hj => (World.cell?_of_block (h' _ (World.block_lt_of_cell? w _ (hc j v hj)))).trans (hc j v hj)⟩⟩
theorem RdG.parx {w : World} {ao : Option Addr} {n cap : Nat} {xs : List (Int × Int)} (h : RdG 2 PaR w ao n cap xs) : Rx w fun w => RdG 2 PaR w ao n cap xs :=
  RdG.rx_of ⟨h.len, h.le, h.max, h.nil, fun i x hi => by
    obtain ⟨b, off, cs, e, hl, hR, hc⟩ := h.cell i x hi
    exact ⟨b, off, cs, e, hl, fun _ _ => hR, hc⟩⟩
theorem RdG.frrx {w : World} {ao : Option Addr} {n cap : Nat} {xs : List Fm} (h : RdG 5 FrR w ao n cap xs) : Rx w fun w => RdG 5 FrR w ao n cap xs :=
  RdG.rx_of ⟨h.len, h.le, h.max, h.nil, fun i x hi => by
    obtain ⟨b, off, cs, e, hl, ⟨a1, n1, c1, a2, n2, c2, e2, r1, r2, h3⟩, hc⟩ := h.cell i x hi
    exact ⟨b, off, cs, e, hl, fun w' h' => ⟨a1, n1, c1, a2, n2, c2, e2, RdG.parx r1 w' h', RdG.parx r2 w' h', h3⟩, hc⟩⟩
theorem StR.rx {V : SV} {S : St} {w : World} (h : StR V S w) : Rx w (StR V S) := fun w' h' => ⟨RdG.parx h.v w' h', RdG.frrx h.f w' h', h.a⟩

section
variable {H : Type} {enc : TypeId × Value → H} {w : World} {base : Nat} {spare : Nat → Bool} {held : Bool}

set_option maxRecDepth 10000 in
theorem open_rdG {P : Program} {α : Type} [Inhabited α] {t e : TypeId} {s : Nat} {R : World → List Value → α → Prop} (ht : P.underlying t = some (.slice e)) (hs : P.cellsOf e = s) (hs0 : 0 < s)
    (hE : ∀ n cs y, DataW.trod enc P w base spare held n e cs = some y → ∃ x, cs.length = s ∧ R w cs x)
    {fuel : Nat} {cs : List Value} {x : DataW H × List MemPlace} (h : DataW.trod enc P w base spare held fuel t cs = some x) :
    ∃ ao n cap xs, cs = [.slice ao n cap] ∧ RdG s R w ao n cap xs := by
  rcases open_slice ht h with ⟨rfl, _⟩ | ⟨a, len, cap, m, n, D, Pl, rfl, _, hl, hm, hmm, _, hi⟩
  · exact ⟨none, 0, 0, [], rfl, RdG.empty w⟩
  · have hlm : len ≤ m := by rw [hmm]; split <;> omega
    have key : ∀ i : Nat, ∃ p : List Value × α, i < len → p.1.length = s ∧ R w p.1 p.2 ∧ ∀ j v, p.1[j]? = some v → w.cell? ((a.add (i * s)).add j) = some v := by
      intro i
      by_cases hil : i < len
      · obtain ⟨cs', hc, ht⟩ := hi i (by omega)
        rw [hs] at hc
        obtain ⟨x, hx1, hx2⟩ := hE _ _ _ ht
        refine ⟨(cs', x), fun _ => ⟨hx1, hx2, fun j v hj => ?_⟩⟩
        obtain ⟨_, _, hcell⟩ := World.cells?_some hc
        rw [hcell j (by have := (List.getElem?_eq_some_iff.1 hj).1; simp only at this; omega), hj]
      · exact ⟨default, fun h => absurd h hil⟩
    obtain ⟨f, hf⟩ := Classical.axiomOfChoice key
    refine ⟨some a, len, cap, (List.range len).map fun i => (f i).2, rfl, by simp, hl, hm, (fun e => by cases e), fun i x hi => ?_⟩
    have hil : i < len := by have := (List.getElem?_eq_some_iff.1 hi).1; simpa using this
    have hx : x = (f i).2 := by simp [hil] at hi; exact hi.symm
    subst hx
    obtain ⟨h1, h2, h3⟩ := hf i hil
    have hspot : a.spot = none := by
      obtain ⟨g1, _, g3⟩ := hf 0 (by omega)
      have := g3 0 _ (List.getElem?_eq_getElem (by omega))
      simpa [Addr.add] using World.cell?_spot this
    obtain ⟨b, off, spot⟩ := a
    simp only at hspot
    subst hspot
    refine ⟨b, off, (f i).1, rfl, h1, h2, fun j v hj => ?_⟩
    have := h3 j v hj
    simp only [Addr.add_lit] at this
    exact this
/-- The fields of a struct, each by its place. -/
theorem open_fields {P : Program} {t : TypeId} {fs : Array Field} {n : Nat} {cs : List Value} {y : DataW H × List MemPlace} (hs : P.underlying t = some (.struct fs)) (h : DataW.trod enc P w base spare held n t cs = some y) :
    cs.length = P.cellsOf t ∧ ∃ m, ∀ (i : Nat) (T : TypeId) (o : Nat), (fs[i]?).map (fun f => (f.type, f.offset)) = some (T, o) → ∃ z, DataW.trod enc P w base spare held m T ((cs.drop o).take (P.cellsOf T)) = some z := by
  obtain ⟨ys, m, _, _, hl, hyl, hf⟩ := DataW.trod_struct hs h
  refine ⟨hl, m, fun i T o hi => ?_⟩
  obtain ⟨f, hif, e⟩ := Option.map_eq_some_iff.1 hi
  cases e
  have hlt : i < ys.length := by rw [hyl]; exact (Array.getElem?_eq_some_iff.1 hif).1
  exact ⟨ys[i], by rw [hf i f hif, List.getElem?_eq_getElem hlt]⟩

set_option maxRecDepth 10000 in
theorem open_val {n : Nat} {cs : List Value} {y : DataW H × List MemPlace} (h : DataW.trod enc Try.prog w base spare held n 39 cs = some y) : ∃ x : Int × Int, cs.length = 2 ∧ PaR w cs x := by
  obtain ⟨hl, m, hf⟩ := open_fields Try.underlying39 h
  replace hl := hl.trans zVal
  obtain ⟨_, h0⟩ := hf 0 3 0 rfl
  obtain ⟨_, h1⟩ := hf 1 2 1 rfl
  match cs, hl with
  | [v0, v1], _ =>
    clear h hf
    rw [zInt] at h0
    rw [zI64] at h1
    simp only [List.drop, List.take] at h0 h1
    obtain ⟨x0, e0, _, w0⟩ := DataW.trod_int Try.underlying3 h0
    obtain ⟨x1, e1, _, w1⟩ := DataW.trod_int Try.underlying2 h1
    simp only [List.cons.injEq, and_true] at e0 e1
    subst e0 e1
    exact ⟨(x0, x1), rfl, rfl, w0, w1⟩
set_option maxRecDepth 10000 in
theorem open_lab {n : Nat} {cs : List Value} {y : DataW H × List MemPlace} (h : DataW.trod enc Try.prog w base spare held n 44 cs = some y) : ∃ x : Int × Int, cs.length = 2 ∧ PaR w cs x := by
  obtain ⟨hl, m, hf⟩ := open_fields Try.underlying44 h
  replace hl := hl.trans zLabel
  obtain ⟨_, h0⟩ := hf 0 3 0 rfl
  obtain ⟨_, h1⟩ := hf 1 3 1 rfl
  match cs, hl with
  | [v0, v1], _ =>
    clear h hf
    rw [zInt] at h0 h1
    simp only [List.drop, List.take] at h0 h1
    obtain ⟨x0, e0, _, w0⟩ := DataW.trod_int Try.underlying3 h0
    obtain ⟨x1, e1, _, w1⟩ := DataW.trod_int Try.underlying3 h1
    simp only [List.cons.injEq, and_true] at e0 e1
    subst e0 e1
    exact ⟨(x0, x1), rfl, rfl, w0, w1⟩
theorem open_vals {fuel : Nat} {cs : List Value} {x : DataW H × List MemPlace} (h : DataW.trod enc Try.prog w base spare held fuel 22 cs = some x) :
    ∃ ao n cap is, cs = [.slice ao n cap] ∧ RdG 2 PaR w ao n cap is :=
  open_rdG Try.underlying22 zVal (by decide) (fun n cs y h => open_val h) h
theorem open_labs {fuel : Nat} {cs : List Value} {x : DataW H × List MemPlace} (h : DataW.trod enc Try.prog w base spare held fuel 40 cs = some x) :
    ∃ ao n cap is, cs = [.slice ao n cap] ∧ RdG 2 PaR w ao n cap is :=
  open_rdG Try.underlying40 zLabel (by decide) (fun n cs y h => open_lab h) h
set_option maxRecDepth 10000 in
theorem open_fr {n : Nat} {cs : List Value} {y : DataW H × List MemPlace} (h : DataW.trod enc Try.prog w base spare held n 42 cs = some y) : ∃ x : Fm, cs.length = 5 ∧ FrR w cs x := by
  obtain ⟨hl, m, hf⟩ := open_fields Try.underlying42 h
  replace hl := hl.trans zFrame
  obtain ⟨_, h0⟩ := hf 0 3 0 rfl
  obtain ⟨_, h1⟩ := hf 1 3 1 rfl
  obtain ⟨_, h2⟩ := hf 2 22 2 rfl
  obtain ⟨_, h3⟩ := hf 3 3 3 rfl
  obtain ⟨_, h4⟩ := hf 4 40 4 rfl
  match cs, hl with
  | [v0, v1, v2, v3, v4], _ =>
    clear h hf
    rw [zInt] at h0 h1 h3
    rw [zVals] at h2
    rw [zLabels] at h4
    simp only [List.drop, List.take] at h0 h1 h2 h3 h4
    obtain ⟨x0, e0, _, w0⟩ := DataW.trod_int Try.underlying3 h0
    obtain ⟨x1, e1, _, w1⟩ := DataW.trod_int Try.underlying3 h1
    obtain ⟨x3, e3, _, w3⟩ := DataW.trod_int Try.underlying3 h3
    obtain ⟨a2, n2, k2, l2, e2, r2⟩ := open_vals h2
    obtain ⟨a4, n4, k4, l4, e4, r4⟩ := open_labs h4
    simp only [List.cons.injEq, and_true] at e0 e1 e2 e3 e4
    subst e0 e1 e2 e3 e4
    exact ⟨⟨x0, x1, l2, x3, l4⟩, rfl, _, _, _, _, _, _, rfl, r2, r4, w0, w1, w3⟩
theorem open_frs {fuel : Nat} {cs : List Value} {x : DataW H × List MemPlace} (h : DataW.trod enc Try.prog w base spare held fuel 23 cs = some x) :
    ∃ ao n cap is, cs = [.slice ao n cap] ∧ RdG 5 FrR w ao n cap is :=
  open_rdG Try.underlying23 zFrame (by decide) (fun n cs y h => open_fr h) h
set_option maxRecDepth 10000 in
/-- A state, as an argument gives it. -/
theorem open_state {fuel : Nat} {cs : List Value} {x : DataW H × List MemPlace} (h : DataW.trod enc Try.prog w base spare held fuel 25 cs = some x) : ∃ V S, cs = V.cells S ∧ StR V S w := by
  obtain ⟨hl, m, hf⟩ := open_fields Try.underlying25 h
  replace hl := hl.trans zState
  obtain ⟨_, h0⟩ := hf 0 22 0 rfl
  obtain ⟨_, h1⟩ := hf 1 23 1 rfl
  obtain ⟨_, h2⟩ := hf 2 3 2 rfl
  match cs, hl with
  | [v0, v1, v2], _ =>
    clear h hf
    rw [zVals] at h0
    rw [zFrames] at h1
    rw [zInt] at h2
    simp only [List.drop, List.take] at h0 h1 h2
    obtain ⟨a0, n0, k0, l0, e0, r0⟩ := open_vals h0
    obtain ⟨a1, n1, k1, l1, e1, r1⟩ := open_frs h1
    obtain ⟨x2, e2, _, w2⟩ := DataW.trod_int Try.underlying3 h2
    simp only [List.cons.injEq, and_true] at e0 e1 e2
    subst e0 e1 e2
    exact ⟨⟨a0, n0, k0, a1, n1, k1⟩, ⟨l0, l1, x2⟩, rfl, r0, r1, w2⟩
end
end Go.Proofs.Ytnbegmlbkjjggaa
