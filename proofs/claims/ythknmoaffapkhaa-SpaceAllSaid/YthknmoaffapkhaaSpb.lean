/- space: Global, Elem, setElem, SetElems, SetGlobal. -/
import Derived.Test.YthknmoaffapkhaaSpa
import Derived.Handy
namespace Go.Proofs.Ythknmoaffapkhaa
open Go.RowKit Go.Maps
set_option linter.unusedVariables false

theorem global_nil (i : Int) (w : World) : Calls Try.prog 14 #[.pointer none, .int .i64 i] w fun e w' => e = .returned (.tuple #[.agg #[.int .i64 0, .int .i64 0], .bool false]) ∧ Below w.heap.size w w' := by
  have hh := fun w => hasGlobal_nil i w
  go_enter Try.func14, Try.ntmps14
  go_wp2_with fail
  refine (hh _).mono ?_
  rintro e w' ⟨rfl, rfl⟩
  go_wp2_with fail
  go_returns
  exact ⟨rfl, Bl.alloc (Bl.refl _) _⟩
theorem global_no {B nb : Nat} {w : World} {S : Spc} {T : List Int} {V : List (Int × Int)} (h : SpAt B w S nb T V) (i : Int) (hi : i < 0 ∨ (V.length : Int) ≤ i) :
    Calls Try.prog 14 #[spv S, .int .i64 i] w fun e w' => e = .returned (.tuple #[.agg #[.int .i64 0, .int .i64 0], .bool false]) ∧ Below w.heap.size w w' := by
  have hh := hasGlobal_to (h.alloc (.cells #[.int .i64 0, .int .i64 0] 39)) i
  rw [show decide (0 ≤ i ∧ i < (V.length : Int)) = false by simp; omega] at hh
  clear h hi
  go_enter Try.func14, Try.ntmps14
  go_wp2_with fail
  refine hh.mono ?_
  rintro e w' ⟨rfl, rfl⟩
  go_wp2_with fail
  go_returns
  exact ⟨rfl, Bl.alloc (Bl.refl _) _⟩
theorem global_to {B nb : Nat} {w : World} {S : Spc} {T : List Int} {V : List (Int × Int)} (h : SpAt B w S nb T V) (i : Nat) (hi : i < V.length) :
    Calls Try.prog 14 #[spv S, .int .i64 (i : Int)] w fun e w' => e = .returned (.tuple #[.agg #[.int .i64 (V.getD i (0, 0)).1, .int .i64 (V.getD i (0, 0)).2], .bool true]) ∧ Below w.heap.size w w' := by
  have hh := hasGlobal_to (h.alloc (.cells #[.int .i64 0, .int .i64 0] 39)) i
  rw [show decide (0 ≤ (i : Int) ∧ (i : Int) < (V.length : Int)) = true by simp; omega] at hh
  obtain ⟨_, _, c2⟩ := h.cells
  have hlt := h.lt.1
  obtain ⟨ao, cap, e, hl, hc, hg⟩ := h.gl.shape
  have hgl := h.gl
  have hv := h.vs
  rw [List.length_map] at e hl hg
  obtain ⟨g, rfl⟩ := hg (by omega)
  rw [e] at c2 hgl
  have v0 := hgl.cell i 0 (u := .int .i64 (V.getD i (0, 0)).1) (by simpa using hi) (by rw [vc_get V i hi]; rfl)
  have v1 := hgl.cell i 1 (u := .int .i64 (V.getD i (0, 0)).2) (by simpa using hi) (by rw [vc_get V i hi]; rfl)
  obtain ⟨x, hx⟩ : ∃ x, (V.getD i (0, 0)).1 = x := ⟨_, rfl⟩
  obtain ⟨y, hy⟩ : ∃ y, (V.getD i (0, 0)).2 = y := ⟨_, rfl⟩
  rw [hx, hy]
  rw [hx] at v0
  rw [hy] at v1
  have a0 := v0.1
  have a1 := v1.1
  have hgw := v0.2.2.1
  obtain ⟨n, hn⟩ : ∃ n, V.length = n := ⟨_, rfl⟩
  rw [hn] at c2 hi hv hl
  have hne : g ≠ S.p := by
    intro e2
    exact h.neg.2.1 (by rw [e, e2]; rfl)
  rw [Nat.add_zero] at a0
  clear v0 v1 hx hy hgl e h hg hn
  go_enter Try.func14, Try.ntmps14
  go_wp2_with fail
  refine hh.mono ?_
  rintro e w' ⟨rfl, rfl⟩
  go_wp2_with fail
  go_returns
  exact ⟨rfl, Bl.alloc (Bl.refl _) _⟩

theorem elem_nil (i : Int) (w : World) : Calls Try.prog 15 #[.pointer none, .int .i64 i] w fun e w' => e = .returned (.tuple #[.int .i64 0, .bool false]) ∧ w = w' := by
  go_enter Try.func15, Try.ntmps15
  go_wp2_with fail
  go_returns
  exact ⟨rfl, rfl⟩
/-- What Elem answers. -/
def elemIs (T : List Int) (i : Int) : Bool := decide (0 ≤ i ∧ i < T.length ∧ T.getD i.toNat 0 ≠ -1)
def elemF (T : List Int) (i : Int) : Int := if elemIs T i then T.getD i.toNat 0 else 0
theorem TabD.at_ {D : DataW Unit} {T : List Int} (h : TabD D T) (i : Int) : D.atKey (key i) (.lit (key 0)) = .lit (key (elemF T i)) := by
  have hh := h.has i
  unfold elemF elemIs
  by_cases e : decide (0 ≤ i ∧ i < T.length ∧ T.getD i.toNat 0 ≠ -1) = true
  · rw [if_pos e]
    rw [decide_eq_true_eq] at e
    have := h.is' i.toNat (by omega) e.2.2 (.lit (key 0))
    rwa [show ((i.toNat : Nat) : Int) = i by omega] at this
  · rw [if_neg e]
    rw [atKey_of_not_has (by rw [hh]; simpa using e)]
theorem elem_to {B nb : Nat} {w : World} {S : Spc} {T : List Int} {V : List (Int × Int)} (h : SpAt B w S nb T V) (i : Int) (hi : (Lit.int .i64 i).wf = true) :
    Calls Try.prog 15 #[spv S, .int .i64 i] w fun e w' => e = .returned (.tuple #[.int .i64 (elemF T i), .bool (elemIs T i)]) ∧ w = w' := by
  obtain ⟨_, c1, _⟩ := h.cells
  obtain ⟨D, hm, hD⟩ := h.map
  have hkey := keyOf_int_mk (P := Try.prog) Try.underlying3 hi
  have hat := hD.at_ i
  have hhas := hD.has i
  have hx : elemIs T i = Maps.has D (key i) := by rw [hhas]; rfl
  rw [hx]
  obtain ⟨u, hu⟩ : ∃ u, Maps.has D (key i) = u := ⟨_, rfl⟩
  obtain ⟨c, hat2, hwc, hrun⟩ : ∃ c, D.atKey (key i) (.lit (key 0)) = .lit (key c) ∧ (Lit.int .i64 c).wf = true ∧ ∀ n, (Instr.lookup 58 (.map (some S.bm)) (.int .i64 i) true).run Try.prog (w.drewN n) = .ok (.tuple #[.int .i64 c, .bool (Maps.has D (key i))]) (w.drewN n) := by
    obtain ⟨v, ps, hrun, hR⟩ := hm.look_ok keyedI Try.underlying58 (zeroI w) (plainElem_int Try.underlying3 (by decide)) hkey
    obtain ⟨c, rfl, hz, hw⟩ := plainElem_int_inv Try.underlying3 hR
    simp only [Prod.mk.injEq] at hz
    refine ⟨c, hz.1, hw, fun n => ?_⟩
    obtain ⟨v, ps, hrun, hR⟩ := World.ownsMap.look_ok (w := w.drewN n) hm keyedI Try.underlying58 (zeroI _) (plainElem_int Try.underlying3 (by decide)) hkey
    obtain ⟨c', rfl, hz', _⟩ := plainElem_int_inv Try.underlying3 hR
    simp only [Prod.mk.injEq] at hz'
    have e := hz.1.symm.trans hz'.1
    simp only [DataW.lit.injEq, Lit.int.injEq, true_and] at e
    rw [hrun, e]
  rw [hat] at hat2
  simp only [DataW.lit.injEq, Lit.int.injEq, true_and] at hat2
  have hrun0 := hrun 0
  rw [show w.drewN 0 = w from rfl] at hrun0
  rw [hu] at hrun0 ⊢
  rw [hat2]
  clear hat hat2 hhas hx hu h hm hD hrun hkey hi
  go_enter Try.func15, Try.ntmps15
  go_wp2_with fail
  go_returns
  exact ⟨rfl, rfl⟩
end Go.Proofs.Ythknmoaffapkhaa
