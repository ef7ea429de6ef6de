/- A copy is nobody else's: StateOwn answers true for all arguments. No condition on the arguments. -/
import Derived.Test.YtnbegmlbkjjggaaRows
import Derived.Test.YtnbegmlbkjjggaaSfLOwn
import Derived.Test.YtnbegmlbkjjggaaJoin
import Derived.WalkKit
import Derived.ProofKit
import Derived.OpenShut
import Derived.Lib.SmallJoins
import Derived.ShutString
import Derived.ChangeOld
import Derived.Below
namespace Go.Proofs.Ytnbegmlbkjjggaa.stateOwn
open Go.ChangeShapes Go.WideShapes Go.ChangeAt Go.RowKit Go.Joins
set_option linter.unusedVariables false

theorem own : ownKnob Try.prog.godebug = none := by kernel_rfl
theorem laidOut : laidOutB Try.prog = true := jn_laid


def IsRow (k : IntKind) (w : World) (a : Option Addr) (len cap : Nat) (zs : List Int) : Prop :=
  (a = none ∧ len = 0 ∧ cap = 0 ∧ zs = []) ∨
  ∃ x, a = some x ∧ len ≤ cap ∧ cap ≤ maxLen ∧ zs.length = cap ∧ (∀ i, i < zs.length → w.cell? (x.add i) = some (.int k (zs.getD i 0))) ∧ ∀ n ∈ zs, (Lit.int k n).wf = true

theorem walk (V0 : Ytnbegmlbkjjggaa.SV) (S0 : Ytnbegmlbkjjggaa.St) (w : World) (w0 : Ytnbegmlbkjjggaa.StR V0 S0 w) :
    Calls Try.prog 5 #[.agg (V0.cells S0).toArray] w fun e w' => e = .returned (.bool true) ∧ Below w.heap.size w w' := by
    exact Ytnbegmlbkjjggaa.stateOwn_walk Ytnbegmlbkjjggaa.theSpec V0 S0 w w0

set_option maxRecDepth 100000 in
theorem lifted (os : Os) (started : os.Started) (H : Type) (enc : TypeId × Value → H) :
    ReturnsInHanded {} Try.checked os 5 .any (Rows.stateOwnSpec.pre6 enc Try.prog Try.f5 Rows.stateOwnRow.domain false) (Rows.stateOwnSpec.post enc Try.prog Try.f5 false true false false) := by
  refine returnsInHanded_of_change (C := Try.checked) own started (by kernel_rfl) Try.func5
    (ChangeSpec.witness6 (enc := enc) (C := Try.checked) false ⟨#[], #[.agg #[.slice none 0 0, .slice none 0 0, .int .i64 0]], []⟩ 8 (by kernel_rfl) (by kernel_rfl) (by kernel_rfl) (by kernel_rfl)) ?_
  intro W base args ds gs before hval0 hW hcnd _
  have hval : ∀ (j : Nat) t v, Try.f5.params[j]? = some t → args[j]? = some v → Value.okWide Try.prog W .any base t v := hval0
  have hW' := hW
  obtain ⟨p, q, hA0, hV, rfl, hfz, hnd⟩ := hW
  have hA : DataW.TrodAll enc Try.prog W 0 (fun _ => true) true Try.f5.params.toList args.toList ds p := hA0
  rw [Try.params5] at hA hval
  obtain ⟨v0, vs0, d0, ds0, pl0, qq0, hargs, rfl, rfl, h0, r0⟩ := trodAll_cons hA
  obtain ⟨rfl, rfl, rfl⟩ := trodAll_nil r0
  obtain rfl : args = #[v0] := by cases args; simp_all
  obtain ⟨rfl, rfl⟩ := trodVars_none hV
  obtain ⟨ca0, rfl, _⟩ := okWide_struct Try.underlying25 (hval 0 25 v0 rfl rfl)
  have k0 := h0
  have lt0 : ∀ x ∈ pl0, x.block < W.heap.size := by obtain ⟨m, hm⟩ := k0; exact DataW.trod_lt m _ _ _ hm
  obtain ⟨V0, S0, e0, w0⟩ : ∃ V S, ca0 = (Ytnbegmlbkjjggaa.SV.cells V S).toArray ∧ Ytnbegmlbkjjggaa.StR V S W := by
    obtain ⟨fuel, hf⟩ := h0
    obtain ⟨V, S, hcs, hr⟩ := Ytnbegmlbkjjggaa.open_state hf
    exact ⟨V, S, by have := congrArg List.toArray hcs; simpa [Value.cells] using this, hr⟩
  subst e0
  clear hA0 hval0
  refine (walk V0 S0 W w0).mono fun e W' ⟨he, bel⟩ => ?_
  subst he
  exact ⟨_, rfl, _, _, _, [], _, [], hW', trodAll_mk1 (shut_bool Try.underlying4 _), (trodAll_cons_mk (Below.trod laidOut (by kernel_rfl) (of_decide_eq_true (by kernel_rfl)) k0 bel lt0) trodAll_mk0), rfl, bel.frame _, fun h => by cases h⟩

theorem j1 : (Rows.stateOwnRow.inPlace == Try.prog.inPlace 5) = true := by kernel_rfl
theorem j2 : (Rows.stateOwnRow.unfollowed == Try.prog.unfollowed 5) = true := by kernel_rfl
theorem j3 : (Rows.stateOwnRow.recurses == Try.prog.recurses 5) = true := by kernel_rfl
theorem j4 : (Rows.stateOwnRow.named == Try.prog.varsNamed 5) = true := by kernel_rfl
theorem closed : joinedFacts Try.prog 5 Try.f5 Rows.stateOwnSpec Rows.stateOwnRow = true := by
  unfold joinedFacts
  rw [jn_laid, jn_maps, jn_heard, jn_enter, jn_lifts, jn_make, jn_plain, j1, j2, j3, j4]
  kernel_rfl

theorem over : Rows.stateOwnRow.holds Try.pinned (OpenSpec.ofChange Rows.stateOwnSpec) :=
  OpenClaim.holds_of_wide 5 Try.f5 rfl rfl rfl rfl rfl rfl rfl ⟨rfl, rfl, rfl, rfl, rfl⟩ rfl rfl rfl rfl rfl (by as_aux_lemma => kernel_rfl) Try.func5 closed
    (of_decide_eq_true (by kernel_rfl)) (by unfold Func.isWrapper; first | (rw [if_pos (by decide +kernel)]; kernel_rfl) | (rw [if_neg (by decide +kernel)]; exact ⟨rfl, rfl⟩))
    (fun os started H enc _ => lifted os started H enc)

theorem proved : Rows.StateOwnSaid := over
#print axioms proved
end Go.Proofs.Ytnbegmlbkjjggaa.stateOwn
