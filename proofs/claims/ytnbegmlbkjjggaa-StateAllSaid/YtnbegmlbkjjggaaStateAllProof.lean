/- Which states may be; those go to bytes and back; two have one text just if they are the same: StateAll answers true for all arguments. No condition on the arguments. -/
import Derived.Test.YtnbegmlbkjjggaaRows
import Derived.Test.YtnbegmlbkjjggaaSfLAll
import Derived.Test.YtnbegmlbkjjggaaJoin
import Derived.WalkKit
import Derived.ProofKit
import Derived.OpenShut
import Derived.Lib.SmallJoins
import Derived.ShutString
import Derived.ChangeOld
import Derived.Below
namespace Go.Proofs.Ytnbegmlbkjjggaa.stateAll
open Go.ChangeShapes Go.WideShapes Go.ChangeAt Go.RowKit Go.Joins
set_option linter.unusedVariables false

theorem own : ownKnob Try.prog.godebug = none := by kernel_rfl
theorem laidOut : laidOutB Try.prog = true := jn_laid


def IsRow (k : IntKind) (w : World) (a : Option Addr) (len cap : Nat) (zs : List Int) : Prop :=
  (a = none ∧ len = 0 ∧ cap = 0 ∧ zs = []) ∨
  ∃ x, a = some x ∧ len ≤ cap ∧ cap ≤ maxLen ∧ zs.length = cap ∧ (∀ i, i < zs.length → w.cell? (x.add i) = some (.int k (zs.getD i 0))) ∧ ∀ n ∈ zs, (Lit.int k n).wf = true

theorem walk (V0 : Ytnbegmlbkjjggaa.SV) (S0 : Ytnbegmlbkjjggaa.St) (V1 : Ytnbegmlbkjjggaa.SV) (S1 : Ytnbegmlbkjjggaa.St) (w : World) (w0 : Ytnbegmlbkjjggaa.StR V0 S0 w) (w1 : Ytnbegmlbkjjggaa.StR V1 S1 w) :
    Calls Try.prog 3 #[.agg (V0.cells S0).toArray, .agg (V1.cells S1).toArray] w fun e w' => e = .returned (.bool true) ∧ Below w.heap.size w w' := by
    exact Ytnbegmlbkjjggaa.stateAll_walk Ytnbegmlbkjjggaa.theSpec V0 V1 S0 S1 w w0 w1

set_option maxRecDepth 100000 in
theorem lifted (os : Os) (started : os.Started) (H : Type) (enc : TypeId × Value → H) :
    ReturnsInHanded {} Try.checked os 3 .any (Rows.stateAllSpec.pre6 enc Try.prog Try.f3 Rows.stateAllRow.domain false) (Rows.stateAllSpec.post enc Try.prog Try.f3 false true false false) := by
  refine returnsInHanded_of_change (C := Try.checked) own started (by kernel_rfl) Try.func3
    (ChangeSpec.witness6 (enc := enc) (C := Try.checked) false ⟨#[], #[.agg #[.slice none 0 0, .slice none 0 0, .int .i64 0], .agg #[.slice none 0 0, .slice none 0 0, .int .i64 0]], []⟩ 8 (by kernel_rfl) (by kernel_rfl) (by kernel_rfl) (by kernel_rfl)) ?_
  intro W base args ds gs before hval0 hW hcnd _
  have hval : ∀ (j : Nat) t v, Try.f3.params[j]? = some t → args[j]? = some v → Value.okWide Try.prog W .any base t v := hval0
  have hW' := hW
  obtain ⟨p, q, hA0, hV, rfl, hfz, hnd⟩ := hW
  have hA : DataW.TrodAll enc Try.prog W 0 (fun _ => true) true Try.f3.params.toList args.toList ds p := hA0
  rw [Try.params3] at hA hval
  obtain ⟨v0, vs0, d0, ds0, pl0, qq0, hargs, rfl, rfl, h0, r0⟩ := trodAll_cons hA
  obtain ⟨v1, vs1, d1, ds1, pl1, qq1, rfl, rfl, rfl, h1, r1⟩ := trodAll_cons r0
  obtain ⟨rfl, rfl, rfl⟩ := trodAll_nil r1
  obtain rfl : args = #[v0, v1] := by cases args; simp_all
  obtain ⟨rfl, rfl⟩ := trodVars_none hV
  obtain ⟨ca0, rfl, _⟩ := okWide_struct Try.underlying25 (hval 0 25 v0 rfl rfl)
  have k0 := h0
  have lt0 : ∀ x ∈ pl0, x.block < W.heap.size := by obtain ⟨m, hm⟩ := k0; exact DataW.trod_lt m _ _ _ hm
  obtain ⟨V0, S0, e0, w0⟩ : ∃ V S, ca0 = (Ytnbegmlbkjjggaa.SV.cells V S).toArray ∧ Ytnbegmlbkjjggaa.StR V S W := by
    obtain ⟨fuel, hf⟩ := h0
    obtain ⟨V, S, hcs, hr⟩ := Ytnbegmlbkjjggaa.open_state hf
    exact ⟨V, S, by have := congrArg List.toArray hcs; simpa [Value.cells] using this, hr⟩
  subst e0
  obtain ⟨ca1, rfl, _⟩ := okWide_struct Try.underlying25 (hval 1 25 v1 rfl rfl)
  have k1 := h1
  have lt1 : ∀ x ∈ pl1, x.block < W.heap.size := by obtain ⟨m, hm⟩ := k1; exact DataW.trod_lt m _ _ _ hm
  obtain ⟨V1, S1, e1, w1⟩ : ∃ V S, ca1 = (Ytnbegmlbkjjggaa.SV.cells V S).toArray ∧ Ytnbegmlbkjjggaa.StR V S W := by
    obtain ⟨fuel, hf⟩ := h1
    obtain ⟨V, S, hcs, hr⟩ := Ytnbegmlbkjjggaa.open_state hf
    exact ⟨V, S, by have := congrArg List.toArray hcs; simpa [Value.cells] using this, hr⟩
  subst e1
  clear hA0 hval0
  refine (walk V0 S0 V1 S1 W w0 w1).mono fun e W' ⟨he, bel⟩ => ?_
  subst he
  exact ⟨_, rfl, _, _, _, [], _, [], hW', trodAll_mk1 (shut_bool Try.underlying4 _), (trodAll_cons_mk (Below.trod laidOut (by kernel_rfl) (of_decide_eq_true (by kernel_rfl)) k0 bel lt0) (trodAll_cons_mk (Below.trod laidOut (by kernel_rfl) (of_decide_eq_true (by kernel_rfl)) k1 bel lt1) trodAll_mk0)), rfl, bel.frame _, fun h => by cases h⟩

theorem j1 : (Rows.stateAllRow.inPlace == Try.prog.inPlace 3) = true := by kernel_rfl
theorem j2 : (Rows.stateAllRow.unfollowed == Try.prog.unfollowed 3) = true := by kernel_rfl
theorem j3 : (Rows.stateAllRow.recurses == Try.prog.recurses 3) = true := by kernel_rfl
theorem j4 : (Rows.stateAllRow.named == Try.prog.varsNamed 3) = true := by kernel_rfl
theorem closed : joinedFacts Try.prog 3 Try.f3 Rows.stateAllSpec Rows.stateAllRow = true := by
  unfold joinedFacts
  rw [jn_laid, jn_maps, jn_heard, jn_enter, jn_lifts, jn_make, jn_plain, j1, j2, j3, j4]
  kernel_rfl

theorem over : Rows.stateAllRow.holds Try.pinned (OpenSpec.ofChange Rows.stateAllSpec) :=
  OpenClaim.holds_of_wide 3 Try.f3 rfl rfl rfl rfl rfl rfl rfl ⟨rfl, rfl, rfl, rfl, rfl⟩ rfl rfl rfl rfl rfl (by as_aux_lemma => kernel_rfl) Try.func3 closed
    (of_decide_eq_true (by kernel_rfl)) (by unfold Func.isWrapper; first | (rw [if_pos (by decide +kernel)]; kernel_rfl) | (rw [if_neg (by decide +kernel)]; exact ⟨rfl, rfl⟩))
    (fun os started H enc _ => lifted os started H enc)

theorem proved : Rows.StateAllSaid := over
#print axioms proved
end Go.Proofs.Ytnbegmlbkjjggaa.stateAll
