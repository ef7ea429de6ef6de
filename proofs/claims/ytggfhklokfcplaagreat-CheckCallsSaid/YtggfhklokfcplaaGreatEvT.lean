/- A region that was evaluated, within a round of a loop over an iterator. No program is named here. -/
import Derived.Test.YtggfhklokfcplaaGreatEvS
import Derived.RangeFuncWrites
import Derived.RangeFuncLeaves
import Derived.CallsIn
namespace Go.Proofs.YtggfhklokfcplaaGreat
open Go.RowKit
namespace Ev

theorem wpOpsIn_of {P : Program} {ops : Array Oper} {Q : Exit → Act → World → Prop} {l n : Nat} (hnd : ∀ o, o ∈ ops → ∀ c, o.op ≠ .defer c) (hQ : ¬ LetsOut Q) : ∀ (is : List Nat) (a : Act) (w : World), wpOps P ops Q is a w → wpOpsIn (Fence.wide.inRound l) n P ops Q is a w
  | [], a, w, h => h
  | i :: r, a, w, h => by
    unfold wpOps at h
    unfold wpOpsIn
    cases ho : ops[i]? with
    | none => rw [ho] at h; exact wpOpsIn_of hnd hQ r a w h
    | some o =>
      rw [ho] at h
      dsimp only at h ⊢
      by_cases hw : Region.wanted o (yielded ops a.tmps) = true
      · rw [if_pos hw] at h ⊢
        rcases h with h | ⟨_, h⟩
        · refine ⟨fun _ _ => trivial, ?_⟩
          have hsem : o.semAt (Fence.wide.inRound l).round a.eval = execOp a.eval o := Oper.semAt_eq _ _ _ (hnd o (Array.mem_of_getElem? ho))
          rw [hsem]
          unfold Oper.wp at h
          have ih : ∀ a w, wpOps P ops Q r a w → wpOpsIn (Fence.wide.inRound l) n P ops Q r a w := fun a w => wpOpsIn_of hnd hQ r a w
          generalize (execOp a.eval o).run P w = res at h ⊢
          cases res with
          | ok x w' =>
            cases x with
            | value v => exact ih _ _ h
            | skip => exact ih _ _ h
            | defer d => exact ih _ _ h
            | enter f args =>
              refine ⟨fun hd => by simp [Fence.inRound, Fence.wide] at hd, ?_⟩
              have h' : CallsIn Fence.wide (n - 1) P f args w' _ := callsIn_wide.2 h
              refine CallsIn.mono h' ?_
              intro e w'' he
              cases e with
              | returned v => exact ih _ _ he
              | panicked ch => exact he
              | outgrown => exact he
            | row rw' args =>
              refine ⟨fun hd => by simp [Fence.inRound, Fence.wide] at hd, fun c cs _ => ?_⟩
              obtain ⟨v, w'', h1, h2⟩ := h c cs
              exact ⟨v, w'', ih _ _ h1, stepsIn_wide.2 h2⟩
            | _ => exact h.elim
          | halt hh w' =>
            cases hh with
            | panic v => exact h
            | _ => exact h.elim
        · exact absurd h hQ
      · rw [if_neg hw] at h ⊢
        exact ⟨fun _ _ => trivial, wpOpsIn_of hnd hQ r _ _ h⟩

theorem post_not_out {own : Nat → Prop} {lim : Nat} {σ : Map} {m : M} {w : World} {e : AE} {s' : St} : ¬ LetsOut (Post own lim σ m w e s') := by
  rintro ⟨a, w', h, _⟩
  cases e <;> cases h

/-- A region that draws, evaluated, within a round. -/
theorem drawIn {P : Program} {pr : Prim} {self : Self} {ops : Array Oper} {s s' : St} (hm : P.follows .mixedOrders = true) (hp : PrimOk P pr) (hg : Good P self) (hnd : ∀ o, o ∈ ops → ∀ c, o.op ≠ .defer c) (e : drawA P pr self ops s = some s') (hf : Okm s.m)
    {own : Nat → Prop} {lim : Nat} {σ : Map} {a : Act} {w : World} (hlim : s'.m.nx ≤ lim) (hs : SimS own lim σ s a w) (id l n : Nat) :
    (Code.region id ops true).wpIn (Fence.wide.inRound l) n P (Post own lim σ s.m w .normal s') a w :=
  wpIn_region_draw fun t => wpOpsIn_of hnd post_not_out _ _ _ ((drawA_ok hm hp self hg ops s s' e hf).2.2 own lim σ a w hlim hs t)
end Ev
end Go.Proofs.YtggfhklokfcplaaGreat
