/- How the evaluator is used: a closed call, told by the kernel. No program is named here. -/
import Derived.Test.YtggfhklokfcplaaGreatEvR
namespace Go.Proofs.YtggfhklokfcplaaGreat
open Go.RowKit
namespace Ev
noncomputable section

def evD (P : Program) (pr : Prim) (n : Nat) : Self := evF P pr (drawA P pr) n
theorem evD_good {P : Program} {pr : Prim} (hm : P.follows .mixedOrders = true) (hp : PrimOk P pr) (n : Nat) : Good P (evD P pr n) := by
  unfold evD; rw [evF_eq]; exact ev_good hp (drawA_ok hm hp) n

def noPrim : Prim := fun _ _ => none
theorem noPrim_ok {P : Program} : PrimOk P noPrim := by intro self _ f g h; cases h

def m0 : M := ⟨.nil, 0, 0, []⟩
theorem m0_ok : Okm m0 := ⟨Nat.le_refl _, fun _b _ => T.get_nil _ _⟩

theorem m0_sim {own : Nat → Prop} {lim : Nat} {w : World} (h : ∀ c, w.heap.size ≤ c → own c) : Sim own lim (fun _ => none) m0 w :=
  ⟨fun b B hb => (by rw [show m0.blk b = none from T.get_nil _ _] at hb; cases hb), fun b b' B B' x x' hb => (by rw [show m0.blk b = none from T.get_nil _ _] at hb; cases hb), fun _ _ _ => rfl, fun b B hb => (by rw [show m0.blk b = none from T.get_nil _ _] at hb; cases hb), h⟩

def isLit (v : Value) : Option (AV × M) → Prop
  | some (.lit u, _) => u = v
  | _ => False

def isT : Option (AV × M) → Bool
  | some (.lit (.bool true), _) => true
  | _ => false

/-- A call with values that hold no address, from any world: what the evaluator answers. -/
theorem closed_lit {P : Program} {pr : Prim} {n f : Nat} {args : List Value} (hm : P.follows .mixedOrders = true) (hp : PrimOk P pr) (h : isT (bodyA P (evD P pr n) f (args.map .lit) m0) = true) (w : World) :
    Calls P f args.toArray w fun e w' => e = .returned (.bool true) ∧ Below w.heap.size w w' := by
  unfold isT at h
  split at h
  · rename_i m' hb
    obtain ⟨_, hc⟩ := bodyA_ok (evD_good hm hp n) f _ _ _ _ hb m0_ok
    refine Calls.mono (hc (fun c => w.heap.size ≤ c) m'.nx _ w args.toArray (Nat.le_refl _) (m0_sim fun _ h => h) (by simpa using cellsA_lit_rel _ args)) ?_
    rintro e w' ⟨V, σ', rfl, hV, _, hE⟩
    simp only [RelV] at hV
    subst hV
    exact ⟨rfl, ⟨hE.os, hE.tape, hE.output, hE.size, fun k hk => hE.frame k (by omega)⟩⟩
  · cases h

theorem closed_call {P : Program} {pr : Prim} {n f : Nat} (hm : P.follows .mixedOrders = true) (hp : PrimOk P pr) (h : isT (bodyA P (evD P pr n) f [] m0) = true) (w : World) :
    Calls P f #[] w fun e w' => e = .returned (.bool true) ∧ Below w.heap.size w w' := closed_lit (args := []) hm hp h w
end
end Ev
end Go.Proofs.YtggfhklokfcplaaGreat
