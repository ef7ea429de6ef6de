/- A code evaluated piece by piece: what is known where it stands. No program is named here. -/
import Derived.Test.YtggfhklokfcplaaGreatEvV
namespace Go.Proofs.YtggfhklokfcplaaGreat
open Go.RowKit
namespace Ev
noncomputable section

def lim0 : Nat := 1000000000

/-- So stands the evaluator's s to the code's own slots and world; since w0 nothing below w0's end has turned. -/
def At (w0 : World) (s : St) (a : Act) (w : World) : Prop :=
  Okm s.m ∧ Pure m0 s.m ∧ ∃ σ, SimS (fun c => w0.heap.size ≤ c) lim0 σ s a w ∧ Ext (fun c => w0.heap.size ≤ c) (fun _ => none) σ m0 s.m w0 w

theorem At.below {w0 : World} {s : St} {a : Act} {w : World} (h : At w0 s a w) : Below w0.heap.size w0 w := by
  obtain ⟨_, _, σ, _, hE⟩ := h
  exact ⟨hE.os, hE.tape, hE.output, hE.size, fun k hk => hE.frame k (by omega)⟩

theorem At.slot {w0 : World} {s : St} {a : Act} {w : World} (h : At w0 s a w) {k : Nat} {v : Value} (e : T.get fuel k s.t = some (.lit v)) : a.tmps.getD k undef = v := by
  obtain ⟨_, _, σ, hS, _⟩ := h
  have := hS.slots k _ e
  simpa only [RelV] using this

theorem At.defers {w0 : World} {s : St} {a : Act} {w : World} (h : At w0 s a w) : a.defers = [] := by
  obtain ⟨_, _, σ, hS, _⟩ := h
  exact hS.defers

theorem at_start (ks : List Nat) {w0 w : World} {a : Act} (hd : a.defers = []) (hb : Below w0.heap.size w0 w) : At w0 ⟨slotsA (ks.map fun k => (k, a.tmps.getD k undef)), a.tmps.size, m0⟩ a w := by
  refine ⟨m0_ok, Pure.refl _, fun _ => none, ⟨m0_sim fun c hc => Nat.le_trans hb.size hc, rfl, slotsA_ok fun p hp => ?_, hd⟩, ⟨Le.refl _, fun _ _ => rfl, hb.size, fun c hc => hb.block c (by omega), hb.os, hb.tape, hb.output⟩⟩
  obtain ⟨k, _, rfl⟩ := List.mem_map.1 hp
  rfl

theorem at_swap {w0 : World} {s : St} {a : Act} {w : World} (h : At w0 s a w) (k : Nat) (v v' : Value) (e : T.get fuel k s.t = some (.lit v)) (hv : v = v') : At w0 { s with t := T.upd fuel k (some (.lit v')) s.t } a w := by
  subst hv
  have hk := h.slot e
  obtain ⟨h1, h2, σ, hS, hE⟩ := h
  refine ⟨h1, h2, σ, ⟨hS.sim, hS.size, fun j x hx => ?_, hS.defers⟩, hE⟩
  rcases T.get_upd _ _ _ _ _ _ hx with ⟨rfl, e2⟩ | ⟨_, hx⟩
  · cases e2; simp only [RelV]; exact hk
  · exact hS.slots j x hx

theorem at_good {P : Program} {slf : Self} (hg : Good P slf) {c : Code} {s s' : St} {e : AE} (h : slf c s = some (e, s')) (hlim : s'.m.nx ≤ lim0) {w0 : World} {a : Act} {w : World} (hA : At w0 s a w) :
    Code.wp P c (fun E a' w' => E = e.to ∧ At w0 s' a' w') a w := by
  obtain ⟨h1, h2, σ, hS, hE⟩ := hA
  have hgd := hg c s e s' h h1
  refine wp_mono ((hgd.2.2 _ lim0 σ a w hlim hS).1) ?_
  rintro E a' w' ⟨rfl, σ', h3, h4⟩
  exact ⟨rfl, h1.next hgd.1, h2.trans hgd.1, σ', h3, hE.trans h4 h2 hgd.1⟩

def outS (s : St) : Option (AE × St) → St
  | some (_, s') => s'
  | none => s
def isNormal : Option (AE × St) → Bool
  | some (.normal, s') => Nat.ble s'.m.nx lim0
  | _ => false

theorem at_step {P : Program} {slf : Self} (hg : Good P slf) {c : Code} {s : St} {w0 : World} {a : Act} {w : World} {K : Act → World → Prop} {Q : Exit → Act → World → Prop} (hA : At w0 s a w) (h : isNormal (slf c s) = true)
    (hK : ∀ a' w', At w0 (outS s (slf c s)) a' w' → K a' w') : Code.wp P c (Exit.then K Q) a w := by
  unfold isNormal at h
  split at h
  · rename_i s' e
    refine wp_mono (at_good hg e (Nat.le_of_ble_eq_true h) hA) ?_
    rintro E a' w' ⟨rfl, h'⟩
    rw [e] at hK
    exact hK a' w' h'
  · cases h

def isTrue (r : Nat) (s : St) : Bool := match T.get fuel r s.t with
  | some (.lit (.bool true)) => Nat.ble s.m.nx lim0
  | _ => false
theorem isTrue_of {r : Nat} {s : St} (h : isTrue r s = true) : T.get fuel r s.t = some (.lit (.bool true)) ∧ s.m.nx ≤ lim0 := by
  unfold isTrue at h
  split at h
  · rename_i e; exact ⟨e, Nat.le_of_ble_eq_true h⟩
  · cases h

def endsTrue (r : Nat) : Option (AE × St) → Bool
  | some (.normal, s) => isTrue r s
  | some (.ret, s) => isTrue r s
  | _ => false
def retsTrue (r : Nat) : Option (AE × St) → Bool
  | some (.ret, s) => isTrue r s
  | _ => false

theorem at_end {P : Program} {slf : Self} (hg : Good P slf) {fn : Func} (r : Nat) (hr : fn.results = #[.tmp r]) {c : Code} {s : St} {w0 : World} {a : Act} {w : World} (hA : At w0 s a w) (h : endsTrue r (slf c s) = true) :
    Code.wp P c (bodyPost P fn fun e w' => e = .returned (.bool true) ∧ Below w0.heap.size w0 w') a w := by
  unfold endsTrue at h
  split at h
  · rename_i s' e
    obtain ⟨h1, h2⟩ := isTrue_of h
    refine wp_mono (at_good hg e h2 hA) ?_
    rintro E a' w' ⟨rfl, h'⟩
    exact bodyPost_end (results_tmp hr _ _ _) h'.defers ⟨by rw [h'.slot h1], h'.below⟩
  · rename_i s' e
    obtain ⟨h1, h2⟩ := isTrue_of h
    refine wp_mono (at_good hg e h2 hA) ?_
    rintro E a' w' ⟨rfl, h'⟩
    exact bodyPost_ret (results_tmp hr _ _ _) h'.defers ⟨by rw [h'.slot h1], h'.below⟩
  · cases h

theorem at_ret {P : Program} {slf : Self} (hg : Good P slf) {fn : Func} (r : Nat) (hr : fn.results = #[.tmp r]) {c : Code} {s : St} {w0 : World} {a : Act} {w : World} {K : Act → World → Prop} (hA : At w0 s a w) (h : retsTrue r (slf c s) = true) :
    Code.wp P c (Exit.then K (bodyPost P fn fun e w' => e = .returned (.bool true) ∧ Below w0.heap.size w0 w')) a w := by
  unfold retsTrue at h
  split at h
  · rename_i s' e
    obtain ⟨h1, h2⟩ := isTrue_of h
    refine wp_mono (at_good hg e h2 hA) ?_
    rintro E a' w' ⟨rfl, h'⟩
    show bodyPost P fn (fun e w' => e = .returned (.bool true) ∧ Below w0.heap.size w0 w') .ret a' w'
    exact bodyPost_ret (results_tmp hr _ _ _) h'.defers ⟨by rw [h'.slot h1], h'.below⟩
  · cases h

/-- The plain evaluator: numbers need not be known where they are but handed on or reckoned with. -/
def evS (P : Program) (pr : Prim) (n : Nat) : Self := ev P pr (drawA P pr) n
theorem evS_good {P : Program} {pr : Prim} (hm : P.follows .mixedOrders = true) (hp : PrimOk P pr) (n : Nat) : Good P (evS P pr n) := ev_good hp (drawA_ok hm hp) n
end
end Ev
end Go.Proofs.YtggfhklokfcplaaGreat
