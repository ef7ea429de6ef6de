/- The rest of a function's code, evaluated from slots that are known. No program is named here. -/
import Derived.Test.YtggfhklokfcplaaGreatEvU
namespace Go.Proofs.YtggfhklokfcplaaGreat
open Go.RowKit
namespace Ev
noncomputable section

def slotsA : List (Nat × Value) → T AV
  | [] => .nil
  | (k, v) :: r => T.upd fuel k (some (.lit v)) (slotsA r)

theorem slotsA_ok {σ : Map} {a : Act} : ∀ {sl : List (Nat × Value)}, (∀ p, p ∈ sl → a.tmps.getD p.1 undef = p.2) → Slots σ (slotsA sl) a
  | [], _, k, v, h => by rw [show T.get fuel k (slotsA []) = none from T.get_nil _ _] at h; cases h
  | (k, v) :: r, hs, j, x, h => by
    rcases T.get_upd _ _ _ _ _ _ h with ⟨rfl, e⟩ | ⟨_, h⟩
    · cases e; simp only [RelV]; exact hs (j, v) (List.mem_cons_self ..)
    · exact slotsA_ok (fun p hp => hs p (List.mem_cons_of_mem _ hp)) j x h

def tailT (r : Nat) : Option (AE × St) → Bool
  | some (.normal, s) => match T.get fuel r s.t with
    | some (.lit (.bool true)) => true
    | _ => false
  | some (.ret, s) => match T.get fuel r s.t with
    | some (.lit (.bool true)) => true
    | _ => false
  | _ => false

/-- The rest of a law's code from known slots: it ends with true in slot r. -/
theorem tail_wp {P : Program} {pr : Prim} {n : Nat} {c : Code} {sl : List (Nat × Value)} {nt r : Nat} (hm : P.follows .mixedOrders = true) (hp : PrimOk P pr) (h : tailT r (evD P pr n c ⟨slotsA sl, nt, m0⟩) = true)
    {a : Act} {w : World} (hsz : a.tmps.size = nt) (hd : a.defers = []) (hs : ∀ p, p ∈ sl → a.tmps.getD p.1 undef = p.2) :
    Code.wp P c (fun e a' w' => (e = .normal ∨ e = .ret) ∧ a'.tmps.getD r undef = .bool true ∧ a'.defers = [] ∧ Below w.heap.size w w') a w := by
  have key : ∀ e s', evD P pr n c ⟨slotsA sl, nt, m0⟩ = some (e, s') → (e = .normal ∨ e = .ret) → T.get fuel r s'.t = some (.lit (.bool true)) →
      Code.wp P c (fun e a' w' => (e = .normal ∨ e = .ret) ∧ a'.tmps.getD r undef = .bool true ∧ a'.defers = [] ∧ Below w.heap.size w w') a w := by
    intro e s' he hx ht
    refine wp_mono (((evD_good hm hp n c _ e s' he m0_ok).2.2 (fun c => w.heap.size ≤ c) s'.m.nx _ a w (Nat.le_refl _) ⟨m0_sim fun _ h => h, hsz, slotsA_ok hs, hd⟩).1) ?_
    rintro E a' w' ⟨rfl, σ', h1, hE⟩
    refine ⟨by rcases hx with rfl | rfl <;> simp [AE.to], ?_, h1.defers, ⟨hE.os, hE.tape, hE.output, hE.size, fun k hk => hE.frame k (by omega)⟩⟩
    have := h1.slots r _ ht
    simpa only [RelV] using this
  unfold tailT at h
  split at h
  · rename_i s' e
    split at h
    · rename_i ht; exact key _ _ e (.inl rfl) ht
    · cases h
  · rename_i s' e
    split at h
    · rename_i ht; exact key _ _ e (.inr rfl) ht
    · cases h
  · cases h

theorem tail_end {P : Program} {pr : Prim} {n : Nat} {c : Code} {fn : Func} (r : Nat) (hr : fn.results = #[.tmp r]) (ks : List Nat) (hm : P.follows .mixedOrders = true) (hp : PrimOk P pr) {a : Act} {w0 w : World}
    (h : tailT r (evD P pr n c ⟨slotsA (ks.map fun k => (k, a.tmps.getD k undef)), a.tmps.size, m0⟩) = true) (hd : a.defers = []) (hb : Below w0.heap.size w0 w) :
    Code.wp P c (bodyPost P fn fun e w' => e = .returned (.bool true) ∧ Below w0.heap.size w0 w') a w := by
  refine wp_mono (tail_wp hm hp h rfl hd fun p hp => by obtain ⟨k, _, rfl⟩ := List.mem_map.1 hp; rfl) ?_
  rintro e a' w' ⟨he, ht, hd', hw⟩
  have hb' : Below w0.heap.size w0 w' := hb.trans ⟨hw.os, hw.tape, hw.output, hw.size, fun k hk => hw.block k (Nat.lt_of_lt_of_le hk hb.size)⟩
  rcases he with rfl | rfl
  · exact bodyPost_end (results_tmp hr _ _ _) hd' ⟨by rw [ht], hb'⟩
  · exact bodyPost_ret (results_tmp hr _ _ _) hd' ⟨by rw [ht], hb'⟩
end
end Ev
end Go.Proofs.YtggfhklokfcplaaGreat
