/- slices.Backward over a slice of ints: its closure gives the elements from the last one on; what the loop's body must keep are the slice's cells and the box. -/
import Derived.RangeFuncBox
import Derived.RangeFuncLeaves
import Derived.RangeFuncWrites
import Derived.Shelf.Abstract
import Derived.WalkKit
import Derived.OwnWalkIn
import Derived.TacticsInMore
import Derived.LoopNIn
import Derived.LoopIn
import Derived.Test.YtggfhklokfcplaaGreatProg
import Derived.Test.YtggfhklokfcplaaGreatEvT
namespace Go.Proofs.YtggfhklokfcplaaGreat
open Go.RowKit Go.Shelf
attribute [local go_sem] Oper.semAt_some

/-- The cells of two blocks are as they were. -/
def KpC (b Bs : Nat) (W W' : World) : Prop := ∀ a v, (a.block = b ∨ a.block = Bs) → W.cell? a = some v → W'.cell? a = some v
theorem KpC.refl (b Bs : Nat) (W : World) : KpC b Bs W W := fun _ _ _ h => h
theorem KpC.trans {b Bs : Nat} {A B C : World} (h : KpC b Bs A B) (k : KpC b Bs B C) : KpC b Bs A C := fun a v ha hv => k a v ha (h a v ha hv)
theorem KpC.putObj {b Bs : Nat} (W : World) (l : Nat) (o o' : Obj) (hl : W.heap[l]? = some o) (ho : o.isCells = false) : KpC b Bs W (W.putObj l o') := fun a v _ hv => by
  refine (World.cell?_of_block (World.putObj_heap_other ?_)).trans hv
  intro e
  obtain ⟨o2, h2, h3⟩ := cells_of_cell hv
  rw [e, hl] at h2
  cases h2
  rw [ho] at h3; cases h3

/-- THE LOOP OVER AN ITERATOR, ROUND BY ROUND: the iterator calls yield with the j-th values in the j-th round; the body always goes on. -/
theorem wpIn_rounds {F : Fence} {n : Nat} {P : Program} {g : Operand} {ps : Array Tmp} {assign body : Code} {Q : Exit → Act → World → Prop} {a : Act} {w : World} (hro : F.round = none) (h1 : 1 ≤ n) {gf : Nat} {lb : Array Value}
    (hg : a.eval g = .func (.func gf) #[] lb) (hFg : F.fn gf) (eg : ∀ args w, (callFunc gf args).run P w = .ok (.enter gf args) w) {N : Nat} {encs : Nat → Array Value} {Kp : World → World → Prop}
    (hseq : ∀ (l : Nat) (J : Nat → World → Prop) (W : World), Below w.heap.size w W → (∀ j W1, j < N → J j W1 → YieldAt F (n - 1 - 1) P l (encs j) W1 fun e W' => e = .returned (.bool true) ∧ J (j + 1) W' ∧ Kp W1 W') → J 0 W →
      CallsIn F (n - 1) P gf (#[.func (.yield l) #[] #[]] ++ lb) W fun e W' => (∃ v, e = .returned v) ∧ J N W')
    (hKt : ∀ {A B C : World}, Kp A B → Kp B C → Kp A C) (hKb : ∀ (W : World) (l : Nat) (o o' : Obj), W.heap[l]? = some o → o.isCells = false → Kp W (W.putObj l o')) (hps : ∀ j, (encs j).size = ps.size)
    (I : Nat → World → Prop) (hI : OwnFrom w.heap.size I) (h0 : I 0 w) (a1 : Nat → Act)
    (hassign : ∀ (l j : Nat) (W : World) (K : Act → World → Prop), K (a1 j) W → assign.wpIn (F.inRound l) (n - 1 - 1) P (Exit.then K (fun _ _ _ => False)) { tmps := (ps.zip (encs j)).foldl (fun t (p, v) => t.setIfInBounds p v) a.tmps, defers := [] } W)
    (hbody : ∀ (l j : Nat) (W : World), j < N → I j W → body.wpIn (F.inRound l) (n - 1 - 1) P (fun e _ W' => e = .normal ∧ KeepsFrom w.heap.size W W' ∧ Kp W W' ∧ I (j + 1) W') (a1 j) W)
    (hdone : ∀ (D : Nat) (W : World), w.heap.size ≤ D → I N W → W.heap[D]? = some (.deferred (some [])) → Q .normal { a with defers := { target := .collected D, args := #[] } :: a.defers } W) :
    (Code.rangeFunc g ps assign body).wpIn F n P Q a w := by
  refine wpIn_rangeFunc fun fn hfn => ?_
  rw [hro]
  -- the loop's own two objects
  generalize hrec : (fun (st : LoopState) (pe : Option Code) => ({ state := st, pending := pe, fn, tmps := a.tmps, params := ps, assign, body, defers := w.heap.size } : Loop)) = rec
  have hr : ∀ st pe, rec st pe = { state := st, pending := pe, fn, tmps := a.tmps, params := ps, assign, body, defers := w.heap.size } := fun st pe => by rw [← hrec]
  let D := w.heap.size
  let L := w.heap.size + 1
  let W1 := (w.alloc (.deferred (some []))).alloc (.loop (rec .ready none))
  have hL : W1.heap[L]? = some (.loop (rec .ready none)) := by
    have := World.alloc_heap_new (w.alloc (.deferred (some []))) (.loop (rec .ready none)); rwa [World.size_alloc] at this
  have hD : W1.heap[D]? = some (.deferred (some [])) := (Below.heap_alloc _ _ _ (by simp [D])).trans (World.alloc_heap_new w _)
  have hb : Below w.heap.size w W1 := ((Below.refl _ w).alloc (Nat.le_refl _) _).alloc (by simp) _
  refine ⟨L, [{ target := .collected D, args := #[] }], W1, { target := .fn (.func gf) lb, args := #[.func (.yield L) #[] #[]] }, W1, gf, #[.func (.yield L) #[] #[]] ++ lb, W1, ?_, ?_, ?_, ?_, fun _ => h1, ?_⟩
  · show (Instr.enterLoop fn a.tmps ps assign body none).run P w = _
    have := run_enterLoop_outer (P := P) (w := w) fn a.tmps ps assign body
    simpa [W1, hr] using this
  · simp only [resolve, hg]; simp [go_sem, L]
  · intro f' hf'; simp [Target.leads] at hf'; subst hf'; exact hFg
  · simp [invoke, go_sem, eg]
  · let J : Nat → World → Prop := fun j W => I j W ∧ W.heap[L]? = some (.loop (rec .ready none)) ∧ W.heap[D]? = some (.deferred (some []))
    refine (hseq L J W1 hb ?_ ⟨hI.alloc _ (hI.alloc _ h0), hL, hD⟩).mono ?_
    · -- a round
      rintro j W hj ⟨hi, hl, hd⟩
      have hLlt : L < W.heap.size := (Array.getElem?_eq_some_iff.1 hl).1
      have hy := run_yield (P := P) (args := encs j) hl (by rw [hr]; exact hps j)
      rw [hr] at hy
      refine ⟨fn, _, assign, body, hy, roundIn_of_wpIn hfn (hassign _ j W _ ⟨_, run_beginRound hl (by rw [hr]), ?_⟩)⟩
      generalize hB : W.putObj L (.loop { rec .ready none with state := .busy }) = WB
      have hlB : WB.heap[L]? = some (.loop { rec .ready none with state := .busy }) := by rw [← hB]; exact World.putObj_heap_same hLlt
      have hdB : WB.heap[D]? = some (.deferred (some [])) := by rw [← hB]; exact (World.putObj_heap_other (by simp [D, L])).trans hd
      have hkB : Kp W WB := by rw [← hB]; exact hKb _ _ _ _ hl rfl
      have hiB : I j WB := by rw [← hB]; exact hI.putObj _ hi (by simp [L]) hl rfl
      refine wpIn_mono (hbody _ j WB hj hiB) ?_
      rintro e a3 W3 ⟨rfl, hk3, hp3, hi3⟩
      have hl3 := hk3.same L _ (by simp [L]) hlB rfl
      have hd3 := hk3.same D _ (Nat.le_refl _) hdB rfl
      have hend := run_endRound (P := P) none hl3
      rw [hr] at hend
      have hfin : W3.putObj L (.loop (rec .ready none)) = W3.putObj L (.loop (rec .ready none)) := rfl
      refine ⟨_, _, by rw [hr] at *; exact hend, rfl, ⟨hI.putObj _ hi3 (by simp [L]) hl3 rfl, ?_, (World.putObj_heap_other (by simp [D, L])).trans hd3⟩, hKt (hKt hkB hp3) (hKb _ _ _ _ hl3 rfl)⟩
      rw [hr]
      exact World.putObj_heap_same (Array.getElem?_eq_some_iff.1 hl3).1
    · rintro e W2 ⟨⟨v, rfl⟩, hi, hl, hd⟩
      exact ⟨none, _, by have := run_endLoop (P := P) hl (by rw [hr]; simp); rw [hr] at this; exact this, hdone _ _ (Nat.le_refl _) (hI.putObj _ hi (by simp [L]) hl rfl) ((World.putObj_heap_other (by simp [D, L])).trans hd)⟩

set_option maxRecDepth 100000 in
set_option maxHeartbeats 2000000 in
theorem back1_in (F : Fence) (n : Nat) (hF : F.fn 143) (hro : F.round = none) (hn : 1 ≤ n) (l Bs b off len cap : Nat) (z : Nat → Int) (hreach : len * 8 ≤ 140737488351232) (J : Nat → World → Prop)
    (hY : ∀ j W, j < len → J j W → YieldAt F (n - 1) Tryz.prog l #[.int .i64 ((len - 1 - j : Nat) : Int), .int .i64 (z (len - 1 - j))] W fun e W' => e = .returned (.bool true) ∧ J (j + 1) W' ∧ KpC b Bs W W')
    (W : World) (hBs : W.cell? ⟨Bs, 0, none⟩ = some (.slice (some ⟨b, off, none⟩) len cap)) (hc : ∀ j, j < len → W.cell? ⟨b, off + j, none⟩ = some (.int .i64 (z j))) (h0 : J 0 W) :
    CallsIn F n Tryz.prog 143 #[.func (.yield l) #[] #[], .pointer (some ⟨Bs, 0, none⟩)] W fun e W' => (∃ v, e = .returned v) ∧ J len W' := by
  refine callsIn_of_wp Tryz.func143 rfl hF ?_ hro
  simp only [Tryz.ntmps143, List.size_toArray, List.length_cons, List.length_nil, Nat.reduceAdd, Nat.reduceSub, Array.replicate_succ, Array.replicate_zero, List.push_toArray, List.append_toArray, List.nil_append, List.cons_append]
  gi_wp2
  obtain ⟨q, hq⟩ : ∃ q : Int, q = (len : Int) - 1 := ⟨_, rfl⟩
  rw [← hq]
  replace hq := hid hq
  gi_loopw [3] (fun i wr => ∃ j : Nat, j ≤ len ∧ i = .int .i64 (q - j) ∧ J j wr ∧ KpC b Bs W wr)
    (fun i _ => (intOf i + 1).toNat)
  case atStart => exact ⟨0, Nat.zero_le _, by simp, h0, KpC.refl _ _ _⟩
  case round =>
    obtain ⟨j, hj, rfl, hJs, hnx⟩ := hrel
    have hbs' := hnx _ _ (.inr rfl) hBs
    by_cases hlt : j < len
    · have hY := hY j wr hlt hJs
      obtain ⟨m, hm⟩ : ∃ m : Nat, m = len - 1 - j := ⟨_, rfl⟩
      have hqm : q - (j : Int) = (m : Int) := by have := hq.out; omega
      have hmlt : m < len := by omega
      have hcx := hnx _ _ (.inl rfl) (hc m hmlt)
      have hm1 : (m : Int) - 1 = q - ((j + 1 : Nat) : Int) := by have := hq.out; omega
      have hm2 : -1 ≤ (m : Int) - 1 ∧ (m : Int) - 1 < 2 ^ 62 := by omega
      rw [hqm]
      rw [← hm] at hY
      obtain ⟨fn, tmps, assign, body, hy, hR⟩ := hY
      clear hm hqm
      replace hm1 := hid hm1
      gi_wp2
      refine hR.mono ?_
      rintro e W3 ⟨rfl, hJ3, hk3⟩
      gi_wp2
      go_roundw
      case rel => exact ⟨j + 1, by omega, by rw [hm1.out], hJ3, hnx.trans hk3⟩
      case measure => simp [intOf]
    · obtain rfl : j = len := by omega
      have hqm : q - (j : Int) = -1 := by have := hq.out; omega
      rw [hqm]
      gi_wp2
      go_end0
      exact ⟨⟨_, rfl⟩, hJs⟩

set_option maxRecDepth 100000 in
set_option maxHeartbeats 1000000 in
/-- .. at no elements: no round. -/
theorem back1_nil_in (F : Fence) (n : Nat) (hF : F.fn 143) (hro : F.round = none) (l Bs : Nat) (ao : Option Addr) (cap : Nat) (J : Nat → World → Prop) (W : World) (hBs : W.cell? ⟨Bs, 0, none⟩ = some (.slice ao 0 cap)) (h0 : J 0 W) :
    CallsIn F n Tryz.prog 143 #[.func (.yield l) #[] #[], .pointer (some ⟨Bs, 0, none⟩)] W fun e W' => (∃ v, e = .returned v) ∧ J 0 W' := by
  refine callsIn_of_wp Tryz.func143 rfl hF ?_ hro
  simp only [Tryz.ntmps143, List.size_toArray, List.length_cons, List.length_nil, Nat.reduceAdd, Nat.reduceSub, Array.replicate_succ, Array.replicate_zero, List.push_toArray, List.append_toArray, List.nil_append, List.cons_append]
  gi_wp2
  gi_loopw [3] (fun i wr => i = .int .i64 (-1) ∧ J 0 wr) (fun _ _ => 0)
  case atStart => exact ⟨rfl, h0⟩
  case round =>
    obtain ⟨rfl, hJs⟩ := hrel
    gi_wp2
    go_end0
    exact ⟨⟨_, rfl⟩, hJs⟩

set_option maxHeartbeats 1000000 in
/-- slices.Backward(s): the slice value is boxed; the function value captures the box. -/
theorem back_in (F : Fence) (n : Nat) (hF : F.fn 77) (hro : F.round = none) (a : Option Addr) (len cap : Nat) (w : World) :
    CallsIn F n Tryz.prog 77 #[.slice a len cap] w fun e w' => e = .returned (.func (.func 143) #[] #[.pointer (some ⟨w.heap.size, 0, none⟩)]) ∧ w' = w.alloc (.cells #[.slice a len cap] 24) := by
  refine callsIn_of_wp Tryz.func77 rfl hF ?_ hro
  simp only [Tryz.ntmps77, List.size_toArray, List.length_cons, List.length_nil, Nat.reduceAdd, Nat.reduceSub, Array.replicate_succ, Array.replicate_zero, List.push_toArray, List.append_toArray, List.nil_append, List.cons_append]
  gi_wp2
  go_ret
  exact ⟨rfl, rfl⟩
end Go.Proofs.YtggfhklokfcplaaGreat
