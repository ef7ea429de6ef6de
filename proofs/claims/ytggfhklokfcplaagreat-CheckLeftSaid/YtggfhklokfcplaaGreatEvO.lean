/- A region that draws its order: each operation is evaluated once, in what it waits for. No program is named here. -/
import Derived.Test.YtggfhklokfcplaaGreatEvN
namespace Go.Proofs.YtggfhklokfcplaaGreat
open Go.RowKit
namespace Ev
noncomputable section

/- who writes what -/
def edgesOk (i : Nat) : List Edge → Bool
  | [] => true
  | e :: r => onB (Region.binds .any e) (onB (Nat.blt e.on i) (edgesOk i r) false) (edgesOk i r)

theorem edgesOk_ok {i : Nat} : ∀ {l : List Edge}, edgesOk i l = true → ∀ e ∈ l, Region.binds .any e = true → e.on < i
  | [], _, e, he, _ => by cases he
  | x :: r, h, e, he, hb => by
    unfold edgesOk at h
    rcases List.mem_cons.1 he with rfl | he
    · rw [hb] at h
      simp only [onB] at h
      cases hq : Nat.blt e.on i with
      | false => rw [hq] at h; cases h
      | true => exact Nat.le_of_ble_eq_true hq
    · refine edgesOk_ok (l := r) ?_ e he hb
      cases hx : Region.binds .any x with
      | false => rw [hx] at h; exact h
      | true =>
        rw [hx] at h
        simp only [onB] at h
        cases hq : Nat.blt x.on i with
        | false => rw [hq] at h; cases h
        | true => rw [hq] at h; exact h

def writers (size : Nat) : List Oper → Nat → T Nat → Option (T Nat)
  | [], _, W => some W
  | o :: r, i, W => onB (edgesOk i o.after.toList) (match o.dst with
    | none => writers size r (Nat.succ i) W
    | some d => onB (Nat.blt d size) (match T.get fuel d W with
      | some _ => none
      | none => T.force (T.upd fuel d (some i) W) (writers size r (Nat.succ i))) none) none

theorem writers_ok {size : Nat} : ∀ {l : List Oper} {i : Nat} {W W' : T Nat}, writers size l i W = some W' →
    (∀ d x, T.get fuel d W = some x → T.get fuel d W' = some x) ∧ ∀ k o, l[k]? = some o → edgesOk (i + k) o.after.toList = true ∧ ∀ d, o.dst = some d → d < size ∧ T.get fuel d W' = some (i + k)
  | [], i, W, W', h => by
    simp only [writers, Option.some.injEq] at h
    subst h
    exact ⟨fun _ _ h => h, by simp⟩
  | o :: r, i, W, W', h => by
    unfold writers at h
    obtain ⟨he, h⟩ := onB_none h
    have step : ∀ {W1 : T Nat}, writers size r (i + 1) W1 = some W' → (∀ d x, T.get fuel d W = some x → T.get fuel d W1 = some x) → (∀ d, o.dst = some d → d < size ∧ T.get fuel d W1 = some i) →
        (∀ d x, T.get fuel d W = some x → T.get fuel d W' = some x) ∧ ∀ k o', (o :: r)[k]? = some o' → edgesOk (i + k) o'.after.toList = true ∧ ∀ d, o'.dst = some d → d < size ∧ T.get fuel d W' = some (i + k) := by
      intro W1 h1 hW hd
      obtain ⟨g1, g2⟩ := writers_ok h1
      refine ⟨fun d x hx => g1 d x (hW d x hx), fun k o' hk => ?_⟩
      cases k with
      | zero =>
        simp at hk
        subst hk
        exact ⟨he, fun d hdd => ⟨(hd d hdd).1, g1 _ _ (hd d hdd).2⟩⟩
      | succ k =>
        simp at hk
        have := g2 k o' hk
        rw [show i + (k + 1) = i + 1 + k by omega]
        exact this
    split at h
    · rename_i hd
      exact step h (fun _ _ h => h) fun d hdd => by rw [hd] at hdd; cases hdd
    · rename_i d hd
      obtain ⟨hlt, h⟩ := onB_none h
      split at h
      · cases h
      · rename_i hg
        rw [T.force_eq] at h
        refine step h (fun d' x hx => ?_) fun d' hdd => ?_
        · rw [T.get_upd_ne]
          · exact hx
          · rintro rfl; rw [hg] at hx; cases hx
        · rw [hd] at hdd
          cases hdd
          exact ⟨Nat.le_of_ble_eq_true hlt, T.at_put_eq _ _ _⟩

theorem writers_st {size : Nat} {ops : Array Oper} {W : T Nat} (h : writers size ops.toList 0 .nil = some W) : stOk ops size = true ∧ ∀ j d, dstAt ops j = some d → T.get fuel d W = some j := by
  obtain ⟨_, h⟩ := writers_ok h
  have h' : ∀ k o, ops[k]? = some o → edgesOk k o.after.toList = true ∧ ∀ d, o.dst = some d → d < size ∧ T.get fuel d W = some k := by
    intro k o hk
    have := h k o (by simpa using hk)
    simpa using this
  have hw : ∀ j d, dstAt ops j = some d → T.get fuel d W = some j := by
    intro j d hj
    obtain ⟨o, h1, h2⟩ := Option.bind_eq_some_iff.1 hj
    exact ((h' j o h1).2 d h2).2
  refine ⟨?_, hw⟩
  unfold stOk
  rw [List.all_eq_true]
  intro i hi
  rw [List.mem_range] at hi
  have ho : ops[i]? = some ops[i] := Array.getElem?_eq_getElem hi
  rw [ho]
  obtain ⟨h1, h2⟩ := h' i _ ho
  simp only [Bool.and_eq_true]
  refine ⟨?_, ?_⟩
  · rw [Array.all_eq_true_iff_forall_mem]
    intro e he
    cases hb : Region.binds .any e with
    | false => rfl
    | true => simpa using edgesOk_ok h1 e (Array.mem_toList_iff.2 he) hb
  · split
    · rename_i d hd
      obtain ⟨g1, g2⟩ := h2 d hd
      simp only [Bool.and_eq_true, decide_eq_true_eq, List.all_eq_true, List.mem_range, bne_iff_ne, ne_eq]
      refine ⟨g1, fun j hj hjd => ?_⟩
      have := hw j d hjd
      rw [g2] at this
      simp only [Option.some.injEq] at this
      omega
    · rfl

/- what an operation reads -/
def tmpsOf : List Operand → List Nat
  | [] => []
  | .tmp t :: r => t :: tmpsOf r
  | _ :: r => tmpsOf r
theorem tmpsOf_mem : ∀ {l : List Operand} {t : Nat}, Operand.tmp t ∈ l → t ∈ tmpsOf l
  | .tmp t' :: r, t, h => by
    rcases List.mem_cons.1 h with e | h
    · cases e; simp [tmpsOf]
    · simp [tmpsOf, tmpsOf_mem h]
  | .const v :: r, t, h => by
    rcases List.mem_cons.1 h with e | h
    · cases e
    · simp [tmpsOf, tmpsOf_mem h]
  | .global g :: r, t, h => by
    rcases List.mem_cons.1 h with e | h
    · cases e
    · simp [tmpsOf, tmpsOf_mem h]
  | .func f :: r, t, h => by
    rcases List.mem_cons.1 h with e | h
    · cases e
    · simp [tmpsOf, tmpsOf_mem h]

def guardSlot (ops : Array Oper) (o : Oper) : List Nat := match o.guard with
  | none => []
  | some (j, _) => match (ops[j]?).bind (·.dst) with
    | none => []
    | some d => [d]
def needs (ops : Array Oper) (o : Oper) : List Nat := guardSlot ops o ++ tmpsOf o.op.operands.toList

def slotOk (W ms : T Nat) (i t : Nat) : Bool := match T.get fuel t W with
  | none => true
  | some j => onB (bit (getN ms i) j) true (onB (Nat.beq j i) true (bit (getN ms j) i))
def slotsOk (W ms : T Nat) (i : Nat) : List Nat → Bool
  | [] => true
  | t :: r => onB (slotOk W ms i t) (slotsOk W ms i r) false
def readsOk (ops : Array Oper) (W ms : T Nat) : List Oper → Nat → Bool
  | [], _ => true
  | o :: r, i => onB (slotsOk W ms i (needs ops o)) (readsOk ops W ms r (Nat.succ i)) false

theorem slotsOk_ok {W ms : T Nat} {i : Nat} : ∀ {l : List Nat}, slotsOk W ms i l = true → ∀ t ∈ l, slotOk W ms i t = true
  | t :: r, h, x, hx => by
    unfold slotsOk at h
    cases hs : slotOk W ms i t with
    | false => rw [hs] at h; cases h
    | true =>
      rw [hs] at h
      rcases List.mem_cons.1 hx with rfl | hx
      · exact hs
      · exact slotsOk_ok (l := r) h x hx
theorem readsOk_ok {ops : Array Oper} {W ms : T Nat} : ∀ {l : List Oper} {i : Nat}, readsOk ops W ms l i = true → ∀ k o, l[k]? = some o → ∀ t ∈ needs ops o, slotOk W ms (i + k) t = true
  | [], i, h, k, o, hk => by simp at hk
  | x :: r, i, h, k, o, hk => by
    unfold readsOk at h
    cases hs : slotsOk W ms i (needs ops x) with
    | false => rw [hs] at h; cases h
    | true =>
      rw [hs] at h
      cases k with
      | zero => simp at hk; subst hk; exact slotsOk_ok hs
      | succ k =>
        simp at hk
        have := readsOk_ok (l := r) (i := i + 1) h k o hk
        rwa [show i + (k + 1) = i + 1 + k by omega]

/-- What one needs to know of a region: asked once, of its text alone. -/
def static (ops : Array Oper) (nt : Nat) : Option (T Nat) := match writers nt ops.toList 0 .nil with
  | none => none
  | some W => T.force (masks ops.toList 0 .nil) fun ms => onB (readsOk ops W ms ops.toList 0) (some ms) none

structure Static (ops : Array Oper) (nt : Nat) (ms : T Nat) : Prop where
  st : stOk ops nt = true
  mask : ∀ j, j < ops.size → ∀ k, bit (getN ms j) k = true ↔ Reach ops j k
  reads : ∀ (i : Nat) (o : Oper), ops[i]? = some o → ∀ t ∈ needs ops o, ∀ j, dstAt ops j = some t → Reach ops i j ∨ j = i ∨ Reach ops j i

theorem static_ok {ops : Array Oper} {nt : Nat} {ms : T Nat} (h : static ops nt = some ms) : Static ops nt ms := by
  unfold static at h
  split at h
  · cases h
  rename_i W hW
  rw [T.force_eq] at h
  obtain ⟨hr, h⟩ := onB_none h
  cases h
  obtain ⟨h1, h2⟩ := writers_st hW
  have hm := masks_ok h1 ops.toList 0 .nil rfl (fun j hj => by omega)
  refine ⟨h1, hm, fun i o hi t ht j hj => ?_⟩
  have := readsOk_ok hr i o (by simpa using hi) t ht
  rw [Nat.zero_add] at this
  unfold slotOk at this
  rw [h2 j t hj] at this
  dsimp only at this
  have hilt : i < ops.size := (Array.getElem?_eq_some_iff.1 hi).1
  have hjlt : j < ops.size := by
    obtain ⟨o', g1, _⟩ := Option.bind_eq_some_iff.1 hj
    exact (Array.getElem?_eq_some_iff.1 g1).1
  cases hb : bit (getN (masks ops.toList 0 .nil) i) j with
  | true => exact .inl ((hm i hilt j).1 hb)
  | false =>
    rw [hb] at this
    simp only [onB] at this
    cases he : Nat.beq j i with
    | true => exact .inr (.inl (Nat.eq_of_beq_eq_true he))
    | false => rw [he] at this; exact .inr (.inr ((hm j hjlt i).1 this))

/- rows of blocks -/
def eraseR : Nat → Nat → T Blk → T Blk
  | _, 0, h => h
  | lo, n + 1, h => eraseR (Nat.succ lo) n (T.upd fuel lo none h)
def copyR (src : T Blk) : Nat → Nat → T Blk → T Blk
  | _, 0, h => h
  | lo, n + 1, h => copyR src (Nat.succ lo) n (T.upd fuel lo (T.get fuel lo src) h)

theorem T.get_upd_same {α : Type} (k : Nat) (v : Option α) (t : T α) : T.get fuel k (T.upd fuel k v t) = v := T.at_put_eq _ _ _

theorem eraseR_get : ∀ (n lo b : Nat) (h : T Blk), T.get fuel b (eraseR lo n h) = if lo ≤ b ∧ b < lo + n then none else T.get fuel b h
  | 0, lo, b, h => by rw [if_neg (by omega)]; rfl
  | n + 1, lo, b, h => by
    rw [eraseR, eraseR_get n (lo + 1) b]
    by_cases e : b = lo
    · subst e
      rw [if_neg (by omega), if_pos (by omega), T.get_upd_same]
    · rw [T.get_upd_ne _ _ _ _ _ e]
      by_cases g : lo + 1 ≤ b ∧ b < lo + 1 + n
      · rw [if_pos g, if_pos (by omega)]
      · rw [if_neg g, if_neg (by omega)]

theorem copyR_get (src : T Blk) : ∀ (n lo b : Nat) (h : T Blk), T.get fuel b (copyR src lo n h) = if lo ≤ b ∧ b < lo + n then T.get fuel b src else T.get fuel b h
  | 0, lo, b, h => by rw [if_neg (by omega)]; rfl
  | n + 1, lo, b, h => by
    rw [copyR, copyR_get src n (lo + 1) b]
    by_cases e : b = lo
    · subst e
      rw [if_neg (by omega), if_pos (by omega), T.get_upd_same]
    · rw [T.get_upd_ne _ _ _ _ _ e]
      by_cases g : lo + 1 ≤ b ∧ b < lo + 1 + n
      · rw [if_pos g, if_pos (by omega)]
      · rw [if_neg g, if_neg (by omega)]

/-- An operation that made blocks or turned some. -/
structure Rc where
  i : Nat
  lo : Nat
  hi : Nat
  lg : List Nat

def isImp : List Nat → Bool
  | [] => false
  | _ :: _ => true
def Rc.imp (r : Rc) : Bool := isImp r.lg
theorem isImp_eq {l : List Nat} : isImp l = true ↔ l ≠ [] := by cases l <;> simp [isImp]
theorem isImp_no {l : List Nat} (h : isImp l = false) (b : Nat) : b ∉ l := by
  cases l with
  | nil => simp
  | cons x r => cases h

def hasN (b : Nat) : List Nat → Bool
  | [] => false
  | x :: r => onB (Nat.beq x b) true (hasN b r)
theorem hasN_no {b : Nat} : ∀ {l : List Nat}, hasN b l = false → b ∉ l
  | [], _ => by simp
  | x :: r, h => by
    unfold hasN at h
    cases hx : Nat.beq x b with
    | true => rw [hx] at h; cases h
    | false =>
      rw [hx] at h
      intro hc
      rcases List.mem_cons.1 hc with e | hc
      · exact Nat.ne_of_beq_eq_false hx e.symm
      · exact hasN_no (l := r) h hc

/-- One block is as it was for whoever waits for these alone. -/
def freeOf (mask b : Nat) : List Rc → Bool
  | [] => true
  | r :: l => onB (onB (bit mask r.i) true (onB (hasN b r.lg) false (onB (Nat.ble r.lo b) (Nat.ble r.hi b) true))) (freeOf mask b l) false
theorem freeOf_ok {mask b : Nat} : ∀ {l : List Rc}, freeOf mask b l = true → ∀ r ∈ l, bit mask r.i = false → b ∉ r.lg ∧ ¬ (r.lo ≤ b ∧ b < r.hi)
  | x :: l, h, r, hr, hm => by
    unfold freeOf at h
    cases hx : onB (bit mask x.i) true (onB (hasN b x.lg) false (onB (Nat.ble x.lo b) (Nat.ble x.hi b) true)) with
    | false => rw [hx] at h; cases h
    | true =>
      rw [hx] at h
      rcases List.mem_cons.1 hr with rfl | hr
      · rw [hm] at hx
        simp only [onB] at hx
        cases hn : hasN b r.lg with
        | true => rw [hn] at hx; cases hx
        | false =>
          rw [hn] at hx
          refine ⟨hasN_no hn, fun hc => ?_⟩
          have h1 : Nat.ble r.lo b = true := Nat.ble_eq_true_of_le hc.1
          rw [h1] at hx
          have := Nat.le_of_ble_eq_true hx
          omega
      · exact freeOf_ok (l := l) h r hr hm

/-- Those who read one of these blocks are waited for. -/
def rsOk (mask : Nat) (lg : List Nat) : List (Nat × Nat) → Bool
  | [] => true
  | (j, b) :: l => onB (onB (bit mask j) true (onB (hasN b lg) false true)) (rsOk mask lg l) false
theorem rsOk_ok {mask : Nat} {lg : List Nat} : ∀ {l : List (Nat × Nat)}, rsOk mask lg l = true → ∀ j b, (j, b) ∈ l → b ∈ lg → bit mask j = true
  | (j', b') :: l, h, j, b, hm, hb => by
    unfold rsOk at h
    cases hx : onB (bit mask j') true (onB (hasN b' lg) false true) with
    | false => rw [hx] at h; cases h
    | true =>
      rw [hx] at h
      rcases List.mem_cons.1 hm with e | hm
      · cases e
        cases hj : bit mask j' with
        | true => rfl
        | false =>
          rw [hj] at hx
          cases hn : hasN b' lg with
          | true => rw [hn] at hx; cases hx
          | false => exact absurd hb (hasN_no hn)
      · exact rsOk_ok (l := l) h j b hm hb

def hideR (mask : Nat) : List Rc → T Blk → Option (T Blk)
  | [], h => some h
  | r :: l, h => onB (bit mask r.i) (hideR mask l h) (onB r.imp none (hideR mask l (eraseR r.lo (Nat.sub r.hi r.lo) h)))
def showR (mask : Nat) (src : T Blk) : List Rc → T Blk → T Blk
  | [], h => h
  | r :: l, h => onB (bit mask r.i) (showR mask src l h) (showR mask src l (copyR src r.lo (Nat.sub r.hi r.lo) h))

theorem hideR_get {mask : Nat} : ∀ {l : List Rc} {h h' : T Blk}, hideR mask l h = some h' →
    (∀ r ∈ l, bit mask r.i = false → r.imp = false) ∧ ∀ b, T.get fuel b h' = if ∃ r ∈ l, bit mask r.i = false ∧ r.lo ≤ b ∧ b < r.lo + (r.hi - r.lo) then none else T.get fuel b h
  | [], h, h', e => by simp only [hideR, Option.some.injEq] at e; subst e; simp
  | r :: l, h, h', e => by
    unfold hideR at e
    cases hb : bit mask r.i with
    | true =>
      rw [hb] at e
      obtain ⟨g1, g2⟩ := hideR_get (l := l) e
      refine ⟨fun x hx hm => ?_, fun b => ?_⟩
      · rcases List.mem_cons.1 hx with rfl | hx
        · rw [hb] at hm; cases hm
        · exact g1 x hx hm
      · rw [g2 b]
        by_cases hx : ∃ r ∈ l, bit mask r.i = false ∧ r.lo ≤ b ∧ b < r.lo + (r.hi - r.lo)
        · rw [if_pos hx, if_pos]
          obtain ⟨x, h1, h2⟩ := hx
          exact ⟨x, List.mem_cons_of_mem _ h1, h2⟩
        · rw [if_neg hx, if_neg]
          rintro ⟨x, h1, h2⟩
          rcases List.mem_cons.1 h1 with rfl | h1
          · rw [hb] at h2; cases h2.1
          · exact hx ⟨x, h1, h2⟩
    | false =>
      rw [hb] at e
      obtain ⟨hi, e⟩ := onB_none' (show onB r.imp none (hideR mask l (eraseR r.lo (Nat.sub r.hi r.lo) h)) = some h' from e)
      obtain ⟨g1, g2⟩ := hideR_get (l := l) e
      refine ⟨fun x hx hm => ?_, fun b => ?_⟩
      · rcases List.mem_cons.1 hx with rfl | hx
        · exact hi
        · exact g1 x hx hm
      · rw [g2 b, eraseR_get]
        show (if _ then none else if r.lo ≤ b ∧ b < r.lo + (r.hi - r.lo) then none else _) = _
        by_cases hx : ∃ r ∈ l, bit mask r.i = false ∧ r.lo ≤ b ∧ b < r.lo + (r.hi - r.lo)
        · rw [if_pos hx, if_pos]
          obtain ⟨x, h1, h2⟩ := hx
          exact ⟨x, List.mem_cons_of_mem _ h1, h2⟩
        · rw [if_neg hx]
          by_cases hr : r.lo ≤ b ∧ b < r.lo + (r.hi - r.lo)
          · rw [if_pos hr, if_pos ⟨r, List.mem_cons_self, hb, hr⟩]
          · rw [if_neg hr, if_neg]
            rintro ⟨x, h1, h2⟩
            rcases List.mem_cons.1 h1 with rfl | h1
            · exact hr h2.2
            · exact hx ⟨x, h1, h2⟩

theorem showR_get {mask : Nat} {src : T Blk} : ∀ {l : List Rc} {h : T Blk} (b : Nat),
    T.get fuel b (showR mask src l h) = if ∃ r ∈ l, bit mask r.i = false ∧ r.lo ≤ b ∧ b < r.lo + (r.hi - r.lo) then T.get fuel b src else T.get fuel b h
  | [], h, b => by simp [showR]
  | r :: l, h, b => by
    unfold showR
    cases hb : bit mask r.i with
    | true =>
      show T.get fuel b (showR mask src l h) = _
      rw [showR_get b]
      by_cases hx : ∃ r ∈ l, bit mask r.i = false ∧ r.lo ≤ b ∧ b < r.lo + (r.hi - r.lo)
      · rw [if_pos hx, if_pos]
        obtain ⟨x, h1, h2⟩ := hx
        exact ⟨x, List.mem_cons_of_mem _ h1, h2⟩
      · rw [if_neg hx, if_neg]
        rintro ⟨x, h1, h2⟩
        rcases List.mem_cons.1 h1 with rfl | h1
        · rw [hb] at h2; cases h2.1
        · exact hx ⟨x, h1, h2⟩
    | false =>
      show T.get fuel b (showR mask src l (copyR src r.lo (r.hi - r.lo) h)) = _
      rw [showR_get b, copyR_get]
      by_cases hx : ∃ r ∈ l, bit mask r.i = false ∧ r.lo ≤ b ∧ b < r.lo + (r.hi - r.lo)
      · rw [if_pos hx, if_pos]
        obtain ⟨x, h1, h2⟩ := hx
        exact ⟨x, List.mem_cons_of_mem _ h1, h2⟩
      · rw [if_neg hx]
        by_cases hr : r.lo ≤ b ∧ b < r.lo + (r.hi - r.lo)
        · rw [if_pos hr, if_pos ⟨r, List.mem_cons_self, hb, hr⟩]
        · rw [if_neg hr, if_neg]
          rintro ⟨x, h1, h2⟩
          rcases List.mem_cons.1 h1 with rfl | h1
          · exact hr h2.2
          · exact hx ⟨x, h1, h2⟩
end
end Ev
end Go.Proofs.YtggfhklokfcplaaGreat
