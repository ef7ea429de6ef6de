/- extent's laws: ExtentAll: the law's state. -/
import Derived.Test.YtjihemgidogoeaaExA3
namespace Go.Proofs.Ytjihemgidogoeaa
open Go.RowKit
set_option linter.unusedVariables false

/-- A row of bools of which the j from a on are laid to c. -/
def layF (F : List Bool) (a j : Nat) (c : Bool) : List Bool := ((⟨0, F⟩ : Rm).set (a : Int) (j : Nat) c).fr
theorem layF_len (F : List Bool) (a j : Nat) (c : Bool) : (layF F a j c).length = F.length := Rm.set_length _ _ _ _
theorem layF_zero (F : List Bool) (a : Nat) (c : Bool) : layF F a 0 c = F := set_zero ⟨0, F⟩ _ _
theorem layF_succ {F : List Bool} {a j : Nat} {c : Bool} (h : a + j < F.length) : layF F a (j + 1) c = (layF F a j c).set (a + j) c :=
  set_step (M := ⟨0, F⟩) (show (a : Int) = ((0 : Nat) : Int) + (a : Int) by omega) h
theorem layF_get {F : List Bool} {a j : Nat} {c : Bool} (h : a + j ≤ F.length) (i : Nat) : (layF F a j c).getD i false = if (a : Int) ≤ (i : Int) ∧ (i : Int) < (a : Int) + (j : Int) then c else F.getD i false := by
  unfold layF
  rw [Rm.set_getD]
  have e : (i < F.length ∧ (a : Int) ≤ (((0 : Nat) : Int) + i : Int) ∧ (((0 : Nat) : Int) + i : Int) < (a : Int) + ((j : Nat) : Int)) ↔ ((a : Int) ≤ (i : Int) ∧ (i : Int) < (a : Int) + (j : Int)) := by omega
  simp only [e]
/-- The room M and the row F, the op o in a block of its own. -/
structure MS (X : ExtSpec) (w0 w : World) (M : Rm) (p : Addr) (fg og : Nat) (F : List Bool) (kd A N : Int) : Prop where
  L : X.L w0 (fun b => b = fg ∨ b = og) M p w
  row : OwnV 4 w0.heap.size w (.slice (some ⟨fg, 0, none⟩) 130 130) (boolS F)
  len : F.length = 130
  op : Blk w og 28 [.int .i64 kd, .int .i64 A, .int .i64 N]
section
variable {X : ExtSpec} {w0 w w' : World} {M M' : Rm} {p : Addr} {fg og : Nat} {F : List Bool} {kd A N : Int}
theorem MS.bel (h : MS X w0 w M p fg og F kd A N) (hb : Below w.heap.size w w') : MS X w0 w' M p fg og F kd A N :=
  ⟨h.L.bel hb, h.row.below hb (Nat.le_refl _), h.len, h.op.bl hb⟩
theorem MS.hfg (h : MS X w0 w M p fg og F kd A N) : w0.heap.size ≤ fg ∧ fg < w.heap.size := h.row.lt fg rfl
theorem MS.ne (h : MS X w0 w M p fg og F kd A N) : og ≠ fg := fun e => h.row.ne_blk h.op (by decide) (by rw [e]; rfl)
theorem MS.turn (h : MS X w0 w M p fg og F kd A N) (hL : X.L w0 (fun b => b = fg ∨ b = og) M' p w') (hk : ∀ b, (b = fg ∨ b = og) → w'.heap[b]? = w.heap[b]?) : MS X w0 w' M' p fg og F kd A N :=
  ⟨hL, h.row.stays fun b e => hk b (.inl (by cases e; rfl)), h.len, (hk og (.inr rfl)).trans h.op⟩
theorem MS.put (h : MS X w0 w M p fg og F kd A N) (i : Nat) (c : Bool) : MS X w0 (w.setCell ⟨fg, i, none⟩ (.bool c)) M p fg og (F.set i c) kd A N :=
  ⟨h.L.set (.inl rfl) h.hfg.1 i _, by have := h.row.set i (.bool c); simpa [boolS, List.map_set] using this, by rw [List.length_set]; exact h.len, h.op.far (p := ⟨fg, i, none⟩) h.ne _⟩
theorem MS.c (h : MS X w0 w M p fg og F kd A N) : w.cell? ⟨og, 0, none⟩ = some (.int .i64 kd) ∧ w.cell? ⟨og, 1, none⟩ = some (.int .i64 A) ∧ w.cell? ⟨og, 2, none⟩ = some (.int .i64 N) ∧ og < w.heap.size :=
  ⟨h.op.cell 0, h.op.cell 1, h.op.cell 2, h.op.lt⟩
theorem MS.f (h : MS X w0 w M p fg og F kd A N) : ∀ i, i < 130 → w.cell? ⟨fg, i, none⟩ = some (.bool (F.getD i false)) := fun i hi => (h.row.cell i (boolS_get F i (by rw [h.len]; exact hi))).1
theorem MS.z (h : MS X w0 w M p fg og F kd A N) (i : Nat) (hi : i < 130) : w.frozen? ⟨fg, i, none⟩ = false := (h.row.cell i (boolS_get F i (by rw [h.len]; exact hi))).2.1
theorem MS.rdB (h : MS X w0 w M p fg og F kd A N) : RdB w (some ⟨fg, 0, none⟩) 130 130 F :=
  ⟨h.len, Nat.le_refl _, by unfold maxLen; omega, (fun e => by cases e), fun ad e i hi => by
    cases e
    rw [Addr.add_lit, Nat.zero_add]
    exact h.f i hi⟩
end
end Go.Proofs.Ytjihemgidogoeaa
