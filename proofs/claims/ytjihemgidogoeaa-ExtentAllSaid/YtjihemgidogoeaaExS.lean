/- extent: what its laws ask of the package's functions, in one word (ExtSpec). -/
import Derived.Test.YtjihemgidogoeaaProg
import Derived.Test.YtjihemgidogoeaaExM
import Derived.Test.YtjihemgidogoeaaWrs
namespace Go.Proofs.Ytjihemgidogoeaa
open Go.RowKit
set_option linter.unusedVariables false

/-- A slice value's parts: it reads as the pairs xs in the world w. -/
structure RdQ (w : World) (ao : Option Addr) (n cap : Nat) (xs : List (Int × Int)) : Prop where
  len : xs.length = n
  le : n ≤ cap
  max : cap ≤ maxLen
  nil : ao = none → cap = 0
  cell : ∀ i x y, xs[i]? = some (x, y) → ∃ b off, ao = some ⟨b, off, none⟩ ∧ w.cell? ⟨b, off + i * 2, none⟩ = some (.int .i64 x) ∧ w.cell? ⟨b, off + i * 2 + 1, none⟩ = some (.int .i64 y)
section
variable {w w' : World} {ao : Option Addr} {n cap : Nat} {xs : List (Int × Int)}
theorem RdQ.below (h : RdQ w ao n cap xs) (hb : Below w.heap.size w w') : RdQ w' ao n cap xs :=
  ⟨h.len, h.le, h.max, h.nil, fun i x y hi => by
    obtain ⟨b, off, e, h1, h2⟩ := h.cell i x y hi
    exact ⟨b, off, e, (hb.cell (World.block_lt_of_cell? w _ h1)).trans h1, (hb.cell (World.block_lt_of_cell? w _ h2)).trans h2⟩⟩
theorem RdQ.cap63 (h : RdQ w ao n cap xs) : cap ≤ 9223372036854775807 := by have := h.max; unfold maxLen at this; omega
theorem RdQ.stay (h : RdQ w ao n cap xs) (hb : ∀ ad, ao = some ad → w'.heap[ad.block]? = w.heap[ad.block]?) : RdQ w' ao n cap xs :=
  ⟨h.len, h.le, h.max, h.nil, fun i x y hi => by
    obtain ⟨b, off, e, h1, h2⟩ := h.cell i x y hi
    have hb' : w'.heap[b]? = w.heap[b]? := hb _ e
    exact ⟨b, off, e, (World.cell?_of_block hb').trans h1, (World.cell?_of_block hb').trans h2⟩⟩
theorem RdQ.wrs {A : Nat → Prop} (h : RdQ w ao n cap xs) (hw : Wrs A w w') (hn : ∀ ad, ao = some ad → ¬ A ad.block) : RdQ w' ao n cap xs :=
  ⟨h.len, h.le, h.max, h.nil, fun i x y hi => by
    obtain ⟨b, off, e, h1, h2⟩ := h.cell i x y hi
    have hb : w'.heap[b]? = w.heap[b]? := hw.block b (World.block_lt_of_cell? w _ h1) (hn _ e)
    exact ⟨b, off, e, (World.cell?_of_block hb).trans h1, (World.cell?_of_block hb).trans h2⟩⟩
end
/-- The functions of the package, told over one word: At A M p w: at p there is the room M, all of it in the blocks A. -/
structure ExtSpec where
  At : (Nat → Prop) → Rm → Addr → World → Prop
  ok : ∀ {A M p w}, At A M p w → M.ok
  lt : ∀ {A M p w}, At A M p w → ∀ b, A b → b < w.heap.size
  keep : ∀ {A M p w w'}, At A M p w → (∀ b, A b → w'.heap[b]? = w.heap[b]?) → At A M p w'
  new_to : ∀ a n w, (Lit.int .i64 a).wf = true → (Lit.int .i64 n).wf = true → a ≤ 1000000 → Calls Try.prog 10 #[.int .i64 a, .int .i64 n] w fun e w' => ∃ p A, e = .returned (.pointer (some p)) ∧ (∀ b, A b → w.heap.size ≤ b) ∧ At A (Rm.new a n) p w' ∧ Below w.heap.size w w'
  take_to : ∀ A M p w n, At A M p w → (Lit.int .i64 n).wf = true → Calls Try.prog 11 #[.pointer (some p), .int .i64 n] w fun e w' => ∃ A', e = .returned (.tuple #[.agg #[.int .i64 (M.takeV n).1, .int .i64 (M.takeV n).2.1], .bool (M.takeV n).2.2]) ∧ (∀ b, A' b → A b ∨ w.heap.size ≤ b) ∧ At A' (M.take n) p w' ∧ Wrs A w w'
  use_to : ∀ A M p w a n, At A M p w → (Lit.int .i64 a).wf = true → (Lit.int .i64 n).wf = true → Calls Try.prog 12 #[.pointer (some p), .agg #[.int .i64 a, .int .i64 n]] w fun e w' => ∃ A', e = .returned (.bool (M.all a n true)) ∧ (∀ b, A' b → A b ∨ w.heap.size ≤ b) ∧ At A' (M.use a n true) p w' ∧ Wrs A w w'
  give_to : ∀ A M p w a n, At A M p w → (Lit.int .i64 a).wf = true → (Lit.int .i64 n).wf = true → Calls Try.prog 13 #[.pointer (some p), .agg #[.int .i64 a, .int .i64 n]] w fun e w' => ∃ A', e = .returned (.bool (M.all a n false)) ∧ (∀ b, A' b → A b ∨ w.heap.size ≤ b) ∧ At A' (M.use a n false) p w' ∧ Wrs A w w'
  free_to : ∀ A M p w, At A M p w → Calls Try.prog 16 #[.pointer (some p)] w fun e w' => e = .returned (.int .i64 M.free) ∧ Below w.heap.size w w'
  spans_to : ∀ A M p w, At A M p w → Calls Try.prog 15 #[.pointer (some p)] w fun e w' => ∃ ao n cap, e = .returned (.slice ao n cap) ∧ RdQ w' ao n cap M.spans ∧ Below w.heap.size w w'
  copy_to : ∀ A M p w, At A M p w → Calls Try.prog 17 #[.pointer (some p)] w fun e w' => ∃ q A', e = .returned (.pointer (some q)) ∧ (∀ b, A' b → w.heap.size ≤ b) ∧ At A' M q w' ∧ Below w.heap.size w w'
  take_nil : ∀ w n, Calls Try.prog 11 #[.pointer none, .int .i64 n] w fun e w' => e = .returned (.tuple #[.agg #[.int .i64 0, .int .i64 0], .bool false]) ∧ Below w.heap.size w w'
  use_nil : ∀ w a n, Calls Try.prog 12 #[.pointer none, .agg #[.int .i64 a, .int .i64 n]] w fun e w' => e = .returned (.bool false) ∧ Below w.heap.size w w'
  give_nil : ∀ w a n, Calls Try.prog 13 #[.pointer none, .agg #[.int .i64 a, .int .i64 n]] w fun e w' => e = .returned (.bool false) ∧ Below w.heap.size w w'
  free_nil : ∀ w, Calls Try.prog 16 #[.pointer none] w fun e w' => e = .returned (.int .i64 0) ∧ Below w.heap.size w w'
  spans_nil : ∀ w, Calls Try.prog 15 #[.pointer none] w fun e w' => ∃ ao n cap, e = .returned (.slice ao n cap) ∧ RdQ w' ao n cap [] ∧ Below w.heap.size w w'
  copy_nil : ∀ w, Calls Try.prog 17 #[.pointer none] w fun e w' => e = .returned (.pointer none) ∧ Below w.heap.size w w'
section
variable (X : ExtSpec) {A A' : Nat → Prop} {M : Rm} {p : Addr} {w w' : World}
theorem ExtSpec.wrs (h : X.At A M p w) (hw : Wrs A' w w') (hn : ∀ b, A b → ¬ A' b) : X.At A M p w' := X.keep h fun b hb => hw.block b (X.lt h b hb) (hn b hb)
theorem ExtSpec.bel (h : X.At A M p w) (hw : Below w.heap.size w w') : X.At A M p w' := X.keep h fun b hb => hw.block b (X.lt h b hb)
/-- A room that the call itself has made (w0: the world as the call began); blocks of G are not the room's. -/
def ExtSpec.L (w0 : World) (G : Nat → Prop) (M : Rm) (p : Addr) (w : World) : Prop :=
  Below w0.heap.size w0 w ∧ ∃ A, X.At A M p w ∧ (∀ b, A b → w0.heap.size ≤ b) ∧ ∀ b, G b → ¬ A b ∧ b < w.heap.size
variable {X} {w0 : World} {G G' : Nat → Prop}
theorem ExtSpec.L.b (h : X.L w0 G M p w) : Below w0.heap.size w0 w := h.1
theorem ExtSpec.L.z (h : X.L w0 G M p w) : w0.heap.size ≤ w.heap.size := h.1.size
theorem ExtSpec.L.ok (h : X.L w0 G M p w) : M.ok := by obtain ⟨_, A, hat, _⟩ := h; exact X.ok hat
theorem ExtSpec.L.bel (h : X.L w0 G M p w) (hb : Below w.heap.size w w') : X.L w0 G M p w' := by
  obtain ⟨hB, A, hat, hA, hG⟩ := h
  exact ⟨Bl.step hB hb, A, X.bel hat hb, hA, fun b hb' => ⟨(hG b hb').1, Nat.lt_of_lt_of_le (hG b hb').2 hb.size⟩⟩
theorem ExtSpec.L.sub (h : X.L w0 G M p w) (hG' : ∀ b, G' b → G b) : X.L w0 G' M p w := by
  obtain ⟨hB, A, hat, hA, hG⟩ := h
  exact ⟨hB, A, hat, hA, fun b hb => hG b (hG' b hb)⟩
/-- A block that lies behind all the room's. -/
theorem ExtSpec.L.new (h : X.L w0 G M p w) (hb : Below w.heap.size w w') (hG' : ∀ b, G' b → G b ∨ (w.heap.size ≤ b ∧ b < w'.heap.size)) : X.L w0 G' M p w' := by
  obtain ⟨hB, A, hat, hA, hG⟩ := h
  refine ⟨Bl.step hB hb, A, X.bel hat hb, hA, fun b hb' => ?_⟩
  rcases hG' b hb' with h | h
  · exact ⟨(hG b h).1, Nat.lt_of_lt_of_le (hG b h).2 hb.size⟩
  · exact ⟨fun hAb => by have := X.lt hat b hAb; omega, h.2⟩
/-- A block of G is written. -/
theorem ExtSpec.L.set (h : X.L w0 G M p w) {g : Nat} (hg : G g) (hg0 : w0.heap.size ≤ g) (i : Nat) (u : Value) : X.L w0 G M p (w.setCell ⟨g, i, none⟩ u) := by
  obtain ⟨hB, A, hat, hA, hG⟩ := h
  exact ⟨hB.setCell (p := ⟨g, i, none⟩) hg0 _, A, X.keep hat (fun b hb => Below.heap_setCell w ⟨g, i, none⟩ u b (fun e => (hG g hg).1 (by have e2 : b = g := e; rw [← e2]; exact hb))), hA, fun b hb => ⟨(hG b hb).1, by simp [World.setCell]; exact (hG b hb).2⟩⟩
theorem ExtSpec.L.grown {r : Option Nat} (h : X.L w0 G M p w) (hg : w.grownBy w' r) (hr : ∀ g, r = some g → G g ∧ w0.heap.size ≤ g) (hG' : ∀ b, G' b → G b ∨ (w.heap.size ≤ b ∧ b < w'.heap.size)) : X.L w0 G' M p w' := by
  obtain ⟨hB, A, hat, hA, hG⟩ := h
  refine ⟨hB.grown hg hB.size (fun k hk => (hr k hk).2), A, X.keep hat (fun b hb => hg.block b (X.lt hat b hb) (fun e => (hG b (hr b e.symm).1).1 hb)), hA, fun b hb => ?_⟩
  rcases hG' b hb with h' | h'
  · exact ⟨(hG b h').1, Nat.lt_of_lt_of_le (hG b h').2 hg.size⟩
  · exact ⟨fun hAb => by have := X.lt hat b hAb; omega, h'.2⟩
theorem ExtSpec.L.drew (h : X.L w0 G M p w) : X.L w0 G M p w.drew := h.bel (Below.refl _ _).drew
/-- What a call that writes the room leaves. -/
theorem ExtSpec.L.turn {A : Nat → Prop} {M' : Rm} (hB : Below w0.heap.size w0 w) (hA : ∀ b, A b → w0.heap.size ≤ b) (hG : ∀ b, G b → ¬ A b ∧ b < w.heap.size) (h1 : ∀ b, A' b → A b ∨ w.heap.size ≤ b) (h2 : X.At A' M' p w') (hw : Wrs A w w') :
    X.L w0 G M' p w' ∧ (∀ b, G b → w'.heap[b]? = w.heap[b]?) ∧ w.heap.size ≤ w'.heap.size :=
  ⟨⟨hB.trans (hw.below hA hB.size), A', h2, fun b hb => by
    rcases h1 b hb with h | h
    · exact hA b h
    · have := hB.size; omega, fun b hb => ⟨fun h => by
    rcases h1 b h with h' | h'
    · exact (hG b hb).1 h'
    · have := (hG b hb).2; omega, Nat.lt_of_lt_of_le (hG b hb).2 hw.size⟩⟩, fun b hb => hw.block b (hG b hb).2 (hG b hb).1, hw.size⟩
theorem ExtSpec.L.take {n : Int} (h : X.L w0 G M p w) (hn : (Lit.int .i64 n).wf = true) : Calls Try.prog 11 #[.pointer (some p), .int .i64 n] w fun e w' => e = .returned (.tuple #[.agg #[.int .i64 (M.takeV n).1, .int .i64 (M.takeV n).2.1], .bool (M.takeV n).2.2]) ∧ X.L w0 G (M.take n) p w' ∧ (∀ b, G b → w'.heap[b]? = w.heap[b]?) ∧ w.heap.size ≤ w'.heap.size := by
  obtain ⟨hB, A, hat, hA, hG⟩ := h
  refine (X.take_to A M p w n hat hn).mono ?_
  rintro e w' ⟨A', rfl, h1, h2, hw⟩
  exact ⟨rfl, ExtSpec.L.turn hB hA hG h1 h2 hw⟩
theorem ExtSpec.L.use {a n : Int} (h : X.L w0 G M p w) (ha : (Lit.int .i64 a).wf = true) (hn : (Lit.int .i64 n).wf = true) : Calls Try.prog 12 #[.pointer (some p), .agg #[.int .i64 a, .int .i64 n]] w fun e w' => e = .returned (.bool (M.all a n true)) ∧ X.L w0 G (M.use a n true) p w' ∧ (∀ b, G b → w'.heap[b]? = w.heap[b]?) ∧ w.heap.size ≤ w'.heap.size := by
  obtain ⟨hB, A, hat, hA, hG⟩ := h
  refine (X.use_to A M p w a n hat ha hn).mono ?_
  rintro e w' ⟨A', rfl, h1, h2, hw⟩
  exact ⟨rfl, ExtSpec.L.turn hB hA hG h1 h2 hw⟩
theorem ExtSpec.L.give {a n : Int} (h : X.L w0 G M p w) (ha : (Lit.int .i64 a).wf = true) (hn : (Lit.int .i64 n).wf = true) : Calls Try.prog 13 #[.pointer (some p), .agg #[.int .i64 a, .int .i64 n]] w fun e w' => e = .returned (.bool (M.all a n false)) ∧ X.L w0 G (M.use a n false) p w' ∧ (∀ b, G b → w'.heap[b]? = w.heap[b]?) ∧ w.heap.size ≤ w'.heap.size := by
  obtain ⟨hB, A, hat, hA, hG⟩ := h
  refine (X.give_to A M p w a n hat ha hn).mono ?_
  rintro e w' ⟨A', rfl, h1, h2, hw⟩
  exact ⟨rfl, ExtSpec.L.turn hB hA hG h1 h2 hw⟩
theorem ExtSpec.L.free (h : X.L w0 G M p w) : Calls Try.prog 16 #[.pointer (some p)] w fun e w' => e = .returned (.int .i64 M.free) ∧ X.L w0 G M p w' ∧ Below w.heap.size w w' := by
  obtain ⟨hB, A, hat, hA, hG⟩ := h
  refine (X.free_to A M p w hat).mono ?_
  rintro e w' ⟨rfl, hb⟩
  exact ⟨rfl, ExtSpec.L.bel ⟨hB, A, hat, hA, hG⟩ hb, hb⟩
theorem ExtSpec.L.spans (h : X.L w0 G M p w) : Calls Try.prog 15 #[.pointer (some p)] w fun e w' => ∃ ao n cap, e = .returned (.slice ao n cap) ∧ RdQ w' ao n cap M.spans ∧ X.L w0 G M p w' ∧ Below w.heap.size w w' := by
  obtain ⟨hB, A, hat, hA, hG⟩ := h
  refine (X.spans_to A M p w hat).mono ?_
  rintro e w' ⟨ao, n, cap, rfl, hq, hb⟩
  exact ⟨ao, n, cap, rfl, hq, ExtSpec.L.bel ⟨hB, A, hat, hA, hG⟩ hb, hb⟩
variable (X) in
theorem ExtSpec.L.make {a n : Int} (hB : Below w0.heap.size w0 w) (ha : (Lit.int .i64 a).wf = true) (hn : (Lit.int .i64 n).wf = true) (h : a ≤ 1000000) : Calls Try.prog 10 #[.int .i64 a, .int .i64 n] w fun e w' => ∃ p, e = .returned (.pointer (some p)) ∧ X.L w0 (fun b => w0.heap.size ≤ b ∧ b < w.heap.size) (Rm.new a n) p w' ∧ Below w.heap.size w w' := by
  refine (X.new_to a n w ha hn h).mono ?_
  rintro e w' ⟨p, A, rfl, hA, hat, hb⟩
  exact ⟨p, rfl, ⟨Bl.step hB hb, A, hat, fun b hb' => Nat.le_trans hB.size (hA b hb'), fun b hb' => ⟨fun h => by have := hA b h; omega, Nat.lt_of_lt_of_le hb'.2 hb.size⟩⟩, hb⟩
end
end Go.Proofs.Ytjihemgidogoeaa
