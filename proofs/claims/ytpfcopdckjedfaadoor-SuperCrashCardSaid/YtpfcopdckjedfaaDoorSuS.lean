/- super: what its laws ask of the package's functions and the device's, in one word (SuSpec). -/
import Derived.Test.YtpfcopdckjedfaaDoorDvS
import Derived.Test.YtpfcopdckjedfaaDoorDvN
namespace Go.Proofs.YtpfcopdckjedfaaDoor
open Go.RowKit
set_option linter.unusedVariables false

structure Sp where
  p : Addr
  lo : Nat
  text : List Int
  turn : Int
/-- Nothing is loose: a crash changes nothing. -/
def Dv.still (M : Dv) : Prop := M.safe = M.now ∧ M.loose = List.replicate M.now.length false

theorem keepS_still : ∀ (xs : List Sec) (ks : List Bool), keepS xs xs (List.replicate xs.length false) ks = xs
  | [], ks => by simp [keepS]
  | a :: xs, ks => by simp [keepS, List.replicate_succ, keepS_still xs ks]
theorem Dv.still.crash {M : Dv} (h : M.still) (ks : List Bool) : (M.crash ks).now = M.now := by
  unfold Dv.crash; simp only; rw [h.1, h.2]; exact keepS_still _ _
theorem Dv.crash_still (M : Dv) (ks : List Bool) (h : (M.crash ks).now.length = M.now.length) : (M.crash ks).still := ⟨rfl, by show List.replicate M.now.length false = List.replicate (M.crash ks).now.length false; rw [h]⟩
theorem Dv.crash_len {M : Dv} (h : M.ok) (ks : List Bool) : (M.crash ks).now.length = M.now.length := keepS_length _ _ _ _ h.s h.l

/-- What a Save leaves: all well, or the device's end came ahead. -/
inductive Saved (Has : List Sec → Nat → List Int → Int → Prop) (s : Sp) (b : List Int) (M M' : Dv) : Int → Sp → Prop
  | good (h : Has M'.now s.lo b (s.turn + 1)) (hs : M'.still) (ho : ∀ i, i ≠ s.lo → i ≠ s.lo + 1 → M'.now.getD i [] = M.now.getD i []) : Saved Has s b M M' 0 { s with text := b, turn := s.turn + 1 }
  | bad (E : Int) (hE : E ≠ 0) (hw : (Lit.int .i64 E).wf = true) (hf : M.fuse ≠ -1) (h : ∀ ks, Has (M'.crash ks).now s.lo s.text s.turn ∨ Has (M'.crash ks).now s.lo b (s.turn + 1)) : Saved Has s b M M' E s

structure SuSpec extends DevSpec where
  Su : (Nat → Prop) → Sp → Addr → World → Prop
  slt : ∀ {B s q w}, Su B s q w → ∀ b, B b → b < w.heap.size
  skeep : ∀ {B s q w w'}, Su B s q w → (∀ b, B b → w'.heap[b]? = w.heap[b]?) → Su B s q w'
  Has : List Sec → Nat → List Int → Int → Prop
  /-- What the package reads of memory that no call makes (a table). -/
  L : World → Prop
  l0 : ∀ {w}, L w → 0 < w.heap.size
  lbel : ∀ {B w w'}, L w → Below B w w' → 0 < B → L w'
  loc : ∀ {S S' lo b t}, S'.length = S.length → S'.getD lo [] = S.getD lo [] → S'.getD (lo + 1) [] = S.getD (lo + 1) [] → Has S lo b t → Has S' lo b t
  make_to : ∀ A M p w (lo : Nat) ao n cap b, At A M p w → Rd .u8 w ao n cap b → (∀ ad, ao = some ad → 0 < n → ¬ A ad.block) → M.fuse = -1 → M.calls < 100000000 → n ≤ 40 → lo + 2 ≤ M.now.length → L w →
    Calls Tryd.prog 9 #[.pointer (some p), .int .i64 lo, .slice ao n cap] w fun e w' => ∃ q A' B M', e = .returned (.tuple #[.pointer (some q), .int .i64 0]) ∧ (∀ b, A' b → A b ∨ w.heap.size ≤ b) ∧ (∀ b, B b → w.heap.size ≤ b) ∧ (∀ b, A' b → ¬ B b) ∧
      At A' M' p w' ∧ Su B ⟨p, lo, b, 1⟩ q w' ∧ Wrs A w w' ∧ Has M'.now lo b 1 ∧ M'.still ∧ M'.fuse = -1 ∧ M'.calls ≤ M.calls + 10 ∧ M'.now.length = M.now.length ∧ ∀ i, i ≠ lo → i ≠ lo + 1 → M'.now.getD i [] = M.now.getD i []
  save_to : ∀ A B M s q w ao n cap b, At A M s.p w → Su B s q w → (∀ b, A b → ¬ B b) → Rd .u8 w ao n cap b → (∀ ad, ao = some ad → 0 < n → ¬ A ad.block ∧ ¬ B ad.block) → M.still → Has M.now s.lo s.text s.turn → 0 < s.turn → s.turn < 1000000000 → M.calls < 100000000 → n ≤ 40 → s.lo + 2 ≤ M.now.length → L w →
    Calls Tryd.prog 11 #[.pointer (some q), .slice ao n cap] w fun e w' => ∃ A' B' M' E s', e = .returned (.int .i64 E) ∧ (∀ b, A' b → A b ∨ w.heap.size ≤ b) ∧ (∀ b, B' b → B b ∨ w.heap.size ≤ b) ∧ (∀ b, A' b → ¬ B' b) ∧
      At A' M' s.p w' ∧ Su B' s' q w' ∧ Wrs (fun b => A b ∨ B b) w w' ∧ Saved Has s b M M' E s' ∧ (M.fuse = -1 → M'.fuse = -1) ∧ M'.calls ≤ M.calls + 10 ∧ M'.now.length = M.now.length
  open_to : ∀ A M p w (lo : Nat) b t, At A M p w → Has M.now lo b t → lo + 2 ≤ M.now.length → L w →
    Calls Tryd.prog 12 #[.pointer (some p), .int .i64 lo] w fun e w' => ∃ q B, e = .returned (.tuple #[.pointer (some q), .int .i64 0]) ∧ (∀ b, B b → w.heap.size ≤ b) ∧ Su B ⟨p, lo, b, t⟩ q w' ∧ Below w.heap.size w w'
  text_to : ∀ B s q w, Su B s q w → Calls Tryd.prog 14 #[.pointer (some q)] w fun e w' => ∃ ao cap, e = .returned (.slice ao s.text.length cap) ∧ Rd .u8 w' ao s.text.length cap s.text ∧ Below w.heap.size w w'
  turn_to : ∀ B s q w, Su B s q w → Calls Tryd.prog 15 #[.pointer (some q)] w fun e w' => e = .returned (.int .i64 s.turn) ∧ Below w.heap.size w w'
  open_blank : ∀ A M p w (lo : Nat), At A M p w → M.now = List.replicate M.now.length zSec → lo + 2 ≤ M.now.length → L w →
    Calls Tryd.prog 12 #[.pointer (some p), .int .i64 lo] w fun e w' => e = .returned (.tuple #[.pointer none, .int .i64 11]) ∧ Below w.heap.size w w'
  make_far : ∀ A M p w (i : Int) ao n cap b, At A M p w → (Lit.int .i64 i).wf = true → Rd .u8 w ao n cap b → n ≤ 40 → (i < 0 ∨ (M.now.length : Int) - 2 < i) →
    Calls Tryd.prog 9 #[.pointer (some p), .int .i64 i, .slice ao n cap] w fun e w' => e = .returned (.tuple #[.pointer none, .int .i64 3]) ∧ Below w.heap.size w w'
  make_long : ∀ A M p w (i : Int) ao n cap b, At A M p w → (Lit.int .i64 i).wf = true → Rd .u8 w ao n cap b → 40 < n →
    Calls Tryd.prog 9 #[.pointer (some p), .int .i64 i, .slice ao n cap] w fun e w' => e = .returned (.tuple #[.pointer none, .int .i64 1]) ∧ Below w.heap.size w w'
  open_no : ∀ w (i : Int), (Lit.int .i64 i).wf = true → Calls Tryd.prog 12 #[.pointer none, .int .i64 i] w fun e w' => ∃ E, e = .returned (.tuple #[.pointer none, .int .i64 E]) ∧ E ≠ 0 ∧ Below w.heap.size w w'
  save_no : ∀ w ao n cap, Calls Tryd.prog 11 #[.pointer none, .slice ao n cap] w fun e w' => e = .returned (.int .i64 10) ∧ Below w.heap.size w w'
  text_no : ∀ w, Calls Tryd.prog 14 #[.pointer none] w fun e w' => e = .returned (.slice none 0 0) ∧ Below w.heap.size w w'
  turn_no : ∀ w, Calls Tryd.prog 15 #[.pointer none] w fun e w' => e = .returned (.int .i64 0) ∧ Below w.heap.size w w'
  save_long : ∀ A B M s q w ao n cap b, At A M s.p w → Su B s q w → Rd .u8 w ao n cap b → 40 < n →
    Calls Tryd.prog 11 #[.pointer (some q), .slice ao n cap] w fun e w' => e = .returned (.int .i64 1) ∧ Below w.heap.size w w'
section
variable (X : SuSpec) {A A' B : Nat → Prop} {M : Dv} {s : Sp} {p q : Addr} {w w' : World}
theorem SuSpec.lb (h : X.L w) (hw : Below w.heap.size w w') : X.L w' := X.lbel h hw (X.l0 h)
theorem SuSpec.swrs (h : X.Su B s q w) (hw : Wrs A' w w') (hn : ∀ b, B b → ¬ A' b) : X.Su B s q w' := X.skeep h fun b hb => hw.block b (X.slt h b hb) (hn b hb)
theorem SuSpec.sbel (h : X.Su B s q w) (hw : Below w.heap.size w w') : X.Su B s q w' := X.skeep h fun b hb => hw.block b (X.slt h b hb)
theorem SuSpec.turn_at {lo : Nat} {x : List Int} {t : Int} (h : X.Su B ⟨p, lo, x, t⟩ q w) : Calls Tryd.prog 15 #[.pointer (some q)] w fun e w' => e = .returned (.int .i64 t) ∧ Below w.heap.size w w' := X.turn_to B _ q w h
theorem SuSpec.text_at {lo : Nat} {x : List Int} {t : Int} (h : X.Su B ⟨p, lo, x, t⟩ q w) : Calls Tryd.prog 14 #[.pointer (some q)] w fun e w' => ∃ ao cap, e = .returned (.slice ao x.length cap) ∧ Rd .u8 w' ao x.length cap x ∧ Below w.heap.size w w' := X.text_to B _ q w h
end
end Go.Proofs.YtpfcopdckjedfaaDoor
