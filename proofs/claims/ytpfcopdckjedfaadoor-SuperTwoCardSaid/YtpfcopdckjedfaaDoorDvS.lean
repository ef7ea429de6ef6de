/- dev: what its laws ask of the package's functions, in one word (DevSpec). -/
import Derived.Test.YtpfcopdckjedfaaDoorProg
import Derived.Test.YtpfcopdckjedfaaDoorDvM
import Derived.Test.YtpfcopdckjedfaaDoorWrs
namespace Go.Proofs.YtpfcopdckjedfaaDoor
open Go.RowKit
set_option linter.unusedVariables false

/-- The functions of the package, told over one word: At A M p w: at p there is the device M, all of it in the blocks A. -/
structure DevSpec where
  E : TypeId
  At : (Nat → Prop) → Dv → Addr → World → Prop
  ok : ∀ {A M p w}, At A M p w → M.ok
  lt : ∀ {A M p w}, At A M p w → ∀ b, A b → b < w.heap.size
  keep : ∀ {A M p w w'}, At A M p w → (∀ b, A b → w'.heap[b]? = w.heap[b]?) → At A M p w'
  new_to : ∀ n w, (Lit.int .i64 n).wf = true → Calls Tryd.prog 8 #[.int .i64 n] w fun e w' => ∃ p A, e = .returned (.pointer (some p)) ∧ (∀ b, A b → w.heap.size ≤ b) ∧ At A (Dv.new n) p w' ∧ Below w.heap.size w w'
  len_to : ∀ A M p w, At A M p w → Calls Tryd.prog 31 #[.pointer (some p)] w fun e w' => e = .returned (.int .i64 M.now.length) ∧ Below w.heap.size w w'
  read_to : ∀ A M p w i, At A M p w → (Lit.int .i64 i).wf = true → Calls Tryd.prog 19 #[.pointer (some p), .int .i64 i] w fun e w' => ∃ v, e = .returned (.tuple #[v, .int .i64 (M.readE i)]) ∧ Own E .u8 w.heap.size w' v (M.read i) ∧ Below w.heap.size w w'
  write_to : ∀ A M p w i ao n cap b, At A M p w → (Lit.int .i64 i).wf = true → Rd .u8 w ao n cap b → (∀ ad, ao = some ad → ¬ A ad.block) → M.calls < 1000000000 → Calls Tryd.prog 18 #[.pointer (some p), .int .i64 i, .slice ao n cap] w fun e w' => ∃ A', e = .returned (.int .i64 (M.writeE i n)) ∧ (∀ b, A' b → A b ∨ w.heap.size ≤ b) ∧ At A' (M.write i b) p w' ∧ Wrs A w w'
  flush_to : ∀ A M p w, At A M p w → M.calls < 1000000000 → Calls Tryd.prog 33 #[.pointer (some p)] w fun e w' => ∃ A', e = .returned (.int .i64 M.flushE) ∧ (∀ b, A' b → A b ∨ w.heap.size ≤ b) ∧ At A' M.flush p w' ∧ Wrs A w w'
  loose_to : ∀ A M p w, At A M p w → Calls Tryd.prog 16 #[.pointer (some p)] w fun e w' => ∃ v, e = .returned v ∧ Own 3 .i64 w.heap.size w' v M.looses ∧ Below w.heap.size w w'
  dead_to : ∀ A M p w, At A M p w → Calls Tryd.prog 28 #[.pointer (some p)] w fun e w' => e = .returned (.bool (decide (M.fuse = 0))) ∧ Below w.heap.size w w'
  fuse_to : ∀ A M p w n, At A M p w → (Lit.int .i64 n).wf = true → Calls Tryd.prog 17 #[.pointer (some p), .int .i64 n] w fun e w' => ∃ A', e = .returned (.tuple #[]) ∧ (∀ b, A' b → A b ∨ w.heap.size ≤ b) ∧ At A' (M.fuseTo n) p w' ∧ Wrs A w w'
  crash_to : ∀ A M p w ao n cap ks, At A M p w → RdB w ao n cap ks → Calls Tryd.prog 13 #[.pointer (some p), .slice ao n cap] w fun e w' => ∃ q A', e = .returned (.pointer (some q)) ∧ (∀ b, A' b → w.heap.size ≤ b) ∧ At A' (M.crash ks) q w' ∧ Below w.heap.size w w'
  len_nil : ∀ w, Calls Tryd.prog 31 #[.pointer none] w fun e w' => e = .returned (.int .i64 0) ∧ Below w.heap.size w w'
  read_nil : ∀ w i, Calls Tryd.prog 19 #[.pointer none, .int .i64 i] w fun e w' => ∃ v, e = .returned (.tuple #[v, .int .i64 10]) ∧ Own 5 .u8 w.heap.size w' v [] ∧ Below w.heap.size w w'
  write_nil : ∀ w i ao n cap, Calls Tryd.prog 18 #[.pointer none, .int .i64 i, .slice ao n cap] w fun e w' => e = .returned (.int .i64 10) ∧ Below w.heap.size w w'
  flush_nil : ∀ w, Calls Tryd.prog 33 #[.pointer none] w fun e w' => e = .returned (.int .i64 10) ∧ Below w.heap.size w w'
  loose_nil : ∀ w, Calls Tryd.prog 16 #[.pointer none] w fun e w' => ∃ v, e = .returned v ∧ Own 3 .i64 w.heap.size w' v [] ∧ Below w.heap.size w w'
  dead_nil : ∀ w, Calls Tryd.prog 28 #[.pointer none] w fun e w' => e = .returned (.bool true) ∧ Below w.heap.size w w'
  fuse_nil : ∀ w n, Calls Tryd.prog 17 #[.pointer none, .int .i64 n] w fun e w' => e = .returned (.tuple #[]) ∧ Below w.heap.size w w'
  crash_nil : ∀ w ao n cap, Calls Tryd.prog 13 #[.pointer none, .slice ao n cap] w fun e w' => e = .returned (.pointer none) ∧ Below w.heap.size w w'
section
variable (X : DevSpec) {A A' : Nat → Prop} {M : Dv} {p : Addr} {w w' : World}
theorem DevSpec.wrs (h : X.At A M p w) (hw : Wrs A' w w') (hn : ∀ b, A b → ¬ A' b) : X.At A M p w' := X.keep h fun b hb => hw.block b (X.lt h b hb) (hn b hb)
theorem DevSpec.bel (h : X.At A M p w) (hw : Below w.heap.size w w') : X.At A M p w' := X.keep h fun b hb => hw.block b (X.lt h b hb)
/-- What lay there ahead of an object, and what is not the object's, is not hit. -/
theorem DevSpec.apart (h : X.At A M p w) {B : Nat} (hB : ∀ b, A' b → w.heap.size ≤ b) : ∀ b, A b → ¬ A' b := fun b hb h' => by have := X.lt h b hb; have := hB b h'; omega
end
end Go.Proofs.YtpfcopdckjedfaaDoor
