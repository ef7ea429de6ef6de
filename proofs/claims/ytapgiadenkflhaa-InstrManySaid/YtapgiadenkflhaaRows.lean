/-
  No cell of these rows narrows 'for every input' (looked for: loops, veiled, ifaces, maps, wideKeys, modest, calm, conditions, laid).
  DERIVED. THE GIVEN ROWS OF THIS SEAT. 5 by the template 'for every input the law returns true; each argument reads behind the call as it read before'; 0 by the template 'total and deterministic' (their statements: YtapgiadenkflhaaTotals.lean).
  GIVEN WITH THE SEED: the statements are not yours to turn. If you find one false, say at which input.
  Laid BY PROGRAM, IN A SANDBOX (cutbox-rows.mjs): the forced cells as the released guide's own fill.sh prints them over the translation e95a44aa16254c70… (all of the seat's roots in one cut). By AI agents, Wed Nov 11 2026. No macro, syntax, notation, axiom, sorry.
-/
import Derived.Test.YtapgiadenkflhaaChecked
import GoSem.Claim
import GoSem.ClaimJoined
import GoSem.ClaimMapViews
import Derived.JoinedTies
import Derived.KernelRfl
namespace Go.Proofs.Ytapgiadenkflhaa
/- THE CELL 'sum', in the pinned program and in every row, IS THE sha256 OF THE DUMP (.gsa) THAT YtapgiadenkflhaaProg.lean LOADS. Nothing in Lean hashes anything: it is a label: what it is worth is what the hold of that sum in a sandbox is worth. -/
noncomputable def Try.pinned : Pinned := { name := "ytapgiadenkflhaa", sum := "e95a44aa16254c705a1d2a151a34936d91586d0fa1fc6ea16ffb8189fc5040a4", checked := Try.checked }
namespace Rows
def none {H : Type} : Left H := { results := [], args := [] }

/-- 'diapauselaw5.InstrAll': WHATEVER THE INPUT: true; the input reads as it did. -/
def instrAllSpec : ChangeSpec := { name := "instrAll", fn := fun _ => fun
  | [d1, d2, d3, d4] => { results := [.lit (.bool true)], args := [d1, d2, d3, d4] }
  | _ => none }
def instrAllRow : OpenClaim := { program := "ytapgiadenkflhaa", sum := "e95a44aa16254c705a1d2a151a34936d91586d0fa1fc6ea16ffb8189fc5040a4", func := "diapause/diapauselaw5.InstrAll", spec := "instrAll", apart := false }
def InstrAllSaid : Prop := instrAllRow.holds Try.pinned (OpenSpec.ofChange instrAllSpec)

/-- ITS FALSE NEIGHBOUR: 'it returns false'. Refute it at one input. -/
def instrAllWrong : ChangeSpec := { name := "instrAll", fn := fun _ => fun
  | [d1, d2, d3, d4] => { results := [.lit (.bool false)], args := [d1, d2, d3, d4] }
  | _ => none }
def InstrAllWrongFalsely : Prop := instrAllRow.holds Try.pinned (OpenSpec.ofChange instrAllWrong)

/-- 'diapauselaw5.InstrAny': WHATEVER THE INPUT: true; the input reads as it did. -/
def instrAnySpec : ChangeSpec := { name := "instrAny", fn := fun _ => fun
  | [d1, d2, d3, d4] => { results := [.lit (.bool true)], args := [d1, d2, d3, d4] }
  | _ => none }
def instrAnyRow : OpenClaim := { program := "ytapgiadenkflhaa", sum := "e95a44aa16254c705a1d2a151a34936d91586d0fa1fc6ea16ffb8189fc5040a4", func := "diapause/diapauselaw5.InstrAny", spec := "instrAny", apart := false }
def InstrAnySaid : Prop := instrAnyRow.holds Try.pinned (OpenSpec.ofChange instrAnySpec)

/-- ITS FALSE NEIGHBOUR: 'it returns false'. Refute it at one input. -/
def instrAnyWrong : ChangeSpec := { name := "instrAny", fn := fun _ => fun
  | [d1, d2, d3, d4] => { results := [.lit (.bool false)], args := [d1, d2, d3, d4] }
  | _ => none }
def InstrAnyWrongFalsely : Prop := instrAnyRow.holds Try.pinned (OpenSpec.ofChange instrAnyWrong)

/-- 'diapauselaw5.InstrOps': WHATEVER THE INPUT: true; the input reads as it did. -/
def instrOpsSpec : ChangeSpec := { name := "instrOps", fn := fun _ => fun
  | [d1, d2] => { results := [.lit (.bool true)], args := [d1, d2] }
  | _ => none }
def instrOpsRow : OpenClaim := { program := "ytapgiadenkflhaa", sum := "e95a44aa16254c705a1d2a151a34936d91586d0fa1fc6ea16ffb8189fc5040a4", func := "diapause/diapauselaw5.InstrOps", spec := "instrOps", apart := false }
def InstrOpsSaid : Prop := instrOpsRow.holds Try.pinned (OpenSpec.ofChange instrOpsSpec)

/-- ITS FALSE NEIGHBOUR: 'it returns false'. Refute it at one input. -/
def instrOpsWrong : ChangeSpec := { name := "instrOps", fn := fun _ => fun
  | [d1, d2] => { results := [.lit (.bool false)], args := [d1, d2] }
  | _ => none }
def InstrOpsWrongFalsely : Prop := instrOpsRow.holds Try.pinned (OpenSpec.ofChange instrOpsWrong)

/-- 'diapauselaw5.InstrMany': WHATEVER THE INPUT: true; the input reads as it did. -/
def instrManySpec : ChangeSpec := { name := "instrMany", fn := fun _ => fun
  | [d] => { results := [.lit (.bool true)], args := [d] }
  | _ => none }
def instrManyRow : OpenClaim := { program := "ytapgiadenkflhaa", sum := "e95a44aa16254c705a1d2a151a34936d91586d0fa1fc6ea16ffb8189fc5040a4", func := "diapause/diapauselaw5.InstrMany", spec := "instrMany", apart := false }
def InstrManySaid : Prop := instrManyRow.holds Try.pinned (OpenSpec.ofChange instrManySpec)

/-- ITS FALSE NEIGHBOUR: 'it returns false'. Refute it at one input. -/
def instrManyWrong : ChangeSpec := { name := "instrMany", fn := fun _ => fun
  | [d] => { results := [.lit (.bool false)], args := [d] }
  | _ => none }
def InstrManyWrongFalsely : Prop := instrManyRow.holds Try.pinned (OpenSpec.ofChange instrManyWrong)

/-- 'diapauselaw5.InstrLimits': WHATEVER THE INPUT: true; the input reads as it did. -/
def instrLimitsSpec : ChangeSpec := { name := "instrLimits", fn := fun _ => fun
  | [d1, d2, d3, d4] => { results := [.lit (.bool true)], args := [d1, d2, d3, d4] }
  | _ => none }
def instrLimitsRow : OpenClaim := { program := "ytapgiadenkflhaa", sum := "e95a44aa16254c705a1d2a151a34936d91586d0fa1fc6ea16ffb8189fc5040a4", func := "diapause/diapauselaw5.InstrLimits", spec := "instrLimits", apart := false }
def InstrLimitsSaid : Prop := instrLimitsRow.holds Try.pinned (OpenSpec.ofChange instrLimitsSpec)

/-- ITS FALSE NEIGHBOUR: 'it returns false'. Refute it at one input. -/
def instrLimitsWrong : ChangeSpec := { name := "instrLimits", fn := fun _ => fun
  | [d1, d2, d3, d4] => { results := [.lit (.bool false)], args := [d1, d2, d3, d4] }
  | _ => none }
def InstrLimitsWrongFalsely : Prop := instrLimitsRow.holds Try.pinned (OpenSpec.ofChange instrLimitsWrong)

/- THE SECOND FORM. 'bulk': how many values and letters a reading holds, each counted each time it is reached (what is shared counts as often as it is met; a slice's spare places count too). A statement '..UptoSaid' is the law's where the arguments, and the package variables that the reading takes, are together of bulk at most 1048576: NARROWER than '..Said'. Prove '..Said' where nothing that the law and all that it calls make is longer than what came in: it says more and counts as full. Else prove '..UptoSaid'. A law counts once. -/
mutual
def uptoBulk {H : Type} : DataW H → Nat
  | .lit (.string bytes) => bytes.length + 1
  | .lit _ => 1
  | .nil => 1
  | .ptr d => uptoBulk d + 1
  | .slice elems spare => uptoBulkAll elems + uptoBulkAll spare + 1
  | .agg parts => uptoBulkAll parts + 1
  | .iface _ d => uptoBulk d + 1
  | .map entries => uptoBulkEntries entries + 1
  | .held _ => 1
def uptoBulkAll {H : Type} : List (DataW H) → Nat
  | [] => 0
  | d :: r => uptoBulk d + uptoBulkAll r
def uptoBulkEntries {H : Type} : List (Lit × DataW H) → Nat
  | [] => 0
  | x :: r => uptoBulkEntry x + uptoBulkEntries r
def uptoBulkEntry {H : Type} : Lit × DataW H → Nat
  | (.string bytes, d) => bytes.length + uptoBulk d + 1
  | (_, d) => uptoBulk d + 1
 end
def uptoSmall : (H : Type) → List (DataW H) → Bool := fun _ ds => decide (uptoBulkAll ds ≤ 1048576)
def OpenSpec.upto (s : _root_.Go.ChangeSpec) : _root_.Go.OpenSpec := { _root_.Go.OpenSpec.ofChange s with cond := some uptoSmall }

/-- 'diapauselaw5.InstrAll', WHERE WHAT IT READS IS OF BULK AT MOST 1048576: true; the input reads as it did. -/
def instrAllUptoRow : OpenClaim := { program := "ytapgiadenkflhaa", sum := "e95a44aa16254c705a1d2a151a34936d91586d0fa1fc6ea16ffb8189fc5040a4", func := "diapause/diapauselaw5.InstrAll", spec := "instrAll", apart := false, narrowed := true }
def InstrAllUptoSaid : Prop := instrAllUptoRow.holds Try.pinned (OpenSpec.upto instrAllSpec)

/-- 'diapauselaw5.InstrAny', WHERE WHAT IT READS IS OF BULK AT MOST 1048576: true; the input reads as it did. -/
def instrAnyUptoRow : OpenClaim := { program := "ytapgiadenkflhaa", sum := "e95a44aa16254c705a1d2a151a34936d91586d0fa1fc6ea16ffb8189fc5040a4", func := "diapause/diapauselaw5.InstrAny", spec := "instrAny", apart := false, narrowed := true }
def InstrAnyUptoSaid : Prop := instrAnyUptoRow.holds Try.pinned (OpenSpec.upto instrAnySpec)

/-- 'diapauselaw5.InstrOps', WHERE WHAT IT READS IS OF BULK AT MOST 1048576: true; the input reads as it did. -/
def instrOpsUptoRow : OpenClaim := { program := "ytapgiadenkflhaa", sum := "e95a44aa16254c705a1d2a151a34936d91586d0fa1fc6ea16ffb8189fc5040a4", func := "diapause/diapauselaw5.InstrOps", spec := "instrOps", apart := false, narrowed := true }
def InstrOpsUptoSaid : Prop := instrOpsUptoRow.holds Try.pinned (OpenSpec.upto instrOpsSpec)

/-- 'diapauselaw5.InstrMany', WHERE WHAT IT READS IS OF BULK AT MOST 1048576: true; the input reads as it did. -/
def instrManyUptoRow : OpenClaim := { program := "ytapgiadenkflhaa", sum := "e95a44aa16254c705a1d2a151a34936d91586d0fa1fc6ea16ffb8189fc5040a4", func := "diapause/diapauselaw5.InstrMany", spec := "instrMany", apart := false, narrowed := true }
def InstrManyUptoSaid : Prop := instrManyUptoRow.holds Try.pinned (OpenSpec.upto instrManySpec)

/-- 'diapauselaw5.InstrLimits', WHERE WHAT IT READS IS OF BULK AT MOST 1048576: true; the input reads as it did. -/
def instrLimitsUptoRow : OpenClaim := { program := "ytapgiadenkflhaa", sum := "e95a44aa16254c705a1d2a151a34936d91586d0fa1fc6ea16ffb8189fc5040a4", func := "diapause/diapauselaw5.InstrLimits", spec := "instrLimits", apart := false, narrowed := true }
def InstrLimitsUptoSaid : Prop := instrLimitsUptoRow.holds Try.pinned (OpenSpec.upto instrLimitsSpec)

end Rows
end Go.Proofs.Ytapgiadenkflhaa
