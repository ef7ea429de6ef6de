/-
  NARROWER THAN 'FOR EVERY INPUT', by the rows' own cells (each row's printed sentence says how): SuperSaves: laid · SuperCrash: laid · SuperNone: laid · SuperTwo: laid.
  DERIVED. THE GIVEN ROWS OF THIS SEAT. 4 by the template 'for every input the law returns true; each argument reads behind the call as it read before'; 0 by the template 'total and deterministic' (their statements: YtpfcopdckjedfaaDoorTotals.lean).
  GIVEN WITH THE SEED: the statements are not yours to turn. If you find one false, say at which input.
  Laid BY PROGRAM, IN A SANDBOX (cutbox-rows.mjs): the forced cells as the released guide's own fill.sh prints them over the translation 2694f27ba246c8e0… (all of the seat's roots in one cut). By AI agents, Wed Nov 11 2026. No macro, syntax, notation, axiom, sorry.
-/
import Derived.Test.YtpfcopdckjedfaaDoorChecked
import GoSem.Claim
import GoSem.ClaimJoined
import GoSem.ClaimMapViews
import Derived.JoinedTies
import Derived.KernelRfl
namespace Go.Proofs.YtpfcopdckjedfaaDoor
/- THE CELL 'sum', in the pinned program and in every row, IS THE sha256 OF THE DUMP (.gsa) THAT YtpfcopdckjedfaaDoorProg.lean LOADS. Nothing in Lean hashes anything: it is a label: what it is worth is what the hold of that sum in a sandbox is worth. -/
noncomputable def Tryd.pinned : Pinned := { name := "ytpfcopdckjedfaadoor", sum := "2694f27ba246c8e0691ba1884524f73382e3ff8ad05188f83b818d328bfa571f", checked := Tryd.checked }
namespace Rows
def none {H : Type} : Left H := { results := [], args := [] }

/- WHAT THE LISTED PACKAGE-LEVEL VARIABLES READ AS WHEN THE CALL BEGINS. Each datum BY PROGRAM (the guide's laid-datum.mjs) off the statement by which the dump's own 'gosem.cut.vars' lays the variable. In a bare row this is a premise. The card (YtpfcopdckjedfaaDoorCards.lean) ties it to the program's text. -/
def laid_diapause_crc_remainders {H : Type} : DataW H := .agg [.lit (.int .u32 0), .lit (.int .u32 498536548), .lit (.int .u32 997073096), .lit (.int .u32 651767980), .lit (.int .u32 1994146192), .lit (.int .u32 1802195444), .lit (.int .u32 1303535960), .lit (.int .u32 1342533948), .lit (.int .u32 3988292384), .lit (.int .u32 4027552580), .lit (.int .u32 3604390888), .lit (.int .u32 3412177804), .lit (.int .u32 2607071920), .lit (.int .u32 2262029012), .lit (.int .u32 2685067896), .lit (.int .u32 3183342108)]

/-- 'diapauselaw18.SuperSaves': WHATEVER THE INPUT: true; the input reads as it did. -/
def superSavesSpec : ChangeSpec := { name := "superSaves", fn := fun _ => fun
  | [d1, d2, d3] => { results := [.lit (.bool true)], args := [d1, d2, d3] }
  | _ => none }
def superSavesRow : OpenClaim := { program := "ytpfcopdckjedfaadoor", sum := "2694f27ba246c8e0691ba1884524f73382e3ff8ad05188f83b818d328bfa571f", func := "diapause/diapauselaw18.SuperSaves", spec := "superSaves", unfollowed := true, recurses := true, named := ["diapause/crc.remainders"], apart := false, laid := [("diapause/crc.remainders", laid_diapause_crc_remainders)] }
def SuperSavesSaid : Prop := superSavesRow.holds Tryd.pinned (OpenSpec.ofChange superSavesSpec)

/-- ITS FALSE NEIGHBOUR: 'it returns false'. Refute it at one input. -/
def superSavesWrong : ChangeSpec := { name := "superSaves", fn := fun _ => fun
  | [d1, d2, d3] => { results := [.lit (.bool false)], args := [d1, d2, d3] }
  | _ => none }
def SuperSavesWrongFalsely : Prop := superSavesRow.holds Tryd.pinned (OpenSpec.ofChange superSavesWrong)

/-- 'diapauselaw18.SuperCrash': WHATEVER THE INPUT: true; the input reads as it did. -/
def superCrashSpec : ChangeSpec := { name := "superCrash", fn := fun _ => fun
  | [d1, d2, d3, d4, d5] => { results := [.lit (.bool true)], args := [d1, d2, d3, d4, d5] }
  | _ => none }
def superCrashRow : OpenClaim := { program := "ytpfcopdckjedfaadoor", sum := "2694f27ba246c8e0691ba1884524f73382e3ff8ad05188f83b818d328bfa571f", func := "diapause/diapauselaw18.SuperCrash", spec := "superCrash", unfollowed := true, recurses := true, named := ["diapause/crc.remainders"], apart := false, laid := [("diapause/crc.remainders", laid_diapause_crc_remainders)] }
def SuperCrashSaid : Prop := superCrashRow.holds Tryd.pinned (OpenSpec.ofChange superCrashSpec)

/-- ITS FALSE NEIGHBOUR: 'it returns false'. Refute it at one input. -/
def superCrashWrong : ChangeSpec := { name := "superCrash", fn := fun _ => fun
  | [d1, d2, d3, d4, d5] => { results := [.lit (.bool false)], args := [d1, d2, d3, d4, d5] }
  | _ => none }
def SuperCrashWrongFalsely : Prop := superCrashRow.holds Tryd.pinned (OpenSpec.ofChange superCrashWrong)

/-- 'diapauselaw18.SuperNone': WHATEVER THE INPUT: true; the input reads as it did. -/
def superNoneSpec : ChangeSpec := { name := "superNone", fn := fun _ => fun
  | [] => { results := [.lit (.bool true)], args := [] }
  | _ => none }
def superNoneRow : OpenClaim := { program := "ytpfcopdckjedfaadoor", sum := "2694f27ba246c8e0691ba1884524f73382e3ff8ad05188f83b818d328bfa571f", func := "diapause/diapauselaw18.SuperNone", spec := "superNone", unfollowed := true, recurses := true, named := ["diapause/crc.remainders"], apart := false, laid := [("diapause/crc.remainders", laid_diapause_crc_remainders)] }
def SuperNoneSaid : Prop := superNoneRow.holds Tryd.pinned (OpenSpec.ofChange superNoneSpec)

/-- ITS FALSE NEIGHBOUR: 'it returns false'. Refute it at one input. -/
def superNoneWrong : ChangeSpec := { name := "superNone", fn := fun _ => fun
  | [] => { results := [.lit (.bool false)], args := [] }
  | _ => none }
def SuperNoneWrongFalsely : Prop := superNoneRow.holds Tryd.pinned (OpenSpec.ofChange superNoneWrong)

/-- 'diapauselaw18.SuperTwo': WHATEVER THE INPUT: true; the input reads as it did. -/
def superTwoSpec : ChangeSpec := { name := "superTwo", fn := fun _ => fun
  | [d1, d2, d3] => { results := [.lit (.bool true)], args := [d1, d2, d3] }
  | _ => none }
def superTwoRow : OpenClaim := { program := "ytpfcopdckjedfaadoor", sum := "2694f27ba246c8e0691ba1884524f73382e3ff8ad05188f83b818d328bfa571f", func := "diapause/diapauselaw18.SuperTwo", spec := "superTwo", unfollowed := true, recurses := true, named := ["diapause/crc.remainders"], apart := false, laid := [("diapause/crc.remainders", laid_diapause_crc_remainders)] }
def SuperTwoSaid : Prop := superTwoRow.holds Tryd.pinned (OpenSpec.ofChange superTwoSpec)

/-- ITS FALSE NEIGHBOUR: 'it returns false'. Refute it at one input. -/
def superTwoWrong : ChangeSpec := { name := "superTwo", fn := fun _ => fun
  | [d1, d2, d3] => { results := [.lit (.bool false)], args := [d1, d2, d3] }
  | _ => none }
def SuperTwoWrongFalsely : Prop := superTwoRow.holds Tryd.pinned (OpenSpec.ofChange superTwoWrong)

/- THE SECOND FORM. 'bulk': how many values and letters a reading holds, each counted each time it is reached (what is shared counts as often as it is met; a slice's spare places count too). A statement '..UptoSaid' is the law's where the arguments, and the package variables that the reading takes, are together of bulk at most 1048576: NARROWER than '..Said'. Prove '..Said' where nothing that the law and all that it calls make is longer than what came in: it says more and counts as full. Else prove '..UptoSaid'. A law counts once. -/
mutual
def uptoBulk {H : Type} : DataW H → Nat
  | .lit (.string bytes) => bytes.length + 1
  | .lit _ => 1
  | .nil => 1
  | .ptr d => uptoBulk d + 1
  | .slice elems spare => uptoBulkAll elems + uptoBulkAll spare + 1
  | .agg parts => uptoBulkAll parts + 1
  | .iface _ d => uptoBulk d + 1
  | .map entries => uptoBulkEntries entries + 1
  | .held _ => 1
def uptoBulkAll {H : Type} : List (DataW H) → Nat
  | [] => 0
  | d :: r => uptoBulk d + uptoBulkAll r
def uptoBulkEntries {H : Type} : List (Lit × DataW H) → Nat
  | [] => 0
  | x :: r => uptoBulkEntry x + uptoBulkEntries r
def uptoBulkEntry {H : Type} : Lit × DataW H → Nat
  | (.string bytes, d) => bytes.length + uptoBulk d + 1
  | (_, d) => uptoBulk d + 1
 end
def uptoSmall : (H : Type) → List (DataW H) → Bool := fun _ ds => decide (uptoBulkAll ds ≤ 1048576)
def OpenSpec.upto (s : _root_.Go.ChangeSpec) : _root_.Go.OpenSpec := { _root_.Go.OpenSpec.ofChange s with cond := some uptoSmall }

/-- 'diapauselaw18.SuperSaves', WHERE WHAT IT READS IS OF BULK AT MOST 1048576: true; the input reads as it did. -/
def superSavesUptoRow : OpenClaim := { program := "ytpfcopdckjedfaadoor", sum := "2694f27ba246c8e0691ba1884524f73382e3ff8ad05188f83b818d328bfa571f", func := "diapause/diapauselaw18.SuperSaves", spec := "superSaves", unfollowed := true, recurses := true, named := ["diapause/crc.remainders"], apart := false, laid := [("diapause/crc.remainders", laid_diapause_crc_remainders)], narrowed := true }
def SuperSavesUptoSaid : Prop := superSavesUptoRow.holds Tryd.pinned (OpenSpec.upto superSavesSpec)

/-- 'diapauselaw18.SuperCrash', WHERE WHAT IT READS IS OF BULK AT MOST 1048576: true; the input reads as it did. -/
def superCrashUptoRow : OpenClaim := { program := "ytpfcopdckjedfaadoor", sum := "2694f27ba246c8e0691ba1884524f73382e3ff8ad05188f83b818d328bfa571f", func := "diapause/diapauselaw18.SuperCrash", spec := "superCrash", unfollowed := true, recurses := true, named := ["diapause/crc.remainders"], apart := false, laid := [("diapause/crc.remainders", laid_diapause_crc_remainders)], narrowed := true }
def SuperCrashUptoSaid : Prop := superCrashUptoRow.holds Tryd.pinned (OpenSpec.upto superCrashSpec)

/-- 'diapauselaw18.SuperNone', WHERE WHAT IT READS IS OF BULK AT MOST 1048576: true; the input reads as it did. -/
def superNoneUptoRow : OpenClaim := { program := "ytpfcopdckjedfaadoor", sum := "2694f27ba246c8e0691ba1884524f73382e3ff8ad05188f83b818d328bfa571f", func := "diapause/diapauselaw18.SuperNone", spec := "superNone", unfollowed := true, recurses := true, named := ["diapause/crc.remainders"], apart := false, laid := [("diapause/crc.remainders", laid_diapause_crc_remainders)], narrowed := true }
def SuperNoneUptoSaid : Prop := superNoneUptoRow.holds Tryd.pinned (OpenSpec.upto superNoneSpec)

/-- 'diapauselaw18.SuperTwo', WHERE WHAT IT READS IS OF BULK AT MOST 1048576: true; the input reads as it did. -/
def superTwoUptoRow : OpenClaim := { program := "ytpfcopdckjedfaadoor", sum := "2694f27ba246c8e0691ba1884524f73382e3ff8ad05188f83b818d328bfa571f", func := "diapause/diapauselaw18.SuperTwo", spec := "superTwo", unfollowed := true, recurses := true, named := ["diapause/crc.remainders"], apart := false, laid := [("diapause/crc.remainders", laid_diapause_crc_remainders)], narrowed := true }
def SuperTwoUptoSaid : Prop := superTwoUptoRow.holds Tryd.pinned (OpenSpec.upto superTwoSpec)

end Rows
end Go.Proofs.YtpfcopdckjedfaaDoor
