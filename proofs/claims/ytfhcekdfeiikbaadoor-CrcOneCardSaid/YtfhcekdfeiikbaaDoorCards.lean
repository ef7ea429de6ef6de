/-
  DERIVED. GIVEN WITH THE SEED: THE CARDS: each row of YtfhcekdfeiikbaaDoorRows.lean that lists a variable, with what it lists TIED to the program's text (the seventh form; the later family's looks); each row that meets fmt, with fmt's text TOLD by the authors' own Lean function (tested against real Go, not proved from fmt's source: count such statements apart). THE CARD IS WHAT COUNTS. Prove the row's statement (the work); the ties are given (YtfhcekdfeiikbaaDoorTie.lean); close each card by the builder's one call (the guide's Derived/Test/ToyasCard.lean, 'card_holds'). Laid BY PROGRAM, IN A SANDBOX (cutbox-door.mjs). By AI agents, Wed Nov 11 2026. No macro, syntax, notation, axiom, sorry.
-/
import Derived.Test.YtfhcekdfeiikbaaDoorRows
import GoSem.ClaimSeven
namespace Go.Proofs.YtfhcekdfeiikbaaDoor
namespace Rows

/-- THE TIED CARD OF 'diapauselaw2.CrcAll'. -/
def crcAllCard : Claim7 := { stood := { row := crcAllRow, standIns := [], harness := (true, "8e51c7077b4726a73381fe2df2981b35d1af115218f80fa4d73fb5ebda141568"), looks := false }, kinds := [], alts := [], laidByText := true, laidKinds := [.data], laidTests := true, laidLooks := .later }
def CrcAllCardSaid : Prop := Claim7.holds Tryd.pinned (.plain (OpenSpec.ofChange crcAllSpec)) crcAllCard

/-- THE TIED CARD OF 'diapauselaw2.CrcBurst'. -/
def crcBurstCard : Claim7 := { stood := { row := crcBurstRow, standIns := [], harness := (true, "8e51c7077b4726a73381fe2df2981b35d1af115218f80fa4d73fb5ebda141568"), looks := false }, kinds := [], alts := [], laidByText := true, laidKinds := [.data], laidTests := true, laidLooks := .later }
def CrcBurstCardSaid : Prop := Claim7.holds Tryd.pinned (.plain (OpenSpec.ofChange crcBurstSpec)) crcBurstCard

/-- THE TIED CARD OF 'diapauselaw2.CrcThree'. -/
def crcThreeCard : Claim7 := { stood := { row := crcThreeRow, standIns := [], harness := (true, "8e51c7077b4726a73381fe2df2981b35d1af115218f80fa4d73fb5ebda141568"), looks := false }, kinds := [], alts := [], laidByText := true, laidKinds := [.data], laidTests := true, laidLooks := .later }
def CrcThreeCardSaid : Prop := Claim7.holds Tryd.pinned (.plain (OpenSpec.ofChange crcThreeSpec)) crcThreeCard

/-- THE TIED CARD OF 'diapauselaw2.CrcMany'. -/
def crcManyCard : Claim7 := { stood := { row := crcManyRow, standIns := [], harness := (true, "8e51c7077b4726a73381fe2df2981b35d1af115218f80fa4d73fb5ebda141568"), looks := false }, kinds := [], alts := [], laidByText := true, laidKinds := [.data], laidTests := true, laidLooks := .later }
def CrcManyCardSaid : Prop := Claim7.holds Tryd.pinned (.plain (OpenSpec.ofChange crcManySpec)) crcManyCard

/-- THE TIED CARD OF 'diapauselaw2.CrcOne'. -/
def crcOneCard : Claim7 := { stood := { row := crcOneRow, standIns := [], harness := (true, "8e51c7077b4726a73381fe2df2981b35d1af115218f80fa4d73fb5ebda141568"), looks := false }, kinds := [], alts := [], laidByText := true, laidKinds := [.data], laidTests := true, laidLooks := .later }
def CrcOneCardSaid : Prop := Claim7.holds Tryd.pinned (.plain (OpenSpec.ofChange crcOneSpec)) crcOneCard

/-- THE SECOND FORM's CARD OF 'diapauselaw2.CrcAll'. -/
def crcAllUptoCard : Claim7 := { stood := { row := crcAllUptoRow, standIns := [], harness := (true, "8e51c7077b4726a73381fe2df2981b35d1af115218f80fa4d73fb5ebda141568"), looks := false }, kinds := [], alts := [], laidByText := true, laidKinds := [.data], laidTests := true, laidLooks := .later }
def CrcAllUptoCardSaid : Prop := Claim7.holds Tryd.pinned (.plain (OpenSpec.upto crcAllSpec)) crcAllUptoCard

/-- THE SECOND FORM's CARD OF 'diapauselaw2.CrcBurst'. -/
def crcBurstUptoCard : Claim7 := { stood := { row := crcBurstUptoRow, standIns := [], harness := (true, "8e51c7077b4726a73381fe2df2981b35d1af115218f80fa4d73fb5ebda141568"), looks := false }, kinds := [], alts := [], laidByText := true, laidKinds := [.data], laidTests := true, laidLooks := .later }
def CrcBurstUptoCardSaid : Prop := Claim7.holds Tryd.pinned (.plain (OpenSpec.upto crcBurstSpec)) crcBurstUptoCard

/-- THE SECOND FORM's CARD OF 'diapauselaw2.CrcThree'. -/
def crcThreeUptoCard : Claim7 := { stood := { row := crcThreeUptoRow, standIns := [], harness := (true, "8e51c7077b4726a73381fe2df2981b35d1af115218f80fa4d73fb5ebda141568"), looks := false }, kinds := [], alts := [], laidByText := true, laidKinds := [.data], laidTests := true, laidLooks := .later }
def CrcThreeUptoCardSaid : Prop := Claim7.holds Tryd.pinned (.plain (OpenSpec.upto crcThreeSpec)) crcThreeUptoCard

/-- THE SECOND FORM's CARD OF 'diapauselaw2.CrcMany'. -/
def crcManyUptoCard : Claim7 := { stood := { row := crcManyUptoRow, standIns := [], harness := (true, "8e51c7077b4726a73381fe2df2981b35d1af115218f80fa4d73fb5ebda141568"), looks := false }, kinds := [], alts := [], laidByText := true, laidKinds := [.data], laidTests := true, laidLooks := .later }
def CrcManyUptoCardSaid : Prop := Claim7.holds Tryd.pinned (.plain (OpenSpec.upto crcManySpec)) crcManyUptoCard

/-- THE SECOND FORM's CARD OF 'diapauselaw2.CrcOne'. -/
def crcOneUptoCard : Claim7 := { stood := { row := crcOneUptoRow, standIns := [], harness := (true, "8e51c7077b4726a73381fe2df2981b35d1af115218f80fa4d73fb5ebda141568"), looks := false }, kinds := [], alts := [], laidByText := true, laidKinds := [.data], laidTests := true, laidLooks := .later }
def CrcOneUptoCardSaid : Prop := Claim7.holds Tryd.pinned (.plain (OpenSpec.upto crcOneSpec)) crcOneUptoCard
end Rows
end Go.Proofs.YtfhcekdfeiikbaaDoor
