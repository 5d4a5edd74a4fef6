/-
  DERIVED. GIVEN WITH THE SEED: THE CARDS: each row of YtomikcemiacjmaaGreatDoorRows.lean that lists a variable, with what it lists TIED to the program's text (the seventh form; the later family's looks); each row that meets fmt, with fmt's text TOLD by the authors' own Lean function (tested against real Go, not proved from fmt's source: count such statements apart). THE CARD IS WHAT COUNTS. Prove the row's statement (the work); the ties are given (YtomikcemiacjmaaGreatDoorTie.lean); close each card by the builder's one call (the guide's Derived/Test/ToyasCard.lean, 'card_holds'). Laid BY PROGRAM, IN A SANDBOX (cutbox-door.mjs). By AI agents, Wed Nov 11 2026. No macro, syntax, notation, axiom, sorry.
-/
import Derived.Test.YtomikcemiacjmaaGreatDoorRows
import GoSem.ClaimSeven
namespace Go.Proofs.YtomikcemiacjmaaGreatDoor
namespace Rows

/-- THE TIED CARD OF 'outlaw1.MachinesCheck'. -/
def machinesCheckCard : Claim7 := { stood := { row := machinesCheckRow, standIns := [], harness := (true, "67f90ae1b07d862779edc3f6d6391f578a2eee2c03e694c42afcd8198842d03b"), looks := true }, kinds := [], alts := [], laidByText := true, laidKinds := [.data, .data, .data, .data, .pinned], laidTests := true, laidLooks := .later }
def MachinesCheckCardSaid : Prop := Claim7.holds Tryz.pinned (.plain (OpenSpec.ofChange machinesCheckSpec)) machinesCheckCard

/-- THE TIED CARD OF 'outlaw1.ThingsAreFound'. -/
def thingsAreFoundCard : Claim7 := { stood := { row := thingsAreFoundRow, standIns := [], harness := (true, "67f90ae1b07d862779edc3f6d6391f578a2eee2c03e694c42afcd8198842d03b"), looks := true }, kinds := [], alts := [], laidByText := true, laidKinds := [.data, .pinned], laidTests := true, laidLooks := .later }
def ThingsAreFoundCardSaid : Prop := Claim7.holds Tryz.pinned (.plain (OpenSpec.ofChange thingsAreFoundSpec)) thingsAreFoundCard

/-- THE TIED CARD OF 'outlaw1.ChangesAreMade'. -/
def changesAreMadeCard : Claim7 := { stood := { row := changesAreMadeRow, standIns := [], harness := (true, "67f90ae1b07d862779edc3f6d6391f578a2eee2c03e694c42afcd8198842d03b"), looks := true }, kinds := [], alts := [], laidByText := true, laidKinds := [.data, .pinned], laidTests := true, laidLooks := .later }
def ChangesAreMadeCardSaid : Prop := Claim7.holds Tryz.pinned (.plain (OpenSpec.ofChange changesAreMadeSpec)) changesAreMadeCard

/-- THE TIED CARD OF 'outlaw1.MachinesDiffer'. -/
def machinesDifferCard : Claim7 := { stood := { row := machinesDifferRow, standIns := [], harness := (true, "67f90ae1b07d862779edc3f6d6391f578a2eee2c03e694c42afcd8198842d03b"), looks := true }, kinds := [], alts := [], laidByText := true, laidKinds := [.data, .pinned], laidTests := true, laidLooks := .later }
def MachinesDifferCardSaid : Prop := Claim7.holds Tryz.pinned (.plain (OpenSpec.ofChange machinesDifferSpec)) machinesDifferCard

/-- THE TIED CARD OF 'outlaw1.SumsMatch'. -/
def sumsMatchCard : Claim7 := { stood := { row := sumsMatchRow, standIns := [], harness := (true, "67f90ae1b07d862779edc3f6d6391f578a2eee2c03e694c42afcd8198842d03b"), looks := true }, kinds := [], alts := [], laidByText := true, laidKinds := [.data, .data, .data, .data, .pinned], laidTests := true, laidLooks := .later }
def SumsMatchCardSaid : Prop := Claim7.holds Tryz.pinned (.plain (OpenSpec.ofChange sumsMatchSpec)) sumsMatchCard

/-- THE TIED CARD OF 'outlaw1.TextsMatch'. -/
def textsMatchCard : Claim7 := { stood := { row := textsMatchRow, standIns := [], harness := (true, "67f90ae1b07d862779edc3f6d6391f578a2eee2c03e694c42afcd8198842d03b"), looks := true }, kinds := [], alts := [], laidByText := true, laidKinds := [.data, .data, .data, .data, .sentinel, .sentinel, .pinned], laidTests := true, laidLooks := .later }
def TextsMatchCardSaid : Prop := Claim7.holds Tryz.pinned (.plain (OpenSpec.ofChange textsMatchSpec)) textsMatchCard

/-- THE TIED CARD OF 'outlaw1.MachinesParse'. -/
def machinesParseCard : Claim7 := { stood := { row := machinesParseRow, standIns := [], harness := (true, "67f90ae1b07d862779edc3f6d6391f578a2eee2c03e694c42afcd8198842d03b"), looks := true }, kinds := [], alts := [], laidByText := true, laidKinds := [.data, .data, .data, .data, .sentinel, .sentinel, .pinned], laidTests := true, laidLooks := .later }
def MachinesParseCardSaid : Prop := Claim7.holds Tryz.pinned (.plain (OpenSpec.ofChange machinesParseSpec)) machinesParseCard

/-- THE TIED CARD OF 'outlaw1.ChangesPrint'. -/
def changesPrintCard : Claim7 := { stood := { row := changesPrintRow, standIns := [], harness := (true, "67f90ae1b07d862779edc3f6d6391f578a2eee2c03e694c42afcd8198842d03b"), looks := true }, kinds := [], alts := [], laidByText := true, laidKinds := [.data, .data, .data, .data, .sentinel, .sentinel, .pinned], laidTests := true, laidLooks := .later }
def ChangesPrintCardSaid : Prop := Claim7.holds Tryz.pinned (.plain (OpenSpec.ofChange changesPrintSpec)) changesPrintCard

/-- THE TIED CARD OF 'outlaw1.DisksMatch'. -/
def disksMatchCard : Claim7 := { stood := { row := disksMatchRow, standIns := [], harness := (true, "67f90ae1b07d862779edc3f6d6391f578a2eee2c03e694c42afcd8198842d03b"), looks := true }, kinds := [], alts := [], laidByText := true, laidKinds := [.data, .pinned], laidTests := true, laidLooks := .later }
def DisksMatchCardSaid : Prop := Claim7.holds Tryz.pinned (.plain (OpenSpec.ofChange disksMatchSpec)) disksMatchCard

/-- THE TIED CARD OF 'outlaw1.JournalsMatch'. -/
def journalsMatchCard : Claim7 := { stood := { row := journalsMatchRow, standIns := [], harness := (true, "67f90ae1b07d862779edc3f6d6391f578a2eee2c03e694c42afcd8198842d03b"), looks := true }, kinds := [], alts := [], laidByText := true, laidKinds := [.data, .data, .data, .data, .sentinel, .sentinel, .pinned], laidTests := true, laidLooks := .later }
def JournalsMatchCardSaid : Prop := Claim7.holds Tryz.pinned (.plain (OpenSpec.ofChange journalsMatchSpec)) journalsMatchCard

/-- THE SECOND FORM's CARD OF 'outlaw1.MachinesCheck'. -/
def machinesCheckUptoCard : Claim7 := { stood := { row := machinesCheckUptoRow, standIns := [], harness := (true, "67f90ae1b07d862779edc3f6d6391f578a2eee2c03e694c42afcd8198842d03b"), looks := true }, kinds := [], alts := [], laidByText := true, laidKinds := [.data, .data, .data, .data, .pinned], laidTests := true, laidLooks := .later }
def MachinesCheckUptoCardSaid : Prop := Claim7.holds Tryz.pinned (.plain (OpenSpec.upto machinesCheckSpec)) machinesCheckUptoCard

/-- THE SECOND FORM's CARD OF 'outlaw1.ThingsAreFound'. -/
def thingsAreFoundUptoCard : Claim7 := { stood := { row := thingsAreFoundUptoRow, standIns := [], harness := (true, "67f90ae1b07d862779edc3f6d6391f578a2eee2c03e694c42afcd8198842d03b"), looks := true }, kinds := [], alts := [], laidByText := true, laidKinds := [.data, .pinned], laidTests := true, laidLooks := .later }
def ThingsAreFoundUptoCardSaid : Prop := Claim7.holds Tryz.pinned (.plain (OpenSpec.upto thingsAreFoundSpec)) thingsAreFoundUptoCard

/-- THE SECOND FORM's CARD OF 'outlaw1.ChangesAreMade'. -/
def changesAreMadeUptoCard : Claim7 := { stood := { row := changesAreMadeUptoRow, standIns := [], harness := (true, "67f90ae1b07d862779edc3f6d6391f578a2eee2c03e694c42afcd8198842d03b"), looks := true }, kinds := [], alts := [], laidByText := true, laidKinds := [.data, .pinned], laidTests := true, laidLooks := .later }
def ChangesAreMadeUptoCardSaid : Prop := Claim7.holds Tryz.pinned (.plain (OpenSpec.upto changesAreMadeSpec)) changesAreMadeUptoCard

/-- THE SECOND FORM's CARD OF 'outlaw1.MachinesDiffer'. -/
def machinesDifferUptoCard : Claim7 := { stood := { row := machinesDifferUptoRow, standIns := [], harness := (true, "67f90ae1b07d862779edc3f6d6391f578a2eee2c03e694c42afcd8198842d03b"), looks := true }, kinds := [], alts := [], laidByText := true, laidKinds := [.data, .pinned], laidTests := true, laidLooks := .later }
def MachinesDifferUptoCardSaid : Prop := Claim7.holds Tryz.pinned (.plain (OpenSpec.upto machinesDifferSpec)) machinesDifferUptoCard

/-- THE SECOND FORM's CARD OF 'outlaw1.SumsMatch'. -/
def sumsMatchUptoCard : Claim7 := { stood := { row := sumsMatchUptoRow, standIns := [], harness := (true, "67f90ae1b07d862779edc3f6d6391f578a2eee2c03e694c42afcd8198842d03b"), looks := true }, kinds := [], alts := [], laidByText := true, laidKinds := [.data, .data, .data, .data, .pinned], laidTests := true, laidLooks := .later }
def SumsMatchUptoCardSaid : Prop := Claim7.holds Tryz.pinned (.plain (OpenSpec.upto sumsMatchSpec)) sumsMatchUptoCard

/-- THE SECOND FORM's CARD OF 'outlaw1.TextsMatch'. -/
def textsMatchUptoCard : Claim7 := { stood := { row := textsMatchUptoRow, standIns := [], harness := (true, "67f90ae1b07d862779edc3f6d6391f578a2eee2c03e694c42afcd8198842d03b"), looks := true }, kinds := [], alts := [], laidByText := true, laidKinds := [.data, .data, .data, .data, .sentinel, .sentinel, .pinned], laidTests := true, laidLooks := .later }
def TextsMatchUptoCardSaid : Prop := Claim7.holds Tryz.pinned (.plain (OpenSpec.upto textsMatchSpec)) textsMatchUptoCard

/-- THE SECOND FORM's CARD OF 'outlaw1.MachinesParse'. -/
def machinesParseUptoCard : Claim7 := { stood := { row := machinesParseUptoRow, standIns := [], harness := (true, "67f90ae1b07d862779edc3f6d6391f578a2eee2c03e694c42afcd8198842d03b"), looks := true }, kinds := [], alts := [], laidByText := true, laidKinds := [.data, .data, .data, .data, .sentinel, .sentinel, .pinned], laidTests := true, laidLooks := .later }
def MachinesParseUptoCardSaid : Prop := Claim7.holds Tryz.pinned (.plain (OpenSpec.upto machinesParseSpec)) machinesParseUptoCard

/-- THE SECOND FORM's CARD OF 'outlaw1.ChangesPrint'. -/
def changesPrintUptoCard : Claim7 := { stood := { row := changesPrintUptoRow, standIns := [], harness := (true, "67f90ae1b07d862779edc3f6d6391f578a2eee2c03e694c42afcd8198842d03b"), looks := true }, kinds := [], alts := [], laidByText := true, laidKinds := [.data, .data, .data, .data, .sentinel, .sentinel, .pinned], laidTests := true, laidLooks := .later }
def ChangesPrintUptoCardSaid : Prop := Claim7.holds Tryz.pinned (.plain (OpenSpec.upto changesPrintSpec)) changesPrintUptoCard

/-- THE SECOND FORM's CARD OF 'outlaw1.DisksMatch'. -/
def disksMatchUptoCard : Claim7 := { stood := { row := disksMatchUptoRow, standIns := [], harness := (true, "67f90ae1b07d862779edc3f6d6391f578a2eee2c03e694c42afcd8198842d03b"), looks := true }, kinds := [], alts := [], laidByText := true, laidKinds := [.data, .pinned], laidTests := true, laidLooks := .later }
def DisksMatchUptoCardSaid : Prop := Claim7.holds Tryz.pinned (.plain (OpenSpec.upto disksMatchSpec)) disksMatchUptoCard

/-- THE SECOND FORM's CARD OF 'outlaw1.JournalsMatch'. -/
def journalsMatchUptoCard : Claim7 := { stood := { row := journalsMatchUptoRow, standIns := [], harness := (true, "67f90ae1b07d862779edc3f6d6391f578a2eee2c03e694c42afcd8198842d03b"), looks := true }, kinds := [], alts := [], laidByText := true, laidKinds := [.data, .data, .data, .data, .sentinel, .sentinel, .pinned], laidTests := true, laidLooks := .later }
def JournalsMatchUptoCardSaid : Prop := Claim7.holds Tryz.pinned (.plain (OpenSpec.upto journalsMatchSpec)) journalsMatchUptoCard
end Rows
end Go.Proofs.YtomikcemiacjmaaGreatDoor
