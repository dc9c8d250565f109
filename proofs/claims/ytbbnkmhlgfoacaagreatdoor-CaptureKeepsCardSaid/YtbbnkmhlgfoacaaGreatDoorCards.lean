/-
  DERIVED. GIVEN WITH THE SEED: THE CARDS: each row of YtbbnkmhlgfoacaaGreatDoorRows.lean that lists a variable, with what it lists TIED to the program's text (the seventh form; the later family's looks); each row that meets fmt, with fmt's text TOLD by the authors' own Lean function (tested against real Go, not proved from fmt's source: count such statements apart). THE CARD IS WHAT COUNTS. Prove the row's statement (the work); the ties are given (YtbbnkmhlgfoacaaGreatDoorTie.lean); close each card by the builder's one call (the guide's Derived/Test/ToyasCard.lean, 'card_holds'). Laid BY PROGRAM, IN A SANDBOX (cutbox-door.mjs). By AI agents, Wed Nov 11 2026. No macro, syntax, notation, axiom, sorry.
-/
import Derived.Test.YtbbnkmhlgfoacaaGreatDoorRows
import GoSem.ClaimSeven
namespace Go.Proofs.YtbbnkmhlgfoacaaGreatDoor
namespace Rows

/-- THE TIED CARD OF 'umpirelaw11.CaptureReads'. -/
def captureReadsCard : Claim7 := { stood := { row := captureReadsRow, standIns := [], harness := (true, "37b4391c772a84ee4c60c529ecdbf4ca2e6651b0937e5942005948af0e8c4a12"), looks := true }, kinds := [], alts := [], laidByText := true, laidKinds := [.data], laidTests := true, laidLooks := .later }
def CaptureReadsCardSaid : Prop := Claim7.holds Tryz.pinned (.plain (OpenSpec.ofChange captureReadsSpec)) captureReadsCard

/-- THE TIED CARD OF 'umpirelaw11.CaptureWrites'. -/
def captureWritesCard : Claim7 := { stood := { row := captureWritesRow, standIns := [], harness := (true, "37b4391c772a84ee4c60c529ecdbf4ca2e6651b0937e5942005948af0e8c4a12"), looks := true }, kinds := [], alts := [], laidByText := true, laidKinds := [.data], laidTests := true, laidLooks := .later }
def CaptureWritesCardSaid : Prop := Claim7.holds Tryz.pinned (.plain (OpenSpec.ofChange captureWritesSpec)) captureWritesCard

/-- THE TIED CARD OF 'umpirelaw11.CaptureKeeps'. -/
def captureKeepsCard : Claim7 := { stood := { row := captureKeepsRow, standIns := [], harness := (true, "37b4391c772a84ee4c60c529ecdbf4ca2e6651b0937e5942005948af0e8c4a12"), looks := true }, kinds := [], alts := [], laidByText := true, laidKinds := [.data], laidTests := true, laidLooks := .later }
def CaptureKeepsCardSaid : Prop := Claim7.holds Tryz.pinned (.plain (OpenSpec.ofChange captureKeepsSpec)) captureKeepsCard

/-- THE SECOND FORM's CARD OF 'umpirelaw11.CaptureReads'. -/
def captureReadsUptoCard : Claim7 := { stood := { row := captureReadsUptoRow, standIns := [], harness := (true, "37b4391c772a84ee4c60c529ecdbf4ca2e6651b0937e5942005948af0e8c4a12"), looks := true }, kinds := [], alts := [], laidByText := true, laidKinds := [.data], laidTests := true, laidLooks := .later }
def CaptureReadsUptoCardSaid : Prop := Claim7.holds Tryz.pinned (.plain (OpenSpec.upto captureReadsSpec)) captureReadsUptoCard

/-- THE SECOND FORM's CARD OF 'umpirelaw11.CaptureWrites'. -/
def captureWritesUptoCard : Claim7 := { stood := { row := captureWritesUptoRow, standIns := [], harness := (true, "37b4391c772a84ee4c60c529ecdbf4ca2e6651b0937e5942005948af0e8c4a12"), looks := true }, kinds := [], alts := [], laidByText := true, laidKinds := [.data], laidTests := true, laidLooks := .later }
def CaptureWritesUptoCardSaid : Prop := Claim7.holds Tryz.pinned (.plain (OpenSpec.upto captureWritesSpec)) captureWritesUptoCard

/-- THE SECOND FORM's CARD OF 'umpirelaw11.CaptureKeeps'. -/
def captureKeepsUptoCard : Claim7 := { stood := { row := captureKeepsUptoRow, standIns := [], harness := (true, "37b4391c772a84ee4c60c529ecdbf4ca2e6651b0937e5942005948af0e8c4a12"), looks := true }, kinds := [], alts := [], laidByText := true, laidKinds := [.data], laidTests := true, laidLooks := .later }
def CaptureKeepsUptoCardSaid : Prop := Claim7.holds Tryz.pinned (.plain (OpenSpec.upto captureKeepsSpec)) captureKeepsUptoCard
end Rows
end Go.Proofs.YtbbnkmhlgfoacaaGreatDoor
