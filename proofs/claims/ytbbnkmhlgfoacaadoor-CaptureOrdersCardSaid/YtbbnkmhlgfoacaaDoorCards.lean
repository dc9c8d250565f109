/-
  DERIVED. GIVEN WITH THE SEED: THE CARDS: each row of YtbbnkmhlgfoacaaDoorRows.lean that lists a variable, with what it lists TIED to the program's text (the seventh form; the later family's looks); each row that meets fmt, with fmt's text TOLD by the authors' own Lean function (tested against real Go, not proved from fmt's source: count such statements apart). THE CARD IS WHAT COUNTS. Prove the row's statement (the work); the ties are given (YtbbnkmhlgfoacaaDoorTie.lean); close each card by the builder's one call (the guide's Derived/Test/ToyasCard.lean, 'card_holds'). Laid BY PROGRAM, IN A SANDBOX (cutbox-door.mjs). By AI agents, Wed Nov 11 2026. No macro, syntax, notation, axiom, sorry.
-/
import Derived.Test.YtbbnkmhlgfoacaaDoorRows
import GoSem.ClaimSeven
namespace Go.Proofs.YtbbnkmhlgfoacaaDoor
namespace Rows

/-- THE TIED CARD OF 'umpirelaw11.CaptureWays'. -/
def captureWaysCard : Claim7 := { stood := { row := captureWaysRow, standIns := [], harness := (true, "47dcf87d5a785230935007df0b9a4c7d236f758e77a7801c7b8474998b5aa10a"), looks := true }, kinds := [], alts := [], laidByText := true, laidKinds := [.data], laidTests := true, laidLooks := .later }
def CaptureWaysCardSaid : Prop := Claim7.holds Tryd.pinned (.plain (OpenSpec.ofChange captureWaysSpec)) captureWaysCard

/-- THE TIED CARD OF 'umpirelaw11.CaptureOrders'. -/
def captureOrdersCard : Claim7 := { stood := { row := captureOrdersRow, standIns := [], harness := (true, "47dcf87d5a785230935007df0b9a4c7d236f758e77a7801c7b8474998b5aa10a"), looks := true }, kinds := [], alts := [], laidByText := true, laidKinds := [.data], laidTests := true, laidLooks := .later }
def CaptureOrdersCardSaid : Prop := Claim7.holds Tryd.pinned (.plain (OpenSpec.ofChange captureOrdersSpec)) captureOrdersCard

/-- THE TIED CARD OF 'umpirelaw11.CaptureChunks'. -/
def captureChunksCard : Claim7 := { stood := { row := captureChunksRow, standIns := [], harness := (true, "47dcf87d5a785230935007df0b9a4c7d236f758e77a7801c7b8474998b5aa10a"), looks := true }, kinds := [], alts := [], laidByText := true, laidKinds := [.data], laidTests := true, laidLooks := .later }
def CaptureChunksCardSaid : Prop := Claim7.holds Tryd.pinned (.plain (OpenSpec.ofChange captureChunksSpec)) captureChunksCard

/-- THE SECOND FORM's CARD OF 'umpirelaw11.CaptureWays'. -/
def captureWaysUptoCard : Claim7 := { stood := { row := captureWaysUptoRow, standIns := [], harness := (true, "47dcf87d5a785230935007df0b9a4c7d236f758e77a7801c7b8474998b5aa10a"), looks := true }, kinds := [], alts := [], laidByText := true, laidKinds := [.data], laidTests := true, laidLooks := .later }
def CaptureWaysUptoCardSaid : Prop := Claim7.holds Tryd.pinned (.plain (OpenSpec.upto captureWaysSpec)) captureWaysUptoCard

/-- THE SECOND FORM's CARD OF 'umpirelaw11.CaptureOrders'. -/
def captureOrdersUptoCard : Claim7 := { stood := { row := captureOrdersUptoRow, standIns := [], harness := (true, "47dcf87d5a785230935007df0b9a4c7d236f758e77a7801c7b8474998b5aa10a"), looks := true }, kinds := [], alts := [], laidByText := true, laidKinds := [.data], laidTests := true, laidLooks := .later }
def CaptureOrdersUptoCardSaid : Prop := Claim7.holds Tryd.pinned (.plain (OpenSpec.upto captureOrdersSpec)) captureOrdersUptoCard

/-- THE SECOND FORM's CARD OF 'umpirelaw11.CaptureChunks'. -/
def captureChunksUptoCard : Claim7 := { stood := { row := captureChunksUptoRow, standIns := [], harness := (true, "47dcf87d5a785230935007df0b9a4c7d236f758e77a7801c7b8474998b5aa10a"), looks := true }, kinds := [], alts := [], laidByText := true, laidKinds := [.data], laidTests := true, laidLooks := .later }
def CaptureChunksUptoCardSaid : Prop := Claim7.holds Tryd.pinned (.plain (OpenSpec.upto captureChunksSpec)) captureChunksUptoCard
end Rows
end Go.Proofs.YtbbnkmhlgfoacaaDoor
