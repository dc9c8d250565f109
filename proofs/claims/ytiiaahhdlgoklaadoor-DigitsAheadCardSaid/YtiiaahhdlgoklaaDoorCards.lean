/-
  DERIVED. GIVEN WITH THE SEED: THE CARDS: each row of YtiiaahhdlgoklaaDoorRows.lean that lists a variable, with what it lists TIED to the program's text (the seventh form; the later family's looks); each row that meets fmt, with fmt's text TOLD by the authors' own Lean function (tested against real Go, not proved from fmt's source: count such statements apart). THE CARD IS WHAT COUNTS. Prove the row's statement (the work); the ties are given (YtiiaahhdlgoklaaDoorTie.lean); close each card by the builder's one call (the guide's Derived/Test/ToyasCard.lean, 'card_holds'). Laid BY PROGRAM, IN A SANDBOX (cutbox-door.mjs). By AI agents, Wed Nov 11 2026. No macro, syntax, notation, axiom, sorry.
-/
import Derived.Test.YtiiaahhdlgoklaaDoorRows
import GoSem.ClaimSeven
namespace Go.Proofs.YtiiaahhdlgoklaaDoor
namespace Rows

/-- THE TIED CARD OF 'umpirelaw01.DigitsPuts'. -/
def digitsPutsCard : Claim7 := { stood := { row := digitsPutsRow, standIns := [], harness := (true, "d6228abce6e1dc69a2ff4cb11ed40e9df29fdc6d48f074c71f8692b5aaa49fd3"), looks := false }, kinds := [], alts := [], laidByText := true, laidKinds := [.data, .data, .data], laidTests := true, laidLooks := .later }
def DigitsPutsCardSaid : Prop := Claim7.holds Tryd.pinned (.plain (OpenSpec.ofChange digitsPutsSpec)) digitsPutsCard

/-- THE TIED CARD OF 'umpirelaw01.DigitsReads'. -/
def digitsReadsCard : Claim7 := { stood := { row := digitsReadsRow, standIns := [], harness := (true, "d6228abce6e1dc69a2ff4cb11ed40e9df29fdc6d48f074c71f8692b5aaa49fd3"), looks := false }, kinds := [], alts := [], laidByText := true, laidKinds := [.data, .data, .data], laidTests := true, laidLooks := .later }
def DigitsReadsCardSaid : Prop := Claim7.holds Tryd.pinned (.plain (OpenSpec.ofChange digitsReadsSpec)) digitsReadsCard

/-- THE TIED CARD OF 'umpirelaw01.DigitsBack'. -/
def digitsBackCard : Claim7 := { stood := { row := digitsBackRow, standIns := [], harness := (true, "d6228abce6e1dc69a2ff4cb11ed40e9df29fdc6d48f074c71f8692b5aaa49fd3"), looks := false }, kinds := [], alts := [], laidByText := true, laidKinds := [.data, .data, .data], laidTests := true, laidLooks := .later }
def DigitsBackCardSaid : Prop := Claim7.holds Tryd.pinned (.plain (OpenSpec.ofChange digitsBackSpec)) digitsBackCard

/-- THE TIED CARD OF 'umpirelaw01.DigitsAhead'. -/
def digitsAheadCard : Claim7 := { stood := { row := digitsAheadRow, standIns := [], harness := (true, "d6228abce6e1dc69a2ff4cb11ed40e9df29fdc6d48f074c71f8692b5aaa49fd3"), looks := false }, kinds := [], alts := [], laidByText := true, laidKinds := [.data, .data, .data], laidTests := true, laidLooks := .later }
def DigitsAheadCardSaid : Prop := Claim7.holds Tryd.pinned (.plain (OpenSpec.ofChange digitsAheadSpec)) digitsAheadCard

/-- THE TIED CARD OF 'umpirelaw01.DigitsWords'. -/
def digitsWordsCard : Claim7 := { stood := { row := digitsWordsRow, standIns := [], harness := (true, "d6228abce6e1dc69a2ff4cb11ed40e9df29fdc6d48f074c71f8692b5aaa49fd3"), looks := false }, kinds := [], alts := [], laidByText := true, laidKinds := [.data, .data, .data], laidTests := true, laidLooks := .later }
def DigitsWordsCardSaid : Prop := Claim7.holds Tryd.pinned (.plain (OpenSpec.ofChange digitsWordsSpec)) digitsWordsCard

/-- THE TIED CARD OF 'umpirelaw01.DigitsJoin'. -/
def digitsJoinCard : Claim7 := { stood := { row := digitsJoinRow, standIns := [], harness := (true, "d6228abce6e1dc69a2ff4cb11ed40e9df29fdc6d48f074c71f8692b5aaa49fd3"), looks := false }, kinds := [], alts := [], laidByText := true, laidKinds := [.data, .data, .data], laidTests := true, laidLooks := .later }
def DigitsJoinCardSaid : Prop := Claim7.holds Tryd.pinned (.plain (OpenSpec.ofChange digitsJoinSpec)) digitsJoinCard

/-- THE SECOND FORM's CARD OF 'umpirelaw01.DigitsPuts'. -/
def digitsPutsUptoCard : Claim7 := { stood := { row := digitsPutsUptoRow, standIns := [], harness := (true, "d6228abce6e1dc69a2ff4cb11ed40e9df29fdc6d48f074c71f8692b5aaa49fd3"), looks := false }, kinds := [], alts := [], laidByText := true, laidKinds := [.data, .data, .data], laidTests := true, laidLooks := .later }
def DigitsPutsUptoCardSaid : Prop := Claim7.holds Tryd.pinned (.plain (OpenSpec.upto digitsPutsSpec)) digitsPutsUptoCard

/-- THE SECOND FORM's CARD OF 'umpirelaw01.DigitsReads'. -/
def digitsReadsUptoCard : Claim7 := { stood := { row := digitsReadsUptoRow, standIns := [], harness := (true, "d6228abce6e1dc69a2ff4cb11ed40e9df29fdc6d48f074c71f8692b5aaa49fd3"), looks := false }, kinds := [], alts := [], laidByText := true, laidKinds := [.data, .data, .data], laidTests := true, laidLooks := .later }
def DigitsReadsUptoCardSaid : Prop := Claim7.holds Tryd.pinned (.plain (OpenSpec.upto digitsReadsSpec)) digitsReadsUptoCard

/-- THE SECOND FORM's CARD OF 'umpirelaw01.DigitsBack'. -/
def digitsBackUptoCard : Claim7 := { stood := { row := digitsBackUptoRow, standIns := [], harness := (true, "d6228abce6e1dc69a2ff4cb11ed40e9df29fdc6d48f074c71f8692b5aaa49fd3"), looks := false }, kinds := [], alts := [], laidByText := true, laidKinds := [.data, .data, .data], laidTests := true, laidLooks := .later }
def DigitsBackUptoCardSaid : Prop := Claim7.holds Tryd.pinned (.plain (OpenSpec.upto digitsBackSpec)) digitsBackUptoCard

/-- THE SECOND FORM's CARD OF 'umpirelaw01.DigitsAhead'. -/
def digitsAheadUptoCard : Claim7 := { stood := { row := digitsAheadUptoRow, standIns := [], harness := (true, "d6228abce6e1dc69a2ff4cb11ed40e9df29fdc6d48f074c71f8692b5aaa49fd3"), looks := false }, kinds := [], alts := [], laidByText := true, laidKinds := [.data, .data, .data], laidTests := true, laidLooks := .later }
def DigitsAheadUptoCardSaid : Prop := Claim7.holds Tryd.pinned (.plain (OpenSpec.upto digitsAheadSpec)) digitsAheadUptoCard

/-- THE SECOND FORM's CARD OF 'umpirelaw01.DigitsWords'. -/
def digitsWordsUptoCard : Claim7 := { stood := { row := digitsWordsUptoRow, standIns := [], harness := (true, "d6228abce6e1dc69a2ff4cb11ed40e9df29fdc6d48f074c71f8692b5aaa49fd3"), looks := false }, kinds := [], alts := [], laidByText := true, laidKinds := [.data, .data, .data], laidTests := true, laidLooks := .later }
def DigitsWordsUptoCardSaid : Prop := Claim7.holds Tryd.pinned (.plain (OpenSpec.upto digitsWordsSpec)) digitsWordsUptoCard

/-- THE SECOND FORM's CARD OF 'umpirelaw01.DigitsJoin'. -/
def digitsJoinUptoCard : Claim7 := { stood := { row := digitsJoinUptoRow, standIns := [], harness := (true, "d6228abce6e1dc69a2ff4cb11ed40e9df29fdc6d48f074c71f8692b5aaa49fd3"), looks := false }, kinds := [], alts := [], laidByText := true, laidKinds := [.data, .data, .data], laidTests := true, laidLooks := .later }
def DigitsJoinUptoCardSaid : Prop := Claim7.holds Tryd.pinned (.plain (OpenSpec.upto digitsJoinSpec)) digitsJoinUptoCard
end Rows
end Go.Proofs.YtiiaahhdlgoklaaDoor
