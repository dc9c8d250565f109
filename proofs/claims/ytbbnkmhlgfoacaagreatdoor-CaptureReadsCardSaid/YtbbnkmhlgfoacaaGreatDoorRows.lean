/-
  NARROWER THAN 'FOR EVERY INPUT', by the rows' own cells (each row's printed sentence says how): CaptureReads: laid · CaptureWrites: laid · CaptureKeeps: laid.
  DERIVED. THE GIVEN ROWS OF THIS SEAT. 3 by the template 'for every input the law returns true; each argument reads behind the call as it read before'; 0 by the template 'total and deterministic' (their statements: YtbbnkmhlgfoacaaGreatDoorTotals.lean).
  GIVEN WITH THE SEED: the statements are not yours to turn. If you find one false, say at which input.
  Laid BY PROGRAM, IN A SANDBOX (cutbox-rows.mjs): the forced cells as the released guide's own fill.sh prints them over the translation 9b3660f373c8b3a3… (all of the seat's roots in one cut). By AI agents, Wed Nov 11 2026. No macro, syntax, notation, axiom, sorry.
-/
import Derived.Test.YtbbnkmhlgfoacaaGreatDoorChecked
import GoSem.Claim
import GoSem.ClaimJoined
import GoSem.ClaimMapViews
import Derived.JoinedTies
import Derived.KernelRfl
namespace Go.Proofs.YtbbnkmhlgfoacaaGreatDoor
/- THE CELL 'sum', in the pinned program and in every row, IS THE sha256 OF THE DUMP (.gsa) THAT YtbbnkmhlgfoacaaGreatDoorProg.lean LOADS. Nothing in Lean hashes anything: it is a label: what it is worth is what the hold of that sum in a sandbox is worth. -/
noncomputable def Tryz.pinned : Pinned := { name := "ytbbnkmhlgfoacaagreatdoor", sum := "9b3660f373c8b3a3a58075690ba4fc6f1bdaf2dd965ad9a7e843cc518691443d", checked := Tryz.checked }
namespace Rows
def none {H : Type} : Left H := { results := [], args := [] }

/- WHAT THE LISTED PACKAGE-LEVEL VARIABLES READ AS WHEN THE CALL BEGINS. Each datum BY PROGRAM (the guide's laid-datum.mjs) off the statement by which the dump's own 'gosem.cut.vars' lays the variable. In a bare row this is a premise. The card (YtbbnkmhlgfoacaaGreatDoorCards.lean) ties it to the program's text. -/
def laid_umpire_dump_forms {H : Type} : DataW H := .agg [.agg [.lit (.bool false), .lit (.int .i64 0), .lit (.bool false), .lit (.int .u32 0)], .agg [.lit (.bool true), .lit (.int .i64 2), .lit (.bool true), .lit (.int .u32 0)], .agg [.lit (.bool true), .lit (.int .i64 2), .lit (.bool true), .lit (.int .u32 0)], .agg [.lit (.bool true), .lit (.int .i64 0), .lit (.bool false), .lit (.int .u32 0)], .agg [.lit (.bool true), .lit (.int .i64 0), .lit (.bool false), .lit (.int .u32 0)], .agg [.lit (.bool true), .lit (.int .i64 4), .lit (.bool false), .lit (.int .u32 4294967295)], .agg [.lit (.bool true), .lit (.int .i64 1), .lit (.bool false), .lit (.int .u32 255)], .agg [.lit (.bool true), .lit (.int .i64 4), .lit (.bool false), .lit (.int .u32 4294967295)]]

/-- 'umpirelaw11.CaptureReads': WHATEVER THE INPUT: true; the input reads as it did. -/
def captureReadsSpec : ChangeSpec := { name := "captureReads", fn := fun _ => fun
  | [d1, d2, d3] => { results := [.lit (.bool true)], args := [d1, d2, d3] }
  | _ => none }
def captureReadsRow : OpenClaim := { program := "ytbbnkmhlgfoacaagreatdoor", sum := "9b3660f373c8b3a3a58075690ba4fc6f1bdaf2dd965ad9a7e843cc518691443d", func := "umpire/umpirelaw11.CaptureReads", spec := "captureReads", unfollowed := true, recurses := true, named := ["umpire/dump.forms"], apart := false, laid := [("umpire/dump.forms", laid_umpire_dump_forms)] }
def CaptureReadsSaid : Prop := captureReadsRow.holds Tryz.pinned (OpenSpec.ofChange captureReadsSpec)

/-- ITS FALSE NEIGHBOUR: 'it returns false'. Refute it at one input. -/
def captureReadsWrong : ChangeSpec := { name := "captureReads", fn := fun _ => fun
  | [d1, d2, d3] => { results := [.lit (.bool false)], args := [d1, d2, d3] }
  | _ => none }
def CaptureReadsWrongFalsely : Prop := captureReadsRow.holds Tryz.pinned (OpenSpec.ofChange captureReadsWrong)

/-- 'umpirelaw11.CaptureWrites': WHATEVER THE INPUT: true; the input reads as it did. -/
def captureWritesSpec : ChangeSpec := { name := "captureWrites", fn := fun _ => fun
  | [d1, d2, d3] => { results := [.lit (.bool true)], args := [d1, d2, d3] }
  | _ => none }
def captureWritesRow : OpenClaim := { program := "ytbbnkmhlgfoacaagreatdoor", sum := "9b3660f373c8b3a3a58075690ba4fc6f1bdaf2dd965ad9a7e843cc518691443d", func := "umpire/umpirelaw11.CaptureWrites", spec := "captureWrites", unfollowed := true, recurses := true, named := ["umpire/dump.forms"], apart := false, laid := [("umpire/dump.forms", laid_umpire_dump_forms)] }
def CaptureWritesSaid : Prop := captureWritesRow.holds Tryz.pinned (OpenSpec.ofChange captureWritesSpec)

/-- ITS FALSE NEIGHBOUR: 'it returns false'. Refute it at one input. -/
def captureWritesWrong : ChangeSpec := { name := "captureWrites", fn := fun _ => fun
  | [d1, d2, d3] => { results := [.lit (.bool false)], args := [d1, d2, d3] }
  | _ => none }
def CaptureWritesWrongFalsely : Prop := captureWritesRow.holds Tryz.pinned (OpenSpec.ofChange captureWritesWrong)

/-- 'umpirelaw11.CaptureKeeps': WHATEVER THE INPUT: true; the input reads as it did. -/
def captureKeepsSpec : ChangeSpec := { name := "captureKeeps", fn := fun _ => fun
  | [d1, d2, d3] => { results := [.lit (.bool true)], args := [d1, d2, d3] }
  | _ => none }
def captureKeepsRow : OpenClaim := { program := "ytbbnkmhlgfoacaagreatdoor", sum := "9b3660f373c8b3a3a58075690ba4fc6f1bdaf2dd965ad9a7e843cc518691443d", func := "umpire/umpirelaw11.CaptureKeeps", spec := "captureKeeps", unfollowed := true, recurses := true, named := ["umpire/dump.forms"], apart := false, laid := [("umpire/dump.forms", laid_umpire_dump_forms)] }
def CaptureKeepsSaid : Prop := captureKeepsRow.holds Tryz.pinned (OpenSpec.ofChange captureKeepsSpec)

/-- ITS FALSE NEIGHBOUR: 'it returns false'. Refute it at one input. -/
def captureKeepsWrong : ChangeSpec := { name := "captureKeeps", fn := fun _ => fun
  | [d1, d2, d3] => { results := [.lit (.bool false)], args := [d1, d2, d3] }
  | _ => none }
def CaptureKeepsWrongFalsely : Prop := captureKeepsRow.holds Tryz.pinned (OpenSpec.ofChange captureKeepsWrong)

/- THE SECOND FORM. 'bulk': how many values and letters a reading holds, each counted each time it is reached (what is shared counts as often as it is met; a slice's spare places count too). A statement '..UptoSaid' is the law's where the arguments, and the package variables that the reading takes, are together of bulk at most 1048576: NARROWER than '..Said'. Prove '..Said' where nothing that the law and all that it calls make is longer than what came in: it says more and counts as full. Else prove '..UptoSaid'. A law counts once. -/
mutual
def uptoBulk {H : Type} : DataW H → Nat
  | .lit (.string bytes) => bytes.length + 1
  | .lit _ => 1
  | .nil => 1
  | .ptr d => uptoBulk d + 1
  | .slice elems spare => uptoBulkAll elems + uptoBulkAll spare + 1
  | .agg parts => uptoBulkAll parts + 1
  | .iface _ d => uptoBulk d + 1
  | .map entries => uptoBulkEntries entries + 1
  | .held _ => 1
def uptoBulkAll {H : Type} : List (DataW H) → Nat
  | [] => 0
  | d :: r => uptoBulk d + uptoBulkAll r
def uptoBulkEntries {H : Type} : List (Lit × DataW H) → Nat
  | [] => 0
  | x :: r => uptoBulkEntry x + uptoBulkEntries r
def uptoBulkEntry {H : Type} : Lit × DataW H → Nat
  | (.string bytes, d) => bytes.length + uptoBulk d + 1
  | (_, d) => uptoBulk d + 1
 end
def uptoSmall : (H : Type) → List (DataW H) → Bool := fun _ ds => decide (uptoBulkAll ds ≤ 1048576)
def OpenSpec.upto (s : _root_.Go.ChangeSpec) : _root_.Go.OpenSpec := { _root_.Go.OpenSpec.ofChange s with cond := some uptoSmall }

/-- 'umpirelaw11.CaptureReads', WHERE WHAT IT READS IS OF BULK AT MOST 1048576: true; the input reads as it did. -/
def captureReadsUptoRow : OpenClaim := { program := "ytbbnkmhlgfoacaagreatdoor", sum := "9b3660f373c8b3a3a58075690ba4fc6f1bdaf2dd965ad9a7e843cc518691443d", func := "umpire/umpirelaw11.CaptureReads", spec := "captureReads", unfollowed := true, recurses := true, named := ["umpire/dump.forms"], apart := false, laid := [("umpire/dump.forms", laid_umpire_dump_forms)], narrowed := true }
def CaptureReadsUptoSaid : Prop := captureReadsUptoRow.holds Tryz.pinned (OpenSpec.upto captureReadsSpec)

/-- 'umpirelaw11.CaptureWrites', WHERE WHAT IT READS IS OF BULK AT MOST 1048576: true; the input reads as it did. -/
def captureWritesUptoRow : OpenClaim := { program := "ytbbnkmhlgfoacaagreatdoor", sum := "9b3660f373c8b3a3a58075690ba4fc6f1bdaf2dd965ad9a7e843cc518691443d", func := "umpire/umpirelaw11.CaptureWrites", spec := "captureWrites", unfollowed := true, recurses := true, named := ["umpire/dump.forms"], apart := false, laid := [("umpire/dump.forms", laid_umpire_dump_forms)], narrowed := true }
def CaptureWritesUptoSaid : Prop := captureWritesUptoRow.holds Tryz.pinned (OpenSpec.upto captureWritesSpec)

/-- 'umpirelaw11.CaptureKeeps', WHERE WHAT IT READS IS OF BULK AT MOST 1048576: true; the input reads as it did. -/
def captureKeepsUptoRow : OpenClaim := { program := "ytbbnkmhlgfoacaagreatdoor", sum := "9b3660f373c8b3a3a58075690ba4fc6f1bdaf2dd965ad9a7e843cc518691443d", func := "umpire/umpirelaw11.CaptureKeeps", spec := "captureKeeps", unfollowed := true, recurses := true, named := ["umpire/dump.forms"], apart := false, laid := [("umpire/dump.forms", laid_umpire_dump_forms)], narrowed := true }
def CaptureKeepsUptoSaid : Prop := captureKeepsUptoRow.holds Tryz.pinned (OpenSpec.upto captureKeepsSpec)

end Rows
end Go.Proofs.YtbbnkmhlgfoacaaGreatDoor
