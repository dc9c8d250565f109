/-
  No cell of these rows narrows 'for every input' (looked for: loops, veiled, ifaces, maps, wideKeys, modest, calm, conditions, laid).
  DERIVED. THE GIVEN ROWS OF THIS SEAT. 6 by the template 'for every input the law returns true; each argument reads behind the call as it read before'; 0 by the template 'total and deterministic' (their statements: YtacnlancncmpmaaTotals.lean).
  GIVEN WITH THE SEED: the statements are not yours to turn. If you find one false, say at which input.
  Laid BY PROGRAM, IN A SANDBOX (cutbox-rows.mjs): the forced cells as the released guide's own fill.sh prints them over the translation 643814fabe91665a… (all of the seat's roots in one cut). By AI agents, Wed Nov 11 2026. No macro, syntax, notation, axiom, sorry.
-/
import Derived.Test.YtacnlancncmpmaaChecked
import GoSem.Claim
import GoSem.ClaimJoined
import GoSem.ClaimMapViews
import Derived.JoinedTies
import Derived.KernelRfl
namespace Go.Proofs.Ytacnlancncmpmaa
/- THE CELL 'sum', in the pinned program and in every row, IS THE sha256 OF THE DUMP (.gsa) THAT YtacnlancncmpmaaProg.lean LOADS. Nothing in Lean hashes anything: it is a label: what it is worth is what the hold of that sum in a sandbox is worth. -/
noncomputable def Try.pinned : Pinned := { name := "ytacnlancncmpmaa", sum := "643814fabe91665a4a3c32daa47d8abe97b45154725180ee39aa7ddaaab2e1cc", checked := Try.checked }
namespace Rows
def none {H : Type} : Left H := { results := [], args := [] }

/-- 'umpirelaw15.AddrsRights': WHATEVER THE INPUT: true; the input reads as it did. -/
def addrsRightsSpec : ChangeSpec := { name := "addrsRights", fn := fun _ => fun
  | [d1, d2] => { results := [.lit (.bool true)], args := [d1, d2] }
  | _ => none }
def addrsRightsRow : OpenClaim := { program := "ytacnlancncmpmaa", sum := "643814fabe91665a4a3c32daa47d8abe97b45154725180ee39aa7ddaaab2e1cc", func := "umpire/umpirelaw15.AddrsRights", spec := "addrsRights", unfollowed := true, recurses := true, apart := false }
def AddrsRightsSaid : Prop := addrsRightsRow.holds Try.pinned (OpenSpec.ofChange addrsRightsSpec)

/-- ITS FALSE NEIGHBOUR: 'it returns false'. Refute it at one input. -/
def addrsRightsWrong : ChangeSpec := { name := "addrsRights", fn := fun _ => fun
  | [d1, d2] => { results := [.lit (.bool false)], args := [d1, d2] }
  | _ => none }
def AddrsRightsWrongFalsely : Prop := addrsRightsRow.holds Try.pinned (OpenSpec.ofChange addrsRightsWrong)

/-- 'umpirelaw15.AddrsReads': WHATEVER THE INPUT: true; the input reads as it did. -/
def addrsReadsSpec : ChangeSpec := { name := "addrsReads", fn := fun _ => fun
  | [d1, d2] => { results := [.lit (.bool true)], args := [d1, d2] }
  | _ => none }
def addrsReadsRow : OpenClaim := { program := "ytacnlancncmpmaa", sum := "643814fabe91665a4a3c32daa47d8abe97b45154725180ee39aa7ddaaab2e1cc", func := "umpire/umpirelaw15.AddrsReads", spec := "addrsReads", unfollowed := true, recurses := true, apart := false }
def AddrsReadsSaid : Prop := addrsReadsRow.holds Try.pinned (OpenSpec.ofChange addrsReadsSpec)

/-- ITS FALSE NEIGHBOUR: 'it returns false'. Refute it at one input. -/
def addrsReadsWrong : ChangeSpec := { name := "addrsReads", fn := fun _ => fun
  | [d1, d2] => { results := [.lit (.bool false)], args := [d1, d2] }
  | _ => none }
def AddrsReadsWrongFalsely : Prop := addrsReadsRow.holds Try.pinned (OpenSpec.ofChange addrsReadsWrong)

/-- 'umpirelaw15.AddrsPuts': WHATEVER THE INPUT: true; the input reads as it did. -/
def addrsPutsSpec : ChangeSpec := { name := "addrsPuts", fn := fun _ => fun
  | [d1, d2] => { results := [.lit (.bool true)], args := [d1, d2] }
  | _ => none }
def addrsPutsRow : OpenClaim := { program := "ytacnlancncmpmaa", sum := "643814fabe91665a4a3c32daa47d8abe97b45154725180ee39aa7ddaaab2e1cc", func := "umpire/umpirelaw15.AddrsPuts", spec := "addrsPuts", unfollowed := true, recurses := true, apart := false }
def AddrsPutsSaid : Prop := addrsPutsRow.holds Try.pinned (OpenSpec.ofChange addrsPutsSpec)

/-- ITS FALSE NEIGHBOUR: 'it returns false'. Refute it at one input. -/
def addrsPutsWrong : ChangeSpec := { name := "addrsPuts", fn := fun _ => fun
  | [d1, d2] => { results := [.lit (.bool false)], args := [d1, d2] }
  | _ => none }
def AddrsPutsWrongFalsely : Prop := addrsPutsRow.holds Try.pinned (OpenSpec.ofChange addrsPutsWrong)

/-- 'umpirelaw15.AddrsBad': WHATEVER THE INPUT: true; the input reads as it did. -/
def addrsBadSpec : ChangeSpec := { name := "addrsBad", fn := fun _ => fun
  | [d1, d2] => { results := [.lit (.bool true)], args := [d1, d2] }
  | _ => none }
def addrsBadRow : OpenClaim := { program := "ytacnlancncmpmaa", sum := "643814fabe91665a4a3c32daa47d8abe97b45154725180ee39aa7ddaaab2e1cc", func := "umpire/umpirelaw15.AddrsBad", spec := "addrsBad", unfollowed := true, recurses := true, apart := false }
def AddrsBadSaid : Prop := addrsBadRow.holds Try.pinned (OpenSpec.ofChange addrsBadSpec)

/-- ITS FALSE NEIGHBOUR: 'it returns false'. Refute it at one input. -/
def addrsBadWrong : ChangeSpec := { name := "addrsBad", fn := fun _ => fun
  | [d1, d2] => { results := [.lit (.bool false)], args := [d1, d2] }
  | _ => none }
def AddrsBadWrongFalsely : Prop := addrsBadRow.holds Try.pinned (OpenSpec.ofChange addrsBadWrong)

/-- 'umpirelaw15.AddrsBack': WHATEVER THE INPUT: true; the input reads as it did. -/
def addrsBackSpec : ChangeSpec := { name := "addrsBack", fn := fun _ => fun
  | [d1, d2, d3] => { results := [.lit (.bool true)], args := [d1, d2, d3] }
  | _ => none }
def addrsBackRow : OpenClaim := { program := "ytacnlancncmpmaa", sum := "643814fabe91665a4a3c32daa47d8abe97b45154725180ee39aa7ddaaab2e1cc", func := "umpire/umpirelaw15.AddrsBack", spec := "addrsBack", unfollowed := true, recurses := true, apart := false }
def AddrsBackSaid : Prop := addrsBackRow.holds Try.pinned (OpenSpec.ofChange addrsBackSpec)

/-- ITS FALSE NEIGHBOUR: 'it returns false'. Refute it at one input. -/
def addrsBackWrong : ChangeSpec := { name := "addrsBack", fn := fun _ => fun
  | [d1, d2, d3] => { results := [.lit (.bool false)], args := [d1, d2, d3] }
  | _ => none }
def AddrsBackWrongFalsely : Prop := addrsBackRow.holds Try.pinned (OpenSpec.ofChange addrsBackWrong)

/-- 'umpirelaw15.AddrsKeeps': WHATEVER THE INPUT: true; the input reads as it did. -/
def addrsKeepsSpec : ChangeSpec := { name := "addrsKeeps", fn := fun _ => fun
  | [d1, d2] => { results := [.lit (.bool true)], args := [d1, d2] }
  | _ => none }
def addrsKeepsRow : OpenClaim := { program := "ytacnlancncmpmaa", sum := "643814fabe91665a4a3c32daa47d8abe97b45154725180ee39aa7ddaaab2e1cc", func := "umpire/umpirelaw15.AddrsKeeps", spec := "addrsKeeps", unfollowed := true, recurses := true, apart := false }
def AddrsKeepsSaid : Prop := addrsKeepsRow.holds Try.pinned (OpenSpec.ofChange addrsKeepsSpec)

/-- ITS FALSE NEIGHBOUR: 'it returns false'. Refute it at one input. -/
def addrsKeepsWrong : ChangeSpec := { name := "addrsKeeps", fn := fun _ => fun
  | [d1, d2] => { results := [.lit (.bool false)], args := [d1, d2] }
  | _ => none }
def AddrsKeepsWrongFalsely : Prop := addrsKeepsRow.holds Try.pinned (OpenSpec.ofChange addrsKeepsWrong)

/- THE SECOND FORM. 'bulk': how many values and letters a reading holds, each counted each time it is reached (what is shared counts as often as it is met; a slice's spare places count too). A statement '..UptoSaid' is the law's where the arguments, and the package variables that the reading takes, are together of bulk at most 1048576: NARROWER than '..Said'. Prove '..Said' where nothing that the law and all that it calls make is longer than what came in: it says more and counts as full. Else prove '..UptoSaid'. A law counts once. -/
mutual
def uptoBulk {H : Type} : DataW H → Nat
  | .lit (.string bytes) => bytes.length + 1
  | .lit _ => 1
  | .nil => 1
  | .ptr d => uptoBulk d + 1
  | .slice elems spare => uptoBulkAll elems + uptoBulkAll spare + 1
  | .agg parts => uptoBulkAll parts + 1
  | .iface _ d => uptoBulk d + 1
  | .map entries => uptoBulkEntries entries + 1
  | .held _ => 1
def uptoBulkAll {H : Type} : List (DataW H) → Nat
  | [] => 0
  | d :: r => uptoBulk d + uptoBulkAll r
def uptoBulkEntries {H : Type} : List (Lit × DataW H) → Nat
  | [] => 0
  | x :: r => uptoBulkEntry x + uptoBulkEntries r
def uptoBulkEntry {H : Type} : Lit × DataW H → Nat
  | (.string bytes, d) => bytes.length + uptoBulk d + 1
  | (_, d) => uptoBulk d + 1
 end
def uptoSmall : (H : Type) → List (DataW H) → Bool := fun _ ds => decide (uptoBulkAll ds ≤ 1048576)
def OpenSpec.upto (s : _root_.Go.ChangeSpec) : _root_.Go.OpenSpec := { _root_.Go.OpenSpec.ofChange s with cond := some uptoSmall }

/-- 'umpirelaw15.AddrsRights', WHERE WHAT IT READS IS OF BULK AT MOST 1048576: true; the input reads as it did. -/
def addrsRightsUptoRow : OpenClaim := { program := "ytacnlancncmpmaa", sum := "643814fabe91665a4a3c32daa47d8abe97b45154725180ee39aa7ddaaab2e1cc", func := "umpire/umpirelaw15.AddrsRights", spec := "addrsRights", unfollowed := true, recurses := true, apart := false, narrowed := true }
def AddrsRightsUptoSaid : Prop := addrsRightsUptoRow.holds Try.pinned (OpenSpec.upto addrsRightsSpec)

/-- 'umpirelaw15.AddrsReads', WHERE WHAT IT READS IS OF BULK AT MOST 1048576: true; the input reads as it did. -/
def addrsReadsUptoRow : OpenClaim := { program := "ytacnlancncmpmaa", sum := "643814fabe91665a4a3c32daa47d8abe97b45154725180ee39aa7ddaaab2e1cc", func := "umpire/umpirelaw15.AddrsReads", spec := "addrsReads", unfollowed := true, recurses := true, apart := false, narrowed := true }
def AddrsReadsUptoSaid : Prop := addrsReadsUptoRow.holds Try.pinned (OpenSpec.upto addrsReadsSpec)

/-- 'umpirelaw15.AddrsPuts', WHERE WHAT IT READS IS OF BULK AT MOST 1048576: true; the input reads as it did. -/
def addrsPutsUptoRow : OpenClaim := { program := "ytacnlancncmpmaa", sum := "643814fabe91665a4a3c32daa47d8abe97b45154725180ee39aa7ddaaab2e1cc", func := "umpire/umpirelaw15.AddrsPuts", spec := "addrsPuts", unfollowed := true, recurses := true, apart := false, narrowed := true }
def AddrsPutsUptoSaid : Prop := addrsPutsUptoRow.holds Try.pinned (OpenSpec.upto addrsPutsSpec)

/-- 'umpirelaw15.AddrsBad', WHERE WHAT IT READS IS OF BULK AT MOST 1048576: true; the input reads as it did. -/
def addrsBadUptoRow : OpenClaim := { program := "ytacnlancncmpmaa", sum := "643814fabe91665a4a3c32daa47d8abe97b45154725180ee39aa7ddaaab2e1cc", func := "umpire/umpirelaw15.AddrsBad", spec := "addrsBad", unfollowed := true, recurses := true, apart := false, narrowed := true }
def AddrsBadUptoSaid : Prop := addrsBadUptoRow.holds Try.pinned (OpenSpec.upto addrsBadSpec)

/-- 'umpirelaw15.AddrsBack', WHERE WHAT IT READS IS OF BULK AT MOST 1048576: true; the input reads as it did. -/
def addrsBackUptoRow : OpenClaim := { program := "ytacnlancncmpmaa", sum := "643814fabe91665a4a3c32daa47d8abe97b45154725180ee39aa7ddaaab2e1cc", func := "umpire/umpirelaw15.AddrsBack", spec := "addrsBack", unfollowed := true, recurses := true, apart := false, narrowed := true }
def AddrsBackUptoSaid : Prop := addrsBackUptoRow.holds Try.pinned (OpenSpec.upto addrsBackSpec)

/-- 'umpirelaw15.AddrsKeeps', WHERE WHAT IT READS IS OF BULK AT MOST 1048576: true; the input reads as it did. -/
def addrsKeepsUptoRow : OpenClaim := { program := "ytacnlancncmpmaa", sum := "643814fabe91665a4a3c32daa47d8abe97b45154725180ee39aa7ddaaab2e1cc", func := "umpire/umpirelaw15.AddrsKeeps", spec := "addrsKeeps", unfollowed := true, recurses := true, apart := false, narrowed := true }
def AddrsKeepsUptoSaid : Prop := addrsKeepsUptoRow.holds Try.pinned (OpenSpec.upto addrsKeepsSpec)

end Rows
end Go.Proofs.Ytacnlancncmpmaa
