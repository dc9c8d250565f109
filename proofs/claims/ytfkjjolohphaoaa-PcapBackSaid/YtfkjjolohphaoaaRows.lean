/-
  No cell of these rows narrows 'for every input' (looked for: loops, veiled, ifaces, maps, wideKeys, modest, calm, conditions, laid).
  DERIVED. THE GIVEN ROWS OF THIS SEAT. 6 by the template 'for every input the law returns true; each argument reads behind the call as it read before'; 0 by the template 'total and deterministic' (their statements: YtfkjjolohphaoaaTotals.lean).
  GIVEN WITH THE SEED: the statements are not yours to turn. If you find one false, say at which input.
  Laid BY PROGRAM, IN A SANDBOX (cutbox-rows.mjs): the forced cells as the released guide's own fill.sh prints them over the translation 04fcf8d3bef976df… (all of the seat's roots in one cut). By AI agents, Wed Nov 11 2026. No macro, syntax, notation, axiom, sorry.
-/
import Derived.Test.YtfkjjolohphaoaaChecked
import GoSem.Claim
import GoSem.ClaimJoined
import GoSem.ClaimMapViews
import Derived.JoinedTies
import Derived.KernelRfl
namespace Go.Proofs.Ytfkjjolohphaoaa
/- THE CELL 'sum', in the pinned program and in every row, IS THE sha256 OF THE DUMP (.gsa) THAT YtfkjjolohphaoaaProg.lean LOADS. Nothing in Lean hashes anything: it is a label: what it is worth is what the hold of that sum in a sandbox is worth. -/
noncomputable def Try.pinned : Pinned := { name := "ytfkjjolohphaoaa", sum := "04fcf8d3bef976dfca902339f849973fc00926af28a9735a0da7d71f51146514", checked := Try.checked }
namespace Rows
def none {H : Type} : Left H := { results := [], args := [] }

/-- 'umpirelaw09.PcapPuts': WHATEVER THE INPUT: true; the input reads as it did. -/
def pcapPutsSpec : ChangeSpec := { name := "pcapPuts", fn := fun _ => fun
  | [d1, d2] => { results := [.lit (.bool true)], args := [d1, d2] }
  | _ => none }
def pcapPutsRow : OpenClaim := { program := "ytfkjjolohphaoaa", sum := "04fcf8d3bef976dfca902339f849973fc00926af28a9735a0da7d71f51146514", func := "umpire/umpirelaw09.PcapPuts", spec := "pcapPuts", unfollowed := true, recurses := true, apart := false }
def PcapPutsSaid : Prop := pcapPutsRow.holds Try.pinned (OpenSpec.ofChange pcapPutsSpec)

/-- ITS FALSE NEIGHBOUR: 'it returns false'. Refute it at one input. -/
def pcapPutsWrong : ChangeSpec := { name := "pcapPuts", fn := fun _ => fun
  | [d1, d2] => { results := [.lit (.bool false)], args := [d1, d2] }
  | _ => none }
def PcapPutsWrongFalsely : Prop := pcapPutsRow.holds Try.pinned (OpenSpec.ofChange pcapPutsWrong)

/-- 'umpirelaw09.PcapReads': WHATEVER THE INPUT: true; the input reads as it did. -/
def pcapReadsSpec : ChangeSpec := { name := "pcapReads", fn := fun _ => fun
  | [d] => { results := [.lit (.bool true)], args := [d] }
  | _ => none }
def pcapReadsRow : OpenClaim := { program := "ytfkjjolohphaoaa", sum := "04fcf8d3bef976dfca902339f849973fc00926af28a9735a0da7d71f51146514", func := "umpire/umpirelaw09.PcapReads", spec := "pcapReads", unfollowed := true, recurses := true, apart := false }
def PcapReadsSaid : Prop := pcapReadsRow.holds Try.pinned (OpenSpec.ofChange pcapReadsSpec)

/-- ITS FALSE NEIGHBOUR: 'it returns false'. Refute it at one input. -/
def pcapReadsWrong : ChangeSpec := { name := "pcapReads", fn := fun _ => fun
  | [d] => { results := [.lit (.bool false)], args := [d] }
  | _ => none }
def PcapReadsWrongFalsely : Prop := pcapReadsRow.holds Try.pinned (OpenSpec.ofChange pcapReadsWrong)

/-- 'umpirelaw09.PcapNexts': WHATEVER THE INPUT: true; the input reads as it did. -/
def pcapNextsSpec : ChangeSpec := { name := "pcapNexts", fn := fun _ => fun
  | [d1, d2] => { results := [.lit (.bool true)], args := [d1, d2] }
  | _ => none }
def pcapNextsRow : OpenClaim := { program := "ytfkjjolohphaoaa", sum := "04fcf8d3bef976dfca902339f849973fc00926af28a9735a0da7d71f51146514", func := "umpire/umpirelaw09.PcapNexts", spec := "pcapNexts", unfollowed := true, recurses := true, apart := false }
def PcapNextsSaid : Prop := pcapNextsRow.holds Try.pinned (OpenSpec.ofChange pcapNextsSpec)

/-- ITS FALSE NEIGHBOUR: 'it returns false'. Refute it at one input. -/
def pcapNextsWrong : ChangeSpec := { name := "pcapNexts", fn := fun _ => fun
  | [d1, d2] => { results := [.lit (.bool false)], args := [d1, d2] }
  | _ => none }
def PcapNextsWrongFalsely : Prop := pcapNextsRow.holds Try.pinned (OpenSpec.ofChange pcapNextsWrong)

/-- 'umpirelaw09.PcapBack': WHATEVER THE INPUT: true; the input reads as it did. -/
def pcapBackSpec : ChangeSpec := { name := "pcapBack", fn := fun _ => fun
  | [d1, d2, d3] => { results := [.lit (.bool true)], args := [d1, d2, d3] }
  | _ => none }
def pcapBackRow : OpenClaim := { program := "ytfkjjolohphaoaa", sum := "04fcf8d3bef976dfca902339f849973fc00926af28a9735a0da7d71f51146514", func := "umpire/umpirelaw09.PcapBack", spec := "pcapBack", unfollowed := true, recurses := true, apart := false }
def PcapBackSaid : Prop := pcapBackRow.holds Try.pinned (OpenSpec.ofChange pcapBackSpec)

/-- ITS FALSE NEIGHBOUR: 'it returns false'. Refute it at one input. -/
def pcapBackWrong : ChangeSpec := { name := "pcapBack", fn := fun _ => fun
  | [d1, d2, d3] => { results := [.lit (.bool false)], args := [d1, d2, d3] }
  | _ => none }
def PcapBackWrongFalsely : Prop := pcapBackRow.holds Try.pinned (OpenSpec.ofChange pcapBackWrong)

/-- 'umpirelaw09.PcapCuts': WHATEVER THE INPUT: true; the input reads as it did. -/
def pcapCutsSpec : ChangeSpec := { name := "pcapCuts", fn := fun _ => fun
  | [d1, d2, d3] => { results := [.lit (.bool true)], args := [d1, d2, d3] }
  | _ => none }
def pcapCutsRow : OpenClaim := { program := "ytfkjjolohphaoaa", sum := "04fcf8d3bef976dfca902339f849973fc00926af28a9735a0da7d71f51146514", func := "umpire/umpirelaw09.PcapCuts", spec := "pcapCuts", unfollowed := true, recurses := true, apart := false }
def PcapCutsSaid : Prop := pcapCutsRow.holds Try.pinned (OpenSpec.ofChange pcapCutsSpec)

/-- ITS FALSE NEIGHBOUR: 'it returns false'. Refute it at one input. -/
def pcapCutsWrong : ChangeSpec := { name := "pcapCuts", fn := fun _ => fun
  | [d1, d2, d3] => { results := [.lit (.bool false)], args := [d1, d2, d3] }
  | _ => none }
def PcapCutsWrongFalsely : Prop := pcapCutsRow.holds Try.pinned (OpenSpec.ofChange pcapCutsWrong)

/-- 'umpirelaw09.PcapKeeps': WHATEVER THE INPUT: true; the input reads as it did. -/
def pcapKeepsSpec : ChangeSpec := { name := "pcapKeeps", fn := fun _ => fun
  | [d] => { results := [.lit (.bool true)], args := [d] }
  | _ => none }
def pcapKeepsRow : OpenClaim := { program := "ytfkjjolohphaoaa", sum := "04fcf8d3bef976dfca902339f849973fc00926af28a9735a0da7d71f51146514", func := "umpire/umpirelaw09.PcapKeeps", spec := "pcapKeeps", unfollowed := true, recurses := true, apart := false }
def PcapKeepsSaid : Prop := pcapKeepsRow.holds Try.pinned (OpenSpec.ofChange pcapKeepsSpec)

/-- ITS FALSE NEIGHBOUR: 'it returns false'. Refute it at one input. -/
def pcapKeepsWrong : ChangeSpec := { name := "pcapKeeps", fn := fun _ => fun
  | [d] => { results := [.lit (.bool false)], args := [d] }
  | _ => none }
def PcapKeepsWrongFalsely : Prop := pcapKeepsRow.holds Try.pinned (OpenSpec.ofChange pcapKeepsWrong)

/- THE SECOND FORM. 'bulk': how many values and letters a reading holds, each counted each time it is reached (what is shared counts as often as it is met; a slice's spare places count too). A statement '..UptoSaid' is the law's where the arguments, and the package variables that the reading takes, are together of bulk at most 1048576: NARROWER than '..Said'. Prove '..Said' where nothing that the law and all that it calls make is longer than what came in: it says more and counts as full. Else prove '..UptoSaid'. A law counts once. -/
mutual
def uptoBulk {H : Type} : DataW H → Nat
  | .lit (.string bytes) => bytes.length + 1
  | .lit _ => 1
  | .nil => 1
  | .ptr d => uptoBulk d + 1
  | .slice elems spare => uptoBulkAll elems + uptoBulkAll spare + 1
  | .agg parts => uptoBulkAll parts + 1
  | .iface _ d => uptoBulk d + 1
  | .map entries => uptoBulkEntries entries + 1
  | .held _ => 1
def uptoBulkAll {H : Type} : List (DataW H) → Nat
  | [] => 0
  | d :: r => uptoBulk d + uptoBulkAll r
def uptoBulkEntries {H : Type} : List (Lit × DataW H) → Nat
  | [] => 0
  | x :: r => uptoBulkEntry x + uptoBulkEntries r
def uptoBulkEntry {H : Type} : Lit × DataW H → Nat
  | (.string bytes, d) => bytes.length + uptoBulk d + 1
  | (_, d) => uptoBulk d + 1
 end
def uptoSmall : (H : Type) → List (DataW H) → Bool := fun _ ds => decide (uptoBulkAll ds ≤ 1048576)
def OpenSpec.upto (s : _root_.Go.ChangeSpec) : _root_.Go.OpenSpec := { _root_.Go.OpenSpec.ofChange s with cond := some uptoSmall }

/-- 'umpirelaw09.PcapPuts', WHERE WHAT IT READS IS OF BULK AT MOST 1048576: true; the input reads as it did. -/
def pcapPutsUptoRow : OpenClaim := { program := "ytfkjjolohphaoaa", sum := "04fcf8d3bef976dfca902339f849973fc00926af28a9735a0da7d71f51146514", func := "umpire/umpirelaw09.PcapPuts", spec := "pcapPuts", unfollowed := true, recurses := true, apart := false, narrowed := true }
def PcapPutsUptoSaid : Prop := pcapPutsUptoRow.holds Try.pinned (OpenSpec.upto pcapPutsSpec)

/-- 'umpirelaw09.PcapReads', WHERE WHAT IT READS IS OF BULK AT MOST 1048576: true; the input reads as it did. -/
def pcapReadsUptoRow : OpenClaim := { program := "ytfkjjolohphaoaa", sum := "04fcf8d3bef976dfca902339f849973fc00926af28a9735a0da7d71f51146514", func := "umpire/umpirelaw09.PcapReads", spec := "pcapReads", unfollowed := true, recurses := true, apart := false, narrowed := true }
def PcapReadsUptoSaid : Prop := pcapReadsUptoRow.holds Try.pinned (OpenSpec.upto pcapReadsSpec)

/-- 'umpirelaw09.PcapNexts', WHERE WHAT IT READS IS OF BULK AT MOST 1048576: true; the input reads as it did. -/
def pcapNextsUptoRow : OpenClaim := { program := "ytfkjjolohphaoaa", sum := "04fcf8d3bef976dfca902339f849973fc00926af28a9735a0da7d71f51146514", func := "umpire/umpirelaw09.PcapNexts", spec := "pcapNexts", unfollowed := true, recurses := true, apart := false, narrowed := true }
def PcapNextsUptoSaid : Prop := pcapNextsUptoRow.holds Try.pinned (OpenSpec.upto pcapNextsSpec)

/-- 'umpirelaw09.PcapBack', WHERE WHAT IT READS IS OF BULK AT MOST 1048576: true; the input reads as it did. -/
def pcapBackUptoRow : OpenClaim := { program := "ytfkjjolohphaoaa", sum := "04fcf8d3bef976dfca902339f849973fc00926af28a9735a0da7d71f51146514", func := "umpire/umpirelaw09.PcapBack", spec := "pcapBack", unfollowed := true, recurses := true, apart := false, narrowed := true }
def PcapBackUptoSaid : Prop := pcapBackUptoRow.holds Try.pinned (OpenSpec.upto pcapBackSpec)

/-- 'umpirelaw09.PcapCuts', WHERE WHAT IT READS IS OF BULK AT MOST 1048576: true; the input reads as it did. -/
def pcapCutsUptoRow : OpenClaim := { program := "ytfkjjolohphaoaa", sum := "04fcf8d3bef976dfca902339f849973fc00926af28a9735a0da7d71f51146514", func := "umpire/umpirelaw09.PcapCuts", spec := "pcapCuts", unfollowed := true, recurses := true, apart := false, narrowed := true }
def PcapCutsUptoSaid : Prop := pcapCutsUptoRow.holds Try.pinned (OpenSpec.upto pcapCutsSpec)

/-- 'umpirelaw09.PcapKeeps', WHERE WHAT IT READS IS OF BULK AT MOST 1048576: true; the input reads as it did. -/
def pcapKeepsUptoRow : OpenClaim := { program := "ytfkjjolohphaoaa", sum := "04fcf8d3bef976dfca902339f849973fc00926af28a9735a0da7d71f51146514", func := "umpire/umpirelaw09.PcapKeeps", spec := "pcapKeeps", unfollowed := true, recurses := true, apart := false, narrowed := true }
def PcapKeepsUptoSaid : Prop := pcapKeepsUptoRow.holds Try.pinned (OpenSpec.upto pcapKeepsSpec)

end Rows
end Go.Proofs.Ytfkjjolohphaoaa
