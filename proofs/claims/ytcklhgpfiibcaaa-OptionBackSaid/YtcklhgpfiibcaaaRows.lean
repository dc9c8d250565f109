/-
  No cell of these rows narrows 'for every input' (looked for: loops, veiled, ifaces, maps, wideKeys, modest, calm, conditions, laid).
  DERIVED. THE GIVEN ROWS OF THIS SEAT. 6 by the template 'for every input the law returns true; each argument reads behind the call as it read before'; 0 by the template 'total and deterministic' (their statements: YtcklhgpfiibcaaaTotals.lean).
  GIVEN WITH THE SEED: the statements are not yours to turn. If you find one false, say at which input.
  Laid BY PROGRAM, IN A SANDBOX (cutbox-rows.mjs): the forced cells as the released guide's own fill.sh prints them over the translation f1e6164286362518… (all of the seat's roots in one cut). By AI agents, Wed Nov 11 2026. No macro, syntax, notation, axiom, sorry.
-/
import Derived.Test.YtcklhgpfiibcaaaChecked
import GoSem.Claim
import GoSem.ClaimJoined
import GoSem.ClaimMapViews
import Derived.JoinedTies
import Derived.KernelRfl
namespace Go.Proofs.Ytcklhgpfiibcaaa
/- THE CELL 'sum', in the pinned program and in every row, IS THE sha256 OF THE DUMP (.gsa) THAT YtcklhgpfiibcaaaProg.lean LOADS. Nothing in Lean hashes anything: it is a label: what it is worth is what the hold of that sum in a sandbox is worth. -/
noncomputable def Try.pinned : Pinned := { name := "ytcklhgpfiibcaaa", sum := "f1e6164286362518343ab13fa7a168a60cf31b86a7222dec460031d55372f1b3", checked := Try.checked }
namespace Rows
def none {H : Type} : Left H := { results := [], args := [] }

/-- 'umpirelaw12.OptionPuts': WHATEVER THE INPUT: true; the input reads as it did. -/
def optionPutsSpec : ChangeSpec := { name := "optionPuts", fn := fun _ => fun
  | [d] => { results := [.lit (.bool true)], args := [d] }
  | _ => none }
def optionPutsRow : OpenClaim := { program := "ytcklhgpfiibcaaa", sum := "f1e6164286362518343ab13fa7a168a60cf31b86a7222dec460031d55372f1b3", func := "umpire/umpirelaw12.OptionPuts", spec := "optionPuts", unfollowed := true, recurses := true, apart := false }
def OptionPutsSaid : Prop := optionPutsRow.holds Try.pinned (OpenSpec.ofChange optionPutsSpec)

/-- ITS FALSE NEIGHBOUR: 'it returns false'. Refute it at one input. -/
def optionPutsWrong : ChangeSpec := { name := "optionPuts", fn := fun _ => fun
  | [d] => { results := [.lit (.bool false)], args := [d] }
  | _ => none }
def OptionPutsWrongFalsely : Prop := optionPutsRow.holds Try.pinned (OpenSpec.ofChange optionPutsWrong)

/-- 'umpirelaw12.OptionReads': WHATEVER THE INPUT: true; the input reads as it did. -/
def optionReadsSpec : ChangeSpec := { name := "optionReads", fn := fun _ => fun
  | [d] => { results := [.lit (.bool true)], args := [d] }
  | _ => none }
def optionReadsRow : OpenClaim := { program := "ytcklhgpfiibcaaa", sum := "f1e6164286362518343ab13fa7a168a60cf31b86a7222dec460031d55372f1b3", func := "umpire/umpirelaw12.OptionReads", spec := "optionReads", unfollowed := true, recurses := true, apart := false }
def OptionReadsSaid : Prop := optionReadsRow.holds Try.pinned (OpenSpec.ofChange optionReadsSpec)

/-- ITS FALSE NEIGHBOUR: 'it returns false'. Refute it at one input. -/
def optionReadsWrong : ChangeSpec := { name := "optionReads", fn := fun _ => fun
  | [d] => { results := [.lit (.bool false)], args := [d] }
  | _ => none }
def OptionReadsWrongFalsely : Prop := optionReadsRow.holds Try.pinned (OpenSpec.ofChange optionReadsWrong)

/-- 'umpirelaw12.OptionBack': WHATEVER THE INPUT: true; the input reads as it did. -/
def optionBackSpec : ChangeSpec := { name := "optionBack", fn := fun _ => fun
  | [d1, d2, d3] => { results := [.lit (.bool true)], args := [d1, d2, d3] }
  | _ => none }
def optionBackRow : OpenClaim := { program := "ytcklhgpfiibcaaa", sum := "f1e6164286362518343ab13fa7a168a60cf31b86a7222dec460031d55372f1b3", func := "umpire/umpirelaw12.OptionBack", spec := "optionBack", unfollowed := true, recurses := true, apart := false }
def OptionBackSaid : Prop := optionBackRow.holds Try.pinned (OpenSpec.ofChange optionBackSpec)

/-- ITS FALSE NEIGHBOUR: 'it returns false'. Refute it at one input. -/
def optionBackWrong : ChangeSpec := { name := "optionBack", fn := fun _ => fun
  | [d1, d2, d3] => { results := [.lit (.bool false)], args := [d1, d2, d3] }
  | _ => none }
def OptionBackWrongFalsely : Prop := optionBackRow.holds Try.pinned (OpenSpec.ofChange optionBackWrong)

/-- 'umpirelaw12.OptionFinds': WHATEVER THE INPUT: true; the input reads as it did. -/
def optionFindsSpec : ChangeSpec := { name := "optionFinds", fn := fun _ => fun
  | [d1, d2, d3] => { results := [.lit (.bool true)], args := [d1, d2, d3] }
  | _ => none }
def optionFindsRow : OpenClaim := { program := "ytcklhgpfiibcaaa", sum := "f1e6164286362518343ab13fa7a168a60cf31b86a7222dec460031d55372f1b3", func := "umpire/umpirelaw12.OptionFinds", spec := "optionFinds", unfollowed := true, recurses := true, apart := false }
def OptionFindsSaid : Prop := optionFindsRow.holds Try.pinned (OpenSpec.ofChange optionFindsSpec)

/-- ITS FALSE NEIGHBOUR: 'it returns false'. Refute it at one input. -/
def optionFindsWrong : ChangeSpec := { name := "optionFinds", fn := fun _ => fun
  | [d1, d2, d3] => { results := [.lit (.bool false)], args := [d1, d2, d3] }
  | _ => none }
def OptionFindsWrongFalsely : Prop := optionFindsRow.holds Try.pinned (OpenSpec.ofChange optionFindsWrong)

/-- 'umpirelaw12.OptionTaken': WHATEVER THE INPUT: true; the input reads as it did. -/
def optionTakenSpec : ChangeSpec := { name := "optionTaken", fn := fun _ => fun
  | [d1, d2] => { results := [.lit (.bool true)], args := [d1, d2] }
  | _ => none }
def optionTakenRow : OpenClaim := { program := "ytcklhgpfiibcaaa", sum := "f1e6164286362518343ab13fa7a168a60cf31b86a7222dec460031d55372f1b3", func := "umpire/umpirelaw12.OptionTaken", spec := "optionTaken", unfollowed := true, recurses := true, apart := false }
def OptionTakenSaid : Prop := optionTakenRow.holds Try.pinned (OpenSpec.ofChange optionTakenSpec)

/-- ITS FALSE NEIGHBOUR: 'it returns false'. Refute it at one input. -/
def optionTakenWrong : ChangeSpec := { name := "optionTaken", fn := fun _ => fun
  | [d1, d2] => { results := [.lit (.bool false)], args := [d1, d2] }
  | _ => none }
def OptionTakenWrongFalsely : Prop := optionTakenRow.holds Try.pinned (OpenSpec.ofChange optionTakenWrong)

/-- 'umpirelaw12.OptionKeeps': WHATEVER THE INPUT: true; the input reads as it did. -/
def optionKeepsSpec : ChangeSpec := { name := "optionKeeps", fn := fun _ => fun
  | [d1, d2] => { results := [.lit (.bool true)], args := [d1, d2] }
  | _ => none }
def optionKeepsRow : OpenClaim := { program := "ytcklhgpfiibcaaa", sum := "f1e6164286362518343ab13fa7a168a60cf31b86a7222dec460031d55372f1b3", func := "umpire/umpirelaw12.OptionKeeps", spec := "optionKeeps", unfollowed := true, recurses := true, apart := false }
def OptionKeepsSaid : Prop := optionKeepsRow.holds Try.pinned (OpenSpec.ofChange optionKeepsSpec)

/-- ITS FALSE NEIGHBOUR: 'it returns false'. Refute it at one input. -/
def optionKeepsWrong : ChangeSpec := { name := "optionKeeps", fn := fun _ => fun
  | [d1, d2] => { results := [.lit (.bool false)], args := [d1, d2] }
  | _ => none }
def OptionKeepsWrongFalsely : Prop := optionKeepsRow.holds Try.pinned (OpenSpec.ofChange optionKeepsWrong)

/- THE SECOND FORM. 'bulk': how many values and letters a reading holds, each counted each time it is reached (what is shared counts as often as it is met; a slice's spare places count too). A statement '..UptoSaid' is the law's where the arguments, and the package variables that the reading takes, are together of bulk at most 1048576: NARROWER than '..Said'. Prove '..Said' where nothing that the law and all that it calls make is longer than what came in: it says more and counts as full. Else prove '..UptoSaid'. A law counts once. -/
mutual
def uptoBulk {H : Type} : DataW H → Nat
  | .lit (.string bytes) => bytes.length + 1
  | .lit _ => 1
  | .nil => 1
  | .ptr d => uptoBulk d + 1
  | .slice elems spare => uptoBulkAll elems + uptoBulkAll spare + 1
  | .agg parts => uptoBulkAll parts + 1
  | .iface _ d => uptoBulk d + 1
  | .map entries => uptoBulkEntries entries + 1
  | .held _ => 1
def uptoBulkAll {H : Type} : List (DataW H) → Nat
  | [] => 0
  | d :: r => uptoBulk d + uptoBulkAll r
def uptoBulkEntries {H : Type} : List (Lit × DataW H) → Nat
  | [] => 0
  | x :: r => uptoBulkEntry x + uptoBulkEntries r
def uptoBulkEntry {H : Type} : Lit × DataW H → Nat
  | (.string bytes, d) => bytes.length + uptoBulk d + 1
  | (_, d) => uptoBulk d + 1
 end
def uptoSmall : (H : Type) → List (DataW H) → Bool := fun _ ds => decide (uptoBulkAll ds ≤ 1048576)
def OpenSpec.upto (s : _root_.Go.ChangeSpec) : _root_.Go.OpenSpec := { _root_.Go.OpenSpec.ofChange s with cond := some uptoSmall }

/-- 'umpirelaw12.OptionPuts', WHERE WHAT IT READS IS OF BULK AT MOST 1048576: true; the input reads as it did. -/
def optionPutsUptoRow : OpenClaim := { program := "ytcklhgpfiibcaaa", sum := "f1e6164286362518343ab13fa7a168a60cf31b86a7222dec460031d55372f1b3", func := "umpire/umpirelaw12.OptionPuts", spec := "optionPuts", unfollowed := true, recurses := true, apart := false, narrowed := true }
def OptionPutsUptoSaid : Prop := optionPutsUptoRow.holds Try.pinned (OpenSpec.upto optionPutsSpec)

/-- 'umpirelaw12.OptionReads', WHERE WHAT IT READS IS OF BULK AT MOST 1048576: true; the input reads as it did. -/
def optionReadsUptoRow : OpenClaim := { program := "ytcklhgpfiibcaaa", sum := "f1e6164286362518343ab13fa7a168a60cf31b86a7222dec460031d55372f1b3", func := "umpire/umpirelaw12.OptionReads", spec := "optionReads", unfollowed := true, recurses := true, apart := false, narrowed := true }
def OptionReadsUptoSaid : Prop := optionReadsUptoRow.holds Try.pinned (OpenSpec.upto optionReadsSpec)

/-- 'umpirelaw12.OptionBack', WHERE WHAT IT READS IS OF BULK AT MOST 1048576: true; the input reads as it did. -/
def optionBackUptoRow : OpenClaim := { program := "ytcklhgpfiibcaaa", sum := "f1e6164286362518343ab13fa7a168a60cf31b86a7222dec460031d55372f1b3", func := "umpire/umpirelaw12.OptionBack", spec := "optionBack", unfollowed := true, recurses := true, apart := false, narrowed := true }
def OptionBackUptoSaid : Prop := optionBackUptoRow.holds Try.pinned (OpenSpec.upto optionBackSpec)

/-- 'umpirelaw12.OptionFinds', WHERE WHAT IT READS IS OF BULK AT MOST 1048576: true; the input reads as it did. -/
def optionFindsUptoRow : OpenClaim := { program := "ytcklhgpfiibcaaa", sum := "f1e6164286362518343ab13fa7a168a60cf31b86a7222dec460031d55372f1b3", func := "umpire/umpirelaw12.OptionFinds", spec := "optionFinds", unfollowed := true, recurses := true, apart := false, narrowed := true }
def OptionFindsUptoSaid : Prop := optionFindsUptoRow.holds Try.pinned (OpenSpec.upto optionFindsSpec)

/-- 'umpirelaw12.OptionTaken', WHERE WHAT IT READS IS OF BULK AT MOST 1048576: true; the input reads as it did. -/
def optionTakenUptoRow : OpenClaim := { program := "ytcklhgpfiibcaaa", sum := "f1e6164286362518343ab13fa7a168a60cf31b86a7222dec460031d55372f1b3", func := "umpire/umpirelaw12.OptionTaken", spec := "optionTaken", unfollowed := true, recurses := true, apart := false, narrowed := true }
def OptionTakenUptoSaid : Prop := optionTakenUptoRow.holds Try.pinned (OpenSpec.upto optionTakenSpec)

/-- 'umpirelaw12.OptionKeeps', WHERE WHAT IT READS IS OF BULK AT MOST 1048576: true; the input reads as it did. -/
def optionKeepsUptoRow : OpenClaim := { program := "ytcklhgpfiibcaaa", sum := "f1e6164286362518343ab13fa7a168a60cf31b86a7222dec460031d55372f1b3", func := "umpire/umpirelaw12.OptionKeeps", spec := "optionKeeps", unfollowed := true, recurses := true, apart := false, narrowed := true }
def OptionKeepsUptoSaid : Prop := optionKeepsUptoRow.holds Try.pinned (OpenSpec.upto optionKeepsSpec)

end Rows
end Go.Proofs.Ytcklhgpfiibcaaa
