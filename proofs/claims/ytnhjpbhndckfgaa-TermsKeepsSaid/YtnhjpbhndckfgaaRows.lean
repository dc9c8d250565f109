/-
  No cell of these rows narrows 'for every input' (looked for: loops, veiled, ifaces, maps, wideKeys, modest, calm, conditions, laid).
  DERIVED. THE GIVEN ROWS OF THIS SEAT. 6 by the template 'for every input the law returns true; each argument reads behind the call as it read before'; 0 by the template 'total and deterministic' (their statements: YtnhjpbhndckfgaaTotals.lean).
  GIVEN WITH THE SEED: the statements are not yours to turn. If you find one false, say at which input.
  Laid BY PROGRAM, IN A SANDBOX (cutbox-rows.mjs): the forced cells as the released guide's own fill.sh prints them over the translation a573d9dd4d1e5e65… (all of the seat's roots in one cut). By AI agents, Wed Nov 11 2026. No macro, syntax, notation, axiom, sorry.
-/
import Derived.Test.YtnhjpbhndckfgaaChecked
import GoSem.Claim
import GoSem.ClaimJoined
import GoSem.ClaimMapViews
import Derived.JoinedTies
import Derived.KernelRfl
namespace Go.Proofs.Ytnhjpbhndckfgaa
/- THE CELL 'sum', in the pinned program and in every row, IS THE sha256 OF THE DUMP (.gsa) THAT YtnhjpbhndckfgaaProg.lean LOADS. Nothing in Lean hashes anything: it is a label: what it is worth is what the hold of that sum in a sandbox is worth. -/
noncomputable def Try.pinned : Pinned := { name := "ytnhjpbhndckfgaa", sum := "a573d9dd4d1e5e65f8b27e01a98a78065d52584250e5d12ebe76256275c6bd3d", checked := Try.checked }
namespace Rows
def none {H : Type} : Left H := { results := [], args := [] }

/-- 'umpirelaw14.TermsRights': WHATEVER THE INPUT: true; the input reads as it did. -/
def termsRightsSpec : ChangeSpec := { name := "termsRights", fn := fun _ => fun
  | [d] => { results := [.lit (.bool true)], args := [d] }
  | _ => none }
def termsRightsRow : OpenClaim := { program := "ytnhjpbhndckfgaa", sum := "a573d9dd4d1e5e65f8b27e01a98a78065d52584250e5d12ebe76256275c6bd3d", func := "umpire/umpirelaw14.TermsRights", spec := "termsRights", unfollowed := true, recurses := true, apart := false }
def TermsRightsSaid : Prop := termsRightsRow.holds Try.pinned (OpenSpec.ofChange termsRightsSpec)

/-- ITS FALSE NEIGHBOUR: 'it returns false'. Refute it at one input. -/
def termsRightsWrong : ChangeSpec := { name := "termsRights", fn := fun _ => fun
  | [d] => { results := [.lit (.bool false)], args := [d] }
  | _ => none }
def TermsRightsWrongFalsely : Prop := termsRightsRow.holds Try.pinned (OpenSpec.ofChange termsRightsWrong)

/-- 'umpirelaw14.TermsReads': WHATEVER THE INPUT: true; the input reads as it did. -/
def termsReadsSpec : ChangeSpec := { name := "termsReads", fn := fun _ => fun
  | [d] => { results := [.lit (.bool true)], args := [d] }
  | _ => none }
def termsReadsRow : OpenClaim := { program := "ytnhjpbhndckfgaa", sum := "a573d9dd4d1e5e65f8b27e01a98a78065d52584250e5d12ebe76256275c6bd3d", func := "umpire/umpirelaw14.TermsReads", spec := "termsReads", unfollowed := true, recurses := true, apart := false }
def TermsReadsSaid : Prop := termsReadsRow.holds Try.pinned (OpenSpec.ofChange termsReadsSpec)

/-- ITS FALSE NEIGHBOUR: 'it returns false'. Refute it at one input. -/
def termsReadsWrong : ChangeSpec := { name := "termsReads", fn := fun _ => fun
  | [d] => { results := [.lit (.bool false)], args := [d] }
  | _ => none }
def TermsReadsWrongFalsely : Prop := termsReadsRow.holds Try.pinned (OpenSpec.ofChange termsReadsWrong)

/-- 'umpirelaw14.TermsPuts': WHATEVER THE INPUT: true; the input reads as it did. -/
def termsPutsSpec : ChangeSpec := { name := "termsPuts", fn := fun _ => fun
  | [d] => { results := [.lit (.bool true)], args := [d] }
  | _ => none }
def termsPutsRow : OpenClaim := { program := "ytnhjpbhndckfgaa", sum := "a573d9dd4d1e5e65f8b27e01a98a78065d52584250e5d12ebe76256275c6bd3d", func := "umpire/umpirelaw14.TermsPuts", spec := "termsPuts", unfollowed := true, recurses := true, apart := false }
def TermsPutsSaid : Prop := termsPutsRow.holds Try.pinned (OpenSpec.ofChange termsPutsSpec)

/-- ITS FALSE NEIGHBOUR: 'it returns false'. Refute it at one input. -/
def termsPutsWrong : ChangeSpec := { name := "termsPuts", fn := fun _ => fun
  | [d] => { results := [.lit (.bool false)], args := [d] }
  | _ => none }
def TermsPutsWrongFalsely : Prop := termsPutsRow.holds Try.pinned (OpenSpec.ofChange termsPutsWrong)

/-- 'umpirelaw14.TermsBad': WHATEVER THE INPUT: true; the input reads as it did. -/
def termsBadSpec : ChangeSpec := { name := "termsBad", fn := fun _ => fun
  | [d] => { results := [.lit (.bool true)], args := [d] }
  | _ => none }
def termsBadRow : OpenClaim := { program := "ytnhjpbhndckfgaa", sum := "a573d9dd4d1e5e65f8b27e01a98a78065d52584250e5d12ebe76256275c6bd3d", func := "umpire/umpirelaw14.TermsBad", spec := "termsBad", unfollowed := true, recurses := true, apart := false }
def TermsBadSaid : Prop := termsBadRow.holds Try.pinned (OpenSpec.ofChange termsBadSpec)

/-- ITS FALSE NEIGHBOUR: 'it returns false'. Refute it at one input. -/
def termsBadWrong : ChangeSpec := { name := "termsBad", fn := fun _ => fun
  | [d] => { results := [.lit (.bool false)], args := [d] }
  | _ => none }
def TermsBadWrongFalsely : Prop := termsBadRow.holds Try.pinned (OpenSpec.ofChange termsBadWrong)

/-- 'umpirelaw14.TermsBack': WHATEVER THE INPUT: true; the input reads as it did. -/
def termsBackSpec : ChangeSpec := { name := "termsBack", fn := fun _ => fun
  | [d1, d2] => { results := [.lit (.bool true)], args := [d1, d2] }
  | _ => none }
def termsBackRow : OpenClaim := { program := "ytnhjpbhndckfgaa", sum := "a573d9dd4d1e5e65f8b27e01a98a78065d52584250e5d12ebe76256275c6bd3d", func := "umpire/umpirelaw14.TermsBack", spec := "termsBack", unfollowed := true, recurses := true, apart := false }
def TermsBackSaid : Prop := termsBackRow.holds Try.pinned (OpenSpec.ofChange termsBackSpec)

/-- ITS FALSE NEIGHBOUR: 'it returns false'. Refute it at one input. -/
def termsBackWrong : ChangeSpec := { name := "termsBack", fn := fun _ => fun
  | [d1, d2] => { results := [.lit (.bool false)], args := [d1, d2] }
  | _ => none }
def TermsBackWrongFalsely : Prop := termsBackRow.holds Try.pinned (OpenSpec.ofChange termsBackWrong)

/-- 'umpirelaw14.TermsKeeps': WHATEVER THE INPUT: true; the input reads as it did. -/
def termsKeepsSpec : ChangeSpec := { name := "termsKeeps", fn := fun _ => fun
  | [d] => { results := [.lit (.bool true)], args := [d] }
  | _ => none }
def termsKeepsRow : OpenClaim := { program := "ytnhjpbhndckfgaa", sum := "a573d9dd4d1e5e65f8b27e01a98a78065d52584250e5d12ebe76256275c6bd3d", func := "umpire/umpirelaw14.TermsKeeps", spec := "termsKeeps", unfollowed := true, recurses := true, apart := false }
def TermsKeepsSaid : Prop := termsKeepsRow.holds Try.pinned (OpenSpec.ofChange termsKeepsSpec)

/-- ITS FALSE NEIGHBOUR: 'it returns false'. Refute it at one input. -/
def termsKeepsWrong : ChangeSpec := { name := "termsKeeps", fn := fun _ => fun
  | [d] => { results := [.lit (.bool false)], args := [d] }
  | _ => none }
def TermsKeepsWrongFalsely : Prop := termsKeepsRow.holds Try.pinned (OpenSpec.ofChange termsKeepsWrong)

/- THE SECOND FORM. 'bulk': how many values and letters a reading holds, each counted each time it is reached (what is shared counts as often as it is met; a slice's spare places count too). A statement '..UptoSaid' is the law's where the arguments, and the package variables that the reading takes, are together of bulk at most 1048576: NARROWER than '..Said'. Prove '..Said' where nothing that the law and all that it calls make is longer than what came in: it says more and counts as full. Else prove '..UptoSaid'. A law counts once. -/
mutual
def uptoBulk {H : Type} : DataW H → Nat
  | .lit (.string bytes) => bytes.length + 1
  | .lit _ => 1
  | .nil => 1
  | .ptr d => uptoBulk d + 1
  | .slice elems spare => uptoBulkAll elems + uptoBulkAll spare + 1
  | .agg parts => uptoBulkAll parts + 1
  | .iface _ d => uptoBulk d + 1
  | .map entries => uptoBulkEntries entries + 1
  | .held _ => 1
def uptoBulkAll {H : Type} : List (DataW H) → Nat
  | [] => 0
  | d :: r => uptoBulk d + uptoBulkAll r
def uptoBulkEntries {H : Type} : List (Lit × DataW H) → Nat
  | [] => 0
  | x :: r => uptoBulkEntry x + uptoBulkEntries r
def uptoBulkEntry {H : Type} : Lit × DataW H → Nat
  | (.string bytes, d) => bytes.length + uptoBulk d + 1
  | (_, d) => uptoBulk d + 1
 end
def uptoSmall : (H : Type) → List (DataW H) → Bool := fun _ ds => decide (uptoBulkAll ds ≤ 1048576)
def OpenSpec.upto (s : _root_.Go.ChangeSpec) : _root_.Go.OpenSpec := { _root_.Go.OpenSpec.ofChange s with cond := some uptoSmall }

/-- 'umpirelaw14.TermsRights', WHERE WHAT IT READS IS OF BULK AT MOST 1048576: true; the input reads as it did. -/
def termsRightsUptoRow : OpenClaim := { program := "ytnhjpbhndckfgaa", sum := "a573d9dd4d1e5e65f8b27e01a98a78065d52584250e5d12ebe76256275c6bd3d", func := "umpire/umpirelaw14.TermsRights", spec := "termsRights", unfollowed := true, recurses := true, apart := false, narrowed := true }
def TermsRightsUptoSaid : Prop := termsRightsUptoRow.holds Try.pinned (OpenSpec.upto termsRightsSpec)

/-- 'umpirelaw14.TermsReads', WHERE WHAT IT READS IS OF BULK AT MOST 1048576: true; the input reads as it did. -/
def termsReadsUptoRow : OpenClaim := { program := "ytnhjpbhndckfgaa", sum := "a573d9dd4d1e5e65f8b27e01a98a78065d52584250e5d12ebe76256275c6bd3d", func := "umpire/umpirelaw14.TermsReads", spec := "termsReads", unfollowed := true, recurses := true, apart := false, narrowed := true }
def TermsReadsUptoSaid : Prop := termsReadsUptoRow.holds Try.pinned (OpenSpec.upto termsReadsSpec)

/-- 'umpirelaw14.TermsPuts', WHERE WHAT IT READS IS OF BULK AT MOST 1048576: true; the input reads as it did. -/
def termsPutsUptoRow : OpenClaim := { program := "ytnhjpbhndckfgaa", sum := "a573d9dd4d1e5e65f8b27e01a98a78065d52584250e5d12ebe76256275c6bd3d", func := "umpire/umpirelaw14.TermsPuts", spec := "termsPuts", unfollowed := true, recurses := true, apart := false, narrowed := true }
def TermsPutsUptoSaid : Prop := termsPutsUptoRow.holds Try.pinned (OpenSpec.upto termsPutsSpec)

/-- 'umpirelaw14.TermsBad', WHERE WHAT IT READS IS OF BULK AT MOST 1048576: true; the input reads as it did. -/
def termsBadUptoRow : OpenClaim := { program := "ytnhjpbhndckfgaa", sum := "a573d9dd4d1e5e65f8b27e01a98a78065d52584250e5d12ebe76256275c6bd3d", func := "umpire/umpirelaw14.TermsBad", spec := "termsBad", unfollowed := true, recurses := true, apart := false, narrowed := true }
def TermsBadUptoSaid : Prop := termsBadUptoRow.holds Try.pinned (OpenSpec.upto termsBadSpec)

/-- 'umpirelaw14.TermsBack', WHERE WHAT IT READS IS OF BULK AT MOST 1048576: true; the input reads as it did. -/
def termsBackUptoRow : OpenClaim := { program := "ytnhjpbhndckfgaa", sum := "a573d9dd4d1e5e65f8b27e01a98a78065d52584250e5d12ebe76256275c6bd3d", func := "umpire/umpirelaw14.TermsBack", spec := "termsBack", unfollowed := true, recurses := true, apart := false, narrowed := true }
def TermsBackUptoSaid : Prop := termsBackUptoRow.holds Try.pinned (OpenSpec.upto termsBackSpec)

/-- 'umpirelaw14.TermsKeeps', WHERE WHAT IT READS IS OF BULK AT MOST 1048576: true; the input reads as it did. -/
def termsKeepsUptoRow : OpenClaim := { program := "ytnhjpbhndckfgaa", sum := "a573d9dd4d1e5e65f8b27e01a98a78065d52584250e5d12ebe76256275c6bd3d", func := "umpire/umpirelaw14.TermsKeeps", spec := "termsKeeps", unfollowed := true, recurses := true, apart := false, narrowed := true }
def TermsKeepsUptoSaid : Prop := termsKeepsUptoRow.holds Try.pinned (OpenSpec.upto termsKeepsSpec)

end Rows
end Go.Proofs.Ytnhjpbhndckfgaa
