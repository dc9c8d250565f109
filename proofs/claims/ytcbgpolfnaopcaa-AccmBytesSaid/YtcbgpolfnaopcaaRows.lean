/-
  No cell of these rows narrows 'for every input' (looked for: loops, veiled, ifaces, maps, wideKeys, modest, calm, conditions, laid).
  DERIVED. THE GIVEN ROWS OF THIS SEAT. 5 by the template 'for every input the law returns true; each argument reads behind the call as it read before'; 0 by the template 'total and deterministic' (their statements: YtcbgpolfnaopcaaTotals.lean).
  GIVEN WITH THE SEED: the statements are not yours to turn. If you find one false, say at which input.
  Laid BY PROGRAM, IN A SANDBOX (cutbox-rows.mjs): the forced cells as the released guide's own fill.sh prints them over the translation 53ff53b822d093b7… (all of the seat's roots in one cut). By AI agents, Wed Nov 11 2026. No macro, syntax, notation, axiom, sorry.
-/
import Derived.Test.YtcbgpolfnaopcaaChecked
import GoSem.Claim
import GoSem.ClaimJoined
import GoSem.ClaimMapViews
import Derived.JoinedTies
import Derived.KernelRfl
namespace Go.Proofs.Ytcbgpolfnaopcaa
/- THE CELL 'sum', in the pinned program and in every row, IS THE sha256 OF THE DUMP (.gsa) THAT YtcbgpolfnaopcaaProg.lean LOADS. Nothing in Lean hashes anything: it is a label: what it is worth is what the hold of that sum in a sandbox is worth. -/
noncomputable def Try.pinned : Pinned := { name := "ytcbgpolfnaopcaa", sum := "53ff53b822d093b713a2a9723560c15cc0c83f383521adc388e0f82d2f5272b8", checked := Try.checked }
namespace Rows
def none {H : Type} : Left H := { results := [], args := [] }

/-- 'umpirelaw05.AccmHas': WHATEVER THE INPUT: true; the input reads as it did. -/
def accmHasSpec : ChangeSpec := { name := "accmHas", fn := fun _ => fun
  | [d1, d2] => { results := [.lit (.bool true)], args := [d1, d2] }
  | _ => none }
def accmHasRow : OpenClaim := { program := "ytcbgpolfnaopcaa", sum := "53ff53b822d093b713a2a9723560c15cc0c83f383521adc388e0f82d2f5272b8", func := "umpire/umpirelaw05.AccmHas", spec := "accmHas", apart := false }
def AccmHasSaid : Prop := accmHasRow.holds Try.pinned (OpenSpec.ofChange accmHasSpec)

/-- ITS FALSE NEIGHBOUR: 'it returns false'. Refute it at one input. -/
def accmHasWrong : ChangeSpec := { name := "accmHas", fn := fun _ => fun
  | [d1, d2] => { results := [.lit (.bool false)], args := [d1, d2] }
  | _ => none }
def AccmHasWrongFalsely : Prop := accmHasRow.holds Try.pinned (OpenSpec.ofChange accmHasWrong)

/-- 'umpirelaw05.AccmWith': WHATEVER THE INPUT: true; the input reads as it did. -/
def accmWithSpec : ChangeSpec := { name := "accmWith", fn := fun _ => fun
  | [d1, d2] => { results := [.lit (.bool true)], args := [d1, d2] }
  | _ => none }
def accmWithRow : OpenClaim := { program := "ytcbgpolfnaopcaa", sum := "53ff53b822d093b713a2a9723560c15cc0c83f383521adc388e0f82d2f5272b8", func := "umpire/umpirelaw05.AccmWith", spec := "accmWith", apart := false }
def AccmWithSaid : Prop := accmWithRow.holds Try.pinned (OpenSpec.ofChange accmWithSpec)

/-- ITS FALSE NEIGHBOUR: 'it returns false'. Refute it at one input. -/
def accmWithWrong : ChangeSpec := { name := "accmWith", fn := fun _ => fun
  | [d1, d2] => { results := [.lit (.bool false)], args := [d1, d2] }
  | _ => none }
def AccmWithWrongFalsely : Prop := accmWithRow.holds Try.pinned (OpenSpec.ofChange accmWithWrong)

/-- 'umpirelaw05.AccmBytes': WHATEVER THE INPUT: true; the input reads as it did. -/
def accmBytesSpec : ChangeSpec := { name := "accmBytes", fn := fun _ => fun
  | [d1, d2] => { results := [.lit (.bool true)], args := [d1, d2] }
  | _ => none }
def accmBytesRow : OpenClaim := { program := "ytcbgpolfnaopcaa", sum := "53ff53b822d093b713a2a9723560c15cc0c83f383521adc388e0f82d2f5272b8", func := "umpire/umpirelaw05.AccmBytes", spec := "accmBytes", apart := false }
def AccmBytesSaid : Prop := accmBytesRow.holds Try.pinned (OpenSpec.ofChange accmBytesSpec)

/-- ITS FALSE NEIGHBOUR: 'it returns false'. Refute it at one input. -/
def accmBytesWrong : ChangeSpec := { name := "accmBytes", fn := fun _ => fun
  | [d1, d2] => { results := [.lit (.bool false)], args := [d1, d2] }
  | _ => none }
def AccmBytesWrongFalsely : Prop := accmBytesRow.holds Try.pinned (OpenSpec.ofChange accmBytesWrong)

/-- 'umpirelaw05.AccmSets': WHATEVER THE INPUT: true; the input reads as it did. -/
def accmSetsSpec : ChangeSpec := { name := "accmSets", fn := fun _ => fun
  | [d1, d2, d3] => { results := [.lit (.bool true)], args := [d1, d2, d3] }
  | _ => none }
def accmSetsRow : OpenClaim := { program := "ytcbgpolfnaopcaa", sum := "53ff53b822d093b713a2a9723560c15cc0c83f383521adc388e0f82d2f5272b8", func := "umpire/umpirelaw05.AccmSets", spec := "accmSets", apart := false }
def AccmSetsSaid : Prop := accmSetsRow.holds Try.pinned (OpenSpec.ofChange accmSetsSpec)

/-- ITS FALSE NEIGHBOUR: 'it returns false'. Refute it at one input. -/
def accmSetsWrong : ChangeSpec := { name := "accmSets", fn := fun _ => fun
  | [d1, d2, d3] => { results := [.lit (.bool false)], args := [d1, d2, d3] }
  | _ => none }
def AccmSetsWrongFalsely : Prop := accmSetsRow.holds Try.pinned (OpenSpec.ofChange accmSetsWrong)

/-- 'umpirelaw05.AccmKeeps': WHATEVER THE INPUT: true; the input reads as it did. -/
def accmKeepsSpec : ChangeSpec := { name := "accmKeeps", fn := fun _ => fun
  | [d] => { results := [.lit (.bool true)], args := [d] }
  | _ => none }
def accmKeepsRow : OpenClaim := { program := "ytcbgpolfnaopcaa", sum := "53ff53b822d093b713a2a9723560c15cc0c83f383521adc388e0f82d2f5272b8", func := "umpire/umpirelaw05.AccmKeeps", spec := "accmKeeps", apart := false }
def AccmKeepsSaid : Prop := accmKeepsRow.holds Try.pinned (OpenSpec.ofChange accmKeepsSpec)

/-- ITS FALSE NEIGHBOUR: 'it returns false'. Refute it at one input. -/
def accmKeepsWrong : ChangeSpec := { name := "accmKeeps", fn := fun _ => fun
  | [d] => { results := [.lit (.bool false)], args := [d] }
  | _ => none }
def AccmKeepsWrongFalsely : Prop := accmKeepsRow.holds Try.pinned (OpenSpec.ofChange accmKeepsWrong)

/- THE SECOND FORM. 'bulk': how many values and letters a reading holds, each counted each time it is reached (what is shared counts as often as it is met; a slice's spare places count too). A statement '..UptoSaid' is the law's where the arguments, and the package variables that the reading takes, are together of bulk at most 1048576: NARROWER than '..Said'. Prove '..Said' where nothing that the law and all that it calls make is longer than what came in: it says more and counts as full. Else prove '..UptoSaid'. A law counts once. -/
mutual
def uptoBulk {H : Type} : DataW H → Nat
  | .lit (.string bytes) => bytes.length + 1
  | .lit _ => 1
  | .nil => 1
  | .ptr d => uptoBulk d + 1
  | .slice elems spare => uptoBulkAll elems + uptoBulkAll spare + 1
  | .agg parts => uptoBulkAll parts + 1
  | .iface _ d => uptoBulk d + 1
  | .map entries => uptoBulkEntries entries + 1
  | .held _ => 1
def uptoBulkAll {H : Type} : List (DataW H) → Nat
  | [] => 0
  | d :: r => uptoBulk d + uptoBulkAll r
def uptoBulkEntries {H : Type} : List (Lit × DataW H) → Nat
  | [] => 0
  | x :: r => uptoBulkEntry x + uptoBulkEntries r
def uptoBulkEntry {H : Type} : Lit × DataW H → Nat
  | (.string bytes, d) => bytes.length + uptoBulk d + 1
  | (_, d) => uptoBulk d + 1
 end
def uptoSmall : (H : Type) → List (DataW H) → Bool := fun _ ds => decide (uptoBulkAll ds ≤ 1048576)
def OpenSpec.upto (s : _root_.Go.ChangeSpec) : _root_.Go.OpenSpec := { _root_.Go.OpenSpec.ofChange s with cond := some uptoSmall }

/-- 'umpirelaw05.AccmHas', WHERE WHAT IT READS IS OF BULK AT MOST 1048576: true; the input reads as it did. -/
def accmHasUptoRow : OpenClaim := { program := "ytcbgpolfnaopcaa", sum := "53ff53b822d093b713a2a9723560c15cc0c83f383521adc388e0f82d2f5272b8", func := "umpire/umpirelaw05.AccmHas", spec := "accmHas", apart := false, narrowed := true }
def AccmHasUptoSaid : Prop := accmHasUptoRow.holds Try.pinned (OpenSpec.upto accmHasSpec)

/-- 'umpirelaw05.AccmWith', WHERE WHAT IT READS IS OF BULK AT MOST 1048576: true; the input reads as it did. -/
def accmWithUptoRow : OpenClaim := { program := "ytcbgpolfnaopcaa", sum := "53ff53b822d093b713a2a9723560c15cc0c83f383521adc388e0f82d2f5272b8", func := "umpire/umpirelaw05.AccmWith", spec := "accmWith", apart := false, narrowed := true }
def AccmWithUptoSaid : Prop := accmWithUptoRow.holds Try.pinned (OpenSpec.upto accmWithSpec)

/-- 'umpirelaw05.AccmBytes', WHERE WHAT IT READS IS OF BULK AT MOST 1048576: true; the input reads as it did. -/
def accmBytesUptoRow : OpenClaim := { program := "ytcbgpolfnaopcaa", sum := "53ff53b822d093b713a2a9723560c15cc0c83f383521adc388e0f82d2f5272b8", func := "umpire/umpirelaw05.AccmBytes", spec := "accmBytes", apart := false, narrowed := true }
def AccmBytesUptoSaid : Prop := accmBytesUptoRow.holds Try.pinned (OpenSpec.upto accmBytesSpec)

/-- 'umpirelaw05.AccmSets', WHERE WHAT IT READS IS OF BULK AT MOST 1048576: true; the input reads as it did. -/
def accmSetsUptoRow : OpenClaim := { program := "ytcbgpolfnaopcaa", sum := "53ff53b822d093b713a2a9723560c15cc0c83f383521adc388e0f82d2f5272b8", func := "umpire/umpirelaw05.AccmSets", spec := "accmSets", apart := false, narrowed := true }
def AccmSetsUptoSaid : Prop := accmSetsUptoRow.holds Try.pinned (OpenSpec.upto accmSetsSpec)

/-- 'umpirelaw05.AccmKeeps', WHERE WHAT IT READS IS OF BULK AT MOST 1048576: true; the input reads as it did. -/
def accmKeepsUptoRow : OpenClaim := { program := "ytcbgpolfnaopcaa", sum := "53ff53b822d093b713a2a9723560c15cc0c83f383521adc388e0f82d2f5272b8", func := "umpire/umpirelaw05.AccmKeeps", spec := "accmKeeps", apart := false, narrowed := true }
def AccmKeepsUptoSaid : Prop := accmKeepsUptoRow.holds Try.pinned (OpenSpec.upto accmKeepsSpec)

end Rows
end Go.Proofs.Ytcbgpolfnaopcaa
