/-
  NARROWER THAN 'FOR EVERY INPUT', by the rows' own cells (each row's printed sentence says how): ChapPuts: laid · ChapReads: laid · ChapAnswers: laid · ChapRight: laid · ChapBack: laid · ChapKeeps: laid.
  DERIVED. THE GIVEN ROWS OF THIS SEAT. 6 by the template 'for every input the law returns true; each argument reads behind the call as it read before'; 0 by the template 'total and deterministic' (their statements: YtjalhlofpoknoaaDoorTotals.lean).
  GIVEN WITH THE SEED: the statements are not yours to turn. If you find one false, say at which input.
  Laid BY PROGRAM, IN A SANDBOX (cutbox-rows.mjs): the forced cells as the released guide's own fill.sh prints them over the translation f9444da3754c2963… (all of the seat's roots in one cut). By AI agents, Wed Nov 11 2026. No macro, syntax, notation, axiom, sorry.
-/
import Derived.Test.YtjalhlofpoknoaaDoorChecked
import GoSem.Claim
import GoSem.ClaimJoined
import GoSem.ClaimMapViews
import Derived.JoinedTies
import Derived.KernelRfl
namespace Go.Proofs.YtjalhlofpoknoaaDoor
/- THE CELL 'sum', in the pinned program and in every row, IS THE sha256 OF THE DUMP (.gsa) THAT YtjalhlofpoknoaaDoorProg.lean LOADS. Nothing in Lean hashes anything: it is a label: what it is worth is what the hold of that sum in a sandbox is worth. -/
noncomputable def Tryd.pinned : Pinned := { name := "ytjalhlofpoknoaadoor", sum := "f9444da3754c296393d2e042f0bbce11c463319237a15f607c4ee00981fb0d0f", checked := Tryd.checked }
namespace Rows
def none {H : Type} : Left H := { results := [], args := [] }

/- WHAT THE LISTED PACKAGE-LEVEL VARIABLES READ AS WHEN THE CALL BEGINS. Each datum BY PROGRAM (the guide's laid-datum.mjs) off the statement by which the dump's own 'gosem.cut.vars' lays the variable. In a bare row this is a premise. The card (YtjalhlofpoknoaaDoorCards.lean) ties it to the program's text. -/
def laid_math_sin {H : Type} : DataW H := .agg [.lit (.float .f64 4460209587652500685), .lit (.float .f64 13716528389658582877), .lit (.float .f64 4523617212962785441), .lit (.float .f64 13774824197404483331), .lit (.float .f64 4575957461383575504), .lit (.float .f64 13818544856648471880)]
def laid_math_cos {H : Type} : DataW H := .agg [.lit (.float .f64 13666448263388469915), .lit (.float .f64 4477121864728985349), .lit (.float .f64 13732177093698800582), .lit (.float .f64 4537941361668146421), .lit (.float .f64 13787419979223748497), .lit (.float .f64 4586165620538955083)]
def laid_math_mPi4 {H : Type} : DataW H := .agg [.lit (.int .u64 1), .lit (.int .u64 5040379952546458195), .lit (.int .u64 17892431488136887169), .lit (.int .u64 13169980181085364355), .lit (.int .u64 18204331823439776451), .lit (.int .u64 7946843935494350272), .lit (.int .u64 905889640498799673), .lit (.int .u64 18175356263134875261), .lit (.int .u64 15061281708168349961), .lit (.int .u64 15220161563773041794), .lit (.int .u64 8296664548579374057), .lit (.int .u64 4109744767560208502), .lit (.int .u64 4607516669194743839), .lit (.int .u64 16023283104648321598), .lit (.int .u64 15739233654134936430), .lit (.int .u64 11424645774684705882), .lit (.int .u64 16883842788696515318), .lit (.int .u64 8795094592981902804), .lit (.int .u64 15561835991111744016), .lit (.int .u64 12395701187267450711)]
def laid_umpire_md5_sines {H : Type} : DataW H := .agg [.lit (.int .u32 3614090360), .lit (.int .u32 3905402710), .lit (.int .u32 606105819), .lit (.int .u32 3250441966), .lit (.int .u32 4118548399), .lit (.int .u32 1200080426), .lit (.int .u32 2821735955), .lit (.int .u32 4249261313), .lit (.int .u32 1770035416), .lit (.int .u32 2336552879), .lit (.int .u32 4294925233), .lit (.int .u32 2304563134), .lit (.int .u32 1804603682), .lit (.int .u32 4254626195), .lit (.int .u32 2792965006), .lit (.int .u32 1236535329), .lit (.int .u32 4129170786), .lit (.int .u32 3225465664), .lit (.int .u32 643717713), .lit (.int .u32 3921069994), .lit (.int .u32 3593408605), .lit (.int .u32 38016083), .lit (.int .u32 3634488961), .lit (.int .u32 3889429448), .lit (.int .u32 568446438), .lit (.int .u32 3275163606), .lit (.int .u32 4107603335), .lit (.int .u32 1163531501), .lit (.int .u32 2850285829), .lit (.int .u32 4243563512), .lit (.int .u32 1735328473), .lit (.int .u32 2368359562), .lit (.int .u32 4294588738), .lit (.int .u32 2272392833), .lit (.int .u32 1839030562), .lit (.int .u32 4259657740), .lit (.int .u32 2763975236), .lit (.int .u32 1272893353), .lit (.int .u32 4139469664), .lit (.int .u32 3200236656), .lit (.int .u32 681279174), .lit (.int .u32 3936430074), .lit (.int .u32 3572445317), .lit (.int .u32 76029189), .lit (.int .u32 3654602809), .lit (.int .u32 3873151461), .lit (.int .u32 530742520), .lit (.int .u32 3299628645), .lit (.int .u32 4096336452), .lit (.int .u32 1126891415), .lit (.int .u32 2878612391), .lit (.int .u32 4237533241), .lit (.int .u32 1700485571), .lit (.int .u32 2399980690), .lit (.int .u32 4293915773), .lit (.int .u32 2240044497), .lit (.int .u32 1873313359), .lit (.int .u32 4264355552), .lit (.int .u32 2734768916), .lit (.int .u32 1309151649), .lit (.int .u32 4149444226), .lit (.int .u32 3174756917), .lit (.int .u32 718787259), .lit (.int .u32 3951481745)]
def laid_umpire_md5_turns {H : Type} : DataW H := .agg [.agg [.lit (.int .i64 7), .lit (.int .i64 12), .lit (.int .i64 17), .lit (.int .i64 22)], .agg [.lit (.int .i64 5), .lit (.int .i64 9), .lit (.int .i64 14), .lit (.int .i64 20)], .agg [.lit (.int .i64 4), .lit (.int .i64 11), .lit (.int .i64 16), .lit (.int .i64 23)], .agg [.lit (.int .i64 6), .lit (.int .i64 10), .lit (.int .i64 15), .lit (.int .i64 21)]]

/-- 'umpirelaw17.ChapPuts': WHATEVER THE INPUT: true; the input reads as it did. -/
def chapPutsSpec : ChangeSpec := { name := "chapPuts", fn := fun _ => fun
  | [d] => { results := [.lit (.bool true)], args := [d] }
  | _ => none }
def chapPutsRow : OpenClaim := { program := "ytjalhlofpoknoaadoor", sum := "f9444da3754c296393d2e042f0bbce11c463319237a15f607c4ee00981fb0d0f", func := "umpire/umpirelaw17.ChapPuts", spec := "chapPuts", inPlace := ["math.Float64bits", "math.Float64frombits", "math/bits.Add64"], named := ["math._cos", "math._sin", "math.mPi4", "umpire/md5.sines", "umpire/md5.turns"], apart := false, laid := [("math._sin", laid_math_sin), ("math._cos", laid_math_cos), ("math.mPi4", laid_math_mPi4), ("umpire/md5.sines", laid_umpire_md5_sines), ("umpire/md5.turns", laid_umpire_md5_turns)] }
def ChapPutsSaid : Prop := chapPutsRow.holds Tryd.pinned (OpenSpec.ofChange chapPutsSpec)

/-- ITS FALSE NEIGHBOUR: 'it returns false'. Refute it at one input. -/
def chapPutsWrong : ChangeSpec := { name := "chapPuts", fn := fun _ => fun
  | [d] => { results := [.lit (.bool false)], args := [d] }
  | _ => none }
def ChapPutsWrongFalsely : Prop := chapPutsRow.holds Tryd.pinned (OpenSpec.ofChange chapPutsWrong)

/-- 'umpirelaw17.ChapReads': WHATEVER THE INPUT: true; the input reads as it did. -/
def chapReadsSpec : ChangeSpec := { name := "chapReads", fn := fun _ => fun
  | [d] => { results := [.lit (.bool true)], args := [d] }
  | _ => none }
def chapReadsRow : OpenClaim := { program := "ytjalhlofpoknoaadoor", sum := "f9444da3754c296393d2e042f0bbce11c463319237a15f607c4ee00981fb0d0f", func := "umpire/umpirelaw17.ChapReads", spec := "chapReads", inPlace := ["math.Float64bits", "math.Float64frombits", "math/bits.Add64"], named := ["math._cos", "math._sin", "math.mPi4", "umpire/md5.sines", "umpire/md5.turns"], apart := false, laid := [("math._sin", laid_math_sin), ("math._cos", laid_math_cos), ("math.mPi4", laid_math_mPi4), ("umpire/md5.sines", laid_umpire_md5_sines), ("umpire/md5.turns", laid_umpire_md5_turns)] }
def ChapReadsSaid : Prop := chapReadsRow.holds Tryd.pinned (OpenSpec.ofChange chapReadsSpec)

/-- ITS FALSE NEIGHBOUR: 'it returns false'. Refute it at one input. -/
def chapReadsWrong : ChangeSpec := { name := "chapReads", fn := fun _ => fun
  | [d] => { results := [.lit (.bool false)], args := [d] }
  | _ => none }
def ChapReadsWrongFalsely : Prop := chapReadsRow.holds Tryd.pinned (OpenSpec.ofChange chapReadsWrong)

/-- 'umpirelaw17.ChapAnswers': WHATEVER THE INPUT: true; the input reads as it did. -/
def chapAnswersSpec : ChangeSpec := { name := "chapAnswers", fn := fun _ => fun
  | [d1, d2, d3, d4] => { results := [.lit (.bool true)], args := [d1, d2, d3, d4] }
  | _ => none }
def chapAnswersRow : OpenClaim := { program := "ytjalhlofpoknoaadoor", sum := "f9444da3754c296393d2e042f0bbce11c463319237a15f607c4ee00981fb0d0f", func := "umpire/umpirelaw17.ChapAnswers", spec := "chapAnswers", inPlace := ["math.Float64bits", "math.Float64frombits", "math/bits.Add64"], named := ["math._cos", "math._sin", "math.mPi4", "umpire/md5.sines", "umpire/md5.turns"], apart := false, laid := [("math._sin", laid_math_sin), ("math._cos", laid_math_cos), ("math.mPi4", laid_math_mPi4), ("umpire/md5.sines", laid_umpire_md5_sines), ("umpire/md5.turns", laid_umpire_md5_turns)] }
def ChapAnswersSaid : Prop := chapAnswersRow.holds Tryd.pinned (OpenSpec.ofChange chapAnswersSpec)

/-- ITS FALSE NEIGHBOUR: 'it returns false'. Refute it at one input. -/
def chapAnswersWrong : ChangeSpec := { name := "chapAnswers", fn := fun _ => fun
  | [d1, d2, d3, d4] => { results := [.lit (.bool false)], args := [d1, d2, d3, d4] }
  | _ => none }
def ChapAnswersWrongFalsely : Prop := chapAnswersRow.holds Tryd.pinned (OpenSpec.ofChange chapAnswersWrong)

/-- 'umpirelaw17.ChapRight': WHATEVER THE INPUT: true; the input reads as it did. -/
def chapRightSpec : ChangeSpec := { name := "chapRight", fn := fun _ => fun
  | [d1, d2, d3, d4, d5] => { results := [.lit (.bool true)], args := [d1, d2, d3, d4, d5] }
  | _ => none }
def chapRightRow : OpenClaim := { program := "ytjalhlofpoknoaadoor", sum := "f9444da3754c296393d2e042f0bbce11c463319237a15f607c4ee00981fb0d0f", func := "umpire/umpirelaw17.ChapRight", spec := "chapRight", inPlace := ["math.Float64bits", "math.Float64frombits", "math/bits.Add64"], named := ["math._cos", "math._sin", "math.mPi4", "umpire/md5.sines", "umpire/md5.turns"], apart := false, laid := [("math._sin", laid_math_sin), ("math._cos", laid_math_cos), ("math.mPi4", laid_math_mPi4), ("umpire/md5.sines", laid_umpire_md5_sines), ("umpire/md5.turns", laid_umpire_md5_turns)] }
def ChapRightSaid : Prop := chapRightRow.holds Tryd.pinned (OpenSpec.ofChange chapRightSpec)

/-- ITS FALSE NEIGHBOUR: 'it returns false'. Refute it at one input. -/
def chapRightWrong : ChangeSpec := { name := "chapRight", fn := fun _ => fun
  | [d1, d2, d3, d4, d5] => { results := [.lit (.bool false)], args := [d1, d2, d3, d4, d5] }
  | _ => none }
def ChapRightWrongFalsely : Prop := chapRightRow.holds Tryd.pinned (OpenSpec.ofChange chapRightWrong)

/-- 'umpirelaw17.ChapBack': WHATEVER THE INPUT: true; the input reads as it did. -/
def chapBackSpec : ChangeSpec := { name := "chapBack", fn := fun _ => fun
  | [d1, d2] => { results := [.lit (.bool true)], args := [d1, d2] }
  | _ => none }
def chapBackRow : OpenClaim := { program := "ytjalhlofpoknoaadoor", sum := "f9444da3754c296393d2e042f0bbce11c463319237a15f607c4ee00981fb0d0f", func := "umpire/umpirelaw17.ChapBack", spec := "chapBack", inPlace := ["math.Float64bits", "math.Float64frombits", "math/bits.Add64"], named := ["math._cos", "math._sin", "math.mPi4", "umpire/md5.sines", "umpire/md5.turns"], apart := false, laid := [("math._sin", laid_math_sin), ("math._cos", laid_math_cos), ("math.mPi4", laid_math_mPi4), ("umpire/md5.sines", laid_umpire_md5_sines), ("umpire/md5.turns", laid_umpire_md5_turns)] }
def ChapBackSaid : Prop := chapBackRow.holds Tryd.pinned (OpenSpec.ofChange chapBackSpec)

/-- ITS FALSE NEIGHBOUR: 'it returns false'. Refute it at one input. -/
def chapBackWrong : ChangeSpec := { name := "chapBack", fn := fun _ => fun
  | [d1, d2] => { results := [.lit (.bool false)], args := [d1, d2] }
  | _ => none }
def ChapBackWrongFalsely : Prop := chapBackRow.holds Tryd.pinned (OpenSpec.ofChange chapBackWrong)

/-- 'umpirelaw17.ChapKeeps': WHATEVER THE INPUT: true; the input reads as it did. -/
def chapKeepsSpec : ChangeSpec := { name := "chapKeeps", fn := fun _ => fun
  | [d] => { results := [.lit (.bool true)], args := [d] }
  | _ => none }
def chapKeepsRow : OpenClaim := { program := "ytjalhlofpoknoaadoor", sum := "f9444da3754c296393d2e042f0bbce11c463319237a15f607c4ee00981fb0d0f", func := "umpire/umpirelaw17.ChapKeeps", spec := "chapKeeps", inPlace := ["math.Float64bits", "math.Float64frombits", "math/bits.Add64"], named := ["math._cos", "math._sin", "math.mPi4", "umpire/md5.sines", "umpire/md5.turns"], apart := false, laid := [("math._sin", laid_math_sin), ("math._cos", laid_math_cos), ("math.mPi4", laid_math_mPi4), ("umpire/md5.sines", laid_umpire_md5_sines), ("umpire/md5.turns", laid_umpire_md5_turns)] }
def ChapKeepsSaid : Prop := chapKeepsRow.holds Tryd.pinned (OpenSpec.ofChange chapKeepsSpec)

/-- ITS FALSE NEIGHBOUR: 'it returns false'. Refute it at one input. -/
def chapKeepsWrong : ChangeSpec := { name := "chapKeeps", fn := fun _ => fun
  | [d] => { results := [.lit (.bool false)], args := [d] }
  | _ => none }
def ChapKeepsWrongFalsely : Prop := chapKeepsRow.holds Tryd.pinned (OpenSpec.ofChange chapKeepsWrong)

/- THE SECOND FORM. 'bulk': how many values and letters a reading holds, each counted each time it is reached (what is shared counts as often as it is met; a slice's spare places count too). A statement '..UptoSaid' is the law's where the arguments, and the package variables that the reading takes, are together of bulk at most 1048576: NARROWER than '..Said'. Prove '..Said' where nothing that the law and all that it calls make is longer than what came in: it says more and counts as full. Else prove '..UptoSaid'. A law counts once. -/
mutual
def uptoBulk {H : Type} : DataW H → Nat
  | .lit (.string bytes) => bytes.length + 1
  | .lit _ => 1
  | .nil => 1
  | .ptr d => uptoBulk d + 1
  | .slice elems spare => uptoBulkAll elems + uptoBulkAll spare + 1
  | .agg parts => uptoBulkAll parts + 1
  | .iface _ d => uptoBulk d + 1
  | .map entries => uptoBulkEntries entries + 1
  | .held _ => 1
def uptoBulkAll {H : Type} : List (DataW H) → Nat
  | [] => 0
  | d :: r => uptoBulk d + uptoBulkAll r
def uptoBulkEntries {H : Type} : List (Lit × DataW H) → Nat
  | [] => 0
  | x :: r => uptoBulkEntry x + uptoBulkEntries r
def uptoBulkEntry {H : Type} : Lit × DataW H → Nat
  | (.string bytes, d) => bytes.length + uptoBulk d + 1
  | (_, d) => uptoBulk d + 1
 end
def uptoSmall : (H : Type) → List (DataW H) → Bool := fun _ ds => decide (uptoBulkAll ds ≤ 1048576)
def OpenSpec.upto (s : _root_.Go.ChangeSpec) : _root_.Go.OpenSpec := { _root_.Go.OpenSpec.ofChange s with cond := some uptoSmall }

/-- 'umpirelaw17.ChapPuts', WHERE WHAT IT READS IS OF BULK AT MOST 1048576: true; the input reads as it did. -/
def chapPutsUptoRow : OpenClaim := { program := "ytjalhlofpoknoaadoor", sum := "f9444da3754c296393d2e042f0bbce11c463319237a15f607c4ee00981fb0d0f", func := "umpire/umpirelaw17.ChapPuts", spec := "chapPuts", inPlace := ["math.Float64bits", "math.Float64frombits", "math/bits.Add64"], named := ["math._cos", "math._sin", "math.mPi4", "umpire/md5.sines", "umpire/md5.turns"], apart := false, laid := [("math._sin", laid_math_sin), ("math._cos", laid_math_cos), ("math.mPi4", laid_math_mPi4), ("umpire/md5.sines", laid_umpire_md5_sines), ("umpire/md5.turns", laid_umpire_md5_turns)], narrowed := true }
def ChapPutsUptoSaid : Prop := chapPutsUptoRow.holds Tryd.pinned (OpenSpec.upto chapPutsSpec)

/-- 'umpirelaw17.ChapReads', WHERE WHAT IT READS IS OF BULK AT MOST 1048576: true; the input reads as it did. -/
def chapReadsUptoRow : OpenClaim := { program := "ytjalhlofpoknoaadoor", sum := "f9444da3754c296393d2e042f0bbce11c463319237a15f607c4ee00981fb0d0f", func := "umpire/umpirelaw17.ChapReads", spec := "chapReads", inPlace := ["math.Float64bits", "math.Float64frombits", "math/bits.Add64"], named := ["math._cos", "math._sin", "math.mPi4", "umpire/md5.sines", "umpire/md5.turns"], apart := false, laid := [("math._sin", laid_math_sin), ("math._cos", laid_math_cos), ("math.mPi4", laid_math_mPi4), ("umpire/md5.sines", laid_umpire_md5_sines), ("umpire/md5.turns", laid_umpire_md5_turns)], narrowed := true }
def ChapReadsUptoSaid : Prop := chapReadsUptoRow.holds Tryd.pinned (OpenSpec.upto chapReadsSpec)

/-- 'umpirelaw17.ChapAnswers', WHERE WHAT IT READS IS OF BULK AT MOST 1048576: true; the input reads as it did. -/
def chapAnswersUptoRow : OpenClaim := { program := "ytjalhlofpoknoaadoor", sum := "f9444da3754c296393d2e042f0bbce11c463319237a15f607c4ee00981fb0d0f", func := "umpire/umpirelaw17.ChapAnswers", spec := "chapAnswers", inPlace := ["math.Float64bits", "math.Float64frombits", "math/bits.Add64"], named := ["math._cos", "math._sin", "math.mPi4", "umpire/md5.sines", "umpire/md5.turns"], apart := false, laid := [("math._sin", laid_math_sin), ("math._cos", laid_math_cos), ("math.mPi4", laid_math_mPi4), ("umpire/md5.sines", laid_umpire_md5_sines), ("umpire/md5.turns", laid_umpire_md5_turns)], narrowed := true }
def ChapAnswersUptoSaid : Prop := chapAnswersUptoRow.holds Tryd.pinned (OpenSpec.upto chapAnswersSpec)

/-- 'umpirelaw17.ChapRight', WHERE WHAT IT READS IS OF BULK AT MOST 1048576: true; the input reads as it did. -/
def chapRightUptoRow : OpenClaim := { program := "ytjalhlofpoknoaadoor", sum := "f9444da3754c296393d2e042f0bbce11c463319237a15f607c4ee00981fb0d0f", func := "umpire/umpirelaw17.ChapRight", spec := "chapRight", inPlace := ["math.Float64bits", "math.Float64frombits", "math/bits.Add64"], named := ["math._cos", "math._sin", "math.mPi4", "umpire/md5.sines", "umpire/md5.turns"], apart := false, laid := [("math._sin", laid_math_sin), ("math._cos", laid_math_cos), ("math.mPi4", laid_math_mPi4), ("umpire/md5.sines", laid_umpire_md5_sines), ("umpire/md5.turns", laid_umpire_md5_turns)], narrowed := true }
def ChapRightUptoSaid : Prop := chapRightUptoRow.holds Tryd.pinned (OpenSpec.upto chapRightSpec)

/-- 'umpirelaw17.ChapBack', WHERE WHAT IT READS IS OF BULK AT MOST 1048576: true; the input reads as it did. -/
def chapBackUptoRow : OpenClaim := { program := "ytjalhlofpoknoaadoor", sum := "f9444da3754c296393d2e042f0bbce11c463319237a15f607c4ee00981fb0d0f", func := "umpire/umpirelaw17.ChapBack", spec := "chapBack", inPlace := ["math.Float64bits", "math.Float64frombits", "math/bits.Add64"], named := ["math._cos", "math._sin", "math.mPi4", "umpire/md5.sines", "umpire/md5.turns"], apart := false, laid := [("math._sin", laid_math_sin), ("math._cos", laid_math_cos), ("math.mPi4", laid_math_mPi4), ("umpire/md5.sines", laid_umpire_md5_sines), ("umpire/md5.turns", laid_umpire_md5_turns)], narrowed := true }
def ChapBackUptoSaid : Prop := chapBackUptoRow.holds Tryd.pinned (OpenSpec.upto chapBackSpec)

/-- 'umpirelaw17.ChapKeeps', WHERE WHAT IT READS IS OF BULK AT MOST 1048576: true; the input reads as it did. -/
def chapKeepsUptoRow : OpenClaim := { program := "ytjalhlofpoknoaadoor", sum := "f9444da3754c296393d2e042f0bbce11c463319237a15f607c4ee00981fb0d0f", func := "umpire/umpirelaw17.ChapKeeps", spec := "chapKeeps", inPlace := ["math.Float64bits", "math.Float64frombits", "math/bits.Add64"], named := ["math._cos", "math._sin", "math.mPi4", "umpire/md5.sines", "umpire/md5.turns"], apart := false, laid := [("math._sin", laid_math_sin), ("math._cos", laid_math_cos), ("math.mPi4", laid_math_mPi4), ("umpire/md5.sines", laid_umpire_md5_sines), ("umpire/md5.turns", laid_umpire_md5_turns)], narrowed := true }
def ChapKeepsUptoSaid : Prop := chapKeepsUptoRow.holds Tryd.pinned (OpenSpec.upto chapKeepsSpec)

end Rows
end Go.Proofs.YtjalhlofpoknoaaDoor
