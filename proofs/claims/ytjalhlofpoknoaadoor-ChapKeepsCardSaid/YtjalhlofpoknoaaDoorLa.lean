/- What came in, and what the listed variables give the walks. -/
import Derived.Test.YtjalhlofpoknoaaDoorCg
import Derived.Deep.Strs
import Derived.Lib.SmallJoins
import Derived.Deep.Slices
import Derived.Test.YtjalhlofpoknoaaDoorRows
import Derived.Test.YtjalhlofpoknoaaDoorTie
import Derived.Test.YtjalhlofpoknoaaDoorCards
import Derived.ProofKit
import Derived.LaidMore
import Derived.OpenShut
import Derived.ShutString
import Derived.ChangeOld
import Derived.Below
import Derived.Lib.LaidU8
import Derived.Stop.Joined
import Derived.Stop.LaidErr
import Derived.SevenTiedAt
namespace Go.Proofs.YtjalhlofpoknoaaDoor
open Go.ChangeShapes Go.WideShapes Go.ChangeAt Go.RowKit

theorem own : ownKnob Tryd.prog.godebug = none := by kernel_rfl
theorem laidOut : laidOutB Tryd.prog = true := by kernel_rfl

/-- The bytes of numbers. -/
def byt (zs : List Int) : List UInt8 := zs.map fun z => z.toNat.toUInt8
theorem byt_length (zs : List Int) : (byt zs).length = zs.length := by simp [byt]

theorem row_of_cells {w : World} {a : Option Addr} {len cap : Nat} {zs : List Int} (hl : len ≤ cap) (hm : cap ≤ maxLen) (hz : zs.length = cap) (hnil : a = none → cap = 0)
    (hc : ∀ x, a = some x → ∀ c, c < cap → w.cell? (x.add c) = some (.int .u8 (zs.getD c 0))) (hw : ∀ n ∈ zs, (Lit.int .u8 n).wf = true) : RowAt w a cap (byt (zs.take len)) := by
  refine ⟨by rw [byt_length]; simp; omega, hm, hnil, fun ad e j u hu => ?_⟩
  have hj : j < len := by
    have := (List.getElem?_eq_some_iff.1 hu).1
    rw [Lib.byteCells_length, byt_length] at this
    simp at this
    omega
  rw [hc ad e j (by omega)]
  have e2 : zs[j]? = some (zs[j]'(by omega)) := List.getElem?_eq_getElem (by omega)
  have hb := bounds_u8 (hw _ (List.getElem_mem (l := zs) (n := j) (by omega)))
  simp only [Lib.byteCells, byt, List.getElem?_map, List.getElem?_take, if_pos hj, e2, Option.map_some, Option.some.injEq] at hu
  rw [← hu, List.getD_eq_getElem?_getD, e2]
  simp
  omega

theorem open_bytes {H : Type} {enc : TypeId × Value → H} {w : World} {base : Nat} {held : Bool} {a : Option Addr} {len cap : Nat} {d : DataW H} {ps : List MemPlace}
    (h : DataW.Trod enc Tryd.prog w base (fun _ => true) held 22 (.slice a len cap) d ps) : ∃ xs : List UInt8, xs.length = len ∧ RowAt w a cap xs := by
  obtain ⟨fuel, hf⟩ := h
  rcases open_ints Tryd.underlying22 Tryd.underlying5 (by kernel_rfl) hf with ⟨hcs, _⟩ | ⟨x, l, c, zs, hcs, _, hl, hm, hz, _, hcell, hwz⟩
  · simp [Value.cells] at hcs
    obtain ⟨rfl, rfl, rfl⟩ := hcs
    exact ⟨[], rfl, rowAt_nil w⟩
  · simp [Value.cells] at hcs
    obtain ⟨rfl, rfl, rfl⟩ := hcs
    simp only [if_true] at hz
    refine ⟨byt (zs.take len), by rw [byt_length]; simp; omega, row_of_cells hl hm hz (fun e => by cases e) (fun y e j hj => ?_) hwz⟩
    cases e
    exact hcell j (by omega)

theorem txt_of_val {H : Type} {enc : TypeId × Value → H} {w : World} {base : Nat} {sp : Nat → Bool} {held : Bool} {n : Nat} {v : Value} {y : DataW H × List MemPlace} (h : DataW.trod enc Tryd.prog w base sp held n 9 [v] = some y) : ∃ s : List UInt8, v = .string ⟨s.toArray⟩ := by
  obtain ⟨z, hz, _, _⟩ := DataW.trod_string Tryd.underlying9 h
  simp only [List.cons.injEq, and_true] at hz
  obtain ⟨s, rfl⟩ := txt_of z
  exact ⟨s, hz⟩
theorem open_txt {r : Reach} {b0 : Nat} {w : World} {v : Value} (hval : Value.okWide Tryd.prog w r b0 9 v) : ∃ s : List UInt8, v = .string ⟨s.toArray⟩ := by
  obtain ⟨z, rfl⟩ := okWide_string Tryd.underlying9 hval
  obtain ⟨s, rfl⟩ := txt_of z
  exact ⟨s, rfl⟩
theorem open_ch {H : Type} {enc : TypeId × Value → H} {w : World} {base : Nat} {held : Bool} {r : Reach} {b0 : Nat} {v : Value} {d : DataW H} {ps : List MemPlace} (hval : Value.okWide Tryd.prog w r b0 24 v) (h : DataW.Trod enc Tryd.prog w base (fun _ => true) held 24 v d ps) :
    ∃ (p : Option Addr) (c : Nat) (xs s : List UInt8), v = .agg (ccells p xs.length c s).toArray ∧ RowAt w p c xs := by
  obtain ⟨v0, v1, y0, y1, n, rfl, _, _, t0, t1⟩ := Go.Joins.open_agg2 Tryd.underlying24 (by kernel_rfl) (by kernel_rfl) hval h
  obtain ⟨s, rfl⟩ := txt_of_val t1
  rcases open_ints Tryd.underlying22 Tryd.underlying5 (by kernel_rfl) t0 with ⟨hcs, _⟩ | ⟨x, l, c, zs, hcs, _, hl, hm, hz, _, hcell, hwz⟩
  · simp only [List.cons.injEq, and_true] at hcs
    subst hcs
    exact ⟨none, 0, [], s, rfl, rowAt_nil w⟩
  · simp only [List.cons.injEq, and_true] at hcs
    subst hcs
    simp only [if_true] at hz
    have hbl : (byt (zs.take l)).length = l := by rw [byt_length]; simp; omega
    refine ⟨some x, c, byt (zs.take l), s, by rw [hbl]; rfl, row_of_cells hl hm hz (fun e => by cases e) (fun y e j hj => ?_) hwz⟩
    cases e
    exact hcell j (by omega)

/-- The lists of the rows. -/
def laid5 : List (String × DataW Unit) := [("math._sin", Rows.laid_math_sin), ("math._cos", Rows.laid_math_cos), ("math.mPi4", Rows.laid_math_mPi4), ("umpire/md5.sines", Rows.laid_umpire_md5_sines), ("umpire/md5.turns", Rows.laid_umpire_md5_turns)]

theorem gSine : Tryd.prog.globalNamed "umpire/md5.sines" = some 0 := by kernel_rfl
theorem tSine : (Tryd.prog.globals[0]?).map (·.type) = some 64 := by kernel_rfl
theorem gTurn : Tryd.prog.globalNamed "umpire/md5.turns" = some 1 := by kernel_rfl
theorem tTurn : (Tryd.prog.globals[1]?).map (·.type) = some 68 := by kernel_rfl

def sineZ : List Int := S3.Md.S.map fun n => ((n : Nat) : Int)
theorem sine_data : (Rows.laid_umpire_md5_sines : DataW Unit) = Lib.tabData .u32 sineZ := by kernel_rfl
def turnZ (i : Nat) : List Int := ((S3.Md.T.drop (4 * i)).take 4).map fun n => ((n : Nat) : Int)
theorem turn_data : (Rows.laid_umpire_md5_turns : DataW Unit) = .agg [Lib.tabData .i64 (turnZ 0), Lib.tabData .i64 (turnZ 1), Lib.tabData .i64 (turnZ 2), Lib.tabData .i64 (turnZ 3)] := by kernel_rfl

theorem tabs_of_reads {W : World} (h1 : Lib.VarReads Tryd.prog W "umpire/md5.sines" Rows.laid_umpire_md5_sines) (h2 : Lib.VarReads Tryd.prog W "umpire/md5.turns" Rows.laid_umpire_md5_turns) : S3.Tabs W := by
  rw [sine_data] at h1
  rw [turn_data] at h2
  obtain ⟨g1, t1, cs1, f1, p1, e1, y1, v1, d1⟩ := h1
  obtain ⟨g2, t2, cs2, f2, p2, e2, y2, v2, d2⟩ := h2
  obtain rfl := Option.some.inj (gSine.symm.trans e1)
  obtain rfl := Option.some.inj (tSine.symm.trans y1)
  obtain rfl := Option.some.inj (gTurn.symm.trans e2)
  obtain rfl := Option.some.inj (tTurn.symm.trans y2)
  have c1 := Lib.cells_of_tab Tryd.underlying64 Tryd.underlying46 (by kernel_rfl) (by kernel_rfl) d1
  have hT : ∀ i, i < 16 → W.cell? ⟨1, i, none⟩ = some (.int .i64 (S3.Md.T.getD i 0 : Nat)) := by
    intro i hi
    rw [World.var?_cell gTurn v2 i]
    obtain ⟨fu, d, q, hd, ht⟩ := Lib.array_elem Tryd.underlying68 d2 (i / 4) (by omega)
    have hc67 : Tryd.prog.cellsOf 67 = 4 := by kernel_rfl
    rw [hc67] at ht
    have hd' : d = Lib.tabData .i64 (turnZ (i / 4)) := by
      have : i / 4 = 0 ∨ i / 4 = 1 ∨ i / 4 = 2 ∨ i / 4 = 3 := by omega
      rcases this with e | e | e | e <;> rw [e] at hd ⊢ <;> exact (Option.some.inj hd).symm
    rw [hd'] at ht
    have c2 := Lib.cells_of_tab Tryd.underlying67 Tryd.underlying3 (by kernel_rfl) (by kernel_rfl) ht
    have h3 : (List.take 4 (List.drop (i / 4 * 4) cs2.toList))[i % 4]? = ((turnZ (i / 4)).map fun z => Value.int .i64 z)[i % 4]? := by rw [c2]
    rw [List.getElem?_take, if_pos (by omega), List.getElem?_drop, show i / 4 * 4 + i % 4 = i by omega] at h3
    rw [← Array.getElem?_toList, h3]
    have h4 : ∀ i, i < 16 → ((turnZ (i / 4)).map fun z => Value.int .i64 z)[i % 4]? = some (Value.int .i64 (S3.Md.T.getD i 0 : Nat)) := by
      intro i hi
      have : ((turnZ (i / 4)).map fun z => Value.int .i64 z)[i % 4]? = ((turnZ (i / 4))[i % 4]?).map fun z => Value.int .i64 z := by simp
      rw [this]
      have h5 : ∀ i, i < 16 → (turnZ (i / 4))[i % 4]? = some ((S3.Md.T.getD i 0 : Nat) : Int) := by decide
      rw [h5 i hi]; rfl
    exact h4 i hi
  refine ⟨fun i hi => ?_, hT, ?_⟩
  · rw [World.var?_cell gSine v1 i, ← Array.getElem?_toList, c1]
    have : (sineZ.map fun z => Value.int .u32 z)[i]? = (sineZ[i]?).map fun z => Value.int .u32 z := by simp
    rw [this]
    have h5 : ∀ i, i < 64 → sineZ[i]? = some ((S3.Md.sn i : Nat) : Int) := by decide
    rw [h5 i hi]; rfl
  · have c := hT 0 (by omega)
    rcases Nat.lt_or_ge 1 W.heap.size with h3 | h3
    · exact h3
    · simp [World.cell?, Array.getElem?_eq_none h3] at c
theorem tabs_of_laid5 {W : World} (h : laidMetH Tryd.prog laid5 W) : S3.Tabs W := by
  rw [MakeChecks.laidMetH_plain _ _ _ (by kernel_rfl)] at h
  exact tabs_of_reads (Lib.laidMet.reads h (.tail _ (.tail _ (.tail _ (.head _))))) (Lib.laidMet.reads h (.tail _ (.tail _ (.tail _ (.tail _ (.head _))))))

theorem door_met5 (os : Os) (args : Array Value) : laidMetH Tryd.prog laid5 ((World.doorLaid Tryd.prog 400 os).forCall (fun _ _ => 0) ⟨#[], args, []⟩).memory :=
  laidMetH_of_parts3 (fuel := 8) (laidMet_of_run' 8 (by kernel_rfl) (by kernel_rfl)) (by kernel_rfl) (by kernel_rfl)
def flData (zs : List Nat) : DataW Unit := .agg (zs.map fun z => .lit (.float .f64 z))
theorem trod_float {H : Type} {enc : TypeId × Value → H} {P : Program} {w : World} {base : Nat} {spare : Nat → Bool} {held : Bool} {fuel : Nat} {t : TypeId} {cs : List Value} {x : DataW H × List MemPlace} {k : FloatKind}
    (ht : P.underlying t = some (.float k)) (h : DataW.trod enc P w base spare held fuel t cs = some x) : ∃ n, cs = [.float k n] ∧ x = (.lit (.float k n), []) := by
  cases fuel with
  | zero => simp [DataW.trod] at h
  | succ n =>
    unfold DataW.trod at h
    rw [ht] at h
    split at h <;> simp_all
theorem float_cell {W : World} {name : String} {g : Nat} {zs : List Nat} (hg : Tryd.prog.globalNamed name = some g) (hty : (Tryd.prog.globals[g]?).map (·.type) = some 77) (h : Lib.VarReads Tryd.prog W name (flData zs)) (i : Nat) (hi : i < 6) (z : Nat) (hz : zs[i]? = some z) :
    W.cell? ⟨g, i, none⟩ = some (.float .f64 z) := by
  obtain ⟨g1, t1, cs1, f1, p1, e1, y1, v1, d1⟩ := h
  obtain rfl := Option.some.inj (hg.symm.trans e1)
  obtain rfl := Option.some.inj (hty.symm.trans y1)
  rw [World.var?_cell hg v1 i]
  obtain ⟨fu, d, q, hd, ht⟩ := Lib.array_elem Tryd.underlying77 d1 i hi
  have hc61 : Tryd.prog.cellsOf 61 = 1 := by kernel_rfl
  rw [hc61] at ht
  obtain ⟨n, hc, hx⟩ := trod_float Tryd.underlying61 ht
  have hdz : d = .lit (.float .f64 z) := by
    rw [List.getElem?_map, hz] at hd
    exact (Option.some.inj hd).symm
  have hnz : n = z := by
    have h9 := congrArg Prod.fst hx
    rw [hdz] at h9
    simpa using h9.symm
  have h3 : (List.take 1 (List.drop (i * 1) cs1.toList))[0]? = some (.float .f64 n) := by rw [hc]; rfl
  rw [List.getElem?_take, if_pos (by omega), List.getElem?_drop, Nat.mul_one, Nat.add_zero] at h3
  rw [← Array.getElem?_toList, h3, hnz]
def cosL : List Nat := [13666448263388469915, 4477121864728985349, 13732177093698800582, 4537941361668146421, 13787419979223748497, 4586165620538955083]
def sinL : List Nat := [4460209587652500685, 13716528389658582877, 4523617212962785441, 13774824197404483331, 4575957461383575504, 13818544856648471880]
theorem gCos : Tryd.prog.globalNamed "math._cos" = some 3 := by kernel_rfl
theorem gSin : Tryd.prog.globalNamed "math._sin" = some 4 := by kernel_rfl
theorem tCos : (Tryd.prog.globals[3]?).map (·.type) = some 77 := by kernel_rfl
theorem tSin : (Tryd.prog.globals[4]?).map (·.type) = some 77 := by kernel_rfl
theorem cos_data : (Rows.laid_math_cos : DataW Unit) = flData cosL := by kernel_rfl
theorem sin_data : (Rows.laid_math_sin : DataW Unit) = flData sinL := by kernel_rfl
theorem trig_of_laid5 {W : World} (h : laidMetH Tryd.prog laid5 W) : S3.Trig W := by
  rw [MakeChecks.laidMetH_plain _ _ _ (by kernel_rfl)] at h
  have hs := Lib.laidMet.reads h (.head _)
  have hc := Lib.laidMet.reads h (.tail _ (.head _))
  rw [sin_data] at hs
  rw [cos_data] at hc
  have c := fun i hi z hz => float_cell gCos tCos hc i hi z hz
  have s := fun i hi z hz => float_cell gSin tSin hs i hi z hz
  refine ⟨c 0 (by omega) _ rfl, c 1 (by omega) _ rfl, c 2 (by omega) _ rfl, c 3 (by omega) _ rfl, c 4 (by omega) _ rfl, c 5 (by omega) _ rfl, s 0 (by omega) _ rfl, s 1 (by omega) _ rfl, s 2 (by omega) _ rfl, s 3 (by omega) _ rfl, s 4 (by omega) _ rfl, s 5 (by omega) _ rfl, ?_⟩
  have c9 := s 0 (by omega) _ rfl
  rcases Nat.lt_or_ge 4 W.heap.size with h3 | h3
  · exact h3
  · simp [World.cell?, Array.getElem?_eq_none h3] at c9
end Go.Proofs.YtjalhlofpoknoaaDoor
