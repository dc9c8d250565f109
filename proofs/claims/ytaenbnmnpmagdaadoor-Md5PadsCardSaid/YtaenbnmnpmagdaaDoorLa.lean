/- What came in, and what the listed variables give the walks. -/
import Derived.Test.YtaenbnmnpmagdaaDoorRows
import Derived.Test.YtaenbnmnpmagdaaDoorTie
import Derived.Test.YtaenbnmnpmagdaaDoorCards
import Derived.Test.YtaenbnmnpmagdaaDoorWh
import Derived.ProofKit
import Derived.LaidMore
import Derived.OpenShut
import Derived.ShutString
import Derived.ChangeOld
import Derived.Below
import Derived.Lib.LaidU8
import Derived.Stop.Joined
import Derived.Stop.LaidErr
import Derived.SevenTiedAt
namespace Go.Proofs.YtaenbnmnpmagdaaDoor
open Go.ChangeShapes Go.WideShapes Go.ChangeAt Go.RowKit

theorem own : ownKnob Tryd.prog.godebug = none := by kernel_rfl
theorem laidOut : laidOutB Tryd.prog = true := by kernel_rfl

/-- The bytes of numbers. -/
def byt (zs : List Int) : List UInt8 := zs.map fun z => z.toNat.toUInt8
theorem byt_length (zs : List Int) : (byt zs).length = zs.length := by simp [byt]

theorem row_of_cells {w : World} {a : Option Addr} {len cap : Nat} {zs : List Int} (hl : len ≤ cap) (hm : cap ≤ maxLen) (hz : zs.length = cap) (hnil : a = none → cap = 0)
    (hc : ∀ x, a = some x → ∀ c, c < cap → w.cell? (x.add c) = some (.int .u8 (zs.getD c 0))) (hw : ∀ n ∈ zs, (Lit.int .u8 n).wf = true) : RowAt w a cap (byt (zs.take len)) := by
  refine ⟨by rw [byt_length]; simp; omega, hm, hnil, fun ad e j u hu => ?_⟩
  have hj : j < len := by
    have := (List.getElem?_eq_some_iff.1 hu).1
    rw [Lib.byteCells_length, byt_length] at this
    simp at this
    omega
  rw [hc ad e j (by omega)]
  have e2 : zs[j]? = some (zs[j]'(by omega)) := List.getElem?_eq_getElem (by omega)
  have hb := bounds_u8 (hw _ (List.getElem_mem (l := zs) (n := j) (by omega)))
  simp only [Lib.byteCells, byt, List.getElem?_map, List.getElem?_take, if_pos hj, e2, Option.map_some, Option.some.injEq] at hu
  rw [← hu, List.getD_eq_getElem?_getD, e2]
  simp
  omega

theorem open_bytes {H : Type} {enc : TypeId × Value → H} {w : World} {base : Nat} {held : Bool} {a : Option Addr} {len cap : Nat} {d : DataW H} {ps : List MemPlace}
    (h : DataW.Trod enc Tryd.prog w base (fun _ => true) held 22 (.slice a len cap) d ps) : ∃ xs : List UInt8, xs.length = len ∧ RowAt w a cap xs := by
  obtain ⟨fuel, hf⟩ := h
  rcases open_ints Tryd.underlying22 Tryd.underlying5 (by kernel_rfl) hf with ⟨hcs, _⟩ | ⟨x, l, c, zs, hcs, _, hl, hm, hz, _, hcell, hwz⟩
  · simp [Value.cells] at hcs
    obtain ⟨rfl, rfl, rfl⟩ := hcs
    exact ⟨[], rfl, rowAt_nil w⟩
  · simp [Value.cells] at hcs
    obtain ⟨rfl, rfl, rfl⟩ := hcs
    simp only [if_true] at hz
    refine ⟨byt (zs.take len), by rw [byt_length]; simp; omega, row_of_cells hl hm hz (fun e => by cases e) (fun y e j hj => ?_) hwz⟩
    cases e
    exact hcell j (by omega)

/-- The lists of the rows. -/
def laid2 : List (String × DataW Unit) := [("umpire/md5.sines", Rows.laid_umpire_md5_sines), ("umpire/md5.turns", Rows.laid_umpire_md5_turns)]
def laid5 : List (String × DataW Unit) := [("math._sin", Rows.laid_math_sin), ("math._cos", Rows.laid_math_cos), ("math.mPi4", Rows.laid_math_mPi4), ("umpire/md5.sines", Rows.laid_umpire_md5_sines), ("umpire/md5.turns", Rows.laid_umpire_md5_turns)]

theorem gSine : Tryd.prog.globalNamed "umpire/md5.sines" = some 0 := by kernel_rfl
theorem tSine : (Tryd.prog.globals[0]?).map (·.type) = some 50 := by kernel_rfl
theorem gTurn : Tryd.prog.globalNamed "umpire/md5.turns" = some 1 := by kernel_rfl
theorem tTurn : (Tryd.prog.globals[1]?).map (·.type) = some 54 := by kernel_rfl

def sineZ : List Int := Md.S.map fun n => ((n : Nat) : Int)
theorem sine_data : (Rows.laid_umpire_md5_sines : DataW Unit) = Lib.tabData .u32 sineZ := by kernel_rfl
def turnZ (i : Nat) : List Int := ((Md.T.drop (4 * i)).take 4).map fun n => ((n : Nat) : Int)
theorem turn_data : (Rows.laid_umpire_md5_turns : DataW Unit) = .agg [Lib.tabData .i64 (turnZ 0), Lib.tabData .i64 (turnZ 1), Lib.tabData .i64 (turnZ 2), Lib.tabData .i64 (turnZ 3)] := by kernel_rfl

theorem tabs_of_reads {W : World} (h1 : Lib.VarReads Tryd.prog W "umpire/md5.sines" Rows.laid_umpire_md5_sines) (h2 : Lib.VarReads Tryd.prog W "umpire/md5.turns" Rows.laid_umpire_md5_turns) : Tabs W := by
  rw [sine_data] at h1
  rw [turn_data] at h2
  obtain ⟨g1, t1, cs1, f1, p1, e1, y1, v1, d1⟩ := h1
  obtain ⟨g2, t2, cs2, f2, p2, e2, y2, v2, d2⟩ := h2
  obtain rfl := Option.some.inj (gSine.symm.trans e1)
  obtain rfl := Option.some.inj (tSine.symm.trans y1)
  obtain rfl := Option.some.inj (gTurn.symm.trans e2)
  obtain rfl := Option.some.inj (tTurn.symm.trans y2)
  have c1 := Lib.cells_of_tab Tryd.underlying50 Tryd.underlying36 (by kernel_rfl) (by kernel_rfl) d1
  have hT : ∀ i, i < 16 → W.cell? ⟨1, i, none⟩ = some (.int .i64 (Md.T.getD i 0 : Nat)) := by
    intro i hi
    rw [World.var?_cell gTurn v2 i]
    obtain ⟨fu, d, q, hd, ht⟩ := Lib.array_elem Tryd.underlying54 d2 (i / 4) (by omega)
    have hc53 : Tryd.prog.cellsOf 53 = 4 := by kernel_rfl
    rw [hc53] at ht
    have hd' : d = Lib.tabData .i64 (turnZ (i / 4)) := by
      have : i / 4 = 0 ∨ i / 4 = 1 ∨ i / 4 = 2 ∨ i / 4 = 3 := by omega
      rcases this with e | e | e | e <;> rw [e] at hd ⊢ <;> exact (Option.some.inj hd).symm
    rw [hd'] at ht
    have c2 := Lib.cells_of_tab Tryd.underlying53 Tryd.underlying3 (by kernel_rfl) (by kernel_rfl) ht
    have h3 : (List.take 4 (List.drop (i / 4 * 4) cs2.toList))[i % 4]? = ((turnZ (i / 4)).map fun z => Value.int .i64 z)[i % 4]? := by rw [c2]
    rw [List.getElem?_take, if_pos (by omega), List.getElem?_drop, show i / 4 * 4 + i % 4 = i by omega] at h3
    rw [← Array.getElem?_toList, h3]
    have h4 : ∀ i, i < 16 → ((turnZ (i / 4)).map fun z => Value.int .i64 z)[i % 4]? = some (Value.int .i64 (Md.T.getD i 0 : Nat)) := by
      intro i hi
      have : ((turnZ (i / 4)).map fun z => Value.int .i64 z)[i % 4]? = ((turnZ (i / 4))[i % 4]?).map fun z => Value.int .i64 z := by simp
      rw [this]
      have h5 : ∀ i, i < 16 → (turnZ (i / 4))[i % 4]? = some ((Md.T.getD i 0 : Nat) : Int) := by decide
      rw [h5 i hi]; rfl
    exact h4 i hi
  refine ⟨fun i hi => ?_, hT, ?_⟩
  · rw [World.var?_cell gSine v1 i, ← Array.getElem?_toList, c1]
    have : (sineZ.map fun z => Value.int .u32 z)[i]? = (sineZ[i]?).map fun z => Value.int .u32 z := by simp
    rw [this]
    have h5 : ∀ i, i < 64 → sineZ[i]? = some ((Md.sn i : Nat) : Int) := by decide
    rw [h5 i hi]; rfl
  · have c := hT 0 (by omega)
    rcases Nat.lt_or_ge 1 W.heap.size with h3 | h3
    · exact h3
    · simp [World.cell?, Array.getElem?_eq_none h3] at c
theorem tabs_of_laid2 {W : World} (h : laidMetH Tryd.prog laid2 W) : Tabs W := by
  rw [MakeChecks.laidMetH_plain _ _ _ (by kernel_rfl)] at h
  exact tabs_of_reads (Lib.laidMet.reads h (.head _)) (Lib.laidMet.reads h (.tail _ (.head _)))
theorem tabs_of_laid5 {W : World} (h : laidMetH Tryd.prog laid5 W) : Tabs W := by
  rw [MakeChecks.laidMetH_plain _ _ _ (by kernel_rfl)] at h
  exact tabs_of_reads (Lib.laidMet.reads h (.tail _ (.tail _ (.tail _ (.head _))))) (Lib.laidMet.reads h (.tail _ (.tail _ (.tail _ (.tail _ (.head _))))))

theorem door_met2 (os : Os) (args : Array Value) : laidMetH Tryd.prog laid2 ((World.doorLaid Tryd.prog 400 os).forCall (fun _ _ => 0) ⟨#[], args, []⟩).memory :=
  laidMetH_of_parts3 (fuel := 8) (laidMet_of_run' 8 (by kernel_rfl) (by kernel_rfl)) (by kernel_rfl) (by kernel_rfl)
theorem door_met5 (os : Os) (args : Array Value) : laidMetH Tryd.prog laid5 ((World.doorLaid Tryd.prog 400 os).forCall (fun _ _ => 0) ⟨#[], args, []⟩).memory :=
  laidMetH_of_parts3 (fuel := 8) (laidMet_of_run' 8 (by kernel_rfl) (by kernel_rfl)) (by kernel_rfl) (by kernel_rfl)
end Go.Proofs.YtaenbnmnpmagdaaDoor
