/- What came in: slices of bytes, packets. -/
import Derived.Test.YtbpkhjjabnboaaaPa
import Derived.Deep.Strs
import Derived.Lib.SmallJoins
import Derived.Deep.Slices
import Derived.Test.YtbpkhjjabnboaaaRows
import Derived.ProofKit
import Derived.OpenShut
import Derived.ShutString
import Derived.ChangeOld
import Derived.Below
namespace Go.Proofs.Ytbpkhjjabnboaaa
open Go.ChangeShapes Go.WideShapes Go.ChangeAt Go.RowKit

theorem own : ownKnob Try.prog.godebug = none := by kernel_rfl
theorem laidOut : laidOutB Try.prog = true := by kernel_rfl

/-- The bytes of numbers. -/
def byt (zs : List Int) : List UInt8 := zs.map fun z => z.toNat.toUInt8
theorem byt_length (zs : List Int) : (byt zs).length = zs.length := by simp [byt]

theorem row_of_cells {w : World} {a : Option Addr} {len cap : Nat} {zs : List Int} (hl : len ≤ cap) (hm : cap ≤ maxLen) (hz : zs.length = cap) (hnil : a = none → cap = 0)
    (hc : ∀ x, a = some x → ∀ c, c < cap → w.cell? (x.add c) = some (.int .u8 (zs.getD c 0))) (hw : ∀ n ∈ zs, (Lit.int .u8 n).wf = true) : RowAt w a cap (byt (zs.take len)) := by
  refine ⟨by rw [byt_length]; simp; omega, hm, hnil, fun ad e j u hu => ?_⟩
  have hj : j < len := by
    have := (List.getElem?_eq_some_iff.1 hu).1
    rw [Lib.byteCells_length, byt_length] at this
    simp at this
    omega
  rw [hc ad e j (by omega)]
  have e2 : zs[j]? = some (zs[j]'(by omega)) := List.getElem?_eq_getElem (by omega)
  have hb := bounds_u8 (hw _ (List.getElem_mem (l := zs) (n := j) (by omega)))
  simp only [Lib.byteCells, byt, List.getElem?_map, List.getElem?_take, if_pos hj, e2, Option.map_some, Option.some.injEq] at hu
  rw [← hu, List.getD_eq_getElem?_getD, e2]
  simp
  omega

theorem open_bytes {H : Type} {enc : TypeId × Value → H} {w : World} {base : Nat} {held : Bool} {a : Option Addr} {len cap : Nat} {d : DataW H} {ps : List MemPlace}
    (h : DataW.Trod enc Try.prog w base (fun _ => true) held 22 (.slice a len cap) d ps) : ∃ xs : List UInt8, xs.length = len ∧ RowAt w a cap xs := by
  obtain ⟨fuel, hf⟩ := h
  rcases open_ints Try.underlying22 Try.underlying5 (by kernel_rfl) hf with ⟨hcs, _⟩ | ⟨x, l, c, zs, hcs, _, hl, hm, hz, _, hcell, hwz⟩
  · simp [Value.cells] at hcs
    obtain ⟨rfl, rfl, rfl⟩ := hcs
    exact ⟨[], rfl, rowAt_nil w⟩
  · simp [Value.cells] at hcs
    obtain ⟨rfl, rfl, rfl⟩ := hcs
    simp only [if_true] at hz
    refine ⟨byt (zs.take len), by rw [byt_length]; simp; omega, row_of_cells hl hm hz (fun e => by cases e) (fun y e j hj => ?_) hwz⟩
    cases e
    exact hcell j (by omega)

theorem i64_of {H : Type} {enc : TypeId × Value → H} {w : World} {base : Nat} {sp : Nat → Bool} {held : Bool} {n : Nat} {v : Value} {y : DataW H × List MemPlace} (h : DataW.trod enc Try.prog w base sp held n 3 [v] = some y) : ∃ x : Int, (Lit.int .i64 x).wf = true ∧ v = .int .i64 x := by
  obtain ⟨z, hz, _, hw⟩ := DataW.trod_int Try.underlying3 h
  simp only [List.cons.injEq, and_true] at hz
  exact ⟨z, hw, hz⟩
theorem open_pkt {H : Type} {enc : TypeId × Value → H} {w : World} {base : Nat} {held : Bool} {r : Reach} {b0 : Nat} {v : Value} {d : DataW H} {ps : List MemPlace} (hval : Value.okWide Try.prog w r b0 24 v) (h : DataW.Trod enc Try.prog w base (fun _ => true) held 24 v d ps) :
    ∃ (x : Pk.P) (a : Option Addr) (c : Nat), v = .agg (pcells x (.slice a x.data.length c)).toArray ∧ RowAt w a c x.data := by
  obtain ⟨v0, v1, v2, y0, y1, y2, n, rfl, _, _, t0, t1, t2⟩ := Go.Joins.open_agg3 Try.underlying24 (by kernel_rfl) (by kernel_rfl) hval h
  obtain ⟨x0, _, rfl⟩ := i64_of t0
  obtain ⟨x1, _, rfl⟩ := i64_of t1
  rcases open_ints Try.underlying22 Try.underlying5 (by kernel_rfl) t2 with ⟨hcs, _⟩ | ⟨x, l, c, zs, hcs, _, hl, hm, hz, _, hcell, hwz⟩
  · simp only [List.cons.injEq, and_true] at hcs
    subst hcs
    exact ⟨⟨x0, x1, []⟩, none, 0, rfl, rowAt_nil w⟩
  · simp only [List.cons.injEq, and_true] at hcs
    subst hcs
    simp only [if_true] at hz
    have hbl : (byt (zs.take l)).length = l := by rw [byt_length]; simp; omega
    refine ⟨⟨x0, x1, byt (zs.take l)⟩, some x, c, by simp only [pcells, hbl], row_of_cells hl hm hz (fun e => by cases e) (fun y e j hj => ?_) hwz⟩
    cases e
    exact hcell j (by omega)
end Go.Proofs.Ytbpkhjjabnboaaa
