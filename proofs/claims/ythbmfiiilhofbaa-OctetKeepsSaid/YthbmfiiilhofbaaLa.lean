/- What came in: slices of bytes, and slices of them. -/
import Derived.Test.YthbmfiiilhofbaaWe
import Derived.Test.YthbmfiiilhofbaaRows
import Derived.ProofKit
import Derived.OpenShut
import Derived.ShutString
import Derived.ChangeOld
import Derived.Below
import Derived.Deep.Matrix
namespace Go.Proofs.Ythbmfiiilhofbaa
open Go.ChangeShapes Go.WideShapes Go.ChangeAt Go.RowKit

theorem own : ownKnob Try.prog.godebug = none := by kernel_rfl
theorem laidOut : laidOutB Try.prog = true := by kernel_rfl

/-- The bytes of numbers. -/
def byt (zs : List Int) : List UInt8 := zs.map fun z => z.toNat.toUInt8
theorem byt_length (zs : List Int) : (byt zs).length = zs.length := by simp [byt]

theorem row_of_cells {w : World} {a : Option Addr} {len cap : Nat} {zs : List Int} (hl : len ≤ cap) (hm : cap ≤ maxLen) (hz : zs.length = cap) (hnil : a = none → cap = 0)
    (hc : ∀ x, a = some x → ∀ c, c < cap → w.cell? (x.add c) = some (.int .u8 (zs.getD c 0))) (hw : ∀ n ∈ zs, (Lit.int .u8 n).wf = true) : RowAt w a cap (byt (zs.take len)) := by
  refine ⟨by rw [byt_length]; simp; omega, hm, hnil, fun ad e j u hu => ?_⟩
  have hj : j < len := by
    have := (List.getElem?_eq_some_iff.1 hu).1
    rw [Lib.byteCells_length, byt_length] at this
    simp at this
    omega
  rw [hc ad e j (by omega)]
  have e2 : zs[j]? = some (zs[j]'(by omega)) := List.getElem?_eq_getElem (by omega)
  have hb := bounds_u8 (hw _ (List.getElem_mem (l := zs) (n := j) (by omega)))
  simp only [Lib.byteCells, byt, List.getElem?_map, List.getElem?_take, if_pos hj, e2, Option.map_some, Option.some.injEq] at hu
  rw [← hu, List.getD_eq_getElem?_getD, e2]
  simp
  omega

theorem open_bytes {H : Type} {enc : TypeId × Value → H} {w : World} {base : Nat} {held : Bool} {a : Option Addr} {len cap : Nat} {d : DataW H} {ps : List MemPlace}
    (h : DataW.Trod enc Try.prog w base (fun _ => true) held 24 (.slice a len cap) d ps) : ∃ xs : List UInt8, xs.length = len ∧ RowAt w a cap xs := by
  obtain ⟨fuel, hf⟩ := h
  rcases open_ints Try.underlying24 Try.underlying5 (by kernel_rfl) hf with ⟨hcs, _⟩ | ⟨x, l, c, zs, hcs, _, hl, hm, hz, _, hcell, hwz⟩
  · simp [Value.cells] at hcs
    obtain ⟨rfl, rfl, rfl⟩ := hcs
    exact ⟨[], rfl, rowAt_nil w⟩
  · simp [Value.cells] at hcs
    obtain ⟨rfl, rfl, rfl⟩ := hcs
    simp only [if_true] at hz
    refine ⟨byt (zs.take len), by rw [byt_length]; simp; omega, row_of_cells hl hm hz (fun e => by cases e) (fun y e j hj => ?_) hwz⟩
    cases e
    exact hcell j (by omega)

theorem open_parts {H : Type} {enc : TypeId × Value → H} {w : World} {base : Nat} {held : Bool} {a : Option Addr} {len cap : Nat} {d : DataW H} {ps : List MemPlace}
    (h : DataW.Trod enc Try.prog w base (fun _ => true) held 38 (.slice a len cap) d ps) : len ≤ maxLen ∧ ∃ L : List (List UInt8), L.length = len ∧ PartsAt w a L := by
  obtain ⟨fuel, hf⟩ := h
  rcases Go.Deep.open_int_rows Try.underlying38 Try.underlying24 Try.underlying5 (by kernel_rfl) (by kernel_rfl) hf with ⟨hcs, _⟩ | ⟨x, l, c, A, Ln, C, Z, hcs, _, hl, hm, _, hr⟩
  · simp [Value.cells] at hcs
    obtain ⟨rfl, rfl, rfl⟩ := hcs
    exact ⟨Nat.zero_le _, [], rfl, .inl rfl⟩
  · simp [Value.cells] at hcs
    obtain ⟨rfl, rfl, rfl⟩ := hcs
    refine ⟨Nat.le_trans hl hm, (List.range len).map fun r => byt ((Z r).take (Ln r)), by simp, ?_⟩
    rcases Nat.eq_zero_or_pos len with rfl | hpos
    · exact .inl rfl
    · right
      obtain ⟨b, off, spot⟩ := x
      have hspot : spot = none := by simpa [Addr.add] using World.cell?_spot (hr 0 (by omega)).1
      subst hspot
      refine ⟨b, off, rfl, World.block_lt_of_cell? w _ (hr 0 (by omega)).1, fun j hj => ?_⟩
      have hj2 : j < len := by simpa using hj
      obtain ⟨h1, h2, h3, h4, h5, h6, h7⟩ := hr j (by omega)
      have hlen : (byt ((Z j).take (Ln j))).length = Ln j := by rw [byt_length]; simp; omega
      refine ⟨A j, C j, ?_, ?_⟩
      · simp only [List.getElem_map, List.getElem_range, hlen]
        rw [← Go.WideShapes.add_plain]; exact h1
      · simp only [List.getElem_map, List.getElem_range]
        exact row_of_cells h2 h3 h4 h6 (fun y e i hi => (h7 y e).2 i hi) h5
end Go.Proofs.Ythbmfiiilhofbaa
