/- What came in: lists of slices of bytes. -/
import Derived.Test.YthmljgpnkealaaaLb
import Derived.Deep.Matrix
namespace Go.Proofs.Ythmljgpnkealaaa
open Go.ChangeShapes Go.WideShapes Go.ChangeAt Go.RowKit

theorem open_parts {H : Type} {enc : TypeId × Value → H} {w : World} {base : Nat} {held : Bool} {a : Option Addr} {len cap : Nat} {d : DataW H} {ps : List MemPlace}
    (h : DataW.Trod enc Try.prog w base (fun _ => true) held 22 (.slice a len cap) d ps) : len ≤ maxLen ∧ ∃ L : List (List UInt8), L.length = len ∧ PartsAt w a L := by
  obtain ⟨fuel, hf⟩ := h
  rcases Go.Deep.open_int_rows Try.underlying22 Try.underlying26 Try.underlying5 (by kernel_rfl) (by kernel_rfl) hf with ⟨hcs, _⟩ | ⟨x, l, c, A, Ln, C, Z, hcs, _, hl, hm, _, hr⟩
  · simp [Value.cells] at hcs
    obtain ⟨rfl, rfl, rfl⟩ := hcs
    exact ⟨Nat.zero_le _, [], rfl, .inl rfl⟩
  · simp [Value.cells] at hcs
    obtain ⟨rfl, rfl, rfl⟩ := hcs
    refine ⟨Nat.le_trans hl hm, (List.range len).map fun r => byt ((Z r).take (Ln r)), by simp, ?_⟩
    rcases Nat.eq_zero_or_pos len with rfl | hpos
    · exact .inl rfl
    · right
      obtain ⟨b, off, spot⟩ := x
      have hspot : spot = none := by simpa [Addr.add] using World.cell?_spot (hr 0 (by omega)).1
      subst hspot
      refine ⟨b, off, rfl, World.block_lt_of_cell? w _ (hr 0 (by omega)).1, fun j hj => ?_⟩
      have hj2 : j < len := by simpa using hj
      obtain ⟨h1, h2, h3, h4, h5, h6, h7⟩ := hr j (by omega)
      have hlen : (byt ((Z j).take (Ln j))).length = Ln j := by rw [byt_length]; simp; omega
      refine ⟨A j, C j, ?_, ?_⟩
      · simp only [List.getElem_map, List.getElem_range, hlen]
        rw [← Go.WideShapes.add_plain]; exact h1
      · simp only [List.getElem_map, List.getElem_range]
        exact row_of_cells h2 h3 h4 h6 (fun y e i hi => (h7 y e).2 i hi) h5
end Go.Proofs.Ythmljgpnkealaaa
