/- Rows of bytes that came in. -/
import Derived.Test.YtiiaahhdlgoklaaDoorLa
namespace Go.Proofs.YtiiaahhdlgoklaaDoor
open Go.ChangeShapes Go.WideShapes Go.ChangeAt Go.RowKit

/-- A slice of bytes, as it came in: nil, or a row of cells. -/
def IsRow (k : IntKind) (w : World) (a : Option Addr) (len cap : Nat) (zs : List Int) : Prop :=
  (a = none ∧ len = 0 ∧ cap = 0 ∧ zs = []) ∨
  ∃ x, a = some x ∧ len ≤ cap ∧ cap ≤ maxLen ∧ zs.length = cap ∧ (∀ i, i < zs.length → w.cell? (x.add i) = some (.int k (zs.getD i 0))) ∧ ∀ n ∈ zs, (Lit.int k n).wf = true

/-- The bytes that a slice holds. -/
def BytesAt (w : World) (a : Option Addr) (xs : List UInt8) : Prop :=
  xs = [] ∨ ∃ b off, a = some ⟨b, off, none⟩ ∧ b < w.heap.size ∧ ∀ j (h : j < xs.length), w.cell? ⟨b, off + j, none⟩ = some (.int .u8 (xs[j].toNat : Int))

theorem block_of_cell {w : World} {b o : Nat} {v : Value} (h : w.cell? ⟨b, o, none⟩ = some v) : b < w.heap.size := by
  rcases Nat.lt_or_ge b w.heap.size with h3 | h3
  · exact h3
  · simp [World.cell?, Array.getElem?_eq_none h3] at h

theorem bytes_of_row {w : World} {a : Option Addr} {len cap : Nat} {zs : List Int} (h : IsRow .u8 w a len cap zs) : ∃ xs : List UInt8, xs.length = len ∧ BytesAt w a xs := by
  rcases h with ⟨rfl, rfl, rfl, rfl⟩ | ⟨x, rfl, hl, hm, hz, hc, hw⟩
  · exact ⟨[], rfl, .inl rfl⟩
  · rcases Nat.eq_zero_or_pos len with rfl | hpos
    · exact ⟨[], rfl, .inl rfl⟩
    · obtain ⟨b, off, rfl, hc2⟩ := ints_at hc (by omega)
      refine ⟨(zs.take len).map fun z => z.toNat.toUInt8, by simp; omega, .inr ⟨b, off, rfl, ?_, ?_⟩⟩
      · exact block_of_cell (hc2 0 (by omega))
      · intro j hj
        have hj2 : j < len := by simp at hj; omega
        rw [hc2 j (by omega)]
        have hb := range_u8 hw j
        simp only [List.getElem_map, List.getElem_take]
        congr 2
        have e2 : zs[j]? = some (zs[j]'(by omega)) := List.getElem?_eq_getElem (by omega)
        rw [e2] at hb
        simp at hb
        rw [show zs.getD j 0 = zs[j]'(by omega) from by rw [List.getD_eq_getElem?_getD, e2]; rfl]
        simp
        omega
end Go.Proofs.YtiiaahhdlgoklaaDoor
