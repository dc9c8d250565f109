/- What came in: slices of numbers of 16 bits. -/
import Derived.Test.YthmljgpnkealaaaLa
namespace Go.Proofs.Ythmljgpnkealaaa
open Go.ChangeShapes Go.WideShapes Go.ChangeAt Go.RowKit

/-- The numbers that a slice holds. -/
def WordsAt (w : World) (a : Option Addr) (zs : List Nat) : Prop :=
  zs = [] ∨ ∃ b off, a = some ⟨b, off, none⟩ ∧ b < w.heap.size ∧ ∀ j (h : j < zs.length), w.cell? ⟨b, off + j, none⟩ = some (.int .u16 (zs[j] : Int))
theorem WordsAt.next {w w' : World} {a : Option Addr} {zs : List Nat} (h : WordsAt w a zs) (hb : Below w.heap.size w w') : WordsAt w' a zs := by
  rcases h with rfl | ⟨b, off, rfl, h1, h2⟩
  · exact .inl rfl
  · exact .inr ⟨b, off, rfl, Nat.lt_of_lt_of_le h1 hb.size, fun j hj => by rw [hb.cell (p := ⟨b, off + j, none⟩) h1]; exact h2 j hj⟩

theorem open_words {H : Type} {enc : TypeId × Value → H} {w : World} {base : Nat} {held : Bool} {a : Option Addr} {len cap : Nat} {d : DataW H} {ps : List MemPlace}
    (h : DataW.Trod enc Try.prog w base (fun _ => true) held 34 (.slice a len cap) d ps) : ∃ zs : List Nat, zs.length = len ∧ (∀ z ∈ zs, z < 65536) ∧ WordsAt w a zs := by
  obtain ⟨fuel, hf⟩ := h
  rcases open_ints Try.underlying34 Try.underlying37 (by kernel_rfl) hf with ⟨hcs, _⟩ | ⟨x, l, c, zs, hcs, _, hl, hm, hz, _, hcell, hwz⟩
  · simp [Value.cells] at hcs
    obtain ⟨rfl, rfl, rfl⟩ := hcs
    exact ⟨[], rfl, by simp, .inl rfl⟩
  · simp [Value.cells] at hcs
    obtain ⟨rfl, rfl, rfl⟩ := hcs
    simp only [if_true] at hz
    have hwf : ∀ z ∈ zs, 0 ≤ z ∧ z < 65536 := fun z hz => by have := bounds_u16 (hwz z hz); omega
    have hlen : ((zs.take len).map Int.toNat).length = len := by simp; omega
    refine ⟨(zs.take len).map Int.toNat, hlen, ?_, ?_⟩
    · intro z hz
      obtain ⟨y, hy, rfl⟩ := List.mem_map.1 hz
      have := hwf y (List.mem_of_mem_take hy)
      omega
    · rcases Nat.eq_zero_or_pos len with h0 | h0
      · subst h0; exact .inl (by simp)
      · right
        obtain ⟨b, off, spot⟩ := x
        have h1 := hcell 0 (by omega)
        have hspot : spot = none := by simpa [Addr.add] using World.cell?_spot h1
        subst hspot
        refine ⟨b, off, rfl, World.block_lt_of_cell? w _ h1, fun j hj => ?_⟩
        rw [hlen] at hj
        have h2 := hcell j (by omega)
        rw [Go.WideShapes.add_plain] at h2
        rw [h2]
        have e2 : zs[j]? = some (zs[j]'(by omega)) := List.getElem?_eq_getElem (by omega)
        have h3 := hwf _ (List.getElem_mem (l := zs) (n := j) (by omega))
        rw [List.getD_eq_getElem?_getD, e2]
        simp
        omega
end Go.Proofs.Ythmljgpnkealaaa
