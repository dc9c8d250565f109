/- What came in: a header by value; a slice of records. -/
import Derived.Test.YtfkjjolohphaoaaLa
import Derived.Test.YtfkjjolohphaoaaRf
import Derived.Lib.SmallJoins
import Derived.Deep.Slices
namespace Go.Proofs.Ytfkjjolohphaoaa
open Go.ChangeShapes Go.WideShapes Go.ChangeAt Go.RowKit

theorem u32_of {H : Type} {enc : TypeId × Value → H} {w : World} {base : Nat} {sp : Nat → Bool} {held : Bool} {n : Nat} {v : Value} {y : DataW H × List MemPlace} (h : DataW.trod enc Try.prog w base sp held n 22 [v] = some y) : ∃ x : Nat, x < 4294967296 ∧ v = .int .u32 (x : Int) := by
  obtain ⟨z, hz, _, hw⟩ := DataW.trod_int Try.underlying22 h
  simp only [List.cons.injEq, and_true] at hz
  have hb := bounds_u32 hw
  exact ⟨z.toNat, by omega, by rw [hz]; congr 1; omega⟩
theorem open_meta {H : Type} {enc : TypeId × Value → H} {w : World} {base : Nat} {sp : Nat → Bool} {held : Bool} {r : Reach} {b0 : Nat} {v : Value} {d : DataW H} {p : List MemPlace} (hval : Value.okWide Try.prog w r b0 24 v) (h : DataW.Trod enc Try.prog w base sp held 24 v d p) :
    ∃ m : Pc.Hdr, m.Ok ∧ v = .agg (hcells m).toArray := by
  obtain ⟨v0, v1, v2, v3, y0, y1, y2, y3, n, rfl, _, _, t0, t1, t2, t3⟩ := Go.Joins.open_agg4 Try.underlying24 (by kernel_rfl) (by kernel_rfl) hval h
  obtain ⟨c0, e0, _⟩ := DataW.trod_bool Try.underlying4 t0
  obtain ⟨c1, e1, _⟩ := DataW.trod_bool Try.underlying4 t1
  obtain ⟨x2, l2, rfl⟩ := u32_of t2
  obtain ⟨x3, l3, rfl⟩ := u32_of t3
  simp only [List.cons.injEq, and_true] at e0 e1
  subst e0
  subst e1
  exact ⟨⟨c0, c1, x2, x3⟩, ⟨l2, l3⟩, rfl⟩
theorem open_recs {H : Type} {enc : TypeId × Value → H} {w : World} {base : Nat} {held : Bool} {a : Option Addr} {len cap : Nat} {d : DataW H} {ps : List MemPlace}
    (h : DataW.Trod enc Try.prog w base (fun _ => true) held 25 (.slice a len cap) d ps) : len ≤ cap ∧ ∃ L : List Pc.Rcd, L.length = len ∧ RecsAt w a L := by
  obtain ⟨fuel, hf⟩ := h
  rcases Go.Deep.open_slice Try.underlying25 hf with ⟨hcs, _⟩ | ⟨x, l, c, m, n, D, Pl, hcs, _, hl, hm, hmm, _, hx⟩
  · simp [Value.cells] at hcs
    obtain ⟨rfl, rfl, rfl⟩ := hcs
    exact ⟨Nat.zero_le _, [], rfl, .inl rfl⟩
  · simp [Value.cells] at hcs
    obtain ⟨rfl, rfl, rfl⟩ := hcs
    simp only [if_true] at hmm
    have h4 : Try.prog.cellsOf 46 = 4 := by kernel_rfl
    rw [h4] at hx
    have each : ∀ i, i < len → ∃ y : Pc.Rcd × Option Addr × Nat, y.1.Ok ∧ w.cell? (x.add (i * 4)) = some (.int .u32 (y.1.sec : Int)) ∧ w.cell? (x.add (i * 4 + 1)) = some (.int .u32 (y.1.frac : Int)) ∧ w.cell? (x.add (i * 4 + 2)) = some (.int .u32 (y.1.len : Int)) ∧ w.cell? (x.add (i * 4 + 3)) = some (.slice y.2.1 y.1.data.length y.2.2) ∧ RowAt w y.2.1 y.2.2 y.1.data := by
      intro i hi
      obtain ⟨cs', k1, k2⟩ := hx i (by omega)
      obtain ⟨_, hlen, hcell⟩ := World.cells?_some k1
      obtain ⟨y0, y1, y2, y3, n', _, _, t0, t1, t2, t3⟩ := Go.Joins.trod_struct4 Try.underlying46 k2
      match cs', hlen with
      | [c0, c1, c2, c3], _ =>
        have g0 := hcell 0 (by omega)
        have g1 := hcell 1 (by omega)
        have g2 := hcell 2 (by omega)
        have g3 := hcell 3 (by omega)
        simp only [Go.Deep.add_add, Nat.add_zero] at g0 g1 g2 g3
        have z22 : Try.prog.cellsOf 22 = 1 := by kernel_rfl
        have z28 : Try.prog.cellsOf 28 = 1 := by kernel_rfl
        simp [z22] at t0 t1 t2
        simp [z28] at t3
        obtain ⟨x0, l0, rfl⟩ := u32_of t0
        obtain ⟨x1, l1, rfl⟩ := u32_of t1
        obtain ⟨x2, l2, rfl⟩ := u32_of t2
        rcases open_ints Try.underlying28 Try.underlying5 (by kernel_rfl) t3 with ⟨hcs, _⟩ | ⟨x', l', c', zs, hcs, _, hl', hm', hz, _, hcell', hwz⟩
        · simp only [List.cons.injEq, and_true] at hcs
          subst hcs
          exact ⟨(⟨x0, x1, x2, []⟩, none, 0), ⟨l0, l1, l2⟩, by simpa using g0, by simpa using g1, by simpa using g2, by simpa using g3, rowAt_nil w⟩
        · simp only [List.cons.injEq, and_true] at hcs
          subst hcs
          simp only [if_true] at hz
          have hbl : (byt (zs.take l')).length = l' := by rw [byt_length]; simp; omega
          refine ⟨(⟨x0, x1, x2, byt (zs.take l')⟩, some x', c'), ⟨l0, l1, l2⟩, by simpa using g0, by simpa using g1, by simpa using g2, by simp only [hbl]; simpa using g3, row_of_cells hl' hm' hz (fun e => by cases e) (fun y e j hj => ?_) hwz⟩
          cases e
          exact hcell' j (by simp only at hj; omega)
    have inh : Inhabited (Pc.Rcd × Option Addr × Nat) := ⟨(Pc.rz, none, 0)⟩
    obtain ⟨y, hy⟩ := Go.Deep.choose_lt (α := Pc.Rcd × Option Addr × Nat) each
    refine ⟨hl, (List.range len).map fun i => (y i).1, by simp, ?_⟩
    rcases Nat.eq_zero_or_pos len with rfl | hpos
    · exact .inl rfl
    · right
      obtain ⟨b, off, spot⟩ := x
      have hspot : spot = none := by simpa [Addr.add] using World.cell?_spot (hy 0 hpos).2.1
      subst hspot
      refine ⟨b, off, rfl, World.block_lt_of_cell? w _ (hy 0 hpos).2.1, fun j hj => ?_⟩
      have hj2 : j < len := by simpa using hj
      obtain ⟨h1, h2, h3, h4, h5, h6⟩ := hy j hj2
      simp only [Go.WideShapes.add_plain] at h2 h3 h4 h5
      simp only [List.getElem_map, List.getElem_range]
      exact ⟨_, _, h2, by rw [Nat.add_assoc]; exact h3, by rw [Nat.add_assoc]; exact h4, by rw [Nat.add_assoc]; exact h5, h6, h1⟩
end Go.Proofs.Ytfkjjolohphaoaa
