/- What came in: slices of bytes, slices of options. -/
import Derived.Test.YtcklhgpfiibcaaaOl
import Derived.Lib.SmallJoins
import Derived.Deep.Slices
import Derived.Test.YtcklhgpfiibcaaaRows
import Derived.ProofKit
import Derived.OpenShut
import Derived.ShutString
import Derived.ChangeOld
import Derived.Below
namespace Go.Proofs.Ytcklhgpfiibcaaa
open Go.ChangeShapes Go.WideShapes Go.ChangeAt Go.RowKit

theorem own : ownKnob Try.prog.godebug = none := by kernel_rfl
theorem laidOut : laidOutB Try.prog = true := by kernel_rfl

/-- The bytes of numbers. -/
def byt (zs : List Int) : List UInt8 := zs.map fun z => z.toNat.toUInt8
theorem byt_length (zs : List Int) : (byt zs).length = zs.length := by simp [byt]

theorem row_of_cells {w : World} {a : Option Addr} {len cap : Nat} {zs : List Int} (hl : len ≤ cap) (hm : cap ≤ maxLen) (hz : zs.length = cap) (hnil : a = none → cap = 0)
    (hc : ∀ x, a = some x → ∀ c, c < cap → w.cell? (x.add c) = some (.int .u8 (zs.getD c 0))) (hw : ∀ n ∈ zs, (Lit.int .u8 n).wf = true) : RowAt w a cap (byt (zs.take len)) := by
  refine ⟨by rw [byt_length]; simp; omega, hm, hnil, fun ad e j u hu => ?_⟩
  have hj : j < len := by
    have := (List.getElem?_eq_some_iff.1 hu).1
    rw [Lib.byteCells_length, byt_length] at this
    simp at this
    omega
  rw [hc ad e j (by omega)]
  have e2 : zs[j]? = some (zs[j]'(by omega)) := List.getElem?_eq_getElem (by omega)
  have hb := bounds_u8 (hw _ (List.getElem_mem (l := zs) (n := j) (by omega)))
  simp only [Lib.byteCells, byt, List.getElem?_map, List.getElem?_take, if_pos hj, e2, Option.map_some, Option.some.injEq] at hu
  rw [← hu, List.getD_eq_getElem?_getD, e2]
  simp
  omega

theorem open_bytes {H : Type} {enc : TypeId × Value → H} {w : World} {base : Nat} {held : Bool} {a : Option Addr} {len cap : Nat} {d : DataW H} {ps : List MemPlace}
    (h : DataW.Trod enc Try.prog w base (fun _ => true) held 25 (.slice a len cap) d ps) : ∃ xs : List UInt8, xs.length = len ∧ RowAt w a cap xs := by
  obtain ⟨fuel, hf⟩ := h
  rcases open_ints Try.underlying25 Try.underlying5 (by kernel_rfl) hf with ⟨hcs, _⟩ | ⟨x, l, c, zs, hcs, _, hl, hm, hz, _, hcell, hwz⟩
  · simp [Value.cells] at hcs
    obtain ⟨rfl, rfl, rfl⟩ := hcs
    exact ⟨[], rfl, rowAt_nil w⟩
  · simp [Value.cells] at hcs
    obtain ⟨rfl, rfl, rfl⟩ := hcs
    simp only [if_true] at hz
    refine ⟨byt (zs.take len), by rw [byt_length]; simp; omega, row_of_cells hl hm hz (fun e => by cases e) (fun y e j hj => ?_) hwz⟩
    cases e
    exact hcell j (by omega)

theorem i64_of {H : Type} {enc : TypeId × Value → H} {w : World} {base : Nat} {sp : Nat → Bool} {held : Bool} {n : Nat} {v : Value} {y : DataW H × List MemPlace} (h : DataW.trod enc Try.prog w base sp held n 3 [v] = some y) : ∃ x : Int, (Lit.int .i64 x).wf = true ∧ v = .int .i64 x := by
  obtain ⟨z, hz, _, hw⟩ := DataW.trod_int Try.underlying3 h
  simp only [List.cons.injEq, and_true] at hz
  exact ⟨z, hw, hz⟩
theorem open_opts {H : Type} {enc : TypeId × Value → H} {w : World} {base : Nat} {held : Bool} {a : Option Addr} {len cap : Nat} {d : DataW H} {ps : List MemPlace}
    (h : DataW.Trod enc Try.prog w base (fun _ => true) held 22 (.slice a len cap) d ps) : len ≤ cap ∧ ∃ L : List Ot.O, L.length = len ∧ OptsAt w a L ∧ ∀ x ∈ L, (Lit.int .i64 x.ty).wf = true := by
  obtain ⟨fuel, hf⟩ := h
  rcases Go.Deep.open_slice Try.underlying22 hf with ⟨hcs, _⟩ | ⟨x, l, c, m, n, D, Pl, hcs, _, hl, hm, hmm, _, hx⟩
  · simp [Value.cells] at hcs
    obtain ⟨rfl, rfl, rfl⟩ := hcs
    exact ⟨Nat.zero_le _, [], rfl, .inl rfl, fun x hx => by simp at hx⟩
  · simp [Value.cells] at hcs
    obtain ⟨rfl, rfl, rfl⟩ := hcs
    simp only [if_true] at hmm
    have h4 : Try.prog.cellsOf 42 = 2 := by kernel_rfl
    rw [h4] at hx
    have each : ∀ i, i < len → ∃ y : Ot.O × Option Addr × Nat, (Lit.int .i64 y.1.ty).wf = true ∧ w.cell? (x.add (i * 2)) = some (.int .i64 y.1.ty) ∧ w.cell? (x.add (i * 2 + 1)) = some (.slice y.2.1 y.1.data.length y.2.2) ∧ RowAt w y.2.1 y.2.2 y.1.data := by
      intro i hi
      obtain ⟨cs', k1, k2⟩ := hx i (by omega)
      obtain ⟨_, hlen, hcell⟩ := World.cells?_some k1
      obtain ⟨y0, y1, n', _, _, t0, t1⟩ := trod_struct2 Try.underlying42 k2
      match cs', hlen with
      | [c0, c1], _ =>
        have g0 := hcell 0 (by omega)
        have g1 := hcell 1 (by omega)
        simp only [Go.Deep.add_add, Nat.add_zero] at g0 g1
        have z22 : Try.prog.cellsOf 3 = 1 := by kernel_rfl
        have z28 : Try.prog.cellsOf 25 = 1 := by kernel_rfl
        simp [z22] at t0
        simp [z28] at t1
        obtain ⟨x0, l0, rfl⟩ := i64_of t0
        rcases open_ints Try.underlying25 Try.underlying5 (by kernel_rfl) t1 with ⟨hcs, _⟩ | ⟨x', l', c', zs, hcs, _, hl', hm', hz, _, hcell', hwz⟩
        · simp only [List.cons.injEq, and_true] at hcs
          subst hcs
          exact ⟨(⟨x0, []⟩, none, 0), l0, by simpa using g0, by simpa using g1, rowAt_nil w⟩
        · simp only [List.cons.injEq, and_true] at hcs
          subst hcs
          simp only [if_true] at hz
          have hbl : (byt (zs.take l')).length = l' := by rw [byt_length]; simp; omega
          refine ⟨(⟨x0, byt (zs.take l')⟩, some x', c'), l0, by simpa using g0, by simp only [hbl]; simpa using g1, row_of_cells hl' hm' hz (fun e => by cases e) (fun y e j hj => ?_) hwz⟩
          cases e
          exact hcell' j (by simp only at hj; omega)
    have inh : Inhabited (Ot.O × Option Addr × Nat) := ⟨(Ot.oz, none, 0)⟩
    obtain ⟨y, hy⟩ := Go.Deep.choose_lt (α := Ot.O × Option Addr × Nat) each
    refine ⟨hl, (List.range len).map fun i => (y i).1, by simp, ?_, ?_⟩
    · rcases Nat.eq_zero_or_pos len with rfl | hpos
      · exact .inl rfl
      · right
        obtain ⟨b, off, spot⟩ := x
        have hspot : spot = none := by simpa [Addr.add] using World.cell?_spot (hy 0 hpos).2.1
        subst hspot
        refine ⟨b, off, rfl, World.block_lt_of_cell? w _ (hy 0 hpos).2.1, fun j hj => ?_⟩
        have hj2 : j < len := by simpa using hj
        obtain ⟨h1, h2, h3, h4⟩ := hy j hj2
        simp only [Go.WideShapes.add_plain] at h2 h3
        simp only [List.getElem_map, List.getElem_range]
        exact ⟨_, _, h2, by rw [Nat.add_assoc]; exact h3, h4⟩
    · intro x hx
      simp only [List.mem_map, List.mem_range] at hx
      obtain ⟨i, hi, rfl⟩ := hx
      exact (hy i hi).1
end Go.Proofs.Ytcklhgpfiibcaaa
