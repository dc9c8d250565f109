/- What came in: options, slices of options, addresses. -/
import Derived.Test.YtacnlancncmpmaaTr
import Derived.Deep.Strs
import Derived.Lib.SmallJoins
import Derived.Deep.Slices
import Derived.Test.YtacnlancncmpmaaRows
import Derived.ProofKit
import Derived.OpenShut
import Derived.ShutString
import Derived.ChangeOld
import Derived.Below
namespace Go.Proofs.Ytacnlancncmpmaa
open Go.ChangeShapes Go.WideShapes Go.ChangeAt Go.RowKit S2 S12

theorem own : ownKnob Try.prog.godebug = none := by kernel_rfl
theorem laidOut : laidOutB Try.prog = true := by kernel_rfl

/-- The bytes of numbers. -/
def byt (zs : List Int) : List UInt8 := zs.map fun z => z.toNat.toUInt8
theorem byt_length (zs : List Int) : (byt zs).length = zs.length := by simp [byt]

theorem row_of_cells {w : World} {a : Option Addr} {len cap : Nat} {zs : List Int} (hl : len ≤ cap) (hm : cap ≤ maxLen) (hz : zs.length = cap) (hnil : a = none → cap = 0)
    (hc : ∀ x, a = some x → ∀ c, c < cap → w.cell? (x.add c) = some (.int .u8 (zs.getD c 0))) (hw : ∀ n ∈ zs, (Lit.int .u8 n).wf = true) : RowAt w a cap (byt (zs.take len)) := by
  refine ⟨by rw [byt_length]; simp; omega, hm, hnil, fun ad e j u hu => ?_⟩
  have hj : j < len := by
    have := (List.getElem?_eq_some_iff.1 hu).1
    rw [Lib.byteCells_length, byt_length] at this
    simp at this
    omega
  rw [hc ad e j (by omega)]
  have e2 : zs[j]? = some (zs[j]'(by omega)) := List.getElem?_eq_getElem (by omega)
  have hb := bounds_u8 (hw _ (List.getElem_mem (l := zs) (n := j) (by omega)))
  simp only [Lib.byteCells, byt, List.getElem?_map, List.getElem?_take, if_pos hj, e2, Option.map_some, Option.some.injEq] at hu
  rw [← hu, List.getD_eq_getElem?_getD, e2]
  simp
  omega

theorem open_bytes {H : Type} {enc : TypeId × Value → H} {w : World} {base : Nat} {held : Bool} {a : Option Addr} {len cap : Nat} {d : DataW H} {ps : List MemPlace}
    (h : DataW.Trod enc Try.prog w base (fun _ => true) held 22 (.slice a len cap) d ps) : ∃ xs : List UInt8, xs.length = len ∧ RowAt w a cap xs := by
  obtain ⟨fuel, hf⟩ := h
  rcases open_ints Try.underlying22 Try.underlying5 (by kernel_rfl) hf with ⟨hcs, _⟩ | ⟨x, l, c, zs, hcs, _, hl, hm, hz, _, hcell, hwz⟩
  · simp [Value.cells] at hcs
    obtain ⟨rfl, rfl, rfl⟩ := hcs
    exact ⟨[], rfl, rowAt_nil w⟩
  · simp [Value.cells] at hcs
    obtain ⟨rfl, rfl, rfl⟩ := hcs
    simp only [if_true] at hz
    refine ⟨byt (zs.take len), by rw [byt_length]; simp; omega, row_of_cells hl hm hz (fun e => by cases e) (fun y e j hj => ?_) hwz⟩
    cases e
    exact hcell j (by omega)

theorem i64_of {H : Type} {enc : TypeId × Value → H} {w : World} {base : Nat} {sp : Nat → Bool} {held : Bool} {n : Nat} {v : Value} {y : DataW H × List MemPlace} (h : DataW.trod enc Try.prog w base sp held n 3 [v] = some y) : ∃ x : Int, (Lit.int .i64 x).wf = true ∧ v = .int .i64 x := by
  obtain ⟨z, hz, _, hw⟩ := DataW.trod_int Try.underlying3 h
  simp only [List.cons.injEq, and_true] at hz
  exact ⟨z, hw, hz⟩
theorem open_opts {H : Type} {enc : TypeId × Value → H} {w : World} {base : Nat} {held : Bool} {a : Option Addr} {len cap : Nat} {d : DataW H} {ps : List MemPlace}
    (h : DataW.Trod enc Try.prog w base (fun _ => true) held 28 (.slice a len cap) d ps) : len ≤ cap ∧ ∃ L : List Ot.O, L.length = len ∧ OptsAt w a L ∧ ∀ x ∈ L, (Lit.int .i64 x.ty).wf = true := by
  obtain ⟨fuel, hf⟩ := h
  rcases Go.Deep.open_slice Try.underlying28 hf with ⟨hcs, _⟩ | ⟨x, l, c, m, n, D, Pl, hcs, _, hl, hm, hmm, _, hx⟩
  · simp [Value.cells] at hcs
    obtain ⟨rfl, rfl, rfl⟩ := hcs
    exact ⟨Nat.zero_le _, [], rfl, .inl rfl, fun x hx => by simp at hx⟩
  · simp [Value.cells] at hcs
    obtain ⟨rfl, rfl, rfl⟩ := hcs
    simp only [if_true] at hmm
    have h4 : Try.prog.cellsOf 24 = 2 := by kernel_rfl
    rw [h4] at hx
    have each : ∀ i, i < len → ∃ y : Ot.O × Option Addr × Nat, (Lit.int .i64 y.1.ty).wf = true ∧ w.cell? (x.add (i * 2)) = some (.int .i64 y.1.ty) ∧ w.cell? (x.add (i * 2 + 1)) = some (.slice y.2.1 y.1.data.length y.2.2) ∧ RowAt w y.2.1 y.2.2 y.1.data := by
      intro i hi
      obtain ⟨cs', k1, k2⟩ := hx i (by omega)
      obtain ⟨_, hlen, hcell⟩ := World.cells?_some k1
      obtain ⟨y0, y1, n', _, _, t0, t1⟩ := trod_struct2 Try.underlying24 k2
      match cs', hlen with
      | [c0, c1], _ =>
        have g0 := hcell 0 (by omega)
        have g1 := hcell 1 (by omega)
        simp only [Go.Deep.add_add, Nat.add_zero] at g0 g1
        have z22 : Try.prog.cellsOf 3 = 1 := by kernel_rfl
        have z28 : Try.prog.cellsOf 22 = 1 := by kernel_rfl
        simp [z22] at t0
        simp [z28] at t1
        obtain ⟨x0, l0, rfl⟩ := i64_of t0
        rcases open_ints Try.underlying22 Try.underlying5 (by kernel_rfl) t1 with ⟨hcs, _⟩ | ⟨x', l', c', zs, hcs, _, hl', hm', hz, _, hcell', hwz⟩
        · simp only [List.cons.injEq, and_true] at hcs
          subst hcs
          exact ⟨(⟨x0, []⟩, none, 0), l0, by simpa using g0, by simpa using g1, rowAt_nil w⟩
        · simp only [List.cons.injEq, and_true] at hcs
          subst hcs
          simp only [if_true] at hz
          have hbl : (byt (zs.take l')).length = l' := by rw [byt_length]; simp; omega
          refine ⟨(⟨x0, byt (zs.take l')⟩, some x', c'), l0, by simpa using g0, by simp only [hbl]; simpa using g1, row_of_cells hl' hm' hz (fun e => by cases e) (fun y e j hj => ?_) hwz⟩
          cases e
          exact hcell' j (by simp only at hj; omega)
    have inh : Inhabited (Ot.O × Option Addr × Nat) := ⟨(Ot.oz, none, 0)⟩
    obtain ⟨y, hy⟩ := Go.Deep.choose_lt (α := Ot.O × Option Addr × Nat) each
    refine ⟨hl, (List.range len).map fun i => (y i).1, by simp, ?_, ?_⟩
    · rcases Nat.eq_zero_or_pos len with rfl | hpos
      · exact .inl rfl
      · right
        obtain ⟨b, off, spot⟩ := x
        have hspot : spot = none := by simpa [Addr.add] using World.cell?_spot (hy 0 hpos).2.1
        subst hspot
        refine ⟨b, off, rfl, World.block_lt_of_cell? w _ (hy 0 hpos).2.1, fun j hj => ?_⟩
        have hj2 : j < len := by simpa using hj
        obtain ⟨h1, h2, h3, h4⟩ := hy j hj2
        simp only [Go.WideShapes.add_plain] at h2 h3
        simp only [List.getElem_map, List.getElem_range]
        exact ⟨_, _, h2, by rw [Nat.add_assoc]; exact h3, h4⟩
    · intro x hx
      simp only [List.mem_map, List.mem_range] at hx
      obtain ⟨i, hi, rfl⟩ := hx
      exact (hy i hi).1
theorem open_opt {H : Type} {enc : TypeId × Value → H} {w : World} {base : Nat} {held : Bool} {r : Reach} {b0 : Nat} {v : Value} {d : DataW H} {ps : List MemPlace} (hval : Value.okWide Try.prog w r b0 24 v) (h : DataW.Trod enc Try.prog w base (fun _ => true) held 24 v d ps) :
    ∃ (x : Ot.O) (a : Option Addr) (c : Nat), v = .agg (ocells x (.slice a x.data.length c)).toArray ∧ RowAt w a c x.data ∧ (Lit.int .i64 x.ty).wf = true := by
  obtain ⟨v0, v1, y0, y1, n, rfl, _, _, t0, t1⟩ := Go.Joins.open_agg2 Try.underlying24 (by kernel_rfl) (by kernel_rfl) hval h
  obtain ⟨x0, l0, rfl⟩ := i64_of t0
  rcases open_ints Try.underlying22 Try.underlying5 (by kernel_rfl) t1 with ⟨hcs, _⟩ | ⟨x, l, c, zs, hcs, _, hl, hm, hz, _, hcell, hwz⟩
  · simp only [List.cons.injEq, and_true] at hcs
    subst hcs
    exact ⟨⟨x0, []⟩, none, 0, rfl, rowAt_nil w, l0⟩
  · simp only [List.cons.injEq, and_true] at hcs
    subst hcs
    simp only [if_true] at hz
    have hbl : (byt (zs.take l)).length = l := by rw [byt_length]; simp; omega
    refine ⟨⟨x0, byt (zs.take l)⟩, some x, c, by simp only [ocells, hbl], row_of_cells hl hm hz (fun e => by cases e) (fun y e j hj => ?_) hwz, l0⟩
    cases e
    exact hcell j (by omega)
theorem bool_of {H : Type} {enc : TypeId × Value → H} {w : World} {base : Nat} {sp : Nat → Bool} {held : Bool} {n : Nat} {v : Value} {y : DataW H × List MemPlace} (h : DataW.trod enc Try.prog w base sp held n 4 [v] = some y) : ∃ b : Bool, v = .bool b := by
  obtain ⟨b, hb, _⟩ := DataW.trod_bool Try.underlying4 h
  simp only [List.cons.injEq, and_true] at hb
  exact ⟨b, hb⟩
theorem byte_of {H : Type} {enc : TypeId × Value → H} {w : World} {base : Nat} {sp : Nat → Bool} {held : Bool} {n : Nat} {v : Value} {y : DataW H × List MemPlace} (h : DataW.trod enc Try.prog w base sp held n 5 [v] = some y) : ∃ x : UInt8, v = .int .u8 (x.toNat : Int) := by
  obtain ⟨z, hz, _, hw⟩ := DataW.trod_int Try.underlying5 h
  simp only [List.cons.injEq, and_true] at hz
  have hb := bounds_u8 hw
  refine ⟨z.toNat.toUInt8, ?_⟩
  rw [hz]
  congr 1
  simp
  omega
theorem list_of_size {α : Type} (cs : List α) (n : Nat) (h : cs.length = n + 1) : ∃ c r, cs = c :: r ∧ r.length = n := by
  match cs, h with
  | c :: r, h => exact ⟨c, r, rfl, by simpa using h⟩
theorem four_of {H : Type} {enc : TypeId × Value → H} {w : World} {base : Nat} {sp : Nat → Bool} {held : Bool} {n : Nat} {c0 c1 c2 c3 : Value} {y : DataW H × List MemPlace} (h : DataW.trod enc Try.prog w base sp held n 30 [c0, c1, c2, c3] = some y) : ∃ x : Ad.B4, [c0, c1, c2, c3] = cells4 x := by
  obtain ⟨xs, m, _, _, _, hl, hx⟩ := DataW.trod_array Try.underlying30 h
  have z5 : Try.prog.cellsOf 5 = 1 := by kernel_rfl
  rw [z5] at hx
  have get : ∀ i, i < 4 → ∃ y, xs[i]? = some y := fun i hi => ⟨_, List.getElem?_eq_getElem (by omega)⟩
  obtain ⟨y0, e0⟩ := get 0 (by omega)
  obtain ⟨y1, e1⟩ := get 1 (by omega)
  obtain ⟨y2, e2⟩ := get 2 (by omega)
  obtain ⟨y3, e3⟩ := get 3 (by omega)
  obtain ⟨a, rfl⟩ := byte_of (show DataW.trod enc Try.prog w base sp held m 5 [c0] = some y0 from (hx 0 (by omega)).trans e0)
  obtain ⟨b, rfl⟩ := byte_of (show DataW.trod enc Try.prog w base sp held m 5 [c1] = some y1 from (hx 1 (by omega)).trans e1)
  obtain ⟨c, rfl⟩ := byte_of (show DataW.trod enc Try.prog w base sp held m 5 [c2] = some y2 from (hx 2 (by omega)).trans e2)
  obtain ⟨d, rfl⟩ := byte_of (show DataW.trod enc Try.prog w base sp held m 5 [c3] = some y3 from (hx 3 (by omega)).trans e3)
  exact ⟨⟨a, b, c, d⟩, rfl⟩
theorem eight_of {H : Type} {enc : TypeId × Value → H} {w : World} {base : Nat} {sp : Nat → Bool} {held : Bool} {n : Nat} {c0 c1 c2 c3 c4 c5 c6 c7 : Value} {y : DataW H × List MemPlace} (h : DataW.trod enc Try.prog w base sp held n 33 [c0, c1, c2, c3, c4, c5, c6, c7] = some y) : ∃ x : Ad.B8, [c0, c1, c2, c3, c4, c5, c6, c7] = cells8 x := by
  obtain ⟨xs, m, _, _, _, hl, hx⟩ := DataW.trod_array Try.underlying33 h
  have z5 : Try.prog.cellsOf 5 = 1 := by kernel_rfl
  rw [z5] at hx
  have get : ∀ i, i < 8 → ∃ y, xs[i]? = some y := fun i hi => ⟨_, List.getElem?_eq_getElem (by omega)⟩
  obtain ⟨y0, e0⟩ := get 0 (by omega)
  obtain ⟨y1, e1⟩ := get 1 (by omega)
  obtain ⟨y2, e2⟩ := get 2 (by omega)
  obtain ⟨y3, e3⟩ := get 3 (by omega)
  obtain ⟨y4, e4⟩ := get 4 (by omega)
  obtain ⟨y5, e5⟩ := get 5 (by omega)
  obtain ⟨y6, e6⟩ := get 6 (by omega)
  obtain ⟨y7, e7⟩ := get 7 (by omega)
  obtain ⟨x0, rfl⟩ := byte_of (show DataW.trod enc Try.prog w base sp held m 5 [c0] = some y0 from (hx 0 (by omega)).trans e0)
  obtain ⟨x1, rfl⟩ := byte_of (show DataW.trod enc Try.prog w base sp held m 5 [c1] = some y1 from (hx 1 (by omega)).trans e1)
  obtain ⟨x2, rfl⟩ := byte_of (show DataW.trod enc Try.prog w base sp held m 5 [c2] = some y2 from (hx 2 (by omega)).trans e2)
  obtain ⟨x3, rfl⟩ := byte_of (show DataW.trod enc Try.prog w base sp held m 5 [c3] = some y3 from (hx 3 (by omega)).trans e3)
  obtain ⟨x4, rfl⟩ := byte_of (show DataW.trod enc Try.prog w base sp held m 5 [c4] = some y4 from (hx 4 (by omega)).trans e4)
  obtain ⟨x5, rfl⟩ := byte_of (show DataW.trod enc Try.prog w base sp held m 5 [c5] = some y5 from (hx 5 (by omega)).trans e5)
  obtain ⟨x6, rfl⟩ := byte_of (show DataW.trod enc Try.prog w base sp held m 5 [c6] = some y6 from (hx 6 (by omega)).trans e6)
  obtain ⟨x7, rfl⟩ := byte_of (show DataW.trod enc Try.prog w base sp held m 5 [c7] = some y7 from (hx 7 (by omega)).trans e7)
  exact ⟨⟨x0, x1, x2, x3, x4, x5, x6, x7⟩, rfl⟩
theorem bools_of {H : Type} {enc : TypeId × Value → H} {w : World} {base : Nat} {sp : Nat → Bool} {held : Bool} {n : Nat} {c0 c1 c2 c3 : Value} {y : DataW H × List MemPlace} (h : DataW.trod enc Try.prog w base sp held n 31 [c0, c1, c2, c3] = some y) : ∃ b0 b1 b2 b3 : Bool, c0 = .bool b0 ∧ c1 = .bool b1 ∧ c2 = .bool b2 ∧ c3 = .bool b3 := by
  obtain ⟨xs, m, _, _, _, hl, hx⟩ := DataW.trod_array Try.underlying31 h
  have z5 : Try.prog.cellsOf 4 = 1 := by kernel_rfl
  rw [z5] at hx
  have get : ∀ i, i < 4 → ∃ y, xs[i]? = some y := fun i hi => ⟨_, List.getElem?_eq_getElem (by omega)⟩
  obtain ⟨y0, e0⟩ := get 0 (by omega)
  obtain ⟨y1, e1⟩ := get 1 (by omega)
  obtain ⟨y2, e2⟩ := get 2 (by omega)
  obtain ⟨y3, e3⟩ := get 3 (by omega)
  obtain ⟨x0, g0⟩ := bool_of (show DataW.trod enc Try.prog w base sp held m 4 [c0] = some y0 from (hx 0 (by omega)).trans e0)
  obtain ⟨x1, g1⟩ := bool_of (show DataW.trod enc Try.prog w base sp held m 4 [c1] = some y1 from (hx 1 (by omega)).trans e1)
  obtain ⟨x2, g2⟩ := bool_of (show DataW.trod enc Try.prog w base sp held m 4 [c2] = some y2 from (hx 2 (by omega)).trans e2)
  obtain ⟨x3, g3⟩ := bool_of (show DataW.trod enc Try.prog w base sp held m 4 [c3] = some y3 from (hx 3 (by omega)).trans e3)
  exact ⟨x0, x1, x2, x3, g0, g1, g2, g3⟩
theorem fours_of {H : Type} {enc : TypeId × Value → H} {w : World} {base : Nat} {sp : Nat → Bool} {held : Bool} {n : Nat} {c0 c1 c2 c3 c4 c5 c6 c7 c8 c9 k0 k1 k2 k3 k4 k5 : Value} {y : DataW H × List MemPlace} (h : DataW.trod enc Try.prog w base sp held n 32 [c0, c1, c2, c3, c4, c5, c6, c7, c8, c9, k0, k1, k2, k3, k4, k5] = some y) : ∃ x0 x1 x2 x3 : Ad.B4, [c0, c1, c2, c3] = cells4 x0 ∧ [c4, c5, c6, c7] = cells4 x1 ∧ [c8, c9, k0, k1] = cells4 x2 ∧ [k2, k3, k4, k5] = cells4 x3 := by
  obtain ⟨xs, m, _, _, _, hl, hx⟩ := DataW.trod_array Try.underlying32 h
  have z5 : Try.prog.cellsOf 30 = 4 := by kernel_rfl
  rw [z5] at hx
  have get : ∀ i, i < 4 → ∃ y, xs[i]? = some y := fun i hi => ⟨_, List.getElem?_eq_getElem (by omega)⟩
  obtain ⟨y0, e0⟩ := get 0 (by omega)
  obtain ⟨y1, e1⟩ := get 1 (by omega)
  obtain ⟨y2, e2⟩ := get 2 (by omega)
  obtain ⟨y3, e3⟩ := get 3 (by omega)
  obtain ⟨x0, g0⟩ := four_of (show DataW.trod enc Try.prog w base sp held m 30 [c0, c1, c2, c3] = some y0 from (hx 0 (by omega)).trans e0)
  obtain ⟨x1, g1⟩ := four_of (show DataW.trod enc Try.prog w base sp held m 30 [c4, c5, c6, c7] = some y1 from (hx 1 (by omega)).trans e1)
  obtain ⟨x2, g2⟩ := four_of (show DataW.trod enc Try.prog w base sp held m 30 [c8, c9, k0, k1] = some y2 from (hx 2 (by omega)).trans e2)
  obtain ⟨x3, g3⟩ := four_of (show DataW.trod enc Try.prog w base sp held m 30 [k2, k3, k4, k5] = some y3 from (hx 3 (by omega)).trans e3)
  exact ⟨x0, x1, x2, x3, g0, g1, g2, g3⟩
theorem array37 {α : Type} {cs : Array α} (h : cs.size = 37) : ∃ c0 c1 c2 c3 c4 c5 c6 c7 c8 c9 c10 c11 c12 c13 c14 c15 c16 c17 c18 c19 c20 c21 c22 c23 c24 c25 c26 c27 c28 c29 c30 c31 c32 c33 c34 c35 c36, cs = #[c0, c1, c2, c3, c4, c5, c6, c7, c8, c9, c10, c11, c12, c13, c14, c15, c16, c17, c18, c19, c20, c21, c22, c23, c24, c25, c26, c27, c28, c29, c30, c31, c32, c33, c34, c35, c36] := by
  obtain ⟨l⟩ := cs
  have h : l.length = 37 := h
  obtain ⟨c0, l1, rfl, q1⟩ := list_of_size l 36 h
  obtain ⟨c1, l2, rfl, q2⟩ := list_of_size l1 35 q1
  obtain ⟨c2, l3, rfl, q3⟩ := list_of_size l2 34 q2
  obtain ⟨c3, l4, rfl, q4⟩ := list_of_size l3 33 q3
  obtain ⟨c4, l5, rfl, q5⟩ := list_of_size l4 32 q4
  obtain ⟨c5, l6, rfl, q6⟩ := list_of_size l5 31 q5
  obtain ⟨c6, l7, rfl, q7⟩ := list_of_size l6 30 q6
  obtain ⟨c7, l8, rfl, q8⟩ := list_of_size l7 29 q7
  obtain ⟨c8, l9, rfl, q9⟩ := list_of_size l8 28 q8
  obtain ⟨c9, l10, rfl, q10⟩ := list_of_size l9 27 q9
  obtain ⟨c10, l11, rfl, q11⟩ := list_of_size l10 26 q10
  obtain ⟨c11, l12, rfl, q12⟩ := list_of_size l11 25 q11
  obtain ⟨c12, l13, rfl, q13⟩ := list_of_size l12 24 q12
  obtain ⟨c13, l14, rfl, q14⟩ := list_of_size l13 23 q13
  obtain ⟨c14, l15, rfl, q15⟩ := list_of_size l14 22 q14
  obtain ⟨c15, l16, rfl, q16⟩ := list_of_size l15 21 q15
  obtain ⟨c16, l17, rfl, q17⟩ := list_of_size l16 20 q16
  obtain ⟨c17, l18, rfl, q18⟩ := list_of_size l17 19 q17
  obtain ⟨c18, l19, rfl, q19⟩ := list_of_size l18 18 q18
  obtain ⟨c19, l20, rfl, q20⟩ := list_of_size l19 17 q19
  obtain ⟨c20, l21, rfl, q21⟩ := list_of_size l20 16 q20
  obtain ⟨c21, l22, rfl, q22⟩ := list_of_size l21 15 q21
  obtain ⟨c22, l23, rfl, q23⟩ := list_of_size l22 14 q22
  obtain ⟨c23, l24, rfl, q24⟩ := list_of_size l23 13 q23
  obtain ⟨c24, l25, rfl, q25⟩ := list_of_size l24 12 q24
  obtain ⟨c25, l26, rfl, q26⟩ := list_of_size l25 11 q25
  obtain ⟨c26, l27, rfl, q27⟩ := list_of_size l26 10 q26
  obtain ⟨c27, l28, rfl, q28⟩ := list_of_size l27 9 q27
  obtain ⟨c28, l29, rfl, q29⟩ := list_of_size l28 8 q28
  obtain ⟨c29, l30, rfl, q30⟩ := list_of_size l29 7 q29
  obtain ⟨c30, l31, rfl, q31⟩ := list_of_size l30 6 q30
  obtain ⟨c31, l32, rfl, q32⟩ := list_of_size l31 5 q31
  obtain ⟨c32, l33, rfl, q33⟩ := list_of_size l32 4 q32
  obtain ⟨c33, l34, rfl, q34⟩ := list_of_size l33 3 q33
  obtain ⟨c34, l35, rfl, q35⟩ := list_of_size l34 2 q34
  obtain ⟨c35, l36, rfl, q36⟩ := list_of_size l35 1 q35
  obtain ⟨c36, l37, rfl, q37⟩ := list_of_size l36 0 q36
  obtain rfl : l37 = [] := List.eq_nil_of_length_eq_zero q37
  exact ⟨c0, c1, c2, c3, c4, c5, c6, c7, c8, c9, c10, c11, c12, c13, c14, c15, c16, c17, c18, c19, c20, c21, c22, c23, c24, c25, c26, c27, c28, c29, c30, c31, c32, c33, c34, c35, c36, rfl⟩
theorem open_ad {H : Type} {enc : TypeId × Value → H} {w : World} {base : Nat} {held : Bool} {r : Reach} {b0 : Nat} {v : Value} {d : DataW H} {ps : List MemPlace} (hval : Value.okWide Try.prog w r b0 35 v) (h : DataW.Trod enc Try.prog w base (fun _ => true) held 35 v d ps) :
    ∃ t : Ad.T, v = .agg (acells t).toArray := by
  obtain ⟨cs, rfl, hsz⟩ := okWide_struct Try.underlying35 hval
  obtain ⟨c0, c1, c2, c3, c4, c5, c6, c7, c8, c9, c10, c11, c12, c13, c14, c15, c16, c17, c18, c19, c20, c21, c22, c23, c24, c25, c26, c27, c28, c29, c30, c31, c32, c33, c34, c35, c36, rfl⟩ := array37 (hsz.trans (by kernel_rfl))
  obtain ⟨fuel, hf⟩ := h
  obtain ⟨xs, n, _, _, _, hlen, hx⟩ := DataW.trod_struct Try.underlying35 hf
  have hl9 : xs.length = 9 := hlen
  have get : ∀ i, i < 9 → ∃ y, xs[i]? = some y := fun i hi => ⟨_, List.getElem?_eq_getElem (by omega)⟩
  obtain ⟨y0, e0⟩ := get 0 (by omega)
  have h0 := (hx 0 _ rfl).trans e0
  obtain ⟨b0, rfl⟩ := bool_of (show DataW.trod enc Try.prog w base (fun _ => true) held n 4 [c0] = some y0 from h0)
  obtain ⟨y1, e1⟩ := get 1 (by omega)
  have h1 := (hx 1 _ rfl).trans e1
  obtain ⟨ip, gip⟩ := four_of (show DataW.trod enc Try.prog w base (fun _ => true) held n 30 [c1, c2, c3, c4] = some y1 from h1)
  obtain ⟨y2, e2⟩ := get 2 (by omega)
  have h2 := (hx 2 _ rfl).trans e2
  obtain ⟨b5, rfl⟩ := bool_of (show DataW.trod enc Try.prog w base (fun _ => true) held n 4 [c5] = some y2 from h2)
  obtain ⟨y3, e3⟩ := get 3 (by omega)
  have h3 := (hx 3 _ rfl).trans e3
  obtain ⟨sl, _, rfl⟩ := i64_of (show DataW.trod enc Try.prog w base (fun _ => true) held n 3 [c6] = some y3 from h3)
  obtain ⟨y4, e4⟩ := get 4 (by omega)
  have h4 := (hx 4 _ rfl).trans e4
  obtain ⟨b7, rfl⟩ := bool_of (show DataW.trod enc Try.prog w base (fun _ => true) held n 4 [c7] = some y4 from h4)
  obtain ⟨y5, e5⟩ := get 5 (by omega)
  have h5 := (hx 5 _ rfl).trans e5
  obtain ⟨d0, d1, d2, d3, rfl, rfl, rfl, rfl⟩ := bools_of (show DataW.trod enc Try.prog w base (fun _ => true) held n 31 [c8, c9, c10, c11] = some y5 from h5)
  obtain ⟨y6, e6⟩ := get 6 (by omega)
  have h6 := (hx 6 _ rfl).trans e6
  obtain ⟨n0, n1, n2, n3, g0, g1, g2, g3⟩ := fours_of (show DataW.trod enc Try.prog w base (fun _ => true) held n 32 [c12, c13, c14, c15, c16, c17, c18, c19, c20, c21, c22, c23, c24, c25, c26, c27] = some y6 from h6)
  obtain ⟨y7, e7⟩ := get 7 (by omega)
  have h7 := (hx 7 _ rfl).trans e7
  obtain ⟨b28, rfl⟩ := bool_of (show DataW.trod enc Try.prog w base (fun _ => true) held n 4 [c28] = some y7 from h7)
  obtain ⟨y8, e8⟩ := get 8 (by omega)
  have h8 := (hx 8 _ rfl).trans e8
  obtain ⟨id, gid⟩ := eight_of (show DataW.trod enc Try.prog w base (fun _ => true) held n 33 [c29, c30, c31, c32, c33, c34, c35, c36] = some y8 from h8)
  refine ⟨⟨b0, ip, b5, sl, b7, d0, d1, d2, d3, n0, n1, n2, n3, b28, id⟩, ?_⟩
  simp only [cells4, cells8, List.cons.injEq, and_true] at gip gid g0 g1 g2 g3
  obtain ⟨rfl, rfl, rfl, rfl⟩ := gip
  obtain ⟨rfl, rfl, rfl, rfl, rfl, rfl, rfl, rfl⟩ := gid
  obtain ⟨rfl, rfl, rfl, rfl⟩ := g0
  obtain ⟨rfl, rfl, rfl, rfl⟩ := g1
  obtain ⟨rfl, rfl, rfl, rfl⟩ := g2
  obtain ⟨rfl, rfl, rfl, rfl⟩ := g3
  rfl
end Go.Proofs.Ytacnlancncmpmaa
