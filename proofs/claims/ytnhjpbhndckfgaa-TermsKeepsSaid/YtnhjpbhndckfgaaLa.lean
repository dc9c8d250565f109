/- What came in: options, slices of options, terms. -/
import Derived.Test.YtnhjpbhndckfgaaTr
import Derived.Deep.Strs
import Derived.Lib.SmallJoins
import Derived.Deep.Slices
import Derived.Test.YtnhjpbhndckfgaaRows
import Derived.ProofKit
import Derived.OpenShut
import Derived.ShutString
import Derived.ChangeOld
import Derived.Below
namespace Go.Proofs.Ytnhjpbhndckfgaa
open Go.ChangeShapes Go.WideShapes Go.ChangeAt Go.RowKit S2 S12

theorem own : ownKnob Try.prog.godebug = none := by kernel_rfl
theorem laidOut : laidOutB Try.prog = true := by kernel_rfl

/-- The bytes of numbers. -/
def byt (zs : List Int) : List UInt8 := zs.map fun z => z.toNat.toUInt8
theorem byt_length (zs : List Int) : (byt zs).length = zs.length := by simp [byt]

theorem row_of_cells {w : World} {a : Option Addr} {len cap : Nat} {zs : List Int} (hl : len ≤ cap) (hm : cap ≤ maxLen) (hz : zs.length = cap) (hnil : a = none → cap = 0)
    (hc : ∀ x, a = some x → ∀ c, c < cap → w.cell? (x.add c) = some (.int .u8 (zs.getD c 0))) (hw : ∀ n ∈ zs, (Lit.int .u8 n).wf = true) : RowAt w a cap (byt (zs.take len)) := by
  refine ⟨by rw [byt_length]; simp; omega, hm, hnil, fun ad e j u hu => ?_⟩
  have hj : j < len := by
    have := (List.getElem?_eq_some_iff.1 hu).1
    rw [Lib.byteCells_length, byt_length] at this
    simp at this
    omega
  rw [hc ad e j (by omega)]
  have e2 : zs[j]? = some (zs[j]'(by omega)) := List.getElem?_eq_getElem (by omega)
  have hb := bounds_u8 (hw _ (List.getElem_mem (l := zs) (n := j) (by omega)))
  simp only [Lib.byteCells, byt, List.getElem?_map, List.getElem?_take, if_pos hj, e2, Option.map_some, Option.some.injEq] at hu
  rw [← hu, List.getD_eq_getElem?_getD, e2]
  simp
  omega

theorem open_bytes {H : Type} {enc : TypeId × Value → H} {w : World} {base : Nat} {held : Bool} {a : Option Addr} {len cap : Nat} {d : DataW H} {ps : List MemPlace}
    (h : DataW.Trod enc Try.prog w base (fun _ => true) held 22 (.slice a len cap) d ps) : ∃ xs : List UInt8, xs.length = len ∧ RowAt w a cap xs := by
  obtain ⟨fuel, hf⟩ := h
  rcases open_ints Try.underlying22 Try.underlying5 (by kernel_rfl) hf with ⟨hcs, _⟩ | ⟨x, l, c, zs, hcs, _, hl, hm, hz, _, hcell, hwz⟩
  · simp [Value.cells] at hcs
    obtain ⟨rfl, rfl, rfl⟩ := hcs
    exact ⟨[], rfl, rowAt_nil w⟩
  · simp [Value.cells] at hcs
    obtain ⟨rfl, rfl, rfl⟩ := hcs
    simp only [if_true] at hz
    refine ⟨byt (zs.take len), by rw [byt_length]; simp; omega, row_of_cells hl hm hz (fun e => by cases e) (fun y e j hj => ?_) hwz⟩
    cases e
    exact hcell j (by omega)

theorem i64_of {H : Type} {enc : TypeId × Value → H} {w : World} {base : Nat} {sp : Nat → Bool} {held : Bool} {n : Nat} {v : Value} {y : DataW H × List MemPlace} (h : DataW.trod enc Try.prog w base sp held n 3 [v] = some y) : ∃ x : Int, (Lit.int .i64 x).wf = true ∧ v = .int .i64 x := by
  obtain ⟨z, hz, _, hw⟩ := DataW.trod_int Try.underlying3 h
  simp only [List.cons.injEq, and_true] at hz
  exact ⟨z, hw, hz⟩
theorem open_opts {H : Type} {enc : TypeId × Value → H} {w : World} {base : Nat} {held : Bool} {a : Option Addr} {len cap : Nat} {d : DataW H} {ps : List MemPlace}
    (h : DataW.Trod enc Try.prog w base (fun _ => true) held 28 (.slice a len cap) d ps) : len ≤ cap ∧ ∃ L : List Ot.O, L.length = len ∧ OptsAt w a L ∧ ∀ x ∈ L, (Lit.int .i64 x.ty).wf = true := by
  obtain ⟨fuel, hf⟩ := h
  rcases Go.Deep.open_slice Try.underlying28 hf with ⟨hcs, _⟩ | ⟨x, l, c, m, n, D, Pl, hcs, _, hl, hm, hmm, _, hx⟩
  · simp [Value.cells] at hcs
    obtain ⟨rfl, rfl, rfl⟩ := hcs
    exact ⟨Nat.zero_le _, [], rfl, .inl rfl, fun x hx => by simp at hx⟩
  · simp [Value.cells] at hcs
    obtain ⟨rfl, rfl, rfl⟩ := hcs
    simp only [if_true] at hmm
    have h4 : Try.prog.cellsOf 24 = 2 := by kernel_rfl
    rw [h4] at hx
    have each : ∀ i, i < len → ∃ y : Ot.O × Option Addr × Nat, (Lit.int .i64 y.1.ty).wf = true ∧ w.cell? (x.add (i * 2)) = some (.int .i64 y.1.ty) ∧ w.cell? (x.add (i * 2 + 1)) = some (.slice y.2.1 y.1.data.length y.2.2) ∧ RowAt w y.2.1 y.2.2 y.1.data := by
      intro i hi
      obtain ⟨cs', k1, k2⟩ := hx i (by omega)
      obtain ⟨_, hlen, hcell⟩ := World.cells?_some k1
      obtain ⟨y0, y1, n', _, _, t0, t1⟩ := trod_struct2 Try.underlying24 k2
      match cs', hlen with
      | [c0, c1], _ =>
        have g0 := hcell 0 (by omega)
        have g1 := hcell 1 (by omega)
        simp only [Go.Deep.add_add, Nat.add_zero] at g0 g1
        have z22 : Try.prog.cellsOf 3 = 1 := by kernel_rfl
        have z28 : Try.prog.cellsOf 22 = 1 := by kernel_rfl
        simp [z22] at t0
        simp [z28] at t1
        obtain ⟨x0, l0, rfl⟩ := i64_of t0
        rcases open_ints Try.underlying22 Try.underlying5 (by kernel_rfl) t1 with ⟨hcs, _⟩ | ⟨x', l', c', zs, hcs, _, hl', hm', hz, _, hcell', hwz⟩
        · simp only [List.cons.injEq, and_true] at hcs
          subst hcs
          exact ⟨(⟨x0, []⟩, none, 0), l0, by simpa using g0, by simpa using g1, rowAt_nil w⟩
        · simp only [List.cons.injEq, and_true] at hcs
          subst hcs
          simp only [if_true] at hz
          have hbl : (byt (zs.take l')).length = l' := by rw [byt_length]; simp; omega
          refine ⟨(⟨x0, byt (zs.take l')⟩, some x', c'), l0, by simpa using g0, by simp only [hbl]; simpa using g1, row_of_cells hl' hm' hz (fun e => by cases e) (fun y e j hj => ?_) hwz⟩
          cases e
          exact hcell' j (by simp only at hj; omega)
    have inh : Inhabited (Ot.O × Option Addr × Nat) := ⟨(Ot.oz, none, 0)⟩
    obtain ⟨y, hy⟩ := Go.Deep.choose_lt (α := Ot.O × Option Addr × Nat) each
    refine ⟨hl, (List.range len).map fun i => (y i).1, by simp, ?_, ?_⟩
    · rcases Nat.eq_zero_or_pos len with rfl | hpos
      · exact .inl rfl
      · right
        obtain ⟨b, off, spot⟩ := x
        have hspot : spot = none := by simpa [Addr.add] using World.cell?_spot (hy 0 hpos).2.1
        subst hspot
        refine ⟨b, off, rfl, World.block_lt_of_cell? w _ (hy 0 hpos).2.1, fun j hj => ?_⟩
        have hj2 : j < len := by simpa using hj
        obtain ⟨h1, h2, h3, h4⟩ := hy j hj2
        simp only [Go.WideShapes.add_plain] at h2 h3
        simp only [List.getElem_map, List.getElem_range]
        exact ⟨_, _, h2, by rw [Nat.add_assoc]; exact h3, h4⟩
    · intro x hx
      simp only [List.mem_map, List.mem_range] at hx
      obtain ⟨i, hi, rfl⟩ := hx
      exact (hy i hi).1
theorem open_opt {H : Type} {enc : TypeId × Value → H} {w : World} {base : Nat} {held : Bool} {r : Reach} {b0 : Nat} {v : Value} {d : DataW H} {ps : List MemPlace} (hval : Value.okWide Try.prog w r b0 24 v) (h : DataW.Trod enc Try.prog w base (fun _ => true) held 24 v d ps) :
    ∃ (x : Ot.O) (a : Option Addr) (c : Nat), v = .agg (ocells x (.slice a x.data.length c)).toArray ∧ RowAt w a c x.data ∧ (Lit.int .i64 x.ty).wf = true := by
  obtain ⟨v0, v1, y0, y1, n, rfl, _, _, t0, t1⟩ := Go.Joins.open_agg2 Try.underlying24 (by kernel_rfl) (by kernel_rfl) hval h
  obtain ⟨x0, l0, rfl⟩ := i64_of t0
  rcases open_ints Try.underlying22 Try.underlying5 (by kernel_rfl) t1 with ⟨hcs, _⟩ | ⟨x, l, c, zs, hcs, _, hl, hm, hz, _, hcell, hwz⟩
  · simp only [List.cons.injEq, and_true] at hcs
    subst hcs
    exact ⟨⟨x0, []⟩, none, 0, rfl, rowAt_nil w, l0⟩
  · simp only [List.cons.injEq, and_true] at hcs
    subst hcs
    simp only [if_true] at hz
    have hbl : (byt (zs.take l)).length = l := by rw [byt_length]; simp; omega
    refine ⟨⟨x0, byt (zs.take l)⟩, some x, c, by simp only [ocells, hbl], row_of_cells hl hm hz (fun e => by cases e) (fun y e j hj => ?_) hwz, l0⟩
    cases e
    exact hcell j (by omega)
theorem array10 {α : Type} {cs : Array α} (h : cs.size = 10) : ∃ c0 c1 c2 c3 c4 c5 c6 c7 c8 c9, cs = #[c0, c1, c2, c3, c4, c5, c6, c7, c8, c9] := by
  obtain ⟨l⟩ := cs
  match l, h with
  | [c0, c1, c2, c3, c4, c5, c6, c7, c8, c9], _ => exact ⟨c0, c1, c2, c3, c4, c5, c6, c7, c8, c9, rfl⟩
theorem bool_of {H : Type} {enc : TypeId × Value → H} {w : World} {base : Nat} {sp : Nat → Bool} {held : Bool} {n : Nat} {v : Value} {y : DataW H × List MemPlace} (h : DataW.trod enc Try.prog w base sp held n 4 [v] = some y) : ∃ b : Bool, v = .bool b := by
  obtain ⟨b, hb, _⟩ := DataW.trod_bool Try.underlying4 h
  simp only [List.cons.injEq, and_true] at hb
  exact ⟨b, hb⟩
theorem u32_of {H : Type} {enc : TypeId × Value → H} {w : World} {base : Nat} {sp : Nat → Bool} {held : Bool} {n : Nat} {v : Value} {y : DataW H × List MemPlace} (h : DataW.trod enc Try.prog w base sp held n 30 [v] = some y) : ∃ x : Nat, x < 4294967296 ∧ v = .int .u32 (x : Int) := by
  obtain ⟨z, hz, _, hw⟩ := DataW.trod_int Try.underlying30 h
  simp only [List.cons.injEq, and_true] at hz
  have hb := bounds_u32 hw
  obtain ⟨x, rfl⟩ := Int.eq_ofNat_of_zero_le hb.1
  exact ⟨x, by omega, hz⟩
theorem open_tm {H : Type} {enc : TypeId × Value → H} {w : World} {base : Nat} {held : Bool} {r : Reach} {b0 : Nat} {v : Value} {d : DataW H} {ps : List MemPlace} (hval : Value.okWide Try.prog w r b0 32 v) (h : DataW.Trod enc Try.prog w base (fun _ => true) held 32 v d ps) :
    ∃ t : Tm.T, v = .agg (tcells t).toArray ∧ Tm.In t ∧ (-9223372036854775808 ≤ t.mru ∧ t.mru ≤ 9223372036854775807) ∧ (-9223372036854775808 ≤ t.login ∧ t.login ≤ 9223372036854775807) := by
  obtain ⟨cs, rfl, hsz⟩ := okWide_struct Try.underlying32 hval
  obtain ⟨c0, c1, c2, c3, c4, c5, c6, c7, c8, c9, rfl⟩ := array10 (hsz.trans (by kernel_rfl))
  obtain ⟨fuel, hf⟩ := h
  obtain ⟨xs, n, _, _, _, hlen, hx⟩ := DataW.trod_struct Try.underlying32 hf
  have get : ∀ i, i < xs.length → ∃ y, xs[i]? = some y := fun i hi => ⟨_, List.getElem?_eq_getElem hi⟩
  have hl10 : xs.length = 10 := hlen
  obtain ⟨y0, e0⟩ := get 0 (by omega)
  have h0 := (hx 0 _ rfl).trans e0
  obtain ⟨m1, rfl⟩ := bool_of (show DataW.trod enc Try.prog w base (fun _ => true) held n 4 [c0] = some y0 from h0)
  obtain ⟨y1, e1⟩ := get 1 (by omega)
  have h1 := (hx 1 _ rfl).trans e1
  obtain ⟨m2, w1, rfl⟩ := i64_of (show DataW.trod enc Try.prog w base (fun _ => true) held n 3 [c1] = some y1 from h1)
  obtain ⟨y2, e2⟩ := get 2 (by omega)
  have h2 := (hx 2 _ rfl).trans e2
  obtain ⟨a1, rfl⟩ := bool_of (show DataW.trod enc Try.prog w base (fun _ => true) held n 4 [c2] = some y2 from h2)
  obtain ⟨y3, e3⟩ := get 3 (by omega)
  have h3 := (hx 3 _ rfl).trans e3
  obtain ⟨a2, w3, rfl⟩ := u32_of (show DataW.trod enc Try.prog w base (fun _ => true) held n 30 [c3] = some y3 from h3)
  obtain ⟨y4, e4⟩ := get 4 (by omega)
  have h4 := (hx 4 _ rfl).trans e4
  obtain ⟨lg, w4, rfl⟩ := i64_of (show DataW.trod enc Try.prog w base (fun _ => true) held n 3 [c4] = some y4 from h4)
  obtain ⟨y5, e5⟩ := get 5 (by omega)
  have h5 := (hx 5 _ rfl).trans e5
  obtain ⟨qu, rfl⟩ := bool_of (show DataW.trod enc Try.prog w base (fun _ => true) held n 4 [c5] = some y5 from h5)
  obtain ⟨y6, e6⟩ := get 6 (by omega)
  have h6 := (hx 6 _ rfl).trans e6
  obtain ⟨g1, rfl⟩ := bool_of (show DataW.trod enc Try.prog w base (fun _ => true) held n 4 [c6] = some y6 from h6)
  obtain ⟨y7, e7⟩ := get 7 (by omega)
  have h7 := (hx 7 _ rfl).trans e7
  obtain ⟨g2, w7, rfl⟩ := u32_of (show DataW.trod enc Try.prog w base (fun _ => true) held n 30 [c7] = some y7 from h7)
  obtain ⟨y8, e8⟩ := get 8 (by omega)
  have h8 := (hx 8 _ rfl).trans e8
  obtain ⟨pf, rfl⟩ := bool_of (show DataW.trod enc Try.prog w base (fun _ => true) held n 4 [c8] = some y8 from h8)
  obtain ⟨y9, e9⟩ := get 9 (by omega)
  have h9 := (hx 9 _ rfl).trans e9
  obtain ⟨ac, rfl⟩ := bool_of (show DataW.trod enc Try.prog w base (fun _ => true) held n 4 [c9] = some y9 from h9)
  have b1 := bounds_i64 w1
  have b4 := bounds_i64 w4
  exact ⟨⟨m1, m2, a1, a2, lg, qu, g1, g2, pf, ac⟩, rfl, ⟨w3, w7⟩, by simp only; omega, by simp only; omega⟩
end Go.Proofs.Ytnhjpbhndckfgaa
