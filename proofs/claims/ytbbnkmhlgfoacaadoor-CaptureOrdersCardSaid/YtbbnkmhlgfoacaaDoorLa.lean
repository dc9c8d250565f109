/- What came in: slices of bytes, slices of items, a config, a header; what the listed variable gives the walks. -/
import Derived.Test.YtbbnkmhlgfoacaaDoorRows
import Derived.Test.YtbbnkmhlgfoacaaDoorTie
import Derived.Test.YtbbnkmhlgfoacaaDoorCards
import Derived.Test.YtbbnkmhlgfoacaaDoorCa
import Derived.ProofKit
import Derived.LaidMore
import Derived.OpenShut
import Derived.ShutString
import Derived.ChangeOld
import Derived.Below
import Derived.Lib.LaidU8
import Derived.Lib.SmallJoins
import Derived.Deep.Slices
import Derived.Deep.Strs
import Derived.Stop.Joined
import Derived.Stop.LaidErr
import Derived.SevenTiedAt
namespace Go.Proofs.YtbbnkmhlgfoacaaDoor
open Go.ChangeShapes Go.WideShapes Go.ChangeAt Go.RowKit
open S10

theorem own : ownKnob Tryd.prog.godebug = none := by kernel_rfl
theorem laidOut : laidOutB Tryd.prog = true := by kernel_rfl

/-- The bytes of numbers. -/
def byt (zs : List Int) : List UInt8 := zs.map fun z => z.toNat.toUInt8
theorem byt_length (zs : List Int) : (byt zs).length = zs.length := by simp [byt]

theorem row_of_cells {w : World} {a : Option Addr} {len cap : Nat} {zs : List Int} (hl : len ≤ cap) (hm : cap ≤ maxLen) (hz : zs.length = cap) (hnil : a = none → cap = 0)
    (hc : ∀ x, a = some x → ∀ c, c < cap → w.cell? (x.add c) = some (.int .u8 (zs.getD c 0))) (hw : ∀ n ∈ zs, (Lit.int .u8 n).wf = true) : RowAt w a cap (byt (zs.take len)) := by
  refine ⟨by rw [byt_length]; simp; omega, hm, hnil, fun ad e j u hu => ?_⟩
  have hj : j < len := by
    have := (List.getElem?_eq_some_iff.1 hu).1
    rw [Lib.byteCells_length, byt_length] at this
    simp at this
    omega
  rw [hc ad e j (by omega)]
  have e2 : zs[j]? = some (zs[j]'(by omega)) := List.getElem?_eq_getElem (by omega)
  have hb := bounds_u8 (hw _ (List.getElem_mem (l := zs) (n := j) (by omega)))
  simp only [Lib.byteCells, byt, List.getElem?_map, List.getElem?_take, if_pos hj, e2, Option.map_some, Option.some.injEq] at hu
  rw [← hu, List.getD_eq_getElem?_getD, e2]
  simp
  omega

set_option maxRecDepth 100000 in
theorem open_bytes {H : Type} {enc : TypeId × Value → H} {w : World} {base : Nat} {held : Bool} {a : Option Addr} {len cap : Nat} {d : DataW H} {ps : List MemPlace}
    (h : DataW.Trod enc Tryd.prog w base (fun _ => true) held 28 (.slice a len cap) d ps) : ∃ xs : List UInt8, xs.length = len ∧ RowAt w a cap xs := by
  obtain ⟨fuel, hf⟩ := h
  rcases open_ints Tryd.underlying28 Tryd.underlying5 (by kernel_rfl) hf with ⟨hcs, _⟩ | ⟨x, l, c, zs, hcs, _, hl, hm, hz, _, hcell, hwz⟩
  · simp [Value.cells] at hcs
    obtain ⟨rfl, rfl, rfl⟩ := hcs
    exact ⟨[], rfl, rowAt_nil w⟩
  · simp [Value.cells] at hcs
    obtain ⟨rfl, rfl, rfl⟩ := hcs
    simp only [if_true] at hz
    refine ⟨byt (zs.take len), by rw [byt_length]; simp; omega, row_of_cells hl hm hz (fun e => by cases e) (fun y e j hj => ?_) hwz⟩
    cases e
    exact hcell j (by omega)

theorem u32_of {H : Type} {enc : TypeId × Value → H} {w : World} {base : Nat} {sp : Nat → Bool} {held : Bool} {n : Nat} {v : Value} {y : DataW H × List MemPlace} (h : DataW.trod enc Tryd.prog w base sp held n 23 [v] = some y) : ∃ x : Nat, x < 4294967296 ∧ v = .int .u32 (x : Int) := by
  obtain ⟨z, hz, _, hw⟩ := DataW.trod_int Tryd.underlying23 h
  simp only [List.cons.injEq, and_true] at hz
  have hb := bounds_u32 hw
  exact ⟨z.toNat, by omega, by rw [hz]; congr 1; omega⟩
theorem i64_of {H : Type} {enc : TypeId × Value → H} {w : World} {base : Nat} {sp : Nat → Bool} {held : Bool} {n : Nat} {v : Value} {y : DataW H × List MemPlace} (h : DataW.trod enc Tryd.prog w base sp held n 3 [v] = some y) : ∃ x : Int, -9223372036854775808 ≤ x ∧ x ≤ 9223372036854775807 ∧ v = .int .i64 x := by
  obtain ⟨z, hz, _, hw⟩ := DataW.trod_int Tryd.underlying3 h
  simp only [List.cons.injEq, and_true] at hz
  have hb := bounds_i64 hw
  exact ⟨z, by omega, by omega, hz⟩
set_option maxRecDepth 100000 in
theorem open_items {H : Type} {enc : TypeId × Value → H} {w : World} {base : Nat} {held : Bool} {a : Option Addr} {len cap : Nat} {d : DataW H} {ps : List MemPlace}
    (h : DataW.Trod enc Tryd.prog w base (fun _ => true) held 22 (.slice a len cap) d ps) : len ≤ cap ∧ (a = none → cap = 0) ∧ ∃ L : List Cp.It, L.length = len ∧ ItsAt w a L := by
  obtain ⟨fuel, hf⟩ := h
  rcases Go.Deep.open_slice Tryd.underlying22 hf with ⟨hcs, _⟩ | ⟨x, l, c, m, n, D, Pl, hcs, _, hl, hm, hmm, _, hx⟩
  · simp [Value.cells] at hcs
    obtain ⟨rfl, rfl, rfl⟩ := hcs
    exact ⟨Nat.zero_le _, fun _ => rfl, [], rfl, .inl rfl⟩
  · simp [Value.cells] at hcs
    obtain ⟨rfl, rfl, rfl⟩ := hcs
    simp only [if_true] at hmm
    have h3 : Tryd.prog.cellsOf 48 = 3 := by kernel_rfl
    rw [h3] at hx
    have each : ∀ i, i < len → ∃ y : Cp.It × Option Addr × Nat, w.cell? (x.add (i * 3)) = some (.int .i64 y.1.dir) ∧ w.cell? (x.add (i * 3 + 1)) = some (.int .i64 y.1.proto) ∧ w.cell? (x.add (i * 3 + 2)) = some (.slice y.2.1 y.1.data.length y.2.2) ∧ RowAt w y.2.1 y.2.2 y.1.data := by
      intro i hi
      obtain ⟨cs', k1, k2⟩ := hx i (by omega)
      obtain ⟨_, hlen, hcell⟩ := World.cells?_some k1
      obtain ⟨y0, y1, y2, n', _, _, t0, t1, t2⟩ := Go.Deep.trod_struct3 Tryd.underlying48 k2
      match cs', hlen with
      | [c0, c1, c2], _ =>
        have g0 := hcell 0 (by omega)
        have g1 := hcell 1 (by omega)
        have g2 := hcell 2 (by omega)
        simp only [Go.Deep.add_add, Nat.add_zero] at g0 g1 g2
        have z3 : Tryd.prog.cellsOf 3 = 1 := by kernel_rfl
        have z28 : Tryd.prog.cellsOf 28 = 1 := by kernel_rfl
        simp [z3] at t0
        simp [z3] at t1
        simp [z28] at t2
        obtain ⟨x0, l0, u0, rfl⟩ := i64_of t0
        obtain ⟨x1, l1, u1, rfl⟩ := i64_of t1
        rcases open_ints Tryd.underlying28 Tryd.underlying5 (by kernel_rfl) t2 with ⟨hcs, _⟩ | ⟨x', l', c', zs, hcs, _, hl', hm', hz, _, hcell', hwz⟩
        · simp only [List.cons.injEq, and_true] at hcs
          subst hcs
          exact ⟨(⟨x0, x1, []⟩, none, 0), by simpa using g0, by simpa using g1, by simpa using g2, rowAt_nil w⟩
        · simp only [List.cons.injEq, and_true] at hcs
          subst hcs
          simp only [if_true] at hz
          have hbl : (byt (zs.take l')).length = l' := by rw [byt_length]; simp; omega
          refine ⟨(⟨x0, x1, byt (zs.take l')⟩, some x', c'), by simpa using g0, by simpa using g1, by simp only [hbl]; simpa using g2, row_of_cells hl' hm' hz (fun e => by cases e) (fun y e j hj => ?_) hwz⟩
          cases e
          exact hcell' j (by simp only at hj; omega)
    have inh : Inhabited (Cp.It × Option Addr × Nat) := ⟨(⟨0, 0, []⟩, none, 0)⟩
    obtain ⟨y, hy⟩ := Go.Deep.choose_lt (α := Cp.It × Option Addr × Nat) each
    refine ⟨hl, (fun e => by cases e), (List.range len).map fun i => (y i).1, by simp, ?_⟩
    rcases Nat.eq_zero_or_pos len with rfl | hpos
    · exact .inl rfl
    · right
      obtain ⟨b, off, spot⟩ := x
      have hspot : spot = none := by simpa [Addr.add] using World.cell?_spot (hy 0 hpos).1
      subst hspot
      refine ⟨b, off, rfl, World.block_lt_of_cell? w _ (hy 0 hpos).1, fun j hj => ?_⟩
      have hj2 : j < len := by simpa using hj
      obtain ⟨h2, h3, h4, h5⟩ := hy j hj2
      simp only [Go.WideShapes.add_plain] at h2 h3 h4
      simp only [List.getElem_map, List.getElem_range]
      exact ⟨_, _, h2, by rw [Nat.add_assoc]; exact h3, by rw [Nat.add_assoc]; exact h4, h5⟩

theorem str_of {H : Type} {enc : TypeId × Value → H} {w : World} {base : Nat} {sp : Nat → Bool} {held : Bool} {n : Nat} {v : Value} {y : DataW H × List MemPlace} (h : DataW.trod enc Tryd.prog w base sp held n 9 [v] = some y) : ∃ s : ByteArray, v = .string s := by
  obtain ⟨s, hs, _⟩ := DataW.trod_string Tryd.underlying9 h
  simp only [List.cons.injEq, and_true] at hs
  exact ⟨s, hs⟩
theorem bool_of {H : Type} {enc : TypeId × Value → H} {w : World} {base : Nat} {sp : Nat → Bool} {held : Bool} {n : Nat} {v : Value} {y : DataW H × List MemPlace} (h : DataW.trod enc Tryd.prog w base sp held n 4 [v] = some y) : ∃ b : Bool, v = .bool b := by
  obtain ⟨b, hs, _⟩ := DataW.trod_bool Tryd.underlying4 h
  simp only [List.cons.injEq, and_true] at hs
  exact ⟨b, hs⟩
set_option maxRecDepth 100000 in
theorem open_conf {H : Type} {enc : TypeId × Value → H} {w : World} {base : Nat} {sp : Nat → Bool} {held : Bool} {r : Reach} {b0 : Nat} {v : Value} {d : DataW H} {p : List MemPlace} (hval : Value.okWide Tryd.prog w r b0 25 v) (h : DataW.Trod enc Tryd.prog w base sp held 25 v d p) :
    ∃ x : Xc, x.c.accm < 4294967296 ∧ v = .agg (ccells x).toArray := by
  obtain ⟨cs, rfl, hsz⟩ := okWide_struct Tryd.underlying25 hval
  have hc : Tryd.prog.cellsOf 25 = 9 := by kernel_rfl
  rw [hc] at hsz
  obtain ⟨l⟩ := cs
  obtain ⟨fuel, hf⟩ := h
  obtain ⟨ys, n, _, _, _, hlen, hff⟩ := DataW.trod_struct Tryd.underlying25 hf
  match l, hsz, ys, hlen with
  | [c0, c1, c2, c3, c4, c5, c6, c7, c8], _, [y0, y1, y2, y3, y4, y5, y6, y7, y8], _ =>
    have z3 : Tryd.prog.cellsOf 3 = 1 := by kernel_rfl
    have z9 : Tryd.prog.cellsOf 9 = 1 := by kernel_rfl
    have z4 : Tryd.prog.cellsOf 4 = 1 := by kernel_rfl
    have z23 : Tryd.prog.cellsOf 23 = 1 := by kernel_rfl
    have t0 := hff 0 _ rfl
    have t1 := hff 1 _ rfl
    have t2 := hff 2 _ rfl
    have t3 := hff 3 _ rfl
    have t4 := hff 4 _ rfl
    have t5 := hff 5 _ rfl
    have t6 := hff 6 _ rfl
    have t7 := hff 7 _ rfl
    have t8 := hff 8 _ rfl
    simp [Value.cells, z3] at t0 t1 t2 t3 t6
    simp [Value.cells, z9] at t4 t5
    simp [Value.cells, z23] at t7
    simp [Value.cells, z4] at t8
    obtain ⟨x0, _, _, rfl⟩ := i64_of t0
    obtain ⟨x1, _, _, rfl⟩ := i64_of t1
    obtain ⟨x2, _, _, rfl⟩ := i64_of t2
    obtain ⟨x3, _, _, rfl⟩ := i64_of t3
    obtain ⟨x4, rfl⟩ := str_of t4
    obtain ⟨x5, rfl⟩ := str_of t5
    obtain ⟨x6, _, _, rfl⟩ := i64_of t6
    obtain ⟨x7, l7, rfl⟩ := u32_of t7
    obtain ⟨x8, rfl⟩ := bool_of t8
    exact ⟨⟨x0, x1, x2, x3, x4, x5, ⟨x6, x7, x8⟩⟩, l7, rfl⟩
set_option maxRecDepth 100000 in
theorem open_meta {H : Type} {enc : TypeId × Value → H} {w : World} {base : Nat} {sp : Nat → Bool} {held : Bool} {r : Reach} {b0 : Nat} {v : Value} {d : DataW H} {p : List MemPlace} (hval : Value.okWide Tryd.prog w r b0 39 v) (h : DataW.Trod enc Tryd.prog w base sp held 39 v d p) :
    ∃ m : S9.Pc.Hdr, m.Ok ∧ v = .agg (S9.hcells m).toArray := by
  obtain ⟨v0, v1, v2, v3, y0, y1, y2, y3, n, rfl, _, _, t0, t1, t2, t3⟩ := Go.Joins.open_agg4 Tryd.underlying39 (by kernel_rfl) (by kernel_rfl) hval h
  obtain ⟨c0, rfl⟩ := bool_of t0
  obtain ⟨c1, rfl⟩ := bool_of t1
  obtain ⟨x2, l2, rfl⟩ := u32_of t2
  obtain ⟨x3, l3, rfl⟩ := u32_of t3
  exact ⟨⟨c0, c1, x2, x3⟩, ⟨l2, l3⟩, rfl⟩

/-- The list of the rows. -/
def laid1 : List (String × DataW Unit) := [("umpire/dump.forms", Rows.laid_umpire_dump_forms)]
theorem gForm : Tryd.prog.globalNamed "umpire/dump.forms" = some 0 := by kernel_rfl
theorem tForm : (Tryd.prog.globals[0]?).map (·.type) = some 132 := by kernel_rfl
def fdata (f : Dm.Fm) : DataW Unit := .agg [.lit (.bool f.known), .lit (.int .i64 (f.size : Int)), .lit (.bool f.data), .lit (.int .u32 (f.most : Int))]
theorem form_data : (Rows.laid_umpire_dump_forms : DataW Unit) = .agg ((List.range 8).map fun (k : Nat) => fdata (Dm.form (k : Int))) := by kernel_rfl
set_option maxRecDepth 100000 in
theorem form_open {enc : TypeId × Value → Unit} {w : World} {base : Nat} {sp : Nat → Bool} {held : Bool} {n : Nat} {cs : List Value} {f : Dm.Fm} {p : List MemPlace} (h : DataW.trod enc Tryd.prog w base sp held n 108 cs = some (fdata f, p)) : cs = fcells f := by
  obtain ⟨y0, y1, y2, y3, n', e, hl, t0, t1, t2, t3⟩ := Go.Joins.trod_struct4 Tryd.underlying108 h
  have h4 : Tryd.prog.cellsOf 108 = 4 := by kernel_rfl
  rw [h4] at hl
  simp only [fdata, Prod.mk.injEq, DataW.agg.injEq, List.cons.injEq, and_true] at e
  obtain ⟨⟨e0, e1, e2, e3⟩, _⟩ := e
  match cs, hl with
  | [c0, c1, c2, c3], _ =>
    have z3 : Tryd.prog.cellsOf 3 = 1 := by kernel_rfl
    have z4 : Tryd.prog.cellsOf 4 = 1 := by kernel_rfl
    have z35 : Tryd.prog.cellsOf 23 = 1 := by kernel_rfl
    simp [z4] at t0 t2
    simp [z3] at t1
    simp [z35] at t3
    obtain ⟨b0, q0, r0⟩ := DataW.trod_bool Tryd.underlying4 t0
    obtain ⟨b2, q2, r2⟩ := DataW.trod_bool Tryd.underlying4 t2
    obtain ⟨i1, q1, r1, _⟩ := DataW.trod_int Tryd.underlying3 t1
    obtain ⟨i3, q3, r3, _⟩ := DataW.trod_int Tryd.underlying23 t3
    subst r0
    subst r1
    subst r2
    subst r3
    simp at e0 e1 e2 e3 q0 q1 q2 q3
    subst q0
    subst q1
    subst q2
    subst q3
    simp [fcells, e0, e1, e2, e3]
set_option maxRecDepth 100000 in
theorem tab_of_reads {W : World} (h1 : Lib.VarReads Tryd.prog W "umpire/dump.forms" Rows.laid_umpire_dump_forms) : Tab W := by
  rw [form_data] at h1
  obtain ⟨g1, t1, cs1, f1, p1, e1, y1, v1, d1⟩ := h1
  obtain rfl := Option.some.inj (gForm.symm.trans e1)
  obtain rfl := Option.some.inj (tForm.symm.trans y1)
  have hc : ∀ k : Nat, k < 8 → W.rangeAt 0 (k * 4) (fcells (Dm.form (k : Int))) := by
    intro k hk j v hv
    obtain ⟨fu, d, q, hd, ht⟩ := Lib.array_elem Tryd.underlying132 d1 k hk
    have hc49 : Tryd.prog.cellsOf 108 = 4 := by kernel_rfl
    rw [hc49] at ht
    have hd' : d = fdata (Dm.form (k : Int)) := by simpa [hk] using hd.symm
    rw [hd'] at ht
    have hcs := form_open ht
    have hj : j < 4 := by have := (List.getElem?_eq_some_iff.1 hv).1; simpa [fcells] using this
    rw [← hcs, List.getElem?_take, if_pos hj, List.getElem?_drop] at hv
    rw [World.var?_cell gForm v1 (k * 4 + j), ← Array.getElem?_toList]
    exact hv
  refine ⟨hc, ?_⟩
  have c := hc 0 (by omega) 0 (.bool false) rfl
  rcases Nat.lt_or_ge 0 W.heap.size with h3 | h3
  · exact h3
  · simp [World.cell?, Array.getElem?_eq_none h3] at c
theorem tabs_of_laid1 {W : World} (h : laidMetH Tryd.prog laid1 W) : Tab W := by
  rw [MakeChecks.laidMetH_plain _ _ _ (by kernel_rfl)] at h
  exact tab_of_reads (Lib.laidMet.reads h (.head _))
theorem door_met1 (os : Os) (args : Array Value) : laidMetH Tryd.prog laid1 ((World.doorLaid Tryd.prog 400 os).forCall (fun _ _ => 0) ⟨#[], args, []⟩).memory :=
  laidMetH_of_parts3 (fuel := 8) (laidMet_of_run' 8 (by kernel_rfl) (by kernel_rfl)) (by kernel_rfl) (by kernel_rfl)
end Go.Proofs.YtbbnkmhlgfoacaaDoor
