/- append onto what []byte of a text laid; a bit turned. -/
import Derived.Test.YtjalhlofpoknoaaDoorCg
namespace Go.Proofs.YtjalhlofpoknoaaDoor
open Go.RowKit

/-- Cells stored into a row whose frozen range lies behind its last cell. -/
theorem run_storeCells_tail (P : Program) (g o : Nat) (t : TypeId) (fz : Nat × Nat) : ∀ (vs : List Value) (i : Nat) (cur : Array Value) (w : World), w.heap[g]? = some (.cells cur t fz) → cur.size ≤ fz.1 → o + i + vs.length ≤ cur.size → (∀ v ∈ vs, v.oneCell' = true) →
    (storeCells ⟨g, o, none⟩ vs i).run P w = .ok () (w.setRow g (cur.toList.take (o + i) ++ vs ++ cur.toList.drop (o + i + vs.length)).toArray)
  | [], i, cur, w, hg, _, _, _ => by
    simp only [storeCells, List.append_nil, List.length_nil, Nat.add_zero, List.take_append_drop, Array.toArray_toList]
    rw [setRow_self w g cur t fz hg]
    rfl
  | v :: rest, i, cur, w, hg, hfz, hl, h1 => by
    have hi : o + i < cur.size := by simp at hl; omega
    have hadd : (⟨g, o, none⟩ : Addr).add i = ⟨g, o + i, none⟩ := by unfold Addr.add; split <;> simp_all
    have hcell : w.cell? ⟨g, o + i, none⟩ = some cur[o + i] := by simp [World.cell?, hg, hi]
    have hfro : w.frozen? ⟨g, o + i, none⟩ = false := by
      obtain ⟨lo, hi'⟩ := fz
      simp only [World.frozen?, hg, Bool.and_eq_false_iff, decide_eq_false_iff_not]
      left
      simp only at hfz
      omega
    have hst : (store ((⟨g, o, none⟩ : Addr).add i) v).run P w = .ok () (w.setRow g (cur.setIfInBounds (o + i) v)) := by
      rw [hadd, run_store P w _ v _ (h1 v (by simp)), hcell]
      simp [hfro, setCell_eq_setRow w g (o + i) cur t fz v hg]
    have ih := run_storeCells_tail P g o t fz rest (i + 1) (cur.setIfInBounds (o + i) v) (w.setRow g (cur.setIfInBounds (o + i) v)) (setRow_heap w g cur _ t _ hg) (by simpa using hfz) (by simp at hl ⊢; omega) (fun x hx => h1 x (by simp [hx]))
    simp only [storeCells, Sem.run_bind, hst, Result.andThen_ok, ih, setRow_setRow]
    congr 3
    have e := list_seg_step cur.toList (o + i) v rest (by simp at hl ⊢; omega)
    simpa [Array.toList_setIfInBounds, Nat.add_assoc] using e

theorem run_append_marked {w0 w : World} (ty : TypeId) (g n c : Nat) (xs : List UInt8) (hM : Marked w g n c xs) (q : Option Addr) (m d : Nat) (ys : List UInt8) (hm : ys.length = m) (hrow : RowAt w q d ys) (h63 : n + m ≤ 1000000) (hB : Below w0.heap.size w0 w) (hBg : w0.heap.size ≤ g) :
    ∃ p' c' w', (Builtin.append_ #[22, 22] ty #[.slice (some ⟨g, 0, none⟩) n c, .slice q m d]).run Tryd.prog w = .ok (.slice p' (n + m) c') w' ∧ RowAt w' p' c' (xs ++ ys) ∧ Below w0.heap.size w0 w' := by
  obtain ⟨i0, hi, hz0, hz1, hz2⟩ := info_parts info5
  obtain ⟨cs, hg, hcs, htk⟩ := hM.at'
  have hR := hM.row
  have hle := hM.le
  have hmx := hM.max
  have hxl := hM.len
  cases q with
  | none =>
    have h0 := hrow.nil rfl
    have h1 := hrow.le
    have hy : ys = [] := List.eq_nil_of_length_eq_zero (by omega)
    subst hy
    subst h0
    simp at hm
    subst hm
    refine ⟨some ⟨g, 0, none⟩, c, w, ?_, by simpa using hR, hB⟩
    simp [Builtin.append_, run_underlying Tryd.underlying22, sizeOf, typeInfo, hi, Builtin.lenOf, hle, Builtin.firstCells, storeCells]
  | some ad =>
    by_cases hroom : n + m ≤ c
    · have hf := run_firstCells_some (P := Tryd.prog) w i0.size m ad m d (Lib.byteCells ys) (by rw [Lib.byteCells_length, hm, hz1, Nat.mul_one]) (hrow.cell ad rfl)
      have hst := run_storeCells_tail Tryd.prog g (n * i0.size) 5 _ (Lib.byteCells ys) 0 cs w hg (Nat.le_refl _) (by rw [Lib.byteCells_length, hm, hz1]; omega) (cells_one ys)
      simp only [Nat.add_zero, hz1, Nat.mul_one] at hst hf
      refine ⟨some ⟨g, 0, none⟩, c, w.setRow g (cs.toList.take n ++ Lib.byteCells ys ++ cs.toList.drop (n + (Lib.byteCells ys).length)).toArray, ?_, ?_, below_setRow hB hBg _⟩
      · simp [Builtin.append_, run_underlying Tryd.underlying22, sizeOf, typeInfo, hi, hz1, Builtin.lenOf, hroom, hf, Addr.add_lit, hst]
      · have hset := setRow_heap w g cs (cs.toList.take n ++ Lib.byteCells ys ++ cs.toList.drop (n + (Lib.byteCells ys).length)).toArray 5 _ hg
        refine ⟨by rw [List.length_append]; omega, hmx, (fun e => by cases e), fun ad' e j u hu => ?_⟩
        cases e
        rw [Go.WideShapes.add_plain, cell_of_row _ _ _ _ _ _ hset, Nat.zero_add, List.getElem?_toArray, htk, ← Lib.byteCells_append]
        rw [List.getElem?_append_left (by have := (List.getElem?_eq_some_iff.1 hu).1; exact this)]
        exact hu
    · have hgr := run_append_grow (P := Tryd.prog) w 22 ty 5 i0 (.int .u8 0) Tryd.underlying22 hi hz0 ⟨g, 0, none⟩ n c (Lib.byteCells xs) (by rw [Lib.byteCells_length, hxl, hz1, Nat.mul_one]) (fun j v hv => hR.cell _ rfl j v hv) ad m d (Lib.byteCells ys) (by rw [Lib.byteCells_length, hm, hz1, Nat.mul_one]) (hrow.cell ad rfl) (by omega) (by omega) (growslice_fits (by omega) (by rw [hz2]; omega))
      refine ⟨_, _, _, hgr, ?_, (hB.drew).alloc hB.size _⟩
      have hge := grownCap_ge w (n + m) c 5
      have hlx := grownCap_le_maxLen w (n + m) c 5 (by unfold maxLen; omega)
      refine ⟨by rw [List.length_append, hxl, hm]; exact hge, hlx, (fun e => by cases e), fun ad' e j u hu => ?_⟩
      cases e
      have hnew : (w.drew.alloc (.cells ((Lib.byteCells xs).toArray ++ (Lib.byteCells ys).toArray ++ Builtin.zeroCells (Value.int IntKind.u8 0).cells (grownCap w (n + m) c 5 - (n + m))) 5)).heap[w.heap.size]? = some (.cells ((Lib.byteCells xs).toArray ++ (Lib.byteCells ys).toArray ++ Builtin.zeroCells (Value.int IntKind.u8 0).cells (grownCap w (n + m) c 5 - (n + m))) 5 (0, 0)) := heap_alloc_new w.drew _
      rw [Go.WideShapes.add_plain, cell_of_row _ _ _ _ _ _ hnew, Nat.zero_add]
      rw [Lib.byteCells_append] at hu
      rw [Array.getElem?_append_left (by have := (List.getElem?_eq_some_iff.1 hu).1; simpa using this)]
      simpa using hu
theorem wpList_append_marked {w0 w : World} {ops : Array Oper} {rest : List Oper} {o : Oper} {a : Act} {Q : Exit → Act → World → Prop} (hgd : o.guard = none) (x y : Operand)
    (ho : o.op = .call { callee := .builtin .append, args := #[x, y], argTypes := #[22, 22] })
    (g n c : Nat) (xs : List UInt8) (hx : a.eval x = .slice (some ⟨g, 0, none⟩) n c) (hM : Marked w g n c xs) (q : Option Addr) (m d : Nat) (ys : List UInt8) (hy : a.eval y = .slice q m d) (hm : ys.length = m) (hrow : RowAt w q d ys) (h63 : n + m ≤ 1000000) (hB : Below w0.heap.size w0 w) (hBg : w0.heap.size ≤ g)
    (h : ∀ p' c' w', RowAt w' p' c' (xs ++ ys) → Below w0.heap.size w0 w' → wpList Tryd.prog ops Q rest (a.put o.dst (.slice p' (n + m) c')) w') : wpList Tryd.prog ops Q (o :: rest) a w := by
  refine wpList_plain hgd fun K hK => ?_
  obtain ⟨p', c', w', hr, r2, b2⟩ := run_append_marked (w0 := w0) (w := w) o.type g n c xs hM q m d ys hm hrow h63 hB hBg
  unfold Oper.wp execOp
  simp only [ho, resolve, invoke, builtin, Sem.run_bind, Sem.run_pure, Result.andThen_ok, List.map_toArray, List.map_cons, List.map_nil, hx, hy, hr]
  exact hK _ _ (h p' c' w' r2 b2)
end Go.Proofs.YtjalhlofpoknoaaDoor
