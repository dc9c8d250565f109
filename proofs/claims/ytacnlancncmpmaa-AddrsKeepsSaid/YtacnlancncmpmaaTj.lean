/- Contract of the closure that adds an option. -/
import Derived.Test.YtacnlancncmpmaaTi
namespace Go.Proofs.Ytacnlancncmpmaa
open Go.RowKit S2 S12

theorem one_part {w : World} {p : Option Addr} {c n : Nat} {y : List UInt8} (e : y.length = n) (h : RowAt w p c y) :
    PartsAt (w.alloc (.cells #[.slice p n c] 22)) (some ⟨w.heap.size, 0, none⟩) [y] := by
  subst e
  have hg := heap_alloc_new w (.cells #[.slice p y.length c] 22)
  refine .inr ⟨w.heap.size, 0, rfl, by simp, fun j hj => ?_⟩
  obtain rfl : j = 0 := by simp at hj; omega
  exact ⟨p, c, cell_of_row _ _ _ _ _ _ hg, rowAt_alloc h _⟩
/-- A list that a variable holds, in a block of its own. -/
def VarAt (w : World) (V B : Nat) (L : List Ot.O) : Prop := ∃ v, w.heap[V]? = some (.cells #[v] 28 (0, 0)) ∧ Lopts False w w B v L
theorem Lopts.any {w W0 W1 : World} {B : Nat} {v : Value} {L : List Ot.O} (h : Lopts False w W0 B v L) : Lopts False w W1 B v L := by
  obtain ⟨xs, ho, he⟩ := h
  refine ⟨xs, ho, fun j hj => ?_⟩
  obtain ⟨d, h1, h2⟩ := he j hj
  rcases h2 with h2 | h2
  · exact ⟨d, h1, .inl h2⟩
  · exact h2.1.elim
theorem VarAt.next {w w' : World} {V B : Nat} {L : List Ot.O} (h : VarAt w V B L) (hb : Below w.heap.size w w') : VarAt w' V B L := by
  obtain ⟨v, h1, h2⟩ := h
  exact ⟨v, block_next h1 hb, (h2.next hb).any⟩
/-- What telling an option leaves. -/
structure TellRes (w w' : World) (V B : Nat) (L : List Ot.O) : Prop where
  var : VarAt w' V B L
  below : Below V w w'
  block : ∀ k, k < B → k ≠ V → w'.heap[k]? = w.heap[k]?
set_option maxRecDepth 100000 in
set_option maxHeartbeats 1000000 in
theorem add_any (has : Bool) (kind : Int) (p : Option Addr) (m c V B : Nat) (ys : List UInt8) (L : List Ot.O) (w : World) (hm : ys.length = m) (hm8 : m ≤ 100) (hV : VarAt w V B L) (hVB : V < B) (hL : L.length ≤ 100) (hr : RowAt w p c ys) (hB : B ≤ w.heap.size) :
    Calls Try.prog 34 #[.bool has, .int .i64 kind, .slice p m c, .pointer (some ⟨V, 0, none⟩)] w fun e w' => e = .returned (.tuple #[]) ∧ TellRes w w' V B (L ++ Ad.pick has ⟨kind, ys⟩) := by
  cases has with
  | false =>
    rw [show Ad.pick false ⟨kind, ys⟩ = [] from rfl, List.append_nil]
    go_enter Try.func34, Try.ntmps34
    go_wp2
    exact bodyPost_end (results_none Try.results34 _ _ _) rfl (⟨rfl, hV, Below.refl _ _, fun _ _ _ => rfl⟩ : _ ∧ _)
  | true =>
    rw [show Ad.pick true ⟨kind, ys⟩ = [⟨kind, ys⟩] from rfl]
    obtain ⟨v, hv, hl⟩ := hV
    obtain ⟨pl, cl, rfl⟩ := hl.slice
    have hVw := lt_of_block hv
    have HLT := Lib.hid hl.lt
    have hS : w.drew.cell? ⟨V, 0, none⟩ = some (.slice pl L.length cl) := cell_of_row _ _ _ _ _ _ hv
    have VD : Hid (w.drew.heap[V]? = some (.cells #[.slice pl L.length cl] 28 (0, 0))) := hv
    have bD := (Below.refl w.heap.size w).drew
    have LD := Lib.hid ((hl.next bD).any (W1 := w))
    have RD := Lib.hid (hr.next bD)
    have BD := Lib.hid bD
    have sD : B ≤ w.drew.heap.size := hB
    have HM := Lib.hid hm
    clear hv hl hr bD hm
    go_enter Try.func34, Try.ntmps34
    go_wp2_with fail
    refine held_start (S := fun _ => True) 9 (by kernel_rfl) rfl ?_
    generalize w.drew = WD at *
    have hS0 : True := trivial
    refine held_take 1 (v := ?_) rfl (by kernel_rfl) (by kernel_rfl) (by kernel_rfl) (fun _ _ _ h => h) (by assumption) (by rfl) ?_ ?_
    rotate_left
    · (intro W hW; go_simp; try with_reducible rfl)
    simp only [Act.put, List.setIfInBounds_toArray, List.set_cons_zero, List.set_cons_succ]
    refine held_take 2 (v := ?_) rfl (by kernel_rfl) (by kernel_rfl) (by kernel_rfl) (fun _ _ _ h => h) (by assumption) (by rfl) ?_ ?_
    rotate_left
    · (intro W hW; go_simp; try with_reducible rfl)
    simp only [Act.put, List.setIfInBounds_toArray, List.set_cons_zero, List.set_cons_succ]
    refine held_pair 0 3 rfl rfl (by kernel_rfl) (by rfl) (by rfl) ?_ ?_
    · skip
      refine wp_value (v := .slice pl L.length cl) (w' := WD) (by have e0 := cell_of_row _ _ 0 _ _ _ VD.out; simp only [List.getElem?_toArray, List.getElem?_cons_zero] at e0; go_simp) ?_
      refine ⟨trivial, ?_⟩
      simp only [Act.put, List.setIfInBounds_toArray, List.set_cons_zero, List.set_cons_succ]
      have b3 := below_one WD (.cells #[.slice p m c] 22)
      have V3 := Lib.hid (block_next VD.out b3)
      have L3 := Lib.hid (LD.out.next b3)
      have P3 := Lib.hid (one_part HM.out RD.out)
      have B3 := Lib.hid (Below.chain BD.out b3)
      have s3 : B ≤ (WD.alloc (.cells #[.slice p m c] 22)).heap.size := Nat.le_trans sD b3.size
      refine held_makes 3 (v := .slice (some ⟨WD.heap.size, 0, none⟩) 1 1) (w' := WD.alloc (.cells #[.slice p m c] 22)) rfl (by kernel_rfl) (by rfl) (by go_simp) trivial ?_
      simp only [Act.put, List.setIfInBounds_toArray, List.set_cons_zero, List.set_cons_succ]
      clear b3 VD LD RD BD sD hS
      generalize hg3 : WD.heap.size = g3 at *
      generalize WD.alloc (.cells #[.slice p m c] 22) = W3 at *
      clear hg3 WD
      refine held_call 4 (f := 30) (args := #[.slice (some ⟨g3, 0, none⟩) 1 1]) rfl (by kernel_rfl) (by rfl) (by go_simp) ?_
      refine (join_at (some ⟨g3, 0, none⟩) 1 1 [ys] ys W3 rfl (by simp) (by simp) (by rw [HM.out]; omega) P3.out).mono ?_
      rintro e w5 ⟨v5, rfl, o5, b5⟩
      rw [HM.out] at o5
      obtain ⟨p5, c5, rfl⟩ := own_slice o5
      refine ⟨_, rfl, trivial, ?_⟩
      simp only [Act.put, List.setIfInBounds_toArray, List.set_cons_zero, List.set_cons_succ]
      have b7 := below_one w5 (.cells #[.int .i64 kind, .slice p5 m c5] 24)
      have V5 := Lib.hid (block_next V3.out b5)
      have V7 := Lib.hid (block_next V5.out b7)
      have L7 := Lib.hid ((L3.out.next b5).next b7)
      have D7 : Hid (DataIs False (w5.alloc (.cells #[.int .i64 kind, .slice p5 m c5] 24)) w B (.slice p5 m c5) ys) := .inl (by rw [HM.out]; exact ownsRow_next (ownsRow_lower o5 s3) b7)
      have G7 := Lib.hid (heap_alloc_new w5 (.cells #[.int .i64 kind, .slice p5 m c5] 24))
      have B7 := Lib.hid (Below.chain (Below.chain B3.out b5) b7)
      have s7 : B ≤ (w5.alloc (.cells #[.int .i64 kind, .slice p5 m c5] 24)).heap.size := Nat.le_trans (Nat.le_trans s3 b5.size) b7.size
      clear o5 b5 b7 V3 L3 P3 B3 s3
      refine held_take 5 (v := ?_) rfl (by kernel_rfl) (by kernel_rfl) (by kernel_rfl) (fun _ _ _ h => h) (by assumption) (by rfl) ?_ ?_
      rotate_left
      · (intro W hW; go_simp; try with_reducible rfl)
      simp only [Act.put, List.setIfInBounds_toArray, List.set_cons_zero, List.set_cons_succ]
      refine held_makes 6 (v := .slice (some ⟨w5.heap.size, 0, none⟩) 1 1) (w' := w5.alloc (.cells #[.int .i64 kind, .slice p5 m c5] 24)) rfl (by kernel_rfl) (by rfl) (by go_simp) trivial ?_
      simp only [Act.put, List.setIfInBounds_toArray, List.set_cons_zero, List.set_cons_succ]
      clear V5
      generalize hg6 : w5.heap.size = g6 at *
      generalize w5.alloc (.cells #[.int .i64 kind, .slice p5 m c5] 24) = W7 at *
      clear hg6 w5
      refine held_one 7 rfl (by kernel_rfl) (by rfl) ?_
      refine wp_append_lopts (.tmp 8) (.tmp 14) rfl B (.slice pl L.length cl) L ⟨kind, ys⟩ (.slice p5 m c5) g6 rfl rfl L7.out D7.out G7.out s7 (by omega) ?_
      intro v8 w8 L8 g8 x8
      clear x8
      have V8 : w8.heap[V]? = some (.cells #[.slice pl L.length cl] 28 (0, 0)) := (g8.block V (lt_of_block V7.out) (fun e => by have := HLT.out V e.symm; omega)).trans V7.out
      have hS8 : w8.cell? ⟨V, 0, none⟩ = some (.slice pl L.length cl) := cell_of_row _ _ _ _ _ _ V8
      have f8 : w8.frozen? ⟨V, 0, none⟩ = false := frozen_of_row _ _ _ _ _ V8
      obtain ⟨p8, c8, rfl⟩ := L8.slice
      refine ⟨trivial, ?_⟩
      simp only [Act.put, List.setIfInBounds_toArray, List.set_cons_zero, List.set_cons_succ]
      have hV9 : (w8.setCell ⟨V, 0, none⟩ (.slice p8 (L ++ [(⟨kind, ys⟩ : Ot.O)]).length c8)).heap[V]? = some (.cells #[.slice p8 (L ++ [(⟨kind, ys⟩ : Ot.O)]).length c8] 28 (0, 0)) := heap_setCell_same _ _ _ _ _ _ V8
      have b8 : Below V w w8 := Below.grown (B7.out.mono (Nat.le_of_lt hVw)) g8 (Nat.le_trans (Nat.le_of_lt hVB) s7) (fun j hj => by have := HLT.out j hj; omega)
      have k8 : ∀ k, k < B → k ≠ V → (w8.setCell ⟨V, 0, none⟩ (.slice p8 (L ++ [(⟨kind, ys⟩ : Ot.O)]).length c8)).heap[k]? = w.heap[k]? := fun k hk hkV => by
        rw [heap_setCell_other _ _ _ _ hkV, g8.block k (Nat.lt_of_lt_of_le hk s7) (fun e => by have := HLT.out k e.symm; omega)]
        exact B7.out.block k (Nat.lt_of_lt_of_le hk hB)
      have R9 : Hid (TellRes w (w8.setCell ⟨V, 0, none⟩ (.slice p8 (L ++ [(⟨kind, ys⟩ : Ot.O)]).length c8)) V B (L ++ [⟨kind, ys⟩])) := by
        refine ⟨⟨_, hV9, ?_⟩, b8.setCell (p := ⟨V, 0, none⟩) (Nat.le_refl _) _, k8⟩
        obtain ⟨xs, ho, he⟩ := L8
        refine ⟨xs, ownsRow_setCell_below ho hVB _, fun j hj => ?_⟩
        obtain ⟨d, h1, h2⟩ := he j hj
        refine ⟨d, h1, ?_⟩
        rcases h2 with h2 | h2
        · exact .inl (ownsRow_setCell_below h2 hVB _)
        · exact h2.1.elim
      clear k8 b8 hV9 L8 g8
      refine held_alone 8 (w' := w8.setCell ⟨V, 0, none⟩ (.slice p8 (L ++ [(⟨kind, ys⟩ : Ot.O)]).length c8)) rfl (by kernel_rfl) (by rfl) (by generalize (L ++ [(⟨kind, ys⟩ : Ot.O)]).length = n8; go_simp) trivial ?_
      refine held_done (by kernel_rfl) ?_
      clear hS8 f8 V8
      generalize w8.setCell ⟨V, 0, none⟩ (.slice p8 (L ++ [(⟨kind, ys⟩ : Ot.O)]).length c8) = W9 at *
      generalize (L ++ [(⟨kind, ys⟩ : Ot.O)]).length = n8 at *
      go_wp2
      exact bodyPost_end (results_none Try.results34 _ _ _) rfl (⟨rfl, R9.out⟩ : _ ∧ _)
    · refine wp_value (v := .slice (some ⟨WD.heap.size, 0, none⟩) 1 1) (w' := WD.alloc (.cells #[.slice p m c] 22)) (by go_simp) ?_
      refine ⟨trivial, ?_⟩
      simp only [Act.put, List.setIfInBounds_toArray, List.set_cons_zero, List.set_cons_succ]
      have b3 := below_one WD (.cells #[.slice p m c] 22)
      have V3 := Lib.hid (block_next VD.out b3)
      have L3 := Lib.hid (LD.out.next b3)
      have P3 := Lib.hid (one_part HM.out RD.out)
      have B3 := Lib.hid (Below.chain BD.out b3)
      have s3 : B ≤ (WD.alloc (.cells #[.slice p m c] 22)).heap.size := Nat.le_trans sD b3.size
      clear b3 VD LD RD BD sD hS
      generalize hg3 : WD.heap.size = g3 at *
      generalize WD.alloc (.cells #[.slice p m c] 22) = W3 at *
      clear hg3 WD
      refine held_pair 0 4 rfl rfl (by kernel_rfl) (by rfl) (by rfl) ?_ ?_
      · skip
        refine wp_value (v := .slice pl L.length cl) (w' := W3) (by have e0 := cell_of_row _ _ 0 _ _ _ V3.out; simp only [List.getElem?_toArray, List.getElem?_cons_zero] at e0; go_simp) ?_
        refine ⟨trivial, ?_⟩
        simp only [Act.put, List.setIfInBounds_toArray, List.set_cons_zero, List.set_cons_succ]
        refine held_call 4 (f := 30) (args := #[.slice (some ⟨g3, 0, none⟩) 1 1]) rfl (by kernel_rfl) (by rfl) (by go_simp) ?_
        refine (join_at (some ⟨g3, 0, none⟩) 1 1 [ys] ys W3 rfl (by simp) (by simp) (by rw [HM.out]; omega) P3.out).mono ?_
        rintro e w5 ⟨v5, rfl, o5, b5⟩
        rw [HM.out] at o5
        obtain ⟨p5, c5, rfl⟩ := own_slice o5
        refine ⟨_, rfl, trivial, ?_⟩
        simp only [Act.put, List.setIfInBounds_toArray, List.set_cons_zero, List.set_cons_succ]
        have b7 := below_one w5 (.cells #[.int .i64 kind, .slice p5 m c5] 24)
        have V5 := Lib.hid (block_next V3.out b5)
        have V7 := Lib.hid (block_next V5.out b7)
        have L7 := Lib.hid ((L3.out.next b5).next b7)
        have D7 : Hid (DataIs False (w5.alloc (.cells #[.int .i64 kind, .slice p5 m c5] 24)) w B (.slice p5 m c5) ys) := .inl (by rw [HM.out]; exact ownsRow_next (ownsRow_lower o5 s3) b7)
        have G7 := Lib.hid (heap_alloc_new w5 (.cells #[.int .i64 kind, .slice p5 m c5] 24))
        have B7 := Lib.hid (Below.chain (Below.chain B3.out b5) b7)
        have s7 : B ≤ (w5.alloc (.cells #[.int .i64 kind, .slice p5 m c5] 24)).heap.size := Nat.le_trans (Nat.le_trans s3 b5.size) b7.size
        clear o5 b5 b7 V3 L3 P3 B3 s3
        refine held_take 5 (v := ?_) rfl (by kernel_rfl) (by kernel_rfl) (by kernel_rfl) (fun _ _ _ h => h) (by assumption) (by rfl) ?_ ?_
        rotate_left
        · (intro W hW; go_simp; try with_reducible rfl)
        simp only [Act.put, List.setIfInBounds_toArray, List.set_cons_zero, List.set_cons_succ]
        refine held_makes 6 (v := .slice (some ⟨w5.heap.size, 0, none⟩) 1 1) (w' := w5.alloc (.cells #[.int .i64 kind, .slice p5 m c5] 24)) rfl (by kernel_rfl) (by rfl) (by go_simp) trivial ?_
        simp only [Act.put, List.setIfInBounds_toArray, List.set_cons_zero, List.set_cons_succ]
        clear V5
        generalize hg6 : w5.heap.size = g6 at *
        generalize w5.alloc (.cells #[.int .i64 kind, .slice p5 m c5] 24) = W7 at *
        clear hg6 w5
        refine held_one 7 rfl (by kernel_rfl) (by rfl) ?_
        refine wp_append_lopts (.tmp 8) (.tmp 14) rfl B (.slice pl L.length cl) L ⟨kind, ys⟩ (.slice p5 m c5) g6 rfl rfl L7.out D7.out G7.out s7 (by omega) ?_
        intro v8 w8 L8 g8 x8
        clear x8
        have V8 : w8.heap[V]? = some (.cells #[.slice pl L.length cl] 28 (0, 0)) := (g8.block V (lt_of_block V7.out) (fun e => by have := HLT.out V e.symm; omega)).trans V7.out
        have hS8 : w8.cell? ⟨V, 0, none⟩ = some (.slice pl L.length cl) := cell_of_row _ _ _ _ _ _ V8
        have f8 : w8.frozen? ⟨V, 0, none⟩ = false := frozen_of_row _ _ _ _ _ V8
        obtain ⟨p8, c8, rfl⟩ := L8.slice
        refine ⟨trivial, ?_⟩
        simp only [Act.put, List.setIfInBounds_toArray, List.set_cons_zero, List.set_cons_succ]
        have hV9 : (w8.setCell ⟨V, 0, none⟩ (.slice p8 (L ++ [(⟨kind, ys⟩ : Ot.O)]).length c8)).heap[V]? = some (.cells #[.slice p8 (L ++ [(⟨kind, ys⟩ : Ot.O)]).length c8] 28 (0, 0)) := heap_setCell_same _ _ _ _ _ _ V8
        have b8 : Below V w w8 := Below.grown (B7.out.mono (Nat.le_of_lt hVw)) g8 (Nat.le_trans (Nat.le_of_lt hVB) s7) (fun j hj => by have := HLT.out j hj; omega)
        have k8 : ∀ k, k < B → k ≠ V → (w8.setCell ⟨V, 0, none⟩ (.slice p8 (L ++ [(⟨kind, ys⟩ : Ot.O)]).length c8)).heap[k]? = w.heap[k]? := fun k hk hkV => by
          rw [heap_setCell_other _ _ _ _ hkV, g8.block k (Nat.lt_of_lt_of_le hk s7) (fun e => by have := HLT.out k e.symm; omega)]
          exact B7.out.block k (Nat.lt_of_lt_of_le hk hB)
        have R9 : Hid (TellRes w (w8.setCell ⟨V, 0, none⟩ (.slice p8 (L ++ [(⟨kind, ys⟩ : Ot.O)]).length c8)) V B (L ++ [⟨kind, ys⟩])) := by
          refine ⟨⟨_, hV9, ?_⟩, b8.setCell (p := ⟨V, 0, none⟩) (Nat.le_refl _) _, k8⟩
          obtain ⟨xs, ho, he⟩ := L8
          refine ⟨xs, ownsRow_setCell_below ho hVB _, fun j hj => ?_⟩
          obtain ⟨d, h1, h2⟩ := he j hj
          refine ⟨d, h1, ?_⟩
          rcases h2 with h2 | h2
          · exact .inl (ownsRow_setCell_below h2 hVB _)
          · exact h2.1.elim
        clear k8 b8 hV9 L8 g8
        refine held_alone 8 (w' := w8.setCell ⟨V, 0, none⟩ (.slice p8 (L ++ [(⟨kind, ys⟩ : Ot.O)]).length c8)) rfl (by kernel_rfl) (by rfl) (by generalize (L ++ [(⟨kind, ys⟩ : Ot.O)]).length = n8; go_simp) trivial ?_
        refine held_done (by kernel_rfl) ?_
        clear hS8 f8 V8
        generalize w8.setCell ⟨V, 0, none⟩ (.slice p8 (L ++ [(⟨kind, ys⟩ : Ot.O)]).length c8) = W9 at *
        generalize (L ++ [(⟨kind, ys⟩ : Ot.O)]).length = n8 at *
        go_wp2
        exact bodyPost_end (results_none Try.results34 _ _ _) rfl (⟨rfl, R9.out⟩ : _ ∧ _)
      · refine wp_enter (f := 30) (args := #[.slice (some ⟨g3, 0, none⟩) 1 1]) (by go_simp) ?_
        refine (join_at (some ⟨g3, 0, none⟩) 1 1 [ys] ys W3 rfl (by simp) (by simp) (by rw [HM.out]; omega) P3.out).mono ?_
        rintro e w5 ⟨v5, rfl, o5, b5⟩
        rw [HM.out] at o5
        obtain ⟨p5, c5, rfl⟩ := own_slice o5
        refine ⟨_, rfl, trivial, ?_⟩
        simp only [Act.put, List.setIfInBounds_toArray, List.set_cons_zero, List.set_cons_succ]
        have b7 := below_one w5 (.cells #[.int .i64 kind, .slice p5 m c5] 24)
        have V5 := Lib.hid (block_next V3.out b5)
        have V7 := Lib.hid (block_next V5.out b7)
        have L7 := Lib.hid ((L3.out.next b5).next b7)
        have D7 : Hid (DataIs False (w5.alloc (.cells #[.int .i64 kind, .slice p5 m c5] 24)) w B (.slice p5 m c5) ys) := .inl (by rw [HM.out]; exact ownsRow_next (ownsRow_lower o5 s3) b7)
        have G7 := Lib.hid (heap_alloc_new w5 (.cells #[.int .i64 kind, .slice p5 m c5] 24))
        have B7 := Lib.hid (Below.chain (Below.chain B3.out b5) b7)
        have s7 : B ≤ (w5.alloc (.cells #[.int .i64 kind, .slice p5 m c5] 24)).heap.size := Nat.le_trans (Nat.le_trans s3 b5.size) b7.size
        clear o5 b5 b7 V3 L3 P3 B3 s3
        refine held_take 5 (v := ?_) rfl (by kernel_rfl) (by kernel_rfl) (by kernel_rfl) (fun _ _ _ h => h) (by assumption) (by rfl) ?_ ?_
        rotate_left
        · (intro W hW; go_simp; try with_reducible rfl)
        simp only [Act.put, List.setIfInBounds_toArray, List.set_cons_zero, List.set_cons_succ]
        refine held_pair 0 6 rfl rfl (by kernel_rfl) (by rfl) (by rfl) ?_ ?_
        · skip
          refine wp_value (v := .slice pl L.length cl) (w' := w5) (by have e0 := cell_of_row _ _ 0 _ _ _ V5.out; simp only [List.getElem?_toArray, List.getElem?_cons_zero] at e0; go_simp) ?_
          refine ⟨trivial, ?_⟩
          simp only [Act.put, List.setIfInBounds_toArray, List.set_cons_zero, List.set_cons_succ]
          refine held_makes 6 (v := .slice (some ⟨w5.heap.size, 0, none⟩) 1 1) (w' := w5.alloc (.cells #[.int .i64 kind, .slice p5 m c5] 24)) rfl (by kernel_rfl) (by rfl) (by go_simp) trivial ?_
          simp only [Act.put, List.setIfInBounds_toArray, List.set_cons_zero, List.set_cons_succ]
          clear V5
          generalize hg6 : w5.heap.size = g6 at *
          generalize w5.alloc (.cells #[.int .i64 kind, .slice p5 m c5] 24) = W7 at *
          clear hg6 w5
          refine held_one 7 rfl (by kernel_rfl) (by rfl) ?_
          refine wp_append_lopts (.tmp 8) (.tmp 14) rfl B (.slice pl L.length cl) L ⟨kind, ys⟩ (.slice p5 m c5) g6 rfl rfl L7.out D7.out G7.out s7 (by omega) ?_
          intro v8 w8 L8 g8 x8
          clear x8
          have V8 : w8.heap[V]? = some (.cells #[.slice pl L.length cl] 28 (0, 0)) := (g8.block V (lt_of_block V7.out) (fun e => by have := HLT.out V e.symm; omega)).trans V7.out
          have hS8 : w8.cell? ⟨V, 0, none⟩ = some (.slice pl L.length cl) := cell_of_row _ _ _ _ _ _ V8
          have f8 : w8.frozen? ⟨V, 0, none⟩ = false := frozen_of_row _ _ _ _ _ V8
          obtain ⟨p8, c8, rfl⟩ := L8.slice
          refine ⟨trivial, ?_⟩
          simp only [Act.put, List.setIfInBounds_toArray, List.set_cons_zero, List.set_cons_succ]
          have hV9 : (w8.setCell ⟨V, 0, none⟩ (.slice p8 (L ++ [(⟨kind, ys⟩ : Ot.O)]).length c8)).heap[V]? = some (.cells #[.slice p8 (L ++ [(⟨kind, ys⟩ : Ot.O)]).length c8] 28 (0, 0)) := heap_setCell_same _ _ _ _ _ _ V8
          have b8 : Below V w w8 := Below.grown (B7.out.mono (Nat.le_of_lt hVw)) g8 (Nat.le_trans (Nat.le_of_lt hVB) s7) (fun j hj => by have := HLT.out j hj; omega)
          have k8 : ∀ k, k < B → k ≠ V → (w8.setCell ⟨V, 0, none⟩ (.slice p8 (L ++ [(⟨kind, ys⟩ : Ot.O)]).length c8)).heap[k]? = w.heap[k]? := fun k hk hkV => by
            rw [heap_setCell_other _ _ _ _ hkV, g8.block k (Nat.lt_of_lt_of_le hk s7) (fun e => by have := HLT.out k e.symm; omega)]
            exact B7.out.block k (Nat.lt_of_lt_of_le hk hB)
          have R9 : Hid (TellRes w (w8.setCell ⟨V, 0, none⟩ (.slice p8 (L ++ [(⟨kind, ys⟩ : Ot.O)]).length c8)) V B (L ++ [⟨kind, ys⟩])) := by
            refine ⟨⟨_, hV9, ?_⟩, b8.setCell (p := ⟨V, 0, none⟩) (Nat.le_refl _) _, k8⟩
            obtain ⟨xs, ho, he⟩ := L8
            refine ⟨xs, ownsRow_setCell_below ho hVB _, fun j hj => ?_⟩
            obtain ⟨d, h1, h2⟩ := he j hj
            refine ⟨d, h1, ?_⟩
            rcases h2 with h2 | h2
            · exact .inl (ownsRow_setCell_below h2 hVB _)
            · exact h2.1.elim
          clear k8 b8 hV9 L8 g8
          refine held_alone 8 (w' := w8.setCell ⟨V, 0, none⟩ (.slice p8 (L ++ [(⟨kind, ys⟩ : Ot.O)]).length c8)) rfl (by kernel_rfl) (by rfl) (by generalize (L ++ [(⟨kind, ys⟩ : Ot.O)]).length = n8; go_simp) trivial ?_
          refine held_done (by kernel_rfl) ?_
          clear hS8 f8 V8
          generalize w8.setCell ⟨V, 0, none⟩ (.slice p8 (L ++ [(⟨kind, ys⟩ : Ot.O)]).length c8) = W9 at *
          generalize (L ++ [(⟨kind, ys⟩ : Ot.O)]).length = n8 at *
          go_wp2
          exact bodyPost_end (results_none Try.results34 _ _ _) rfl (⟨rfl, R9.out⟩ : _ ∧ _)
        · refine wp_value (v := .slice (some ⟨w5.heap.size, 0, none⟩) 1 1) (w' := w5.alloc (.cells #[.int .i64 kind, .slice p5 m c5] 24)) (by go_simp) ?_
          refine ⟨trivial, ?_⟩
          simp only [Act.put, List.setIfInBounds_toArray, List.set_cons_zero, List.set_cons_succ]
          clear V5
          generalize hg6 : w5.heap.size = g6 at *
          generalize w5.alloc (.cells #[.int .i64 kind, .slice p5 m c5] 24) = W7 at *
          clear hg6 w5
          refine held_one 0 rfl (by kernel_rfl) (by rfl) ?_
          refine wp_value (v := .slice pl L.length cl) (w' := W7) (by have e0 := cell_of_row _ _ 0 _ _ _ V7.out; simp only [List.getElem?_toArray, List.getElem?_cons_zero] at e0; go_simp) ?_
          refine ⟨trivial, ?_⟩
          simp only [Act.put, List.setIfInBounds_toArray, List.set_cons_zero, List.set_cons_succ]
          refine held_one 7 rfl (by kernel_rfl) (by rfl) ?_
          refine wp_append_lopts (.tmp 8) (.tmp 14) rfl B (.slice pl L.length cl) L ⟨kind, ys⟩ (.slice p5 m c5) g6 rfl rfl L7.out D7.out G7.out s7 (by omega) ?_
          intro v8 w8 L8 g8 x8
          clear x8
          have V8 : w8.heap[V]? = some (.cells #[.slice pl L.length cl] 28 (0, 0)) := (g8.block V (lt_of_block V7.out) (fun e => by have := HLT.out V e.symm; omega)).trans V7.out
          have hS8 : w8.cell? ⟨V, 0, none⟩ = some (.slice pl L.length cl) := cell_of_row _ _ _ _ _ _ V8
          have f8 : w8.frozen? ⟨V, 0, none⟩ = false := frozen_of_row _ _ _ _ _ V8
          obtain ⟨p8, c8, rfl⟩ := L8.slice
          refine ⟨trivial, ?_⟩
          simp only [Act.put, List.setIfInBounds_toArray, List.set_cons_zero, List.set_cons_succ]
          have hV9 : (w8.setCell ⟨V, 0, none⟩ (.slice p8 (L ++ [(⟨kind, ys⟩ : Ot.O)]).length c8)).heap[V]? = some (.cells #[.slice p8 (L ++ [(⟨kind, ys⟩ : Ot.O)]).length c8] 28 (0, 0)) := heap_setCell_same _ _ _ _ _ _ V8
          have b8 : Below V w w8 := Below.grown (B7.out.mono (Nat.le_of_lt hVw)) g8 (Nat.le_trans (Nat.le_of_lt hVB) s7) (fun j hj => by have := HLT.out j hj; omega)
          have k8 : ∀ k, k < B → k ≠ V → (w8.setCell ⟨V, 0, none⟩ (.slice p8 (L ++ [(⟨kind, ys⟩ : Ot.O)]).length c8)).heap[k]? = w.heap[k]? := fun k hk hkV => by
            rw [heap_setCell_other _ _ _ _ hkV, g8.block k (Nat.lt_of_lt_of_le hk s7) (fun e => by have := HLT.out k e.symm; omega)]
            exact B7.out.block k (Nat.lt_of_lt_of_le hk hB)
          have R9 : Hid (TellRes w (w8.setCell ⟨V, 0, none⟩ (.slice p8 (L ++ [(⟨kind, ys⟩ : Ot.O)]).length c8)) V B (L ++ [⟨kind, ys⟩])) := by
            refine ⟨⟨_, hV9, ?_⟩, b8.setCell (p := ⟨V, 0, none⟩) (Nat.le_refl _) _, k8⟩
            obtain ⟨xs, ho, he⟩ := L8
            refine ⟨xs, ownsRow_setCell_below ho hVB _, fun j hj => ?_⟩
            obtain ⟨d, h1, h2⟩ := he j hj
            refine ⟨d, h1, ?_⟩
            rcases h2 with h2 | h2
            · exact .inl (ownsRow_setCell_below h2 hVB _)
            · exact h2.1.elim
          clear k8 b8 hV9 L8 g8
          refine held_alone 8 (w' := w8.setCell ⟨V, 0, none⟩ (.slice p8 (L ++ [(⟨kind, ys⟩ : Ot.O)]).length c8)) rfl (by kernel_rfl) (by rfl) (by generalize (L ++ [(⟨kind, ys⟩ : Ot.O)]).length = n8; go_simp) trivial ?_
          refine held_done (by kernel_rfl) ?_
          clear hS8 f8 V8
          generalize w8.setCell ⟨V, 0, none⟩ (.slice p8 (L ++ [(⟨kind, ys⟩ : Ot.O)]).length c8) = W9 at *
          generalize (L ++ [(⟨kind, ys⟩ : Ot.O)]).length = n8 at *
          go_wp2
          exact bodyPost_end (results_none Try.results34 _ _ _) rfl (⟨rfl, R9.out⟩ : _ ∧ _)
end Go.Proofs.Ytacnlancncmpmaa
