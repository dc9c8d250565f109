/- The law of Known and Right. -/
import Derived.Test.YtacnlancncmpmaaTw
namespace Go.Proofs.Ytacnlancncmpmaa
open Go.RowKit Go.Maps S2 S12

set_option maxRecDepth 100000 in
set_option maxHeartbeats 2000000 in
theorem rights_walk (P : Int) (x : Ot.O) (a : Option Addr) (n c : Nat) (w : World) (hn : x.data.length = n) (h : RowAt w a c x.data) :
    Calls Try.prog 3 #[.int .i64 P, .agg (ocells x (.slice a n c)).toArray] w fun e w' => e = .returned (.bool true) ∧ Below w.heap.size w w' := by
  have H := Lib.hid h
  have HN := Lib.hid hn
  clear h hn
  by_cases hf : 1000 < n
  · have i1 : (1000 : Int) < (n : Int) := by omega
    clear hf
    have B0 := below_one w (.cells #[.int .i64 x.ty, .slice a n c] 24)
    have G0 := heap_alloc_new w (.cells #[.int .i64 x.ty, .slice a n c] 24)
    simp only [ocells]
    go_enter Try.func3, Try.ntmps3
    go_wp2_with fail
    refine (awake_any _).mono ?_
    rintro e w1 ⟨rfl, b1⟩
    have B1 := Lib.hid (Below.chain B0 b1)
    have G1 := Lib.hid (block_next G0 b1)
    clear B0 G0 b1
    have k0 : w1.cell? ⟨w.heap.size, 0, none⟩ = some (.int .i64 x.ty) := cell_of_row _ _ _ _ _ _ G1.out
    have k1 : w1.cell? ⟨w.heap.size, 1, none⟩ = some (.slice a n c) := cell_of_row _ _ _ _ _ _ G1.out
    go_wp2_with fail
    refine (awake_any _).mono ?_
    rintro e w2 ⟨rfl, b2⟩
    have B2 := Lib.hid (Below.chain B1.out b2)
    clear b2 B1 k0 k1
    go_wp2
    go_ret
    exact ⟨rfl, B2.out⟩
  · have i1 : ¬ (1000 : Int) < (n : Int) := by omega
    have B0 := below_one w (.cells #[.int .i64 x.ty, .slice a n c] 24)
    have G0 := heap_alloc_new w (.cells #[.int .i64 x.ty, .slice a n c] 24)
    simp only [ocells]
    go_enter Try.func3, Try.ntmps3
    go_wp2_with fail
    refine (awake_any _).mono ?_
    rintro e w1 ⟨rfl, b1⟩
    have B1 := Lib.hid (Below.chain B0 b1)
    have G1 := Lib.hid (block_next G0 b1)
    clear B0 G0 b1
    have k0 : w1.cell? ⟨w.heap.size, 0, none⟩ = some (.int .i64 x.ty) := cell_of_row _ _ _ _ _ _ G1.out
    have k1 : w1.cell? ⟨w.heap.size, 1, none⟩ = some (.slice a n c) := cell_of_row _ _ _ _ _ _ G1.out
    go_wp2_with fail
    have BD := Lib.hid B1.out.drew
    have GD : Hid (w1.drew.heap[w.heap.size]? = some (.cells #[.int .i64 x.ty, .slice a n c] 24 (0, 0))) := G1.out
    have rng : ∀ W : World, W.heap[w.heap.size]? = some (.cells #[.int .i64 x.ty, .slice a n c] 24 (0, 0)) → W.rangeAt w.heap.size 0 (ocells x (.slice a n c)) := by
      intro W hW j u hu
      rw [Nat.zero_add, cell_of_row _ _ _ _ _ _ hW]
      simpa [ocells] using hu
    have hS := rng _ GD.out
    refine held_start (S := fun W => W.rangeAt w.heap.size 0 (ocells x (.slice a n c))) 19 (by kernel_rfl) rfl ?_
    generalize w1.drew = wD at *
    clear B1 G1 k0 k1
    refine held_take 0 (v := ?_) rfl (by kernel_rfl) (by kernel_rfl) (by kernel_rfl) (fun _ _ _ h => h) (by assumption) (by rfl) ?_ ?_
    rotate_left
    · (intro W hW; go_simp; try with_reducible rfl)
    simp only [Act.put, List.setIfInBounds_toArray, List.set_cons_zero, List.set_cons_succ]
    refine held_take 1 (v := ?_) rfl (by kernel_rfl) (by kernel_rfl) (by kernel_rfl) (fun _ _ _ h => h) (by assumption) (by rfl) ?_ ?_
    rotate_left
    · (intro W hW; go_simp; try with_reducible rfl)
    simp only [Act.put, List.setIfInBounds_toArray, List.set_cons_zero, List.set_cons_succ]
    refine held_take 2 (v := ?_) rfl (by kernel_rfl) (by kernel_rfl) (by kernel_rfl) (fun _ _ _ h => h) (by assumption) (by rfl) ?_ ?_
    rotate_left
    · (intro W hW; have e0 : W.cell? ⟨w.heap.size, 0, none⟩ = some (.int .i64 x.ty) := hW 0 _ rfl; go_simp; try with_reducible rfl)
    simp only [Act.put, List.setIfInBounds_toArray, List.set_cons_zero, List.set_cons_succ]
    refine held_take 4 (v := ?_) rfl (by kernel_rfl) (by kernel_rfl) (by kernel_rfl) (fun _ _ _ h => h) (by assumption) (by rfl) ?_ ?_
    rotate_left
    · (intro W hW; go_simp; try with_reducible rfl)
    simp only [Act.put, List.setIfInBounds_toArray, List.set_cons_zero, List.set_cons_succ]
    refine held_take 5 (v := ?_) rfl (by kernel_rfl) (by kernel_rfl) (by kernel_rfl) (fun _ _ _ h => h) (by assumption) (by rfl) ?_ ?_
    rotate_left
    · (intro W hW; go_simp; try with_reducible rfl)
    simp only [Act.put, List.setIfInBounds_toArray, List.set_cons_zero, List.set_cons_succ]
    refine held_take 6 (v := ?_) rfl (by kernel_rfl) (by kernel_rfl) (by kernel_rfl) (fun _ _ _ h => h) (by assumption) (by rfl) ?_ ?_
    rotate_left
    · (intro W hW; have e0 : W.cell? ⟨w.heap.size, 0, none⟩ = some (.int .i64 x.ty) := hW 0 _ rfl; go_simp; try with_reducible rfl)
    simp only [Act.put, List.setIfInBounds_toArray, List.set_cons_zero, List.set_cons_succ]
    refine held_call 3 (f := 10) (args := #[.int .i64 P, .int .i64 x.ty]) rfl (by kernel_rfl) (by rfl) (by go_simp) ?_
    refine (known_any P x.ty wD).mono ?_
    rintro e w2 ⟨rfl, h2⟩; rw [h2]; clear h2
    refine ⟨_, rfl, hS, ?_⟩
    simp only [Act.put, List.setIfInBounds_toArray, List.set_cons_zero, List.set_cons_succ]
    refine held_call 7 (f := 11) (args := #[.int .i64 P, .int .i64 x.ty]) rfl (by kernel_rfl) (by rfl) (by go_simp) ?_
    refine (refKnown_any P x.ty wD).mono ?_
    rintro e w3 ⟨rfl, h3⟩; rw [h3]; clear h3
    refine ⟨_, rfl, hS, ?_⟩
    simp only [Act.put, List.setIfInBounds_toArray, List.set_cons_zero, List.set_cons_succ]
    generalize Ad.known P x.ty = K
    refine held_take 8 (v := ?_) rfl (by kernel_rfl) (by kernel_rfl) (by kernel_rfl) (fun _ _ _ h => h) (by assumption) (by rfl) ?_ ?_
    rotate_left
    · (intro W hW; go_simp; try with_reducible rfl)
    simp only [Act.put, List.setIfInBounds_toArray, List.set_cons_zero, List.set_cons_succ]
    refine held_take 9 (v := ?_) rfl (by kernel_rfl) (by kernel_rfl) (by kernel_rfl) (fun _ _ _ h => h) (by assumption) (by rfl) ?_ ?_
    rotate_left
    · (intro W hW; go_simp; try with_reducible rfl)
    simp only [Act.put, List.setIfInBounds_toArray, List.set_cons_zero, List.set_cons_succ]
    refine held_take 10 (v := ?_) rfl (by kernel_rfl) (by kernel_rfl) (by kernel_rfl) (fun _ _ _ h => h) (by assumption) (by rfl) ?_ ?_
    rotate_left
    · (intro W hW; go_simp; try with_reducible rfl)
    simp only [Act.put, List.setIfInBounds_toArray, List.set_cons_zero, List.set_cons_succ]
    refine held_take 11 (v := .agg (ocells x (.slice a n c)).toArray) rfl (by kernel_rfl) (by kernel_rfl) (by kernel_rfl) (fun _ _ _ h => h) (by assumption) (by rfl) (fun W hW => run_load_mid (.tmp 3) rfl w.heap.size 0 rfl x a n c hW) ?_
    simp only [Act.put, List.setIfInBounds_toArray, List.set_cons_zero, List.set_cons_succ]
    refine held_take 13 (v := ?_) rfl (by kernel_rfl) (by kernel_rfl) (by kernel_rfl) (fun _ _ _ h => h) (by assumption) (by rfl) ?_ ?_
    rotate_left
    · (intro W hW; go_simp; try with_reducible rfl)
    simp only [Act.put, List.setIfInBounds_toArray, List.set_cons_zero, List.set_cons_succ]
    refine held_take 14 (v := .agg (ocells x (.slice a n c)).toArray) rfl (by kernel_rfl) (by kernel_rfl) (by kernel_rfl) (fun _ _ _ h => h) (by assumption) (by rfl) (fun W hW => run_load_mid (.tmp 3) rfl w.heap.size 0 rfl x a n c hW) ?_
    simp only [Act.put, List.setIfInBounds_toArray, List.set_cons_zero, List.set_cons_succ]
    refine held_call 12 (f := 12) (args := #[.int .i64 P, .agg (ocells x (.slice a n c)).toArray]) rfl (by kernel_rfl) (by rfl) (by go_simp) ?_
    refine (right_any P x a n c wD HN.out (H.out.next BD.out)).mono ?_
    rintro e w4 ⟨rfl, b4⟩
    have B4 := Lib.hid (Below.chain BD.out b4)
    have G4 := Lib.hid (block_next GD.out b4)
    have hS4 := rng _ G4.out
    refine ⟨_, rfl, hS4, ?_⟩
    simp only [Act.put, List.setIfInBounds_toArray, List.set_cons_zero, List.set_cons_succ]
    clear b4 BD GD hS
    refine held_call 15 (f := 13) (args := #[.int .i64 P, .agg (ocells x (.slice a n c)).toArray]) rfl (by kernel_rfl) (by rfl) (by go_simp) ?_
    refine (refRight_any P x a n c w4 HN.out (H.out.next B4.out)).mono ?_
    rintro e w5 ⟨rfl, b5⟩
    have B5 := Lib.hid (Below.chain B4.out b5)
    have G5 := Lib.hid (block_next G4.out b5)
    have hS5 := rng _ G5.out
    refine ⟨_, rfl, hS5, ?_⟩
    simp only [Act.put, List.setIfInBounds_toArray, List.set_cons_zero, List.set_cons_succ]
    clear b5 B4 G4 hS4
    generalize Ad.right P x = R
    refine held_take 16 (v := ?_) rfl (by kernel_rfl) (by kernel_rfl) (by kernel_rfl) (fun _ _ _ h => h) (by assumption) (by rfl) ?_ ?_
    rotate_left
    · (intro W hW; go_simp; try with_reducible rfl)
    simp only [Act.put, List.setIfInBounds_toArray, List.set_cons_zero, List.set_cons_succ]
    refine held_take 17 (v := ?_) rfl (by kernel_rfl) (by kernel_rfl) (by kernel_rfl) (fun _ _ _ h => h) (by assumption) (by rfl) ?_ ?_
    rotate_left
    · (intro W hW; go_simp; try with_reducible rfl)
    simp only [Act.put, List.setIfInBounds_toArray, List.set_cons_zero, List.set_cons_succ]
    refine held_take 18 (v := ?_) rfl (by kernel_rfl) (by kernel_rfl) (by kernel_rfl) (fun _ _ _ h => h) (by assumption) (by rfl) ?_ ?_
    rotate_left
    · (intro W hW; go_simp; try with_reducible rfl)
    simp only [Act.put, List.setIfInBounds_toArray, List.set_cons_zero, List.set_cons_succ]
    refine held_done (by kernel_rfl) ?_
    go_wp2
    go_ret
    exact ⟨rfl, B5.out⟩
end Go.Proofs.Ytacnlancncmpmaa
