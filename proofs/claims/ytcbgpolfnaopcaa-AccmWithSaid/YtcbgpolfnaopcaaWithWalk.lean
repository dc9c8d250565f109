/- AccmWith: the walk. -/
import Derived.Test.YtcbgpolfnaopcaaWh
import Derived.Test.YtcbgpolfnaopcaaHeld
namespace Go.Proofs.Ytcbgpolfnaopcaa
open Go.RowKit

set_option maxRecDepth 10000 in
set_option maxHeartbeats 1000000 in
theorem with_long (m : Nat) (a : Option Addr) (cap n : Nat) (w : World) (hg : (1000 : Int) < (n : Int)) :
    Calls Try.prog 4 #[.int .u32 (m : Int), .slice a n cap] w fun e w' => e = .returned (.bool true) ∧ Below w.heap.size w w' := by
  go_enter Try.func4, Try.ntmps4
  go_wp2_with fail
  refine (awake_any _).mono ?_
  rintro e w1 ⟨rfl, b1⟩
  go_wp2_with fail
  refine (awake_any _).mono ?_
  rintro e w2 ⟨rfl, b2⟩
  go_wp2
  go_ret
  exact ⟨rfl, Below.chain b1 b2⟩

set_option maxRecDepth 100000 in
set_option maxHeartbeats 4000000 in
theorem with_short (m : Nat) (a : Option Addr) (cap : Nat) (xs : List UInt8) (n : Nat) (w : World) (hm : m < 4294967296) (hn : xs.length = n) (h : RowAt w a cap xs) (hg : ¬ (1000 : Int) < (n : Int)) :
    Calls Try.prog 4 #[.int .u32 (m : Int), .slice a n cap] w fun e w' => e = .returned (.bool true) ∧ Below w.heap.size w w' := by
  have c13 : ∀ W : World, RowAt W a cap xs → _ := fun W h => with_any m a n cap xs W hn hm (by omega) h
  have c14 : ∀ W : World, RowAt W a cap xs → _ := fun W h => refWith_any m a n cap xs W hn hm (by omega) h
  have c15 := fun W : World => list_row m W hm
  have c16 := fun W : World => refList_row m W hm
  generalize Ac.withs m xs = Y at c13 c14
  generalize Ac.list m 32 = Z at c15 c16
  obtain ⟨z, hz⟩ : ∃ z, Z.length = z := ⟨_, rfl⟩
  rw [hz] at c15 c16
  have Hz := Lib.hid hz
  have C13 := Lib.hid c13
  have C14 := Lib.hid c14
  have C15 := Lib.hid c15
  have C16 := Lib.hid c16
  have H := Lib.hid h
  clear hz c13 c14 c15 c16 h hn
  go_enter Try.func4, Try.ntmps4
  go_wp2_with fail
  refine (awake_any _).mono ?_
  rintro e w1 ⟨rfl, b1⟩
  have hS : RowAt w1.drew a cap xs := (H.out.next b1).drawn
  replace b1 := Below.chain b1 (Below.refl _ _).drew
  go_wp2_with fail
  refine held_start (S := fun W => RowAt W a cap xs) 17 (by kernel_rfl) rfl ?_
  generalize w1.drew = w2 at hS b1 ⊢
  refine held_take 0 (v := ?_) rfl (by kernel_rfl) (by kernel_rfl) (by kernel_rfl) (fun _ _ _ h => h) (by assumption) (by rfl) ?_ ?_
  rotate_left
  · (intro W hW; go_simp; try with_reducible rfl)
  simp only [Act.put, List.setIfInBounds_toArray, List.set_cons_zero, List.set_cons_succ]
  refine held_take 1 (v := ?_) rfl (by kernel_rfl) (by kernel_rfl) (by kernel_rfl) (fun _ _ _ h => h) (by assumption) (by rfl) ?_ ?_
  rotate_left
  · (intro W hW; go_simp; try with_reducible rfl)
  simp only [Act.put, List.setIfInBounds_toArray, List.set_cons_zero, List.set_cons_succ]
  refine held_take 3 (v := ?_) rfl (by kernel_rfl) (by kernel_rfl) (by kernel_rfl) (fun _ _ _ h => h) (by assumption) (by rfl) ?_ ?_
  rotate_left
  · (intro W hW; go_simp; try with_reducible rfl)
  simp only [Act.put, List.setIfInBounds_toArray, List.set_cons_zero, List.set_cons_succ]
  refine held_take 4 (v := ?_) rfl (by kernel_rfl) (by kernel_rfl) (by kernel_rfl) (fun _ _ _ h => h) (by assumption) (by rfl) ?_ ?_
  rotate_left
  · (intro W hW; go_simp; try with_reducible rfl)
  simp only [Act.put, List.setIfInBounds_toArray, List.set_cons_zero, List.set_cons_succ]
  refine held_call 2 (f := 13) (args := #[.int .u32 (m : Int), .slice a n cap]) rfl (by kernel_rfl) (by rfl) (by go_simp) ?_
  refine (C13.out _ hS).mono ?_
  rintro e w0 ⟨rfl, rfl⟩
  refine ⟨_, rfl, hS, ?_⟩
  simp only [Act.put, List.setIfInBounds_toArray, List.set_cons_zero, List.set_cons_succ]
  refine held_call 5 (f := 14) (args := #[.int .u32 (m : Int), .slice a n cap]) rfl (by kernel_rfl) (by rfl) (by go_simp) ?_
  refine (C14.out _ hS).mono ?_
  rintro e w0 ⟨rfl, rfl⟩
  refine ⟨_, rfl, hS, ?_⟩
  simp only [Act.put, List.setIfInBounds_toArray, List.set_cons_zero, List.set_cons_succ]
  refine held_take 6 (v := ?_) rfl (by kernel_rfl) (by kernel_rfl) (by kernel_rfl) (fun _ _ _ h => h) (by assumption) (by rfl) ?_ ?_
  rotate_left
  · (intro W hW; go_simp; try with_reducible rfl)
  simp only [Act.put, List.setIfInBounds_toArray, List.set_cons_zero, List.set_cons_succ]
  refine held_take 7 (v := ?_) rfl (by kernel_rfl) (by kernel_rfl) (by kernel_rfl) (fun _ _ _ h => h) (by assumption) (by rfl) ?_ ?_
  rotate_left
  · (intro W hW; go_simp; try with_reducible rfl)
  simp only [Act.put, List.setIfInBounds_toArray, List.set_cons_zero, List.set_cons_succ]
  refine held_take 8 (v := ?_) rfl (by kernel_rfl) (by kernel_rfl) (by kernel_rfl) (fun _ _ _ h => h) (by assumption) (by rfl) ?_ ?_
  rotate_left
  · (intro W hW; go_simp; try with_reducible rfl)
  simp only [Act.put, List.setIfInBounds_toArray, List.set_cons_zero, List.set_cons_succ]
  refine held_take 11 (v := ?_) rfl (by kernel_rfl) (by kernel_rfl) (by kernel_rfl) (fun _ _ _ h => h) (by assumption) (by rfl) ?_ ?_
  rotate_left
  · (intro W hW; go_simp; try with_reducible rfl)
  simp only [Act.put, List.setIfInBounds_toArray, List.set_cons_zero, List.set_cons_succ]
  refine held_call 9 (f := 15) (args := #[.int .u32 (m : Int)]) rfl (by kernel_rfl) (by rfl) (by go_simp) ?_
  refine (C15.out _).mono ?_
  rintro e w3 ⟨p3, c3, rfl, r3, bb⟩
  refine ⟨_, rfl, hS.next bb, ?_⟩
  simp only [Act.put, List.setIfInBounds_toArray, List.set_cons_zero, List.set_cons_succ]
  refine held_more (S' := fun W => RowAt W p3 c3 Z ∧ RowAt W a cap xs) (fun _ h => h.2) _ _ _ _ ?_
  have hS2 : RowAt w3 p3 c3 Z ∧ RowAt w3 a cap xs := ⟨r3, hS.next bb⟩
  replace b1 := Below.chain b1 bb
  clear r3 hS bb
  refine held_take 10 (v := ?_) rfl (by kernel_rfl) (by kernel_rfl) (by kernel_rfl) (fun _ _ _ h => h) (by assumption) (by rfl) ?_ ?_
  rotate_left
  · (intro W hW; have cv3 := conv_row Hz.out hW.1; go_simp; try with_reducible rfl)
  simp only [Act.put, List.setIfInBounds_toArray, List.set_cons_zero, List.set_cons_succ]
  refine held_call 12 (f := 16) (args := #[.int .u32 (m : Int)]) rfl (by kernel_rfl) (by rfl) (by go_simp) ?_
  refine (C16.out _).mono ?_
  rintro e w4 ⟨p4, c4, rfl, r4, bb⟩
  replace hS2 : RowAt w4 p3 c3 Z ∧ RowAt w4 a cap xs := ⟨hS2.1.next bb, hS2.2.next bb⟩
  refine ⟨_, rfl, hS2, ?_⟩
  simp only [Act.put, List.setIfInBounds_toArray, List.set_cons_zero, List.set_cons_succ]
  refine held_more (S' := fun W => RowAt W p4 c4 Z ∧ RowAt W p3 c3 Z ∧ RowAt W a cap xs) (fun _ h => h.2) _ _ _ _ ?_
  have hS3 : RowAt w4 p4 c4 Z ∧ RowAt w4 p3 c3 Z ∧ RowAt w4 a cap xs := ⟨r4, hS2⟩
  replace b1 := Below.chain b1 bb
  clear r4 hS2 bb
  refine held_take 13 (v := ?_) rfl (by kernel_rfl) (by kernel_rfl) (by kernel_rfl) (fun _ _ _ h => h) (by assumption) (by rfl) ?_ ?_
  rotate_left
  · (intro W hW; have cv4 := conv_row Hz.out hW.1; go_simp; try with_reducible rfl)
  simp only [Act.put, List.setIfInBounds_toArray, List.set_cons_zero, List.set_cons_succ]
  refine held_take 14 (v := ?_) rfl (by kernel_rfl) (by kernel_rfl) (by kernel_rfl) (fun _ _ _ h => h) (by assumption) (by rfl) ?_ ?_
  rotate_left
  · (intro W hW; go_simp; try with_reducible rfl)
  simp only [Act.put, List.setIfInBounds_toArray, List.set_cons_zero, List.set_cons_succ]
  refine held_take 15 (v := ?_) rfl (by kernel_rfl) (by kernel_rfl) (by kernel_rfl) (fun _ _ _ h => h) (by assumption) (by rfl) ?_ ?_
  rotate_left
  · (intro W hW; go_simp; try with_reducible rfl)
  simp only [Act.put, List.setIfInBounds_toArray, List.set_cons_zero, List.set_cons_succ]
  refine held_take 16 (v := ?_) rfl (by kernel_rfl) (by kernel_rfl) (by kernel_rfl) (fun _ _ _ h => h) (by assumption) (by rfl) ?_ ?_
  rotate_left
  · (intro W hW; go_simp; try with_reducible rfl)
  simp only [Act.put, List.setIfInBounds_toArray, List.set_cons_zero, List.set_cons_succ]
  refine held_done (by kernel_rfl) ?_
  go_wp2
  go_ret
  exact ⟨rfl, b1⟩

theorem with_walk (m : Nat) (a : Option Addr) (cap : Nat) (xs : List UInt8) (w : World) (hm : m < 4294967296) (h : RowAt w a cap xs) :
    Calls Try.prog 4 #[.int .u32 (m : Int), .slice a xs.length cap] w fun e w' => e = .returned (.bool true) ∧ Below w.heap.size w w' := by
  by_cases hg : (1000 : Int) < (xs.length : Int)
  · exact with_long m a cap xs.length w hg
  · exact with_short m a cap xs xs.length w hm rfl h hg
end Go.Proofs.Ytcbgpolfnaopcaa
