/- FcsOpens: the walk. -/
import Derived.Test.YtdpgefnnenlehaaWh
namespace Go.Proofs.Ytdpgefnnenlehaa
open Go.RowKit

set_option maxRecDepth 10000 in
set_option maxHeartbeats 1000000 in
theorem opens_long (a : Option Addr) (cap n : Nat) (wide : Bool) (w : World) (hg : (2000 : Int) < (n : Int)) :
    Calls Try.prog 4 #[.slice a n cap, .bool wide] w fun e w' => e = .returned (.bool true) ∧ Below w.heap.size w w' := by
  go_enter Try.func4, Try.ntmps4
  go_wp2_with fail
  refine (awake_any _).mono ?_
  rintro e w1 ⟨rfl, b1⟩
  go_wp2_with fail
  refine (awake_any _).mono ?_
  rintro e w2 ⟨rfl, b2⟩
  go_wp2
  go_ret
  exact ⟨rfl, Below.chain b1 b2⟩


set_option maxRecDepth 100000 in
set_option maxHeartbeats 4000000 in
theorem opens_short (a : Option Addr) (cap : Nat) (xs : List UInt8) (n : Nat) (wide : Bool) (w : World) (hn : xs.length = n) (h : RowAt w a cap xs) (hg : ¬ (2000 : Int) < (n : Int)) :
    Calls Try.prog 4 #[.slice a n cap, .bool wide] w fun e w' => e = .returned (.bool true) ∧ Below w.heap.size w w' := by
  have c16 : ∀ W : World, RowAt W a cap xs → _ := fun W h => open_any a n cap xs wide W hn (by omega) h
  have c17 : ∀ W : World, RowAt W a cap xs → _ := fun W h => refOpen_any a n cap xs wide W hn (by omega) h
  have c18 : ∀ W : World, RowAt W a cap xs → _ := fun W h => good_any a n cap xs wide W hn (by omega) h
  have c19 : ∀ W : World, RowAt W a cap xs → _ := fun W h => seal_row a n cap xs wide W hn (by omega) h
  have c20 : ∀ W : World, RowAt W a cap xs → _ := fun W h => refSeal_row a n cap xs wide W hn (by omega) h
  generalize Fc.opened xs wide = X at c16 c17
  generalize Fc.good xs wide = g at c16 c17 c18
  generalize Fc.sealed xs wide = Z at c19 c20
  obtain ⟨l, hl⟩ : ∃ l, X.length = l := ⟨_, rfl⟩
  obtain ⟨z, hz⟩ : ∃ z, Z.length = z := ⟨_, rfl⟩
  rw [hl] at c16 c17
  rw [hz] at c19 c20
  have Hl := Lib.hid hl
  have Hz := Lib.hid hz
  have C16 := Lib.hid c16
  have C17 := Lib.hid c17
  have C18 := Lib.hid c18
  have C19 := Lib.hid c19
  have C20 := Lib.hid c20
  have H := Lib.hid h
  clear hl hz c16 c17 c18 c19 c20 h hn
  go_enter Try.func4, Try.ntmps4
  go_wp2_with fail
  refine (awake_any _).mono ?_
  rintro e w1 ⟨rfl, b1⟩
  go_wp2_with fail
  refine (C16.out _ (H.out.next b1)).mono ?_
  rintro e w2 ⟨p1, c1, rfl, r1, b2⟩
  replace b1 := Below.chain b1 b2
  have R1 := Lib.hid r1
  clear b2 r1
  go_wp2_with fail
  refine (C17.out _ (H.out.next b1)).mono ?_
  rintro e w3 ⟨p2, c2, rfl, r2, b2⟩
  have hS : RowAt w3.drew p1 c1 X ∧ RowAt w3.drew p2 c2 X ∧ RowAt w3.drew a cap xs := ⟨(R1.out.next b2).drawn, r2.drawn, ((H.out.next b1).next b2).drawn⟩
  replace b1 := Below.chain (Below.chain b1 b2) (Below.refl _ _).drew
  clear b2 r2 R1
  go_wp2_with fail
  refine held_start (S := fun W => RowAt W p1 c1 X ∧ RowAt W p2 c2 X ∧ RowAt W a cap xs) 29 (by kernel_rfl) rfl ?_
  refine held_take 0 (v := ?_) rfl (by kernel_rfl) (by kernel_rfl) (by kernel_rfl) (fun _ _ _ h => h) (by assumption) (by rfl) ?_ ?_
  rotate_left
  · (intro W hW; go_simp; try with_reducible rfl)
  simp only [Act.put, List.setIfInBounds_toArray, List.set_cons_zero, List.set_cons_succ]
  refine held_take 1 (v := ?_) rfl (by kernel_rfl) (by kernel_rfl) (by kernel_rfl) (fun _ _ _ h => h) (by assumption) (by rfl) ?_ ?_
  rotate_left
  · (intro W hW; go_simp; try with_reducible rfl)
  simp only [Act.put, List.setIfInBounds_toArray, List.set_cons_zero, List.set_cons_succ]
  refine held_take 2 (v := ?_) rfl (by kernel_rfl) (by kernel_rfl) (by kernel_rfl) (fun _ _ _ h => h) (by assumption) (by rfl) ?_ ?_
  rotate_left
  · (intro W hW; go_simp; try with_reducible rfl)
  simp only [Act.put, List.setIfInBounds_toArray, List.set_cons_zero, List.set_cons_succ]
  refine held_take 3 (v := ?_) rfl (by kernel_rfl) (by kernel_rfl) (by kernel_rfl) (fun _ _ _ h => h) (by assumption) (by rfl) ?_ ?_
  rotate_left
  · (intro W hW; go_simp; try with_reducible rfl)
  simp only [Act.put, List.setIfInBounds_toArray, List.set_cons_zero, List.set_cons_succ]
  refine held_take 4 (v := ?_) rfl (by kernel_rfl) (by kernel_rfl) (by kernel_rfl) (fun _ _ _ h => h) (by assumption) (by rfl) ?_ ?_
  rotate_left
  · (intro W hW; go_simp; try with_reducible rfl)
  simp only [Act.put, List.setIfInBounds_toArray, List.set_cons_zero, List.set_cons_succ]
  refine held_take 5 (v := ?_) rfl (by kernel_rfl) (by kernel_rfl) (by kernel_rfl) (fun _ _ _ h => h) (by assumption) (by rfl) ?_ ?_
  rotate_left
  · (intro W hW; have cv1 := conv_row Hl.out hW.1; have cv2 := conv_row Hl.out hW.2.1; go_simp; try with_reducible rfl)
  simp only [Act.put, List.setIfInBounds_toArray, List.set_cons_zero, List.set_cons_succ]
  refine held_take 6 (v := ?_) rfl (by kernel_rfl) (by kernel_rfl) (by kernel_rfl) (fun _ _ _ h => h) (by assumption) (by rfl) ?_ ?_
  rotate_left
  · (intro W hW; go_simp; try with_reducible rfl)
  simp only [Act.put, List.setIfInBounds_toArray, List.set_cons_zero, List.set_cons_succ]
  refine held_take 7 (v := ?_) rfl (by kernel_rfl) (by kernel_rfl) (by kernel_rfl) (fun _ _ _ h => h) (by assumption) (by rfl) ?_ ?_
  rotate_left
  · (intro W hW; have cv1 := conv_row Hl.out hW.1; have cv2 := conv_row Hl.out hW.2.1; go_simp; try with_reducible rfl)
  simp only [Act.put, List.setIfInBounds_toArray, List.set_cons_zero, List.set_cons_succ]
  refine held_take 8 (v := ?_) rfl (by kernel_rfl) (by kernel_rfl) (by kernel_rfl) (fun _ _ _ h => h) (by assumption) (by rfl) ?_ ?_
  rotate_left
  · (intro W hW; go_simp; try with_reducible rfl)
  simp only [Act.put, List.setIfInBounds_toArray, List.set_cons_zero, List.set_cons_succ]
  refine held_take 9 (v := ?_) rfl (by kernel_rfl) (by kernel_rfl) (by kernel_rfl) (fun _ _ _ h => h) (by assumption) (by rfl) ?_ ?_
  rotate_left
  · (intro W hW; go_simp; try with_reducible rfl)
  simp only [Act.put, List.setIfInBounds_toArray, List.set_cons_zero, List.set_cons_succ]
  refine held_take 10 (v := ?_) rfl (by kernel_rfl) (by kernel_rfl) (by kernel_rfl) (fun _ _ _ h => h) (by assumption) (by rfl) ?_ ?_
  rotate_left
  · (intro W hW; go_simp; try with_reducible rfl)
  simp only [Act.put, List.setIfInBounds_toArray, List.set_cons_zero, List.set_cons_succ]
  refine held_take 11 (v := ?_) rfl (by kernel_rfl) (by kernel_rfl) (by kernel_rfl) (fun _ _ _ h => h) (by assumption) (by rfl) ?_ ?_
  rotate_left
  · (intro W hW; go_simp; try with_reducible rfl)
  simp only [Act.put, List.setIfInBounds_toArray, List.set_cons_zero, List.set_cons_succ]
  refine held_take 12 (v := ?_) rfl (by kernel_rfl) (by kernel_rfl) (by kernel_rfl) (fun _ _ _ h => h) (by assumption) (by rfl) ?_ ?_
  rotate_left
  · (intro W hW; go_simp; try with_reducible rfl)
  simp only [Act.put, List.setIfInBounds_toArray, List.set_cons_zero, List.set_cons_succ]
  refine held_take 14 (v := ?_) rfl (by kernel_rfl) (by kernel_rfl) (by kernel_rfl) (fun _ _ _ h => h) (by assumption) (by rfl) ?_ ?_
  rotate_left
  · (intro W hW; go_simp; try with_reducible rfl)
  simp only [Act.put, List.setIfInBounds_toArray, List.set_cons_zero, List.set_cons_succ]
  refine held_call 13 (f := 18) (args := #[.slice a n cap, .bool wide]) rfl (by kernel_rfl) (by rfl) (by go_simp) ?_
  refine (C18.out _ hS.2.2).mono ?_
  rintro e w4 ⟨rfl, bb⟩
  replace hS : RowAt w4 p1 c1 X ∧ RowAt w4 p2 c2 X ∧ RowAt w4 a cap xs := ⟨hS.1.next bb, hS.2.1.next bb, hS.2.2.next bb⟩
  replace b1 := Below.chain b1 bb
  clear bb
  refine ⟨_, rfl, hS, ?_⟩
  simp only [Act.put, List.setIfInBounds_toArray, List.set_cons_zero, List.set_cons_succ]
  refine held_take 15 (v := ?_) rfl (by kernel_rfl) (by kernel_rfl) (by kernel_rfl) (fun _ _ _ h => h) (by assumption) (by rfl) ?_ ?_
  rotate_left
  · (intro W hW; go_simp; try with_reducible rfl)
  simp only [Act.put, List.setIfInBounds_toArray, List.set_cons_zero, List.set_cons_succ]
  refine held_take 16 (v := ?_) rfl (by kernel_rfl) (by kernel_rfl) (by kernel_rfl) (fun _ _ _ h => h) (by assumption) (by rfl) ?_ ?_
  rotate_left
  · (intro W hW; go_simp; try with_reducible rfl)
  simp only [Act.put, List.setIfInBounds_toArray, List.set_cons_zero, List.set_cons_succ]
  refine held_take 17 (v := ?_) rfl (by kernel_rfl) (by kernel_rfl) (by kernel_rfl) (fun _ _ _ h => h) (by assumption) (by rfl) ?_ ?_
  rotate_left
  · (intro W hW; go_simp; try with_reducible rfl)
  simp only [Act.put, List.setIfInBounds_toArray, List.set_cons_zero, List.set_cons_succ]
  refine held_take 18 (v := ?_) rfl (by kernel_rfl) (by kernel_rfl) (by kernel_rfl) (fun _ _ _ h => h) (by assumption) (by rfl) ?_ ?_
  rotate_left
  · (intro W hW; go_simp; try with_reducible rfl)
  simp only [Act.put, List.setIfInBounds_toArray, List.set_cons_zero, List.set_cons_succ]
  refine held_take 19 (v := ?_) rfl (by kernel_rfl) (by kernel_rfl) (by kernel_rfl) (fun _ _ _ h => h) (by assumption) (by rfl) ?_ ?_
  rotate_left
  · (intro W hW; go_simp; try with_reducible rfl)
  simp only [Act.put, List.setIfInBounds_toArray, List.set_cons_zero, List.set_cons_succ]
  refine held_take 22 (v := ?_) rfl (by kernel_rfl) (by kernel_rfl) (by kernel_rfl) (fun _ _ _ h => h) (by assumption) (by rfl) ?_ ?_
  rotate_left
  · (intro W hW; go_simp; try with_reducible rfl)
  simp only [Act.put, List.setIfInBounds_toArray, List.set_cons_zero, List.set_cons_succ]
  refine held_take 23 (v := ?_) rfl (by kernel_rfl) (by kernel_rfl) (by kernel_rfl) (fun _ _ _ h => h) (by assumption) (by rfl) ?_ ?_
  rotate_left
  · (intro W hW; go_simp; try with_reducible rfl)
  simp only [Act.put, List.setIfInBounds_toArray, List.set_cons_zero, List.set_cons_succ]
  refine held_call 20 (f := 19) (args := #[.slice a n cap, .bool wide]) rfl (by kernel_rfl) (by rfl) (by go_simp) ?_
  refine (C19.out _ hS.2.2).mono ?_
  rintro e w5 ⟨p3, c3, rfl, r3, bb⟩
  replace hS : RowAt w5 p1 c1 X ∧ RowAt w5 p2 c2 X ∧ RowAt w5 a cap xs := ⟨hS.1.next bb, hS.2.1.next bb, hS.2.2.next bb⟩
  replace b1 := Below.chain b1 bb
  clear bb
  refine ⟨_, rfl, hS, ?_⟩
  simp only [Act.put, List.setIfInBounds_toArray, List.set_cons_zero, List.set_cons_succ]
  refine held_more (S' := fun W => RowAt W p3 c3 Z ∧ RowAt W a cap xs ∧ RowAt W p1 c1 X ∧ RowAt W p2 c2 X) (fun _ h => ⟨h.2.2.1, h.2.2.2, h.2.1⟩) _ _ _ _ ?_
  have hS2 : RowAt w5 p3 c3 Z ∧ RowAt w5 a cap xs ∧ RowAt w5 p1 c1 X ∧ RowAt w5 p2 c2 X := ⟨r3, hS.2.2, hS.1, hS.2.1⟩
  clear r3 hS
  refine held_take 21 (v := ?_) rfl (by kernel_rfl) (by kernel_rfl) (by kernel_rfl) (fun _ _ _ h => h) (by assumption) (by rfl) ?_ ?_
  rotate_left
  · (intro W hW; have cv3 := conv_row Hz.out hW.1; go_simp; try with_reducible rfl)
  simp only [Act.put, List.setIfInBounds_toArray, List.set_cons_zero, List.set_cons_succ]
  refine held_call 24 (f := 20) (args := #[.slice a n cap, .bool wide]) rfl (by kernel_rfl) (by rfl) (by go_simp) ?_
  refine (C20.out _ hS2.2.1).mono ?_
  rintro e w6 ⟨p4, c4, rfl, r4, bb⟩
  replace hS2 : RowAt w6 p3 c3 Z ∧ RowAt w6 a cap xs ∧ RowAt w6 p1 c1 X ∧ RowAt w6 p2 c2 X := ⟨hS2.1.next bb, hS2.2.1.next bb, hS2.2.2.1.next bb, hS2.2.2.2.next bb⟩
  replace b1 := Below.chain b1 bb
  clear bb
  refine ⟨_, rfl, hS2, ?_⟩
  simp only [Act.put, List.setIfInBounds_toArray, List.set_cons_zero, List.set_cons_succ]
  refine held_more (S' := fun W => RowAt W p4 c4 Z ∧ RowAt W p3 c3 Z ∧ RowAt W a cap xs ∧ RowAt W p1 c1 X ∧ RowAt W p2 c2 X) (fun _ h => h.2) _ _ _ _ ?_
  have hS3 : RowAt w6 p4 c4 Z ∧ RowAt w6 p3 c3 Z ∧ RowAt w6 a cap xs ∧ RowAt w6 p1 c1 X ∧ RowAt w6 p2 c2 X := ⟨r4, hS2⟩
  clear r4 hS2
  refine held_take 25 (v := ?_) rfl (by kernel_rfl) (by kernel_rfl) (by kernel_rfl) (fun _ _ _ h => h) (by assumption) (by rfl) ?_ ?_
  rotate_left
  · (intro W hW; have cv4 := conv_row Hz.out hW.1; go_simp; try with_reducible rfl)
  simp only [Act.put, List.setIfInBounds_toArray, List.set_cons_zero, List.set_cons_succ]
  refine held_take 26 (v := ?_) rfl (by kernel_rfl) (by kernel_rfl) (by kernel_rfl) (fun _ _ _ h => h) (by assumption) (by rfl) ?_ ?_
  rotate_left
  · (intro W hW; go_simp; try with_reducible rfl)
  simp only [Act.put, List.setIfInBounds_toArray, List.set_cons_zero, List.set_cons_succ]
  refine held_take 27 (v := ?_) rfl (by kernel_rfl) (by kernel_rfl) (by kernel_rfl) (fun _ _ _ h => h) (by assumption) (by rfl) ?_ ?_
  rotate_left
  · (intro W hW; go_simp; try with_reducible rfl)
  simp only [Act.put, List.setIfInBounds_toArray, List.set_cons_zero, List.set_cons_succ]
  refine held_take 28 (v := ?_) rfl (by kernel_rfl) (by kernel_rfl) (by kernel_rfl) (fun _ _ _ h => h) (by assumption) (by rfl) ?_ ?_
  rotate_left
  · (intro W hW; go_simp; try with_reducible rfl)
  simp only [Act.put, List.setIfInBounds_toArray, List.set_cons_zero, List.set_cons_succ]
  refine held_done (by kernel_rfl) ?_
  go_wp2
  go_ret
  exact ⟨rfl, b1⟩

theorem opens_walk (a : Option Addr) (cap : Nat) (xs : List UInt8) (wide : Bool) (w : World) (h : RowAt w a cap xs) :
    Calls Try.prog 4 #[.slice a xs.length cap, .bool wide] w fun e w' => e = .returned (.bool true) ∧ Below w.heap.size w w' := by
  by_cases hg : (2000 : Int) < (xs.length : Int)
  · exact opens_long a cap xs.length wide w hg
  · exact opens_short a cap xs xs.length wide w rfl h hg
end Go.Proofs.Ytdpgefnnenlehaa
