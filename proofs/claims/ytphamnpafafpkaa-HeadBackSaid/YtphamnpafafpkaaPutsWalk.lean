/- HeadPuts: the walk. -/
import Derived.Test.YtphamnpafafpkaaHj
import Derived.Test.YtphamnpafafpkaaHr
import Derived.Test.YtphamnpafafpkaaHp
namespace Go.Proofs.Ytphamnpafafpkaa
open Go.RowKit

theorem PutRes.row {w w' : World} {e : Ending} {X : List UInt8} {x : Nat} (h : PutRes w w' e X) (hx : X.length = x) : ∃ a c, e = .returned (.tuple #[.slice a x c, .int .i64 0]) ∧ RowAt w' a c X ∧ w'.ownsRow w.heap.size 5 1 (.slice a x c) x (Lib.byteCells X) ∧ Below w.heap.size w w' := by
  obtain ⟨v, rfl, o, b⟩ := h
  obtain ⟨a, c, rfl, r⟩ := rowAt_own rfl o
  subst hx
  exact ⟨a, c, rfl, r, o, b⟩

theorem puts_bad (p : Int) (full short : Bool) (w : World) (h : Hd.may p = false) :
    Calls Try.prog 3 #[.int .i64 p, .bool full, .bool short] w fun e w' => e = .returned (.bool true) ∧ Below w.heap.size w w' := by
  go_enter Try.func3, Try.ntmps3
  go_wp2_with fail
  refine (awake_any _).mono ?_
  rintro e w1 ⟨rfl, b1⟩
  go_wp2_with fail
  refine (headput_bad p full short _ h).mono ?_
  rintro e w2 ⟨rfl, h2⟩
  rw [h2]
  clear h2
  go_wp2_with fail
  refine (refMay_any p _).mono ?_
  rintro e w3 ⟨rfl, h3⟩
  rw [h3, h]
  clear h3
  go_wp2_with fail
  refine (may_any p _).mono ?_
  rintro e w4 ⟨rfl, h4⟩
  rw [h4, h]
  clear h4
  go_wp2
  go_ret
  exact ⟨rfl, b1⟩

set_option maxRecDepth 100000 in
set_option maxHeartbeats 4000000 in
theorem puts_good (p : Nat) (full short : Bool) (w : World) (h : Hd.may (p : Int) = true) :
    Calls Try.prog 3 #[.int .i64 (p : Int), .bool full, .bool short] w fun e w' => e = .returned (.bool true) ∧ Below w.heap.size w w' := by
  have hm := (Hd.may_iff _).1 h
  have c9 := fun W => headput_good p full short W h
  have c12 := fun W => refPut_any p full short W (by omega)
  generalize Hd.put p full short = X at c9 c12
  obtain ⟨x, hx⟩ : ∃ x, X.length = x := ⟨_, rfl⟩
  have C9 := Lib.hid c9
  have C12 := Lib.hid c12
  have Hx := Lib.hid hx
  clear c9 c12 hx hm
  go_enter Try.func3, Try.ntmps3
  go_wp2_with fail
  refine (awake_any _).mono ?_
  rintro e w1 ⟨rfl, b1⟩
  go_wp2_with fail
  refine (C9.out _).mono ?_
  intro e w2 h2
  obtain ⟨a2, k2, rfl, r2, _, b2⟩ := h2.row Hx.out
  have B2 := Lib.hid (Below.chain b1 b2)
  have R2 := Lib.hid r2
  clear r2 b1 b2 C9 h2
  go_wp2_with fail
  refine (refMay_any p _).mono ?_
  rintro e w3 ⟨rfl, h3⟩
  rw [h3, h]
  clear h3
  go_wp2_with fail
  have hS : RowAt w2.drew a2 k2 X := R2.out.next (Below.refl _ _).drew
  have b3 : Below w.heap.size w w2.drew := B2.out.drew
  refine held_start (S := fun W => RowAt W a2 k2 X) 17 (by kernel_rfl) rfl ?_
  generalize w2.drew = w3 at hS b3 ⊢
  clear R2 B2
  obtain ⟨T, hT⟩ : ∃ T : ByteArray, T = ⟨X.toArray⟩ := ⟨_, rfl⟩
  refine held_take 0 (v := ?_) rfl (by kernel_rfl) (by kernel_rfl) (by kernel_rfl) (fun _ _ _ h => h) (by assumption) (by rfl) ?_ ?_
  rotate_left
  · (intro W hW; go_simp; try with_reducible rfl)
  simp only [Act.put, List.setIfInBounds_toArray, List.set_cons_zero, List.set_cons_succ]
  refine held_call 1 (f := 11) (args := #[.int .i64 (p : Int)]) rfl (by kernel_rfl) (by rfl) (by go_simp) ?_
  refine (may_any p _).mono ?_
  rintro e w4 ⟨rfl, h4⟩
  rw [h4, h]
  refine ⟨_, rfl, hS, ?_⟩
  clear h4
  simp only [Act.put, List.setIfInBounds_toArray, List.set_cons_zero, List.set_cons_succ]
  refine held_take 2 (v := ?_) rfl (by kernel_rfl) (by kernel_rfl) (by kernel_rfl) (fun _ _ _ h => h) (by assumption) (by rfl) ?_ ?_
  rotate_left
  · (intro W hW; go_simp; try with_reducible rfl)
  simp only [Act.put, List.setIfInBounds_toArray, List.set_cons_zero, List.set_cons_succ]
  refine held_take 3 (v := ?_) rfl (by kernel_rfl) (by kernel_rfl) (by kernel_rfl) (fun _ _ _ h => h) (by assumption) (by rfl) ?_ ?_
  rotate_left
  · (intro W hW; go_simp; try with_reducible rfl)
  simp only [Act.put, List.setIfInBounds_toArray, List.set_cons_zero, List.set_cons_succ]
  refine held_take 4 (v := ?_) rfl (by kernel_rfl) (by kernel_rfl) (by kernel_rfl) (fun _ _ _ h => h) (by assumption) (by rfl) ?_ ?_
  rotate_left
  · (intro W hW; go_simp; try with_reducible rfl)
  simp only [Act.put, List.setIfInBounds_toArray, List.set_cons_zero, List.set_cons_succ]
  refine held_take 5 (v := ?_) rfl (by kernel_rfl) (by kernel_rfl) (by kernel_rfl) (fun _ _ _ h => h) (by assumption) (by rfl) ?_ ?_
  rotate_left
  · (intro W hW; go_simp; try with_reducible rfl)
  simp only [Act.put, List.setIfInBounds_toArray, List.set_cons_zero, List.set_cons_succ]
  refine held_take 6 (v := ?_) rfl (by kernel_rfl) (by kernel_rfl) (by kernel_rfl) (fun _ _ _ h => h) (by assumption) (by rfl) ?_ ?_
  rotate_left
  · (intro W hW; go_simp; try with_reducible rfl)
  simp only [Act.put, List.setIfInBounds_toArray, List.set_cons_zero, List.set_cons_succ]
  refine held_take 7 (v := ?_) rfl (by kernel_rfl) (by kernel_rfl) (by kernel_rfl) (fun _ _ _ h => h) (by assumption) (by rfl) ?_ ?_
  rotate_left
  · (intro W hW; go_simp; try with_reducible rfl)
  simp only [Act.put, List.setIfInBounds_toArray, List.set_cons_zero, List.set_cons_succ]
  refine held_take 8 (v := ?_) rfl (by kernel_rfl) (by kernel_rfl) (by kernel_rfl) (fun _ _ _ h => h) (by assumption) (by rfl) ?_ ?_
  rotate_left
  · (intro W hW; (have t0 : (convert 23 9 (.slice a2 x k2)).run Try.prog W = .ok (.string T) W := by rw [hT]; exact conv_row Hx.out hW); clear hW; go_simp; try with_reducible rfl)
  simp only [Act.put, List.setIfInBounds_toArray, List.set_cons_zero, List.set_cons_succ]
  refine held_take 9 (v := ?_) rfl (by kernel_rfl) (by kernel_rfl) (by kernel_rfl) (fun _ _ _ h => h) (by assumption) (by rfl) ?_ ?_
  rotate_left
  · (intro W hW; go_simp; try with_reducible rfl)
  simp only [Act.put, List.setIfInBounds_toArray, List.set_cons_zero, List.set_cons_succ]
  refine held_take 10 (v := ?_) rfl (by kernel_rfl) (by kernel_rfl) (by kernel_rfl) (fun _ _ _ h => h) (by assumption) (by rfl) ?_ ?_
  rotate_left
  · (intro W hW; go_simp; try with_reducible rfl)
  simp only [Act.put, List.setIfInBounds_toArray, List.set_cons_zero, List.set_cons_succ]
  refine held_take 11 (v := ?_) rfl (by kernel_rfl) (by kernel_rfl) (by kernel_rfl) (fun _ _ _ h => h) (by assumption) (by rfl) ?_ ?_
  rotate_left
  · (intro W hW; go_simp; try with_reducible rfl)
  simp only [Act.put, List.setIfInBounds_toArray, List.set_cons_zero, List.set_cons_succ]
  refine held_call 12 (f := 12) (args := #[.int .i64 (p : Int), .bool full, .bool short]) rfl (by kernel_rfl) (by rfl) (by go_simp) ?_
  refine (C12.out _).mono ?_
  rintro e w5 ⟨v5, rfl, o5, b5⟩
  rw [Hx.out] at o5
  obtain ⟨a5, k5, rfl, r5⟩ := rowAt_own Hx.out o5
  have b35 := Below.chain b3 b5
  refine ⟨_, rfl, hS.next b5, ?_⟩
  replace hS : RowAt w5 a2 k2 X ∧ RowAt w5 a5 k5 X := ⟨hS.next b5, r5⟩
  clear o5 b5 b3 r5
  simp only [Act.put, List.setIfInBounds_toArray, List.set_cons_zero, List.set_cons_succ]
  refine held_more (S' := fun W => RowAt W a2 k2 X ∧ RowAt W a5 k5 X) (fun W h => h.1) _ _ _ _ ?_
  refine held_take 13 (v := ?_) rfl (by kernel_rfl) (by kernel_rfl) (by kernel_rfl) (fun _ _ _ h => h) (by assumption) (by rfl) ?_ ?_
  rotate_left
  · (intro W hW; (have t0 : (convert 23 9 (.slice a5 x k5)).run Try.prog W = .ok (.string T) W := by rw [hT]; exact conv_row Hx.out hW.2); clear hW; go_simp; try with_reducible rfl)
  simp only [Act.put, List.setIfInBounds_toArray, List.set_cons_zero, List.set_cons_succ]
  refine held_take 14 (v := ?_) rfl (by kernel_rfl) (by kernel_rfl) (by kernel_rfl) (fun _ _ _ h => h) (by assumption) (by rfl) ?_ ?_
  rotate_left
  · (intro W hW; go_simp; try with_reducible rfl)
  simp only [Act.put, List.setIfInBounds_toArray, List.set_cons_zero, List.set_cons_succ]
  refine held_take 15 (v := ?_) rfl (by kernel_rfl) (by kernel_rfl) (by kernel_rfl) (fun _ _ _ h => h) (by assumption) (by rfl) ?_ ?_
  rotate_left
  · (intro W hW; go_simp; try with_reducible rfl)
  simp only [Act.put, List.setIfInBounds_toArray, List.set_cons_zero, List.set_cons_succ]
  refine held_take 16 (v := ?_) rfl (by kernel_rfl) (by kernel_rfl) (by kernel_rfl) (fun _ _ _ h => h) (by assumption) (by rfl) ?_ ?_
  rotate_left
  · (intro W hW; go_simp; try with_reducible rfl)
  simp only [Act.put, List.setIfInBounds_toArray, List.set_cons_zero, List.set_cons_succ]
  refine held_done (by kernel_rfl) ?_
  go_wp2
  go_ret
  exact ⟨rfl, b35⟩

theorem puts_walk (p : Int) (full short : Bool) (w : World) :
    Calls Try.prog 3 #[.int .i64 p, .bool full, .bool short] w fun e w' => e = .returned (.bool true) ∧ Below w.heap.size w w' := by
  cases h : Hd.may p with
  | false => exact puts_bad p full short w h
  | true =>
    have hm := (Hd.may_iff _).1 h
    obtain ⟨n, rfl⟩ := Int.eq_ofNat_of_zero_le (by omega : 0 ≤ p)
    exact puts_good n full short w h
end Go.Proofs.Ytphamnpafafpkaa
