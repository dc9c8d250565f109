/- OctetCuts: the walk. -/
import Derived.Test.YthbmfiiilhofbaaWe
import Derived.Test.YthbmfiiilhofbaaHeld
namespace Go.Proofs.Ythbmfiiilhofbaa
open Go.RowKit

/-- Whether it can be cut out. -/
def cutB (xs : List UInt8) (l m : Int) : Bool := decide (0 ≤ l ∧ 0 ≤ m ∧ l + m ≤ (xs.length : Int))
/-- What is cut out. -/
def cutL (xs : List UInt8) (l m : Int) : List UInt8 := if cutB xs l m = true then (xs.drop l.toNat).take m.toNat else []
theorem cutL_good (xs : List UInt8) (l m : Nat) (h : l + m ≤ xs.length) : cutB xs l m = true ∧ cutL xs l m = (xs.drop l).take m := by
  have hb : cutB xs l m = true := by unfold cutB; exact decide_eq_true (by omega)
  exact ⟨hb, by unfold cutL; rw [if_pos hb]; simp⟩
theorem cutL_bad (xs : List UInt8) (l m : Int) (h : l < 0 ∨ m < 0 ∨ (xs.length : Int) - l < m) : cutB xs l m = false ∧ cutL xs l m = [] := by
  have hb : cutB xs l m = false := by unfold cutB; exact decide_eq_false (by omega)
  exact ⟨hb, by unfold cutL; rw [hb]; rfl⟩

theorem cut_all (a : Option Addr) (cap : Nat) (xs : List UInt8) (l m : Int) (w : World) (hm : xs.length ≤ 100000) (hl : -9223372036854775808 ≤ l) (hl2 : l ≤ 9223372036854775807) (h : RowAt w a cap xs) :
    Calls Try.prog 16 #[.slice a xs.length cap, .int .i64 l, .int .i64 m] w fun e w' => ∃ p c, e = .returned (.tuple #[.slice p (cutL xs l m).length c, .bool (cutB xs l m)]) ∧ RowAt w' p c (cutL xs l m) ∧ Below w.heap.size w w' := by
  by_cases hb : l < 0 ∨ m < 0 ∨ (xs.length : Int) - l < m
  · obtain ⟨e1, e2⟩ := cutL_bad xs l m hb
    rw [e1, e2]
    refine (cut_bad a xs.length cap l m w hm hl hl2 hb).mono ?_
    rintro e w' ⟨rfl, rfl⟩
    exact ⟨none, 0, rfl, rowAt_nil _, Below.refl _ _⟩
  · obtain ⟨x, rfl⟩ := Int.eq_ofNat_of_zero_le (by omega : 0 ≤ l)
    obtain ⟨y, rfl⟩ := Int.eq_ofNat_of_zero_le (by omega : 0 ≤ m)
    obtain ⟨e1, e2⟩ := cutL_good xs x y (by omega)
    rw [e1, e2]
    refine (cut_good a cap xs x y w hm (by omega) h).mono ?_
    rintro e w' ⟨v, rfl, o1, b1⟩
    have hle : ((xs.drop x).take y).length = y := take_len xs x y (by omega)
    obtain ⟨p, c, rfl, r⟩ := rowAt_own hle o1
    exact ⟨p, c, by rw [hle], r, b1⟩

theorem refCut_all (a : Option Addr) (cap : Nat) (xs : List UInt8) (l m : Int) (w : World) (hm : xs.length ≤ 100000) (hm2 : m ≤ 9223372036854775807) (h : RowAt w a cap xs) :
    Calls Try.prog 17 #[.slice a xs.length cap, .int .i64 l, .int .i64 m] w fun e w' => ∃ p c, e = .returned (.tuple #[.slice p (cutL xs l m).length c, .bool (cutB xs l m)]) ∧ RowAt w' p c (cutL xs l m) ∧ Below w.heap.size w w' := by
  by_cases hb : l < 0 ∨ m < 0 ∨ (xs.length : Int) < l
  · obtain ⟨e1, e2⟩ := cutL_bad xs l m (by omega)
    rw [e1, e2]
    refine (refCut_bad a xs.length cap l m w hb).mono ?_
    rintro e w' ⟨rfl, rfl⟩
    exact ⟨none, 0, rfl, rowAt_nil _, Below.refl _ _⟩
  · obtain ⟨x, rfl⟩ := Int.eq_ofNat_of_zero_le (by omega : 0 ≤ l)
    obtain ⟨y, rfl⟩ := Int.eq_ofNat_of_zero_le (by omega : 0 ≤ m)
    refine (refCut_at a cap xs x y w hm (by omega) (by omega) hm2 h.bytes).mono ?_
    rintro e w' ⟨b1, ⟨hxy, v, rfl, o1⟩ | ⟨hxy, rfl⟩⟩
    · obtain ⟨e1, e2⟩ := cutL_good xs x y (by omega)
      rw [e1, e2]
      rw [Int.toNat_natCast] at o1
      have hle : ((xs.drop x).take y).length = y := take_len xs x y (by omega)
      obtain ⟨p, c, rfl, r⟩ := rowAt_own hle o1
      exact ⟨p, c, by rw [hle], r, b1⟩
    · obtain ⟨e1, e2⟩ := cutL_bad xs x y (by omega)
      rw [e1, e2]
      exact ⟨none, 0, rfl, rowAt_nil _, b1⟩

theorem cuts_drew {w : World} {a : Option Addr} {c : Nat} {xs : List UInt8} (h : RowAt w a c xs) : RowAt w.drew a c xs := h.next (Below.refl _ _).drew

set_option maxHeartbeats 4000000 in
set_option maxRecDepth 100000 in
theorem cuts_walk (a : Option Addr) (cap : Nat) (xs : List UInt8) (l m : Int) (w : World) (h : RowAt w a cap xs) (hl : -9223372036854775808 ≤ l) (hl2 : l ≤ 9223372036854775807) (hm2 : m ≤ 9223372036854775807) :
    Calls Try.prog 6 #[.slice a xs.length cap, .int .i64 l, .int .i64 m] w fun e w' => e = .returned (.bool true) ∧ Below w.heap.size w w' := by
  have hle := h.le
  have hmx := h.max
  unfold maxLen at hmx
  have H := Lib.hid h
  clear h
  by_cases hg : (1000 : Int) < (xs.length : Int)
  · go_enter Try.func6, Try.ntmps6
    go_wp2_with fail
    refine (awake_any _).mono ?_
    rintro e w1 ⟨rfl, b1⟩
    go_wp2_with fail
    refine (awake_any _).mono ?_
    rintro e w2 ⟨rfl, b2⟩
    go_wp2_with fail
    go_ret
    exact ⟨rfl, Below.chain b1 b2⟩
  · have hx : xs.length ≤ 100000 := by omega
    go_enter Try.func6, Try.ntmps6
    go_wp2_with fail
    refine (awake_any _).mono ?_
    rintro e w1 ⟨rfl, b1⟩
    go_wp2_with fail
    refine (cut_all a cap xs l m _ hx hl hl2 (H.out.next b1)).mono ?_
    rintro e w2 ⟨p1, c1, rfl, r1, b2⟩
    have R1 := Lib.hid r1
    clear r1
    have b02 := Below.chain b1 b2
    clear b1
    go_wp2_with fail
    refine (refCut_all a cap xs l m _ hx hm2 (H.out.next b02)).mono ?_
    rintro e w3 ⟨p2, c2, rfl, r2, b3⟩
    have b03 := Below.chain b02 b3
    obtain ⟨X, hX⟩ : ∃ X, X = cutL xs l m := ⟨_, rfl⟩
    obtain ⟨B, hB⟩ : ∃ B, B = cutB xs l m := ⟨_, rfl⟩
    rw [← hX] at R1 r2 ⊢
    rw [← hB]
    obtain ⟨F, hF⟩ : ∃ F, F = xs.drop l.toNat := ⟨_, rfl⟩
    have CB : Hid (∀ W, RowAt W a cap xs → Calls Try.prog 18 #[.slice a xs.length cap, .int .i64 l] W fun e w' => ∃ v, e = .returned v ∧ w'.ownsRow W.heap.size 5 1 v F.length (Lib.byteCells F) ∧ Below W.heap.size W w') := fun W r => by rw [hF]; exact behind_at a cap xs l W hx r
    have CR : Hid (∀ W, RowAt W a cap xs → Calls Try.prog 19 #[.slice a xs.length cap, .int .i64 l] W fun e w' => ∃ v, e = .returned v ∧ w'.ownsRow W.heap.size 5 1 v F.length (Lib.byteCells F) ∧ Below W.heap.size W w') := fun W r => by rw [hF]; exact refBehind_at a cap xs l W hx r.bytes
    clear hX hB hF
    have hS : RowAt w3.drew p1 c1 X ∧ RowAt w3.drew p2 c2 X ∧ RowAt w3.drew a cap xs := ⟨cuts_drew (R1.out.next b3), cuts_drew r2, cuts_drew (H.out.next b03)⟩
    clear R1 r2 b2 b3 b02
    go_wp2_with fail
    refine held_start (S := fun W => RowAt W p1 c1 X ∧ RowAt W p2 c2 X ∧ RowAt W a cap xs) 22 (by kernel_rfl) rfl ?_
    refine held_take 0 (v := ?_) rfl (by kernel_rfl) (by kernel_rfl) (by kernel_rfl) (fun _ _ _ h => h) (by assumption) (by rfl) ?_ ?_
    rotate_left
    · (intro W hW; go_simp; try with_reducible rfl)
    simp only [Act.put, List.setIfInBounds_toArray, List.set_cons_zero, List.set_cons_succ]
    refine held_take 1 (v := ?_) rfl (by kernel_rfl) (by kernel_rfl) (by kernel_rfl) (fun _ _ _ h => h) (by assumption) (by rfl) ?_ ?_
    rotate_left
    · (intro W hW; go_simp; try with_reducible rfl)
    simp only [Act.put, List.setIfInBounds_toArray, List.set_cons_zero, List.set_cons_succ]
    refine held_take 2 (v := ?_) rfl (by kernel_rfl) (by kernel_rfl) (by kernel_rfl) (fun _ _ _ h => h) (by assumption) (by rfl) ?_ ?_
    rotate_left
    · (intro W hW; go_simp; try with_reducible rfl)
    simp only [Act.put, List.setIfInBounds_toArray, List.set_cons_zero, List.set_cons_succ]
    refine held_take 3 (v := ?_) rfl (by kernel_rfl) (by kernel_rfl) (by kernel_rfl) (fun _ _ _ h => h) (by assumption) (by rfl) ?_ ?_
    rotate_left
    · (intro W hW; go_simp; try with_reducible rfl)
    simp only [Act.put, List.setIfInBounds_toArray, List.set_cons_zero, List.set_cons_succ]
    refine held_take 4 (v := ?_) rfl (by kernel_rfl) (by kernel_rfl) (by kernel_rfl) (fun _ _ _ h => h) (by assumption) (by rfl) ?_ ?_
    rotate_left
    · (intro W hW; go_simp; try with_reducible rfl)
    simp only [Act.put, List.setIfInBounds_toArray, List.set_cons_zero, List.set_cons_succ]
    refine held_take 5 (v := ?_) rfl (by kernel_rfl) (by kernel_rfl) (by kernel_rfl) (fun _ _ _ h => h) (by assumption) (by rfl) ?_ ?_
    rotate_left
    · (intro W hW; have hcv := conv_row rfl hW.1; go_simp; try with_reducible rfl)
    simp only [Act.put, List.setIfInBounds_toArray, List.set_cons_zero, List.set_cons_succ]
    refine held_take 6 (v := ?_) rfl (by kernel_rfl) (by kernel_rfl) (by kernel_rfl) (fun _ _ _ h => h) (by assumption) (by rfl) ?_ ?_
    rotate_left
    · (intro W hW; go_simp; try with_reducible rfl)
    simp only [Act.put, List.setIfInBounds_toArray, List.set_cons_zero, List.set_cons_succ]
    refine held_take 7 (v := ?_) rfl (by kernel_rfl) (by kernel_rfl) (by kernel_rfl) (fun _ _ _ h => h) (by assumption) (by rfl) ?_ ?_
    rotate_left
    · (intro W hW; have hcv := conv_row rfl hW.2.1; go_simp; try with_reducible rfl)
    simp only [Act.put, List.setIfInBounds_toArray, List.set_cons_zero, List.set_cons_succ]
    refine held_take 8 (v := ?_) rfl (by kernel_rfl) (by kernel_rfl) (by kernel_rfl) (fun _ _ _ h => h) (by assumption) (by rfl) ?_ ?_
    rotate_left
    · (intro W hW; go_simp; try with_reducible rfl)
    simp only [Act.put, List.setIfInBounds_toArray, List.set_cons_zero, List.set_cons_succ]
    refine held_take 9 (v := ?_) rfl (by kernel_rfl) (by kernel_rfl) (by kernel_rfl) (fun _ _ _ h => h) (by assumption) (by rfl) ?_ ?_
    rotate_left
    · (intro W hW; go_simp; try with_reducible rfl)
    simp only [Act.put, List.setIfInBounds_toArray, List.set_cons_zero, List.set_cons_succ]
    refine held_take 10 (v := ?_) rfl (by kernel_rfl) (by kernel_rfl) (by kernel_rfl) (fun _ _ _ h => h) (by assumption) (by rfl) ?_ ?_
    rotate_left
    · (intro W hW; go_simp; try with_reducible rfl)
    simp only [Act.put, List.setIfInBounds_toArray, List.set_cons_zero, List.set_cons_succ]
    refine held_take 11 (v := ?_) rfl (by kernel_rfl) (by kernel_rfl) (by kernel_rfl) (fun _ _ _ h => h) (by assumption) (by rfl) ?_ ?_
    rotate_left
    · (intro W hW; go_simp; try with_reducible rfl)
    simp only [Act.put, List.setIfInBounds_toArray, List.set_cons_zero, List.set_cons_succ]
    refine held_take 12 (v := ?_) rfl (by kernel_rfl) (by kernel_rfl) (by kernel_rfl) (fun _ _ _ h => h) (by assumption) (by rfl) ?_ ?_
    rotate_left
    · (intro W hW; go_simp; try with_reducible rfl)
    simp only [Act.put, List.setIfInBounds_toArray, List.set_cons_zero, List.set_cons_succ]
    refine held_take 15 (v := ?_) rfl (by kernel_rfl) (by kernel_rfl) (by kernel_rfl) (fun _ _ _ h => h) (by assumption) (by rfl) ?_ ?_
    rotate_left
    · (intro W hW; go_simp; try with_reducible rfl)
    simp only [Act.put, List.setIfInBounds_toArray, List.set_cons_zero, List.set_cons_succ]
    refine held_take 16 (v := ?_) rfl (by kernel_rfl) (by kernel_rfl) (by kernel_rfl) (fun _ _ _ h => h) (by assumption) (by rfl) ?_ ?_
    rotate_left
    · (intro W hW; go_simp; try with_reducible rfl)
    simp only [Act.put, List.setIfInBounds_toArray, List.set_cons_zero, List.set_cons_succ]
    refine held_call 13 (f := 18) (args := #[.slice a xs.length cap, .int .i64 l]) rfl (by kernel_rfl) (by rfl) (by go_simp) ?_
    refine (CB.out _ hS.2.2).mono ?_
    rintro e w6 ⟨v6, rfl, o6, b6⟩
    obtain ⟨a6, c6, rfl, r6⟩ := rowAt_own rfl o6
    have hS1 : RowAt w6 p1 c1 X ∧ RowAt w6 p2 c2 X ∧ RowAt w6 a cap xs := ⟨hS.1.next b6, hS.2.1.next b6, hS.2.2.next b6⟩
    refine ⟨_, rfl, hS1, ?_⟩
    simp only [Act.put, List.setIfInBounds_toArray, List.set_cons_zero, List.set_cons_succ]
    refine held_more (S' := fun W => RowAt W a6 c6 F ∧ RowAt W p1 c1 X ∧ RowAt W p2 c2 X ∧ RowAt W a cap xs) (fun _ h => h.2) _ _ _ _ ?_
    have hS2 : RowAt w6 a6 c6 F ∧ RowAt w6 p1 c1 X ∧ RowAt w6 p2 c2 X ∧ RowAt w6 a cap xs := ⟨r6, hS1⟩
    have b06 := Below.chain b03 (Below.chain ((Below.refl _ _).drew) b6)
    clear o6 r6 hS hS1 b6 b03
    refine held_take 14 (v := ?_) rfl (by kernel_rfl) (by kernel_rfl) (by kernel_rfl) (fun _ _ _ h => h) (by assumption) (by rfl) ?_ ?_
    rotate_left
    · (intro W hW; have hcv := conv_row rfl hW.1; go_simp; try with_reducible rfl)
    simp only [Act.put, List.setIfInBounds_toArray, List.set_cons_zero, List.set_cons_succ]
    refine held_call 17 (f := 19) (args := #[.slice a xs.length cap, .int .i64 l]) rfl (by kernel_rfl) (by rfl) (by go_simp) ?_
    refine (CR.out _ hS2.2.2.2).mono ?_
    rintro e w7 ⟨v7, rfl, o7, b7⟩
    obtain ⟨a7, c7, rfl, r7⟩ := rowAt_own rfl o7
    have hS3 : RowAt w7 a6 c6 F ∧ RowAt w7 p1 c1 X ∧ RowAt w7 p2 c2 X ∧ RowAt w7 a cap xs := ⟨hS2.1.next b7, hS2.2.1.next b7, hS2.2.2.1.next b7, hS2.2.2.2.next b7⟩
    refine ⟨_, rfl, hS3, ?_⟩
    simp only [Act.put, List.setIfInBounds_toArray, List.set_cons_zero, List.set_cons_succ]
    refine held_more (S' := fun W => RowAt W a7 c7 F ∧ RowAt W a6 c6 F ∧ RowAt W p1 c1 X ∧ RowAt W p2 c2 X ∧ RowAt W a cap xs) (fun _ h => h.2) _ _ _ _ ?_
    have hS4 : RowAt w7 a7 c7 F ∧ RowAt w7 a6 c6 F ∧ RowAt w7 p1 c1 X ∧ RowAt w7 p2 c2 X ∧ RowAt w7 a cap xs := ⟨r7, hS3⟩
    have b07 := Below.chain b06 b7
    clear o7 r7 hS2 hS3 b7 b06
    refine held_take 18 (v := ?_) rfl (by kernel_rfl) (by kernel_rfl) (by kernel_rfl) (fun _ _ _ h => h) (by assumption) (by rfl) ?_ ?_
    rotate_left
    · (intro W hW; have hcv := conv_row rfl hW.1; go_simp; try with_reducible rfl)
    simp only [Act.put, List.setIfInBounds_toArray, List.set_cons_zero, List.set_cons_succ]
    refine held_take 19 (v := ?_) rfl (by kernel_rfl) (by kernel_rfl) (by kernel_rfl) (fun _ _ _ h => h) (by assumption) (by rfl) ?_ ?_
    rotate_left
    · (intro W hW; go_simp; try with_reducible rfl)
    simp only [Act.put, List.setIfInBounds_toArray, List.set_cons_zero, List.set_cons_succ]
    refine held_take 20 (v := ?_) rfl (by kernel_rfl) (by kernel_rfl) (by kernel_rfl) (fun _ _ _ h => h) (by assumption) (by rfl) ?_ ?_
    rotate_left
    · (intro W hW; go_simp; try with_reducible rfl)
    simp only [Act.put, List.setIfInBounds_toArray, List.set_cons_zero, List.set_cons_succ]
    refine held_take 21 (v := ?_) rfl (by kernel_rfl) (by kernel_rfl) (by kernel_rfl) (fun _ _ _ h => h) (by assumption) (by rfl) ?_ ?_
    rotate_left
    · (intro W hW; go_simp; try with_reducible rfl)
    simp only [Act.put, List.setIfInBounds_toArray, List.set_cons_zero, List.set_cons_succ]
    refine held_done (by kernel_rfl) ?_
    go_wp2
    go_ret
    exact ⟨rfl, b07⟩
end Go.Proofs.Ythbmfiiilhofbaa
