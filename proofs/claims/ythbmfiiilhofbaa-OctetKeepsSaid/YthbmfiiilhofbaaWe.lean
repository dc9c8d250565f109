/- Contract of awake. -/
import Derived.Test.YthbmfiiilhofbaaRa
import Derived.Lib.SlBytesConst
namespace Go.Proofs.Ythbmfiiilhofbaa
open Go.RowKit

theorem put258 (w : World) : Calls Try.prog 10 #[.int .u64 258, .int .i64 2, .bool true] w fun e w' => ∃ a c, e = .returned (.tuple #[.slice a 2 c, .bool true]) ∧ RowAt w' a c [1, 2] ∧ Below w.heap.size w w' := by
  refine (put_fits 258 2 true w (by omega) (by omega) (by omega)).mono ?_
  rintro e w' ⟨v, rfl, o1, b1⟩
  obtain ⟨a, c, rfl, r⟩ := rowAt_own (Oc.put_length _ _ _) o1
  exact ⟨a, c, rfl, r, b1⟩
theorem put256 (w : World) : Calls Try.prog 10 #[.int .u64 256, .int .i64 1, .bool true] w fun e w' => e = .returned (.tuple #[.slice none 0 0, .bool false]) ∧ Below w.heap.size w w' := by
  refine (put_not 256 1 true w (by decide)).mono ?_
  rintro e w' ⟨rfl, rfl⟩
  exact ⟨rfl, Below.refl _ _⟩
/-- A slice that was built of bytes. -/
theorem rowAt_built (w : World) (xs : List UInt8) (n : Nat) (cs : Array Value) (hn : xs.length = n) (hcs : cs = (Lib.byteCells xs).toArray) (hm : n ≤ 100000) (fz : Nat × Nat) : RowAt (w.alloc (.cells cs 5 fz)) (some ⟨w.heap.size, 0, none⟩) n xs := by
  subst hcs
  subst hn
  refine ⟨Nat.le_refl _, by unfold maxLen; omega, (fun e => by cases e), fun ad e j u hu => ?_⟩
  cases e
  rw [Go.WideShapes.add_plain]
  simp only [World.cell?, heap_alloc_new]
  simpa using hu
theorem get12 (w : World) : Calls Try.prog 14 #[.slice (some ⟨w.heap.size, 0, none⟩) 2 2, .bool false] (w.alloc (.cells #[.int .u8 1, .int .u8 2] 5)) fun e w' => e = .returned (.tuple #[.int .u64 513, .bool true]) ∧ Below w.heap.size w w' := by
  refine (get_at _ 2 [1, 2] false _ (by simp) (by simp) (rowAt_built w [1, 2] 2 _ rfl rfl (by omega) (0, 0)).bytes).mono ?_
  rintro e w' ⟨rfl, rfl⟩
  exact ⟨rfl, (Below.refl _ _).alloc (Nat.le_refl _) _⟩
theorem abcAt (w : World) : RowAt (w.alloc (.cells #[.int .u8 97, .int .u8 98, .int .u8 99] 5 (3, 4))) (some ⟨w.heap.size, 0, none⟩) 3 [97, 98, 99] := rowAt_built w [97, 98, 99] 3 _ rfl rfl (by omega) (3, 4)
theorem cut12 (w : World) : Calls Try.prog 16 #[.slice (some ⟨w.heap.size, 0, none⟩) 3 3, .int .i64 1, .int .i64 2] (w.alloc (.cells #[.int .u8 97, .int .u8 98, .int .u8 99] 5 (3, 4))) fun e w' => ∃ a c, e = .returned (.tuple #[.slice a 2 c, .bool true]) ∧ RowAt w' a c [98, 99] ∧ Below w.heap.size w w' := by
  refine (cut_good _ 3 [97, 98, 99] 1 2 _ (by simp) (by simp) (abcAt w)).mono ?_
  rintro e w' ⟨v, rfl, o1, b1⟩
  obtain ⟨a, c, rfl, r⟩ := rowAt_own rfl o1
  exact ⟨a, c, rfl, r, below_alloc b1⟩
theorem cut22 (w : World) : Calls Try.prog 16 #[.slice (some ⟨w.heap.size, 0, none⟩) 3 3, .int .i64 2, .int .i64 2] (w.alloc (.cells #[.int .u8 97, .int .u8 98, .int .u8 99] 5 (3, 4))) fun e w' => e = .returned (.tuple #[.slice none 0 0, .bool false]) ∧ Below w.heap.size w w' := by
  refine (cut_bad _ 3 3 2 2 _ (by omega) (by omega) (by omega) (by omega)).mono ?_
  rintro e w' ⟨rfl, rfl⟩
  exact ⟨rfl, (Below.refl _ _).alloc (Nat.le_refl _) _⟩
theorem behind2 (w : World) : Calls Try.prog 18 #[.slice (some ⟨w.heap.size, 0, none⟩) 3 3, .int .i64 2] (w.alloc (.cells #[.int .u8 97, .int .u8 98, .int .u8 99] 5 (3, 4))) fun e w' => ∃ a c, e = .returned (.slice a 1 c) ∧ RowAt w' a c [99] ∧ Below w.heap.size w w' := by
  refine (behind_at _ 3 [97, 98, 99] 2 _ (by simp) (abcAt w)).mono ?_
  rintro e w' ⟨v, rfl, o1, b1⟩
  obtain ⟨a, c, rfl, r⟩ := rowAt_own rfl o1
  exact ⟨a, c, rfl, r, below_alloc b1⟩
/-- "a", nothing and "b", built one behind the other. -/
theorem parts_ab (w : World) : PartsAt (((w.alloc (.cells #[.int .u8 97] 5 (1, 2))).alloc (.cells #[.int .u8 98] 5 (1, 2))).alloc (.cells #[.slice (some ⟨w.heap.size, 0, none⟩) 1 1, .slice none 0 0, .slice (some ⟨w.heap.size + 1, 0, none⟩) 1 1] 24)) (some ⟨w.heap.size + 1 + 1, 0, none⟩) [[97], [], [98]] := by
  have hx := (rowAt_built w [97] 1 _ rfl rfl (by omega) (1, 2)).next ((Below.refl _ _).alloc (Nat.le_refl _) (.cells #[.int .u8 98] 5 (1, 2)))
  have hy := rowAt_built (w.alloc (.cells #[.int .u8 97] 5 (1, 2))) [98] 1 _ rfl rfl (by omega) (1, 2)
  have e : w.heap.size + 1 + 1 = ((w.alloc (.cells #[.int .u8 97] 5 (1, 2))).alloc (.cells #[.int .u8 98] 5 (1, 2))).heap.size := by simp
  have e1 : w.heap.size + 1 = (w.alloc (.cells #[.int .u8 97] 5 (1, 2))).heap.size := by simp
  rw [e, e1]
  refine .inr ⟨_, 0, rfl, by simp, fun j hj => ?_⟩
  have h3 : j = 0 ∨ j = 1 ∨ j = 2 := by simp at hj; omega
  rcases h3 with rfl | rfl | rfl
  · exact ⟨_, 1, by simp only [World.cell?, heap_alloc_new]; rfl, hx.next ((Below.refl _ _).alloc (Nat.le_refl _) _)⟩
  · exact ⟨none, 0, by simp only [World.cell?, heap_alloc_new]; rfl, rowAt_nil _⟩
  · exact ⟨_, 1, by simp only [World.cell?, heap_alloc_new]; rfl, hy.next ((Below.refl _ _).alloc (Nat.le_refl _) _)⟩
theorem joinAb (w : World) : Calls Try.prog 20 #[.slice (some ⟨w.heap.size + 1 + 1, 0, none⟩) 3 3] (((w.alloc (.cells #[.int .u8 97] 5 (1, 2))).alloc (.cells #[.int .u8 98] 5 (1, 2))).alloc (.cells #[.slice (some ⟨w.heap.size, 0, none⟩) 1 1, .slice none 0 0, .slice (some ⟨w.heap.size + 1, 0, none⟩) 1 1] 24)) fun e w' => ∃ a c, e = .returned (.slice a 2 c) ∧ RowAt w' a c [97, 98] ∧ Below w.heap.size w w' := by
  refine (join_at _ 3 3 [[97], [], [98]] [97, 98] _ rfl rfl (by simp) (by simp) (parts_ab w)).mono ?_
  rintro e w' ⟨v, rfl, o1, b1⟩
  obtain ⟨a, c, rfl, r⟩ := rowAt_own rfl o1
  exact ⟨a, c, rfl, r, below_alloc (below_alloc (below_alloc b1))⟩
theorem fits255 (w : World) : Calls Try.prog 11 #[.int .u64 255, .int .i64 1] w fun e w' => e = .returned (.bool true) ∧ w' = w := fits_any 255 1 w
theorem fits00 (w : World) : Calls Try.prog 11 #[.int .u64 0, .int .i64 0] w fun e w' => e = .returned (.bool false) ∧ w' = w := fits_any 0 0 w

theorem size_alloc (w : World) (o : Obj) : (w.alloc o).heap.size = w.heap.size + 1 := by simp
theorem conv_const2 (w : World) (o : Obj) (C : Array Value) (n c : Nat) : (convert 24 24 (.slice (some ⟨w.heap.size + 1, 0, none⟩) n c)).run Try.prog ((w.alloc o).alloc (.cells C 5)) = .ok (.slice (some ⟨w.heap.size + 1, 0, none⟩) n c) ((w.alloc o).alloc (.cells C 5 (C.size, C.size + 1))) := by
  have h := Lib.run_convert_bytes_const (P := Try.prog) (w.alloc o) 24 5 C n c Try.underlying24 Try.underlying5
  rw [size_alloc] at h
  exact h

set_option maxHeartbeats 2000000 in
set_option maxRecDepth 100000 in
theorem awake_any (w : World) : Calls Try.prog 9 #[] w fun e w' => e = .returned (.bool true) ∧ Below w.heap.size w w' := by
  have kc := fun (w : World) (C : Array Value) (n c : Nat) => Lib.run_convert_bytes_const (P := Try.prog) w 24 5 C n c Try.underlying24 Try.underlying5
  have kc2 := conv_const2
  go_enter Try.func9, Try.ntmps9
  go_wp2_with fail
  refine (put258 _).mono ?_
  rintro e w1 ⟨a1, c1, rfl, r1, b1⟩
  have R1 := Lib.hid r1
  clear r1
  go_wp2_with fail
  refine (put256 _).mono ?_
  rintro e w2 ⟨rfl, b2⟩
  go_wp2_with fail
  refine (get12 _).mono ?_
  rintro e w3 ⟨rfl, b3⟩
  go_wp2_with fail
  refine (cut12 _).mono ?_
  rintro e w4 ⟨a4, c4, rfl, r4, b4⟩
  have R4 := Lib.hid r4
  clear r4
  go_wp2_with fail
  refine (cut22 _).mono ?_
  rintro e w5 ⟨rfl, b5⟩
  have hcv1 := conv_row (n := 2) rfl ((((R1.out.next b2).next b3).next b4).next b5)
  have hcv4 := conv_row (n := 2) rfl (R4.out.next b5)
  have b05 := Below.chain (Below.chain (Below.chain (Below.chain b1 b2) b3) b4) b5
  clear b1 b2 b3 b4 b5 R1 R4
  go_wp2_with fail
  refine (behind2 _).mono ?_
  rintro e w6 ⟨a6, c6, rfl, r6, b6⟩
  have hcv6 := conv_row (n := 1) rfl r6
  have b06 := Below.chain b05 b6
  clear hcv1 hcv4 r6 b05 b6
  go_wp2_with fail
  refine (joinAb _).mono ?_
  rintro e w7 ⟨a7, c7, rfl, r7, b7⟩
  have hcv7 := conv_row (n := 2) rfl r7
  have b07 := Below.chain b06 b7
  clear hcv6 r7 b06 b7
  go_wp2_with fail
  refine (fits255 _).mono ?_
  rintro e w8 ⟨rfl, rfl⟩
  go_wp2_with fail
  refine (fits00 _).mono ?_
  rintro e w9 ⟨rfl, rfl⟩
  go_wp2_with fail
  go_ret
  exact ⟨rfl, b07⟩
end Go.Proofs.Ythbmfiiilhofbaa
