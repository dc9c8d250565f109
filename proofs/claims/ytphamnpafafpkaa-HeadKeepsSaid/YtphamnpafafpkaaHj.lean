/- The answers that awake asks for; contract of awake. -/
import Derived.Test.YtphamnpafafpkaaHc
namespace Go.Proofs.Ytphamnpafafpkaa
open Go.RowKit
namespace Hd
theorem awk1 : read [255, 3, 192, 33, 1] = (49185, 4, 0) := by decide +kernel
theorem awk2 : read [33] = (33, 1, 0) := by decide +kernel
theorem awk3 : read [255] = (0, 0, 2) := by decide +kernel
theorem awk4 : read [192, 32] = (0, 0, 3) := by decide +kernel
theorem awk5 : put 33 true true = [255, 3, 33] := by decide +kernel
theorem awk6 : may 32 = false := by decide +kernel
theorem awk7 : read [192, 33, 7, 8] = (49185, 2, 0) ∧ body [192, 33, 7, 8] = [7, 8] := by decide +kernel
theorem awk8 : may 49699 = true ∧ may 255 = false ∧ may 33 = true := by decide +kernel
end Hd

theorem awk_read (w : World) (xs : List UInt8) (n : Nat) (cs : Array Value) (A : Nat × Nat × Nat) (hn : xs.length = n) (hcs : cs = (Lib.byteCells xs).toArray) (hm : n ≤ 1000) (hA : Hd.read xs = A) :
    Calls Try.prog 13 #[.slice (some ⟨w.heap.size, 0, none⟩) n n] (w.alloc (.cells cs 5)) fun e w' => e = .returned (.tuple #[.agg (hcells A.1 A.2.1).toArray, .int .i64 (A.2.2 : Nat)]) ∧ Below w.heap.size w w' := by
  have h := read_any _ n n xs _ hn (by omega) (rowAt_built w xs n cs hn hcs (by omega) (0, 0))
  rw [hA] at h
  refine h.mono ?_
  rintro e w' ⟨rfl, b⟩
  exact ⟨rfl, below_alloc b⟩
theorem awk_read2 (w : World) (o : Obj) (xs : List UInt8) (n : Nat) (cs : Array Value) (A : Nat × Nat × Nat) (hn : xs.length = n) (hcs : cs = (Lib.byteCells xs).toArray) (hm : n ≤ 1000) (hA : Hd.read xs = A) :
    Calls Try.prog 13 #[.slice (some ⟨w.heap.size + 1, 0, none⟩) n n] ((w.alloc o).alloc (.cells cs 5)) fun e w' => e = .returned (.tuple #[.agg (hcells A.1 A.2.1).toArray, .int .i64 (A.2.2 : Nat)]) ∧ Below w.heap.size w w' ∧ w'.heap[w.heap.size]? = some o := by
  have h := awk_read (w.alloc o) xs n cs A hn hcs hm hA
  rw [show (w.alloc o).heap.size = w.heap.size + 1 by simp] at h
  refine h.mono ?_
  rintro e w' ⟨rfl, b⟩
  rw [show w.heap.size + 1 = (w.alloc o).heap.size by simp] at b
  exact ⟨rfl, below_alloc b, first_kept b⟩
theorem awk_put (w : World) (o : Obj) : Calls Try.prog 9 #[.int .i64 33, .bool true, .bool true] (w.alloc o) fun e w' => ∃ a c, e = .returned (.tuple #[.slice a 3 c, .int .i64 0]) ∧ RowAt w' a c [255, 3, 33] ∧ Below w.heap.size w w' := by
  have h := headput_good 33 true true (w.alloc o) Hd.awk8.2.2
  rw [Hd.awk5] at h
  refine h.mono ?_
  rintro e w' ⟨v, rfl, o1, b⟩
  obtain ⟨a, c, rfl, r⟩ := rowAt_own rfl o1
  exact ⟨a, c, rfl, r, below_alloc b⟩
theorem awk_body (w : World) : Calls Try.prog 15 #[.slice (some ⟨w.heap.size, 0, none⟩) 4 4] (w.alloc (.cells #[.int .u8 192, .int .u8 33, .int .u8 7, .int .u8 8] 5)) fun e w' => ∃ a c, e = .returned (.tuple #[.int .i64 49185, .slice a 2 c, .int .i64 0]) ∧ RowAt w' a c [7, 8] ∧ Below w.heap.size w w' := by
  have h := body_any _ 4 4 [192, 33, 7, 8] _ rfl (by omega) (rowAt_built w [192, 33, 7, 8] 4 _ rfl rfl (by omega) (0, 0))
  rw [Hd.awk7.1, Hd.awk7.2] at h
  refine h.mono ?_
  rintro e w' ⟨v, rfl, o1, b⟩
  obtain ⟨a, c, rfl, r⟩ := rowAt_own rfl o1
  exact ⟨a, c, rfl, r, below_alloc b⟩
/-- A block that stays. -/
theorem block_next {w w' : World} {T : Nat} {o : Obj} (h : w.heap[T]? = some o) (b : Below w.heap.size w w') : w'.heap[T]? = some o := by rw [b.block T (lt_of_block h)]; exact h

set_option maxRecDepth 10000 in
set_option maxHeartbeats 4000000 in
theorem awake_any (w : World) : Calls Try.prog 8 #[] w fun e w' => e = .returned (.bool true) ∧ Below w.heap.size w w' := by
  go_enter Try.func8, Try.ntmps8
  go_wp2_with fail
  refine (awk_read w [255, 3, 192, 33, 1] 5 _ _ rfl rfl (by omega) Hd.awk1).mono ?_
  rintro e w1 ⟨rfl, b1⟩
  simp only [hcells]
  have B1 := Lib.hid b1
  clear b1
  go_wp2_with fail
  refine (awk_read2 w1 _ [33] 1 _ _ rfl rfl (by omega) Hd.awk2).mono ?_
  rintro e w2 ⟨rfl, b2, t2⟩
  simp only [hcells]
  have B2 := Lib.hid (Below.chain B1.out b2)
  have T2 := Lib.hid t2
  generalize w1.heap.size = T at T2 ⊢
  clear b2 t2 B1
  go_wp2_with fail
  refine (awk_read2 w2 _ [255] 1 _ _ rfl rfl (by omega) Hd.awk3).mono ?_
  rintro e w3 ⟨rfl, b3, u3⟩
  simp only [hcells]
  have B3 := Lib.hid (Below.chain B2.out b3)
  have T3 := Lib.hid (block_next T2.out b3)
  have U3 := Lib.hid u3
  generalize w2.heap.size = U at U3 ⊢
  clear b3 u3 B2 T2
  go_wp2_with fail
  refine (awk_read2 w3 _ [192, 32] 2 _ _ rfl rfl (by omega) Hd.awk4).mono ?_
  rintro e w4 ⟨rfl, b4, _⟩
  simp only [hcells]
  have B4 := Lib.hid (Below.chain B3.out b4)
  have T4 := Lib.hid (block_next T3.out b4)
  have U4 := Lib.hid (block_next U3.out b4)
  generalize w3.heap.size = V
  clear b4 B3 T3 U3
  go_wp2_with fail
  refine (awk_put w4 _).mono ?_
  rintro e w5 ⟨a5, c5, rfl, r5, b5⟩
  have B5 := Lib.hid (Below.chain B4.out b5)
  have T5 := Lib.hid (block_next T4.out b5)
  have U5 := Lib.hid (block_next U4.out b5)
  have R5 := Lib.hid r5
  generalize w4.heap.size = X
  clear b5 r5 B4 T4 U4
  go_wp2_with fail
  refine (headput_bad 32 true true _ Hd.awk6).mono ?_
  rintro e w6 ⟨rfl, h6⟩
  rw [h6]
  clear h6
  go_wp2_with fail
  refine (awk_body w5).mono ?_
  rintro e w7 ⟨a7, c7, rfl, r7, b7⟩
  have B7 := Lib.hid (Below.chain B5.out b7)
  have t0 : w7.cell? ⟨T, 0, none⟩ = some (.int .i64 49185) := cell_of_row _ _ _ _ _ _ (block_next T5.out b7)
  have t1 : w7.cell? ⟨T, 1, none⟩ = some (.int .i64 4) := cell_of_row _ _ _ _ _ _ (block_next T5.out b7)
  have u0 : w7.cell? ⟨U, 0, none⟩ = some (.int .i64 33) := cell_of_row _ _ _ _ _ _ (block_next U5.out b7)
  have u1 : w7.cell? ⟨U, 1, none⟩ = some (.int .i64 1) := cell_of_row _ _ _ _ _ _ (block_next U5.out b7)
  have y1 : (convert 23 9 (.slice a5 3 c5)).run Try.prog w7 = .ok (.string ⟨#[255, 3, 33]⟩) w7 := conv_row rfl (R5.out.next b7)
  have y2 : (convert 23 9 (.slice a7 2 c7)).run Try.prog w7 = .ok (.string ⟨#[7, 8]⟩) w7 := conv_row rfl r7
  clear r7 b7 R5 B5 T5 U5
  go_wp2_with fail
  refine (may_any 49699 _).mono ?_
  rintro e w8 ⟨rfl, h8⟩
  rw [h8, Hd.awk8.1]
  clear h8
  go_wp2_with fail
  refine (may_any 255 _).mono ?_
  rintro e w9 ⟨rfl, h9⟩
  rw [h9, Hd.awk8.2.1]
  clear h9
  go_wp2
  go_ret
  exact ⟨rfl, B7.out⟩
end Go.Proofs.Ytphamnpafafpkaa
