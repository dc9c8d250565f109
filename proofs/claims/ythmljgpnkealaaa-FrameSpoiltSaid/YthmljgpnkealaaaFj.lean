/- The answers that awake asks for; contract of awake. -/
import Derived.Test.YthmljgpnkealaaaFi
import Derived.Lib.SlBytesConst
namespace Go.Proofs.Ythmljgpnkealaaa
open Go.RowKit
namespace Fr
def hi6 : List UInt8 := [126, 104, 105, 21, 90, 126]
theorem awk_put : rowOf 0 false [[104, 105]] = (hi6, 0) := by decide +kernel
theorem awk_all : all 0 false init [1, 2, 126, 104, 105, 21, 90, 126, 126, 126, 9] = [[104, 105]] := by decide +kernel
theorem awk_tal : (run 0 false init [1, 2, 126, 104, 105, 21, 90, 126, 126, 126, 9]).tal = ⟨1, 0, 0, 0, 0⟩ := by kernel_rfl
theorem awk_short : rowOf 0 false [[104]] = ([], 1) := by decide +kernel
theorem awk_row : rowOf 0 true [] = ([126], 0) := by decide +kernel
theorem awk_one : run 0 false init [126, 104, 105] = ⟨true, [104, 105], zero⟩ ∧ all 0 false init [126, 104, 105] = [] := ⟨by kernel_rfl, by decide +kernel⟩
theorem awk_two : (run 0 false ⟨true, [104, 105], zero⟩ [21, 90, 126]).tal = ⟨1, 0, 0, 0, 0⟩ ∧ all 0 false ⟨true, [104, 105], zero⟩ [21, 90, 126] = [[104, 105]] := ⟨by kernel_rfl, by decide +kernel⟩
end Fr
/-- A slice of one's own that is not empty. -/
theorem own_some {w : World} {B n : Nat} {v : Value} {xs : List UInt8} (h : w.ownsRow B 5 1 v n (Lib.byteCells xs)) (h0 : 0 < n) (hn : xs.length = n) : ∃ g c, v = .slice (some ⟨g, 0, none⟩) n c ∧ B ≤ g ∧ g < w.heap.size ∧ n ≤ c ∧ RowAt w (some ⟨g, 0, none⟩) c xs := by
  obtain ⟨a, c, rfl, r⟩ := rowAt_own hn h
  rcases h.2 with ⟨_, h1⟩ | ⟨g, cap, cur, he, hb, hg, hc, _⟩
  · omega
  · simp only [Value.slice.injEq, true_and] at he
    obtain ⟨rfl, rfl⟩ := he
    exact ⟨g, c, rfl, hb, lt_of_block hg, hc, r⟩
theorem awk_put_at (w : World) : Calls Try.prog 12 #[.slice (some ⟨w.heap.size, 0, none⟩) 2 2, .int .u32 0, .bool false] (w.alloc (.cells #[.int .u8 104, .int .u8 105] 5 (2, 3))) fun e w' => ∃ g c, e = .returned (.tuple #[.slice (some ⟨g, 0, none⟩) 6 c, .int .i64 0]) ∧ g < w'.heap.size ∧ 6 ≤ c ∧ RowAt w' (some ⟨g, 0, none⟩) c Fr.hi6 ∧ Below w.heap.size w w' := by
  have h := put_any 0 false _ 2 2 [104, 105] _ rfl (by omega) (by omega) (rowAt_built w [104, 105] 2 _ rfl rfl (by omega) (2, 3))
  rw [Fr.awk_put] at h
  refine h.mono ?_
  rintro e w' ⟨v, rfl, o, b⟩
  obtain ⟨g, c, rfl, _, hg, hc, r⟩ := own_some o (by decide) rfl
  exact ⟨g, c, rfl, hg, hc, r, below_alloc b⟩
theorem awk_h_at (w : World) : Calls Try.prog 12 #[.slice (some ⟨w.heap.size, 0, none⟩) 1 1, .int .u32 0, .bool false] (w.alloc (.cells #[.int .u8 104] 5 (1, 2))) fun e w' => ∃ a c, e = .returned (.tuple #[.slice a 0 c, .int .i64 1]) ∧ Below w.heap.size w w' := by
  have h := put_any 0 false _ 1 1 [104] _ rfl (by omega) (by omega) (rowAt_built w [104] 1 _ rfl rfl (by omega) (1, 2))
  rw [Fr.awk_short] at h
  refine h.mono ?_
  rintro e w' ⟨v, rfl, o, b⟩
  obtain ⟨a, c, rfl, _⟩ := rowAt_own rfl o
  exact ⟨a, c, rfl, below_alloc b⟩
theorem awk_row_at (w : World) : Calls Try.prog 10 #[.slice none 0 0, .int .u32 0, .bool true] w fun e w' => ∃ a c, e = .returned (.tuple #[.slice a 1 c, .int .i64 0]) ∧ RowAt w' a c [126] ∧ Below w.heap.size w w' := by
  have h := row_any 0 true none 0 0 [] w rfl (by omega) (by omega) (by simp) (.inl rfl)
  rw [Fr.awk_row] at h
  refine h.mono ?_
  rintro e w' ⟨v, rfl, o, b⟩
  obtain ⟨a, c, rfl, r⟩ := rowAt_own rfl o
  exact ⟨a, c, rfl, r, b⟩
theorem awk_h_at2 (w : World) (o : Obj) : Calls Try.prog 12 #[.slice (some ⟨w.heap.size + 1, 0, none⟩) 1 1, .int .u32 0, .bool false] ((w.alloc o).alloc (.cells #[.int .u8 104] 5 (1, 2))) fun e w' => ∃ a c, e = .returned (.tuple #[.slice a 0 c, .int .i64 1]) ∧ Below w.heap.size w w' ∧ w'.heap[w.heap.size]? = some o := by
  have h := awk_h_at (w.alloc o)
  rw [show (w.alloc o).heap.size = w.heap.size + 1 by simp] at h
  refine h.mono ?_
  rintro e w' ⟨a, c, rfl, b⟩
  rw [show w.heap.size + 1 = (w.alloc o).heap.size by simp] at b
  exact ⟨a, c, rfl, below_alloc b, by rw [b.block _ (by simp)]; exact heap_alloc_new w o⟩
theorem conv_const2 (w : World) (o : Obj) (C : Array Value) (n c : Nat) : (convert 26 26 (.slice (some ⟨w.heap.size + 1, 0, none⟩) n c)).run Try.prog ((w.alloc o).alloc (.cells C 5)) = .ok (.slice (some ⟨w.heap.size + 1, 0, none⟩) n c) ((w.alloc o).alloc (.cells C 5 (C.size, C.size + 1))) := by
  have h := Lib.run_convert_bytes_const (P := Try.prog) (w.alloc o) 26 5 C n c Try.underlying26 Try.underlying5
  rw [show (w.alloc o).heap.size = w.heap.size + 1 by simp] at h
  exact h
/-- One body, as it is read. -/
theorem parts_hi {w : World} {p : Option Addr} (h : PartsAt w p [[104, 105]]) : ∃ b off q c, p = some ⟨b, off, none⟩ ∧ w.cell? ⟨b, off, none⟩ = some (.slice q 2 c) ∧ RowAt w q c [104, 105] ∧ b < w.heap.size := by
  rcases h with h | ⟨b, off, rfl, hb, hc⟩
  · cases h
  · obtain ⟨q, c, h1, h2⟩ := hc 0 (by simp)
    exact ⟨b, off, q, c, rfl, h1, h2, hb⟩

theorem cell_three_new (w : World) (x y z : Value) (e : TypeId) : ∀ j v, [x, y, z][j]? = some v → (w.alloc (.cells #[x, y, z] e)).cell? ((⟨w.heap.size, 0, none⟩ : Addr).add j) = some v := by
  intro j v h
  rw [Go.WideShapes.add_plain]
  simp only [World.cell?, heap_alloc_new]
  simpa using h
theorem RowAt.cut3 {w : World} {g c : Nat} {xs : List UInt8} (h : RowAt w (some ⟨g, 0, none⟩) c xs) (k : Nat) (hk : k < c) (hk2 : k ≤ xs.length) : RowAt w (some ⟨g, k, none⟩) (c - k) (xs.drop k) := by
  have h1 := h.cut k xs.length hk2 (Nat.le_refl _)
  rw [if_neg (by omega), List.take_length] at h1
  simpa [Go.WideShapes.add_plain] using h1

set_option maxRecDepth 10000 in
set_option maxHeartbeats 4000000 in
theorem awake_any (w : World) : Calls Try.prog 8 #[] w fun e w' => e = .returned (.bool true) ∧ Below w.heap.size w w' := by
  obtain ⟨i0, hi, hz0, hz1, hz2⟩ := info_parts info5
  have kc := fun (w : World) (C : Array Value) (n c : Nat) => Lib.run_convert_bytes_const (P := Try.prog) w 26 5 C n c Try.underlying26 Try.underlying5
  go_enter Try.func8, Try.ntmps8
  go_wp2_with fail
  refine (awk_put_at _).mono ?_
  rintro e w1 ⟨g1, c1, rfl, hg1, hc1, r1, b1⟩
  have R1 := Lib.hid r1
  have B1 := Lib.hid b1
  clear r1 b1
  go_wp2_with (first
    | (at_builtin; refine wpList_append_row rfl (.tmp 19) (.tmp 20) rfl w1.heap.size _ 2 [.int .u8 1, .int .u8 2] rfl ⟨rfl, .inr ⟨w1.heap.size, 2, _, rfl, Nat.le_refl _, heap_alloc_new _ _, Nat.le_refl _, by unfold maxLen; omega, rfl, rfl⟩⟩ (some ⟨g1, 0, none⟩) 6 c1 Fr.hi6 rfl rfl (R1.out.next ((Below.refl _ _).alloc (Nat.le_refl _) _)) (by omega) (by simp) ?_; intro v2 w2 o2 g2; have b2 := Lib.hid (Below.grown ((Below.refl w1.heap.size w1).alloc (Nat.le_refl _) _) g2 (by simp) (fun k e => by simp [Act.eval, Value.ownBlock] at e; omega)); have O2 := Lib.hid o2; clear o2 g2)
    | (at_builtin; refine wpList_append_own _ rfl (.tmp 21) (.tmp 22) 26 rfl w1.heap.size 5 i0 (.int .u8 0) 1 1 Try.underlying26 hi hz0 hz1 hz2 rfl (by decide) _ _ _ rfl (O2.out.alloc _) ⟨w2.heap.size, 0, none⟩ 3 3 [.int .u8 126, .int .u8 126, .int .u8 9] rfl rfl (cell_three_new _ _ _ _ _) (fun u hu => by simp at hu; rcases hu with rfl | rfl | rfl <;> rfl) (by unfold maxLen; omega) (by omega) (by have := b2.out.size; simp; omega) ?_; intro v3 w3 o3 g3 h00; clear h00))
  have b3 : Below w1.heap.size w1 w3 := Below.grown (b2.out.alloc b2.out.size _) g3 (by have := b2.out.size; simp; omega) (fun j hj => (O2.out.lt j hj).1)
  have o3' : w3.ownsRow w1.heap.size 5 1 v3 11 (Lib.byteCells [1, 2, 126, 104, 105, 21, 90, 126, 126, 126, 9]) := o3
  obtain ⟨g3', c3, rfl, _, _, _, r3⟩ := own_some o3' (by decide) rfl
  have hall := Lib.hid (all_any 0 false _ 11 c3 _ w3 rfl (by omega) r3 (by omega) (Fr.safe_len 0 false _ Fr.init (by decide)))
  rw [Fr.awk_all, Fr.awk_tal] at hall
  have R3 := Lib.hid (R1.out.next b3)
  have B3 := Lib.hid (Below.chain B1.out b3)
  have hg3 : g1 < w3.heap.size := Nat.lt_of_lt_of_le hg1 b3.size
  clear o3 o3' g3 b3 r3 R1 B1 b2 O2 hg1
  refine hall.out.mono ?_
  rintro e w4 ⟨p4, c4, rfl, pa4, b4⟩
  have R4 := Lib.hid (R3.out.next b4)
  have P4 := Lib.hid pa4
  have B4 := Lib.hid (Below.chain B3.out b4)
  have hg4 : g1 < w4.heap.size := Nat.lt_of_lt_of_le hg3 b4.size
  clear pa4 b4 R3 B3 hg3 hall
  simp only [tcells]
  have kc2 := conv_const2
  go_wp2_with fail
  refine (awk_h_at2 _ _).mono ?_
  rintro e w5 ⟨a5, c5, rfl, b5, t5⟩
  have R5 := Lib.hid (R4.out.next b5)
  have P5 := Lib.hid (P4.out.next b5)
  have B5 := Lib.hid (Below.chain B4.out b5)
  have hg5 : g1 < w5.heap.size := Nat.lt_of_lt_of_le hg4 b5.size
  have T5 := Lib.hid t5
  have hT5 := lt_of_block t5
  generalize w4.heap.size = T at T5 hT5 ⊢
  clear b5 t5 R4 P4 B4 hg4 kc kc2
  go_wp2_with fail
  refine (awk_row_at _).mono ?_
  rintro e w6 ⟨a6, c6, rfl, r6, b6⟩
  have R6 := Lib.hid (R5.out.next b6)
  have P6 := Lib.hid (P5.out.next b6)
  have Q6 := Lib.hid r6
  have B6 := Lib.hid (Below.chain B5.out b6)
  have hg6 : g1 < w6.heap.size := Nat.lt_of_lt_of_le hg5 b6.size
  have T6 := T5.out
  rw [← b6.block T hT5] at T6
  have hT6 := lt_of_block T6
  clear b6 r6 R5 P5 B5 T5 hg5 hT5
  have TH6 := Lib.hid T6
  clear T6
  go_wp2_with fail
  refine (new_any 0 false _).mono ?_
  rintro e w7 ⟨rfl, h7, b7, _⟩
  have b67 := Lib.hid b7
  have H7 := Lib.hid h7
  have hg7 : g1 ≠ w6.heap.size := by omega
  obtain ⟨D, hD⟩ : ∃ D, D = w6.heap.size := ⟨_, rfl⟩
  rw [← hD] at hg7 H7 ⊢
  have HD := Lib.hid hD
  have hf7 := Lib.hid (feed_any H7.out (some ⟨g1, 0, none⟩) 3 c1 [126, 104, 105] rfl (by omega) ((R6.out.next b67.out).head 3) (by omega) (Fr.safe_len 0 false _ Fr.init (by decide)) (Fr.zero_le _) (.inr fun ad e => by cases e; exact ⟨hg7, by simp [Value.ownBlock]⟩))
  rw [Fr.awk_one.1, Fr.awk_one.2] at hf7
  clear b7 h7 hD
  have ic : (6 : Int) ≤ (c1 : Int) := by omega
  go_wp2_with fail
  refine hf7.out.mono ?_
  rintro e w8 ⟨hv8, v8, rfl, o8, h8, f8⟩
  obtain ⟨a8, c8, rfl⟩ := outs_slice o8
  have b68 := Lib.hid (f8.below b67.out (by rw [HD.out]; exact Nat.le_refl _) (fun k e => by cases e))
  have H8 := Lib.hid h8
  have F8 := Lib.hid f8
  have hv8g : hv8.ownBlock ≠ some g1 := (f8.away g1 (Nat.lt_of_lt_of_le hg6 b67.out.size) hg7 (by simp [Value.ownBlock])).2
  have hf8 := Lib.hid (feed_any h8 (some ⟨g1, 3, none⟩) 3 (c1 - 3) [21, 90, 126] rfl (by omega) ((R6.out.next b68.out).cut3 3 (by omega) (by decide)) (by omega) (Fr.safe_len 0 false _ _ (by decide)) (Fr.zero_le _) (.inr fun ad e => by cases e; exact ⟨hg7, hv8g⟩))
  rw [Fr.awk_two.2] at hf8
  clear o8 h8 f8 hf7 H7 hv8g
  have ic3 : ¬ c1 = 3 := by omega
  have ic4 : (3 : Int) ≤ (c1 : Int) := by omega
  go_wp2_with fail
  refine hf8.out.mono ?_
  rintro e w9 ⟨hv9, v9, rfl, o9, h9, f9⟩
  have b69 := (F8.out.trans f9).below b67.out (by rw [HD.out]; exact Nat.le_refl _) (fun k e => by cases e)
  have ht9 := tally_any h9
  rw [Fr.awk_two.1] at ht9
  obtain ⟨p9, c9, rfl, pa9⟩ := o9.parts
  obtain ⟨b1, o1, q1, k1, rfl, x1, r1, _⟩ := parts_hi (P6.out.next b69)
  obtain ⟨b2, o2, q2, k2, rfl, x2, r2, _⟩ := parts_hi pa9
  have y1 : (convert 26 9 (.slice q1 2 k1)).run Try.prog w9 = .ok (.string ⟨#[104, 105]⟩) w9 := conv_row rfl r1
  have y2 : (convert 26 9 (.slice q2 2 k2)).run Try.prog w9 = .ok (.string ⟨#[104, 105]⟩) w9 := conv_row rfl r2
  have y3 : (convert 26 9 (.slice a6 1 c6)).run Try.prog w9 = .ok (.string ⟨#[126]⟩) w9 := conv_row rfl (Q6.out.next b69)
  have T9 := TH6.out
  rw [← b69.block T hT6] at T9
  have t0 : w9.cell? ⟨T, 0, none⟩ = some (.int .i64 1) := cell_of_row _ _ _ _ _ _ T9
  have t1 : w9.cell? ⟨T, 1, none⟩ = some (.int .i64 0) := cell_of_row _ _ _ _ _ _ T9
  have t2 : w9.cell? ⟨T, 2, none⟩ = some (.int .i64 0) := cell_of_row _ _ _ _ _ _ T9
  have t3 : w9.cell? ⟨T, 3, none⟩ = some (.int .i64 0) := cell_of_row _ _ _ _ _ _ T9
  have t4 : w9.cell? ⟨T, 4, none⟩ = some (.int .i64 0) := cell_of_row _ _ _ _ _ _ T9
  have B9 := Lib.hid (Below.chain B6.out b69)
  have Ht9 := Lib.hid ht9
  clear o9 h9 f9 b69 hf8 pa9 r1 r2 T9 TH6 ht9 P6 Q6 R6 B6 H8 F8
  go_wp2_with fail
  refine Ht9.out.mono ?_
  rintro e w10 ⟨rfl, b10⟩
  simp only [tcells]
  go_wp2
  go_ret
  exact ⟨rfl, Below.chain B9.out b10⟩
end Go.Proofs.Ythmljgpnkealaaa
