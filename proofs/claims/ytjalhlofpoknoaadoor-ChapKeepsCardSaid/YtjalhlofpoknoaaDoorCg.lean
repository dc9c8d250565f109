/- Contract of awake. -/
import Derived.Test.YtjalhlofpoknoaaDoorCf
import Derived.Lib.SlBytesConst
namespace Go.Proofs.YtjalhlofpoknoaaDoor
open Go.RowKit

theorem run_const_bytes {o : Oper} {a : Act} (x : Operand) (ho : o.op = .convert 22 22 x) (W : World) (C : Array Value) (n c : Nat) (hx : a.eval x = .slice (some ⟨W.heap.size, 0, none⟩) n c) :
    (execOp a.eval o).run Tryd.prog (W.alloc (.cells C 5)) = .ok (.value (.slice (some ⟨W.heap.size, 0, none⟩) n c)) (W.alloc (.cells C 5 (C.size, C.size + 1))) := by
  unfold execOp
  simp only [ho, hx, Sem.run_bind, Lib.run_convert_bytes_const (P := Tryd.prog) W 22 5 C n c Tryd.underlying22 Tryd.underlying5, Result.andThen_ok, Sem.run_pure]
/-- A digest in a block, as a slice of it. -/
theorem rowAt_dig {w : World} {g : Nat} {D : List UInt8} (hD : D.length = 16) (h : w.heap[g]? = some (.cells (Lib.byteCells D).toArray 38 (0, 0))) : RowAt w (some ⟨g, 0, none⟩) 16 D := by
  refine ⟨by rw [hD]; exact Nat.le_refl _, by unfold maxLen; omega, (fun e => by cases e), fun ad e j u hu => ?_⟩
  cases e
  rw [Go.WideShapes.add_plain, cell_of_row _ _ _ _ _ _ h, List.getElem?_toArray, Nat.zero_add]
  exact hu
namespace Aw
def d7 : List UInt8 := [0xf, 0x4, 0xf2, 0xfd, 0xd0, 0x16, 0x26, 0xbe, 0xa9, 0xf2, 0xcd, 0x89, 0x49, 0x12, 0x35, 0x89]
def d8 : List UInt8 := [0xed, 0xb8, 0xde, 0x1e, 0xe7, 0xee, 0xb, 0x96, 0x19, 0x9f, 0x72, 0x36, 0x44, 0xa9, 0xdc, 0x3c]
set_option maxRecDepth 100000 in
theorem sum7 : S3.Md.sum [7, 115, 118] = d7 := by kernel_rfl
set_option maxRecDepth 100000 in
theorem sum8 : S3.Md.sum [8, 115, 118] = d8 := by kernel_rfl
theorem ans7 : Ch.answer 7 [115] [118] = d7 := by rw [Ch.answer, show Ch.byteOf 7 :: ([115] ++ [118]) = [7, 115, 118] by decide, sum7]
theorem ans8 : Ch.answer 8 [115] [118] = d8 := by rw [Ch.answer, show Ch.byteOf 8 :: ([115] ++ [118]) = [8, 115, 118] by decide, sum8]
theorem d7_len : d7.length = 16 := rfl
theorem right7 : decide (d7 = Ch.answer 7 [115] [118]) = true := by rw [ans7]; exact decide_eq_true rfl
theorem right8 : decide (d7 = Ch.answer 8 [115] [118]) = false := by rw [ans8]; decide
theorem read1 : Ch.read [3, 1, 2, 3, 97, 98] = ([1, 2, 3], [97, 98], 0) := by decide
theorem put1 : Ch.put [1, 2, 3] [97, 98] = ([3, 1, 2, 3, 97, 98], 0) := by decide
theorem read2 : Ch.read [] = ([], [], 2) := by decide
theorem read3 : Ch.read [0, 1] = ([], [], 1) := by decide
theorem read4 : Ch.read [2, 1] = ([], [], 2) := by decide
theorem put2 : Ch.put [] [] = ([], 1) := by decide
end Aw
/-- What awake looks at, at its end. -/
structure AwS (w0 : World) (U G : Nat) (p : Option Addr) (c : Nat) (q : Option Addr) (d : Nat) (D : List UInt8) (w : World) : Prop where
  ch : ChAt w U p 3 c [97, 98]
  val : RowAt w p c [1, 2, 3]
  put : RowAt w q d [3, 1, 2, 3, 97, 98]
  dig : w.heap[G]? = some (.cells (Lib.byteCells D).toArray 38 (0, 0))
  bel : Below w0.heap.size w0 w
theorem AwS.next {w0 : World} {U G : Nat} {p : Option Addr} {c : Nat} {q : Option Addr} {d : Nat} {D : List UInt8} {w w' : World} (h : AwS w0 U G p c q d D w) (b : Below w.heap.size w w') : AwS w0 U G p c q d D w' :=
  ⟨h.ch.next b, h.val.next b, h.put.next b, block_next h.dig b, Below.chain h.bel b⟩

set_option maxRecDepth 100000 in
set_option maxHeartbeats 4000000 in
theorem awake_any (w : World) (ht : S3.Tabs w) (hg : S3.Trig w) : Calls Tryd.prog 9 #[] w fun e w' => e = .returned (.bool true) ∧ Below w.heap.size w w' := by
  have HT := Lib.hid ht
  have HG := Lib.hid hg
  clear ht hg
  have b0 := below_one w (.cells #[.int .u8 3, .int .u8 1, .int .u8 2, .int .u8 3, .int .u8 97, .int .u8 98] 5)
  have C1 := Lib.hid (read_any (some ⟨w.heap.size, 0, none⟩) 6 6 [3, 1, 2, 3, 97, 98] _ rfl (by omega) (rowAt_built w [3, 1, 2, 3, 97, 98] 6 #[.int .u8 3, .int .u8 1, .int .u8 2, .int .u8 3, .int .u8 97, .int .u8 98] rfl rfl (by omega) (0, 0)))
  have B0 := Lib.hid b0
  clear b0
  go_enter Tryd.func9, Tryd.ntmps9
  go_wp2_with fail
  refine C1.out.mono ?_
  intro e w1 r1
  obtain ⟨p, c, rfl, o1⟩ := r1.at (n := 3) (z := 0) Aw.read1 rfl rfl
  have R1 := Lib.hid o1.row
  have B1 := Lib.hid (Below.chain B0.out o1.bel)
  clear C1 B0 r1 o1
  go_wp2_with (first
    | (refine wpList_chIn (w := w1) rfl (.tmp 1) (.tmp 17) rfl p 3 c [97, 98] rfl rfl ?_; intro w2 l2 b2; have L2 := Lib.hid l2; have R2 := Lib.hid (R1.out.next b2); have B2 := Lib.hid (Below.chain B1.out b2); clear l2 b2 B1 R1)
    | (refine wpList_value (by rfl) (run_load_ch (.tmp 1) rfl w1.heap.size p 3 c [97, 98] rfl L2.out) ?_))
  generalize w1.heap.size = U at *
  refine (put_any p 3 c [1, 2, 3] [97, 98] w2 rfl (by omega) (by simp) R2.out).mono ?_
  intro e w3 p3
  obtain ⟨q, d, rfl, o3⟩ := p3.at (n := 6) (z := 0) Aw.put1 rfl rfl
  have L3 := Lib.hid (L2.out.next o3.bel)
  have R3 := Lib.hid (R2.out.next o3.bel)
  have Q3 := Lib.hid o3.row
  have B3 := Lib.hid (Below.chain B2.out o3.bel)
  clear L2 R2 B2 p3 o3
  go_wp2_with fail
  refine (read_any none 0 0 [] w3 rfl (by omega) (rowAt_nil _)).mono ?_
  intro e w4 r4
  obtain ⟨p4, c4, rfl, o4⟩ := r4.at (n := 0) (z := 2) Aw.read2 rfl rfl
  have L4 := Lib.hid (L3.out.next o4.bel)
  have R4 := Lib.hid (R3.out.next o4.bel)
  have Q4 := Lib.hid (Q3.out.next o4.bel)
  have B4 := Lib.hid (Below.chain B3.out o4.bel)
  clear L3 R3 Q3 B3 r4 o4
  go_wp2_with (refine wpList_chIn (w := w4) rfl (.tmp 5) (.tmp 26) rfl p4 0 c4 [] rfl rfl ?_; intro w5 l5 b5; have L5 := Lib.hid (L4.out.next b5); have R5 := Lib.hid (R4.out.next b5); have Q5 := Lib.hid (Q4.out.next b5); have B5 := Lib.hid (Below.chain B4.out b5); clear l5 b5 L4 R4 Q4 B4)
  have b6 := below_one w5 (.cells #[.int .u8 0, .int .u8 1] 5)
  refine (read_any (some ⟨w5.heap.size, 0, none⟩) 2 2 [0, 1] _ rfl (by omega) (rowAt_built w5 [0, 1] 2 #[.int .u8 0, .int .u8 1] rfl rfl (by omega) (0, 0))).mono ?_
  intro e w6 r6
  obtain ⟨p6, c6, rfl, o6⟩ := r6.at (n := 0) (z := 1) Aw.read3 rfl rfl
  have L6 := Lib.hid (L5.out.next (Below.chain b6 o6.bel))
  have R6 := Lib.hid (R5.out.next (Below.chain b6 o6.bel))
  have Q6 := Lib.hid (Q5.out.next (Below.chain b6 o6.bel))
  have B6 := Lib.hid (Below.chain B5.out (Below.chain b6 o6.bel))
  clear L5 R5 Q5 B5 r6 o6 b6
  go_wp2_with (refine wpList_chIn (w := w6) rfl (.tmp 7) (.tmp 31) rfl p6 0 c6 [] rfl rfl ?_; intro w7 l7 b7; have L7 := Lib.hid (L6.out.next b7); have R7 := Lib.hid (R6.out.next b7); have Q7 := Lib.hid (Q6.out.next b7); have B7 := Lib.hid (Below.chain B6.out b7); clear l7 b7 L6 R6 Q6 B6)
  have b8 := below_one w7 (.cells #[.int .u8 2, .int .u8 1] 5)
  refine (read_any (some ⟨w7.heap.size, 0, none⟩) 2 2 [2, 1] _ rfl (by omega) (rowAt_built w7 [2, 1] 2 #[.int .u8 2, .int .u8 1] rfl rfl (by omega) (0, 0))).mono ?_
  intro e w8 r8
  obtain ⟨p8, c8, rfl, o8⟩ := r8.at (n := 0) (z := 2) Aw.read4 rfl rfl
  have L8 := Lib.hid (L7.out.next (Below.chain b8 o8.bel))
  have R8 := Lib.hid (R7.out.next (Below.chain b8 o8.bel))
  have Q8 := Lib.hid (Q7.out.next (Below.chain b8 o8.bel))
  have B8 := Lib.hid (Below.chain B7.out (Below.chain b8 o8.bel))
  clear L7 R7 Q7 B7 r8 o8 b8
  go_wp2_with (first
    | (refine wpList_chIn (w := w8) rfl (.tmp 9) (.tmp 36) rfl p8 0 c8 [] rfl rfl ?_; intro w9 l9 b9; have L9 := Lib.hid (L8.out.next b9); have R9 := Lib.hid (R8.out.next b9); have Q9 := Lib.hid (Q8.out.next b9); have B9 := Lib.hid (Below.chain B8.out b9); clear l9 b9 L8 R8 Q8 B8)
    | (refine wpList_value (by rfl) (run_build_none rfl _) ?_))
  refine (put_any none 0 0 [] [] w9 rfl (by omega) (by simp) (rowAt_nil _)).mono ?_
  intro e w10 p10
  obtain ⟨q10, d10, rfl, o10⟩ := p10.at (n := 0) (z := 1) Aw.put2 rfl rfl
  have L10 := Lib.hid (L9.out.next o10.bel)
  have R10 := Lib.hid (R9.out.next o10.bel)
  have Q10 := Lib.hid (Q9.out.next o10.bel)
  have B10 := Lib.hid (Below.chain B9.out o10.bel)
  clear L9 R9 Q9 B9 p10 o10
  go_wp2_with (refine wpList_value (by rfl) (run_const_bytes (.tmp 43) rfl w10 _ 3 3 rfl) ?_)
  have b11 := below_one w10 (.cells #[.int .u8 7, .int .u8 115, .int .u8 118] 5 (3, 4))
  have C11 := S3.refSum_at (some ⟨w10.heap.size, 0, none⟩) 3 3 [7, 115, 118] (w10.alloc (.cells #[.int .u8 7, .int .u8 115, .int .u8 118] 5 (3, 4))) rfl (by omega) (toMd (rowAt_built w10 [7, 115, 118] 3 #[.int .u8 7, .int .u8 115, .int .u8 118] rfl rfl (by omega) (3, 4))) (HG.out.next (Below.chain B10.out b11))
  rw [Aw.sum7] at C11
  refine C11.mono ?_
  rintro e w12 ⟨rfl, b12⟩
  clear C11
  have L12 := Lib.hid (L10.out.next (Below.chain b11 b12))
  have R12 := Lib.hid (R10.out.next (Below.chain b11 b12))
  have Q12 := Lib.hid (Q10.out.next (Below.chain b11 b12))
  have B12 := Lib.hid (Below.chain B10.out (Below.chain b11 b12))
  clear L10 R10 Q10 B10 b11 b12
  have D12 := Lib.hid Aw.d7_len
  have E12 := Lib.hid Aw.right7
  have F12 := Lib.hid Aw.right8
  have A12 := Lib.hid Aw.ans7
  generalize Aw.d7 = D at *
  have b13 := below_one w12 (.cells S3.z24 38)
  have g13 := heap_alloc_new w12 (.cells S3.z24 38)
  have s12 := B12.out.size
  have L13 := L12.out.next b13
  have R13 := R12.out.next b13
  have Q13 := Q12.out.next b13
  have X13 : Hid (AwS w U w12.heap.size p c q d D ((w12.alloc (.cells S3.z24 38)).setRow w12.heap.size (Lib.byteCells D).toArray)) := by
    have b14 := below_setRow b13 (Nat.le_refl _) (Lib.byteCells D).toArray
    exact ⟨L12.out.next b14, R12.out.next b14, Q12.out.next b14, setRow_heap _ _ _ _ _ _ g13, Below.chain B12.out b14⟩
  have G13 := Lib.hid g13
  clear b13 L13 R13 Q13 L12 R12 Q12 B12 g13 s12
  unfold S3.z24 at G13 X13
  go_wp2_with (refine wpList_store_dig rfl (.tmp 13) (.tmp 45) rfl w12.heap.size D D12.out rfl rfl G13.out ?_)
  generalize w12.heap.size = G at *
  refine held_start (S := AwS w U G p c q d D) 59 (by kernel_rfl) rfl ?_
  have hS := X13.out.next ((Below.refl _ _).drew)
  clear X13 G13
  generalize ((w12.alloc (.cells #[.int .u8 0, .int .u8 0, .int .u8 0, .int .u8 0, .int .u8 0, .int .u8 0, .int .u8 0, .int .u8 0, .int .u8 0, .int .u8 0, .int .u8 0, .int .u8 0, .int .u8 0, .int .u8 0, .int .u8 0, .int .u8 0] 38)).setRow G (Lib.byteCells D).toArray).drew = W0 at *
  refine held_take 0 (v := ?_) rfl (by kernel_rfl) (by kernel_rfl) (by kernel_rfl) (fun _ _ _ h => h) (by assumption) (by rfl) ?_ ?_
  rotate_left
  · (intro W hW; go_simp; try with_reducible rfl)
  simp only [Act.put, List.setIfInBounds_toArray, List.set_cons_zero, List.set_cons_succ]
  refine held_take 1 (v := ?_) rfl (by kernel_rfl) (by kernel_rfl) (by kernel_rfl) (fun _ _ _ h => h) (by assumption) (by rfl) ?_ ?_
  rotate_left
  · (intro W hW; go_simp; try with_reducible rfl)
  simp only [Act.put, List.setIfInBounds_toArray, List.set_cons_zero, List.set_cons_succ]
  refine held_take 2 (v := ?_) rfl (by kernel_rfl) (by kernel_rfl) (by kernel_rfl) (fun _ _ _ h => h) (by assumption) (by rfl) ?_ ?_
  rotate_left
  · (intro W hW; go_simp; try with_reducible rfl)
  simp only [Act.put, List.setIfInBounds_toArray, List.set_cons_zero, List.set_cons_succ]
  refine held_take 3 (v := ?_) rfl (by kernel_rfl) (by kernel_rfl) (by kernel_rfl) (fun _ _ _ h => h) (by assumption) (by rfl) ?_ ?_
  rotate_left
  · (intro W hW; go_simp; try with_reducible rfl)
  simp only [Act.put, List.setIfInBounds_toArray, List.set_cons_zero, List.set_cons_succ]
  refine held_take 4 (v := ?_) rfl (by kernel_rfl) (by kernel_rfl) (by kernel_rfl) (fun _ _ _ h => h) (by assumption) (by rfl) ?_ ?_
  rotate_left
  · (intro W hW; have hc := hW.ch.fst; go_simp; try with_reducible rfl)
  simp only [Act.put, List.setIfInBounds_toArray, List.set_cons_zero, List.set_cons_succ]
  refine held_take 5 (v := ?_) rfl (by kernel_rfl) (by kernel_rfl) (by kernel_rfl) (fun _ _ _ h => h) (by assumption) (by rfl) ?_ ?_
  rotate_left
  · (intro W hW; have hc : (convert 22 9 (.slice p 3 c)).run Tryd.prog W = .ok (.string ⟨#[1, 2, 3]⟩) W := conv_row (n := 3) rfl hW.val; go_simp; try with_reducible rfl)
  simp only [Act.put, List.setIfInBounds_toArray, List.set_cons_zero, List.set_cons_succ]
  refine held_take 6 (v := ?_) rfl (by kernel_rfl) (by kernel_rfl) (by kernel_rfl) (fun _ _ _ h => h) (by assumption) (by rfl) ?_ ?_
  rotate_left
  · (intro W hW; go_simp; try with_reducible rfl)
  simp only [Act.put, List.setIfInBounds_toArray, List.set_cons_zero, List.set_cons_succ]
  refine held_take 7 (v := ?_) rfl (by kernel_rfl) (by kernel_rfl) (by kernel_rfl) (fun _ _ _ h => h) (by assumption) (by rfl) ?_ ?_
  rotate_left
  · (intro W hW; go_simp; try with_reducible rfl)
  simp only [Act.put, List.setIfInBounds_toArray, List.set_cons_zero, List.set_cons_succ]
  refine held_take 8 (v := ?_) rfl (by kernel_rfl) (by kernel_rfl) (by kernel_rfl) (fun _ _ _ h => h) (by assumption) (by rfl) ?_ ?_
  rotate_left
  · (intro W hW; go_simp; try with_reducible rfl)
  simp only [Act.put, List.setIfInBounds_toArray, List.set_cons_zero, List.set_cons_succ]
  refine held_take 9 (v := ?_) rfl (by kernel_rfl) (by kernel_rfl) (by kernel_rfl) (fun _ _ _ h => h) (by assumption) (by rfl) ?_ ?_
  rotate_left
  · (intro W hW; go_simp; try with_reducible rfl)
  simp only [Act.put, List.setIfInBounds_toArray, List.set_cons_zero, List.set_cons_succ]
  refine held_take 10 (v := ?_) rfl (by kernel_rfl) (by kernel_rfl) (by kernel_rfl) (fun _ _ _ h => h) (by assumption) (by rfl) ?_ ?_
  rotate_left
  · (intro W hW; have hc := hW.ch.snd; go_simp; try with_reducible rfl)
  simp only [Act.put, List.setIfInBounds_toArray, List.set_cons_zero, List.set_cons_succ]
  refine held_take 11 (v := ?_) rfl (by kernel_rfl) (by kernel_rfl) (by kernel_rfl) (fun _ _ _ h => h) (by assumption) (by rfl) ?_ ?_
  rotate_left
  · (intro W hW; go_simp; try with_reducible rfl)
  simp only [Act.put, List.setIfInBounds_toArray, List.set_cons_zero, List.set_cons_succ]
  refine held_take 12 (v := ?_) rfl (by kernel_rfl) (by kernel_rfl) (by kernel_rfl) (fun _ _ _ h => h) (by assumption) (by rfl) ?_ ?_
  rotate_left
  · (intro W hW; go_simp; try with_reducible rfl)
  simp only [Act.put, List.setIfInBounds_toArray, List.set_cons_zero, List.set_cons_succ]
  refine held_take 13 (v := ?_) rfl (by kernel_rfl) (by kernel_rfl) (by kernel_rfl) (fun _ _ _ h => h) (by assumption) (by rfl) ?_ ?_
  rotate_left
  · (intro W hW; go_simp; try with_reducible rfl)
  simp only [Act.put, List.setIfInBounds_toArray, List.set_cons_zero, List.set_cons_succ]
  refine held_take 14 (v := ?_) rfl (by kernel_rfl) (by kernel_rfl) (by kernel_rfl) (fun _ _ _ h => h) (by assumption) (by rfl) ?_ ?_
  rotate_left
  · (intro W hW; go_simp; try with_reducible rfl)
  simp only [Act.put, List.setIfInBounds_toArray, List.set_cons_zero, List.set_cons_succ]
  refine held_take 15 (v := ?_) rfl (by kernel_rfl) (by kernel_rfl) (by kernel_rfl) (fun _ _ _ h => h) (by assumption) (by rfl) ?_ ?_
  rotate_left
  · (intro W hW; go_simp; try with_reducible rfl)
  simp only [Act.put, List.setIfInBounds_toArray, List.set_cons_zero, List.set_cons_succ]
  refine held_take 16 (v := ?_) rfl (by kernel_rfl) (by kernel_rfl) (by kernel_rfl) (fun _ _ _ h => h) (by assumption) (by rfl) ?_ ?_
  rotate_left
  · (intro W hW; go_simp; try with_reducible rfl)
  simp only [Act.put, List.setIfInBounds_toArray, List.set_cons_zero, List.set_cons_succ]
  refine held_take 17 (v := ?_) rfl (by kernel_rfl) (by kernel_rfl) (by kernel_rfl) (fun _ _ _ h => h) (by assumption) (by rfl) ?_ ?_
  rotate_left
  · (intro W hW; go_simp; try with_reducible rfl)
  simp only [Act.put, List.setIfInBounds_toArray, List.set_cons_zero, List.set_cons_succ]
  refine held_take 18 (v := ?_) rfl (by kernel_rfl) (by kernel_rfl) (by kernel_rfl) (fun _ _ _ h => h) (by assumption) (by rfl) ?_ ?_
  rotate_left
  · (intro W hW; go_simp; try with_reducible rfl)
  simp only [Act.put, List.setIfInBounds_toArray, List.set_cons_zero, List.set_cons_succ]
  refine held_take 19 (v := ?_) rfl (by kernel_rfl) (by kernel_rfl) (by kernel_rfl) (fun _ _ _ h => h) (by assumption) (by rfl) ?_ ?_
  rotate_left
  · (intro W hW; have hc : (convert 22 9 (.slice q 6 d)).run Tryd.prog W = .ok (.string ⟨#[3, 1, 2, 3, 97, 98]⟩) W := conv_row (n := 6) rfl hW.put; go_simp; try with_reducible rfl)
  simp only [Act.put, List.setIfInBounds_toArray, List.set_cons_zero, List.set_cons_succ]
  refine held_take 20 (v := ?_) rfl (by kernel_rfl) (by kernel_rfl) (by kernel_rfl) (fun _ _ _ h => h) (by assumption) (by rfl) ?_ ?_
  rotate_left
  · (intro W hW; go_simp; try with_reducible rfl)
  simp only [Act.put, List.setIfInBounds_toArray, List.set_cons_zero, List.set_cons_succ]
  refine held_take 21 (v := ?_) rfl (by kernel_rfl) (by kernel_rfl) (by kernel_rfl) (fun _ _ _ h => h) (by assumption) (by rfl) ?_ ?_
  rotate_left
  · (intro W hW; go_simp; try with_reducible rfl)
  simp only [Act.put, List.setIfInBounds_toArray, List.set_cons_zero, List.set_cons_succ]
  refine held_take 22 (v := ?_) rfl (by kernel_rfl) (by kernel_rfl) (by kernel_rfl) (fun _ _ _ h => h) (by assumption) (by rfl) ?_ ?_
  rotate_left
  · (intro W hW; go_simp; try with_reducible rfl)
  simp only [Act.put, List.setIfInBounds_toArray, List.set_cons_zero, List.set_cons_succ]
  refine held_take 23 (v := ?_) rfl (by kernel_rfl) (by kernel_rfl) (by kernel_rfl) (fun _ _ _ h => h) (by assumption) (by rfl) ?_ ?_
  rotate_left
  · (intro W hW; go_simp; try with_reducible rfl)
  simp only [Act.put, List.setIfInBounds_toArray, List.set_cons_zero, List.set_cons_succ]
  refine held_take 24 (v := ?_) rfl (by kernel_rfl) (by kernel_rfl) (by kernel_rfl) (fun _ _ _ h => h) (by assumption) (by rfl) ?_ ?_
  rotate_left
  · (intro W hW; go_simp; try with_reducible rfl)
  simp only [Act.put, List.setIfInBounds_toArray, List.set_cons_zero, List.set_cons_succ]
  refine held_take 25 (v := ?_) rfl (by kernel_rfl) (by kernel_rfl) (by kernel_rfl) (fun _ _ _ h => h) (by assumption) (by rfl) ?_ ?_
  rotate_left
  · (intro W hW; go_simp; try with_reducible rfl)
  simp only [Act.put, List.setIfInBounds_toArray, List.set_cons_zero, List.set_cons_succ]
  refine held_take 26 (v := ?_) rfl (by kernel_rfl) (by kernel_rfl) (by kernel_rfl) (fun _ _ _ h => h) (by assumption) (by rfl) ?_ ?_
  rotate_left
  · (intro W hW; go_simp; try with_reducible rfl)
  simp only [Act.put, List.setIfInBounds_toArray, List.set_cons_zero, List.set_cons_succ]
  refine held_take 27 (v := ?_) rfl (by kernel_rfl) (by kernel_rfl) (by kernel_rfl) (fun _ _ _ h => h) (by assumption) (by rfl) ?_ ?_
  rotate_left
  · (intro W hW; go_simp; try with_reducible rfl)
  simp only [Act.put, List.setIfInBounds_toArray, List.set_cons_zero, List.set_cons_succ]
  refine held_take 28 (v := ?_) rfl (by kernel_rfl) (by kernel_rfl) (by kernel_rfl) (fun _ _ _ h => h) (by assumption) (by rfl) ?_ ?_
  rotate_left
  · (intro W hW; go_simp; try with_reducible rfl)
  simp only [Act.put, List.setIfInBounds_toArray, List.set_cons_zero, List.set_cons_succ]
  refine held_take 29 (v := ?_) rfl (by kernel_rfl) (by kernel_rfl) (by kernel_rfl) (fun _ _ _ h => h) (by assumption) (by rfl) ?_ ?_
  rotate_left
  · (intro W hW; go_simp; try with_reducible rfl)
  simp only [Act.put, List.setIfInBounds_toArray, List.set_cons_zero, List.set_cons_succ]
  refine held_take 30 (v := ?_) rfl (by kernel_rfl) (by kernel_rfl) (by kernel_rfl) (fun _ _ _ h => h) (by assumption) (by rfl) ?_ ?_
  rotate_left
  · (intro W hW; go_simp; try with_reducible rfl)
  simp only [Act.put, List.setIfInBounds_toArray, List.set_cons_zero, List.set_cons_succ]
  refine held_take 31 (v := ?_) rfl (by kernel_rfl) (by kernel_rfl) (by kernel_rfl) (fun _ _ _ h => h) (by assumption) (by rfl) ?_ ?_
  rotate_left
  · (intro W hW; go_simp; try with_reducible rfl)
  simp only [Act.put, List.setIfInBounds_toArray, List.set_cons_zero, List.set_cons_succ]
  refine held_take 32 (v := ?_) rfl (by kernel_rfl) (by kernel_rfl) (by kernel_rfl) (fun _ _ _ h => h) (by assumption) (by rfl) ?_ ?_
  rotate_left
  · (intro W hW; go_simp; try with_reducible rfl)
  simp only [Act.put, List.setIfInBounds_toArray, List.set_cons_zero, List.set_cons_succ]
  refine held_take 33 (v := ?_) rfl (by kernel_rfl) (by kernel_rfl) (by kernel_rfl) (fun _ _ _ h => h) (by assumption) (by rfl) ?_ ?_
  rotate_left
  · (intro W hW; go_simp; try with_reducible rfl)
  simp only [Act.put, List.setIfInBounds_toArray, List.set_cons_zero, List.set_cons_succ]
  refine held_take 34 (v := ?_) rfl (by kernel_rfl) (by kernel_rfl) (by kernel_rfl) (fun _ _ _ h => h) (by assumption) (by rfl) ?_ ?_
  rotate_left
  · (intro W hW; go_simp; try with_reducible rfl)
  simp only [Act.put, List.setIfInBounds_toArray, List.set_cons_zero, List.set_cons_succ]
  refine held_take 35 (v := ?_) rfl (by kernel_rfl) (by kernel_rfl) (by kernel_rfl) (fun _ _ _ h => h) (by assumption) (by rfl) ?_ ?_
  rotate_left
  · (intro W hW; go_simp; try with_reducible rfl)
  simp only [Act.put, List.setIfInBounds_toArray, List.set_cons_zero, List.set_cons_succ]
  refine held_take 36 (v := ?_) rfl (by kernel_rfl) (by kernel_rfl) (by kernel_rfl) (fun _ _ _ h => h) (by assumption) (by rfl) ?_ ?_
  rotate_left
  · (intro W hW; go_simp; try with_reducible rfl)
  simp only [Act.put, List.setIfInBounds_toArray, List.set_cons_zero, List.set_cons_succ]
  refine held_take 37 (v := ?_) rfl (by kernel_rfl) (by kernel_rfl) (by kernel_rfl) (fun _ _ _ h => h) (by assumption) (by rfl) ?_ ?_
  rotate_left
  · (intro W hW; go_simp; try with_reducible rfl)
  simp only [Act.put, List.setIfInBounds_toArray, List.set_cons_zero, List.set_cons_succ]
  refine held_take 38 (v := ?_) rfl (by kernel_rfl) (by kernel_rfl) (by kernel_rfl) (fun _ _ _ h => h) (by assumption) (by rfl) ?_ ?_
  rotate_left
  · (intro W hW; go_simp; try with_reducible rfl)
  simp only [Act.put, List.setIfInBounds_toArray, List.set_cons_zero, List.set_cons_succ]
  refine held_take 42 (v := .agg (Lib.byteCells D).toArray) rfl (by kernel_rfl) (by kernel_rfl) (by kernel_rfl) (fun _ _ _ h => h) hS (by rfl) (fun W hW => S3.run_load_row 38 (.tmp 13) rfl G rfl 38 _ _ _ hW.dig Tryd.underlying38 rfl (dig_size D12.out)) ?_
  simp only [Act.put, List.setIfInBounds_toArray, List.set_cons_zero, List.set_cons_succ]
  have k1 := hS.next (below_one W0 (.cells #[.int .u8 118] 5))
  refine held_makes 39 (v := .slice (some ⟨W0.heap.size, 0, none⟩) 1 1) (w' := W0.alloc (.cells #[.int .u8 118] 5)) rfl (by kernel_rfl) (by rfl) (by go_simp) k1 ?_
  simp only [Act.put, List.setIfInBounds_toArray, List.set_cons_zero, List.set_cons_succ]
  have k2 := hS.next (below_one W0 (.cells #[.int .u8 118] 5 (1, 2)))
  refine held_makes 40 (v := .slice (some ⟨W0.heap.size, 0, none⟩) 1 1) (w' := W0.alloc (.cells #[.int .u8 118] 5 (1, 2))) rfl (by kernel_rfl) (by rfl) (run_const_bytes (.tmp 85) rfl W0 _ 1 1 rfl) k2 ?_
  simp only [Act.put, List.setIfInBounds_toArray, List.set_cons_zero, List.set_cons_succ]
  have hr := rowAt_built W0 [118] 1 #[.int .u8 118] rfl rfl (by omega) (1, 2)
  have C1 := answer_any 7 [115] [118] (some ⟨W0.heap.size, 0, none⟩) 1 1 (W0.alloc (.cells #[.int .u8 118] 5 (1, 2))) rfl (by omega) (by simp) hr (HT.out.next k2.bel)
  rw [A12.out] at C1
  refine held_call 41 (f := 15) (args := #[.int .i64 7, .string ⟨#[115]⟩, .slice (some ⟨W0.heap.size, 0, none⟩) 1 1]) rfl (by kernel_rfl) (by rfl) (by go_simp) ?_
  refine C1.mono ?_
  rintro e W1 ⟨rfl, b1⟩
  have hS1 := k2.next b1
  refine ⟨_, rfl, hS1, ?_⟩
  simp only [Act.put, List.setIfInBounds_toArray, List.set_cons_zero, List.set_cons_succ]
  clear k1 k2 hr C1 b1 hS A12
  refine held_take 43 (v := .bool true) rfl (by kernel_rfl) (by kernel_rfl) (by kernel_rfl) (fun _ _ _ h => h) hS1 (by rfl) (fun W _ => (run_eql_16 (.tmp 87) (.tmp 88) rfl D D D12.out D12.out rfl rfl W).trans (by rw [decide_eq_true (rfl : D = D)])) ?_
  simp only [Act.put, List.setIfInBounds_toArray, List.set_cons_zero, List.set_cons_succ]
  refine held_take 44 (v := ?_) rfl (by kernel_rfl) (by kernel_rfl) (by kernel_rfl) (fun _ _ _ h => h) (by assumption) (by rfl) ?_ ?_
  rotate_left
  · (intro W hW; go_simp; try with_reducible rfl)
  simp only [Act.put, List.setIfInBounds_toArray, List.set_cons_zero, List.set_cons_succ]
  refine held_take 45 (v := ?_) rfl (by kernel_rfl) (by kernel_rfl) (by kernel_rfl) (fun _ _ _ h => h) (by assumption) (by rfl) ?_ ?_
  rotate_left
  · (intro W hW; go_simp; try with_reducible rfl)
  simp only [Act.put, List.setIfInBounds_toArray, List.set_cons_zero, List.set_cons_succ]
  refine held_take 48 (v := ?_) rfl (by kernel_rfl) (by kernel_rfl) (by kernel_rfl) (fun _ _ _ h => h) (by assumption) (by rfl) ?_ ?_
  rotate_left
  · (intro W hW; go_simp; try with_reducible rfl)
  simp only [Act.put, List.setIfInBounds_toArray, List.set_cons_zero, List.set_cons_succ]
  have k1 := hS1.next (below_one W1 (.cells #[.int .u8 118] 5))
  refine held_makes 46 (v := .slice (some ⟨W1.heap.size, 0, none⟩) 1 1) (w' := W1.alloc (.cells #[.int .u8 118] 5)) rfl (by kernel_rfl) (by rfl) (by go_simp) k1 ?_
  simp only [Act.put, List.setIfInBounds_toArray, List.set_cons_zero, List.set_cons_succ]
  have k2 := hS1.next (below_one W1 (.cells #[.int .u8 118] 5 (1, 2)))
  refine held_makes 47 (v := .slice (some ⟨W1.heap.size, 0, none⟩) 1 1) (w' := W1.alloc (.cells #[.int .u8 118] 5 (1, 2))) rfl (by kernel_rfl) (by rfl) (run_const_bytes (.tmp 92) rfl W1 _ 1 1 rfl) k2 ?_
  simp only [Act.put, List.setIfInBounds_toArray, List.set_cons_zero, List.set_cons_succ]
  have hr := rowAt_built W1 [118] 1 #[.int .u8 118] rfl rfl (by omega) (1, 2)
  have C1 := right_any 7 [115] [118] D (some ⟨W1.heap.size, 0, none⟩) (some ⟨G, 0, none⟩) 1 1 16 16 (W1.alloc (.cells #[.int .u8 118] 5 (1, 2))) rfl (by omega) (by simp) D12.out (by omega) hr (rowAt_dig D12.out k2.dig) (HT.out.next k2.bel)
  rw [E12.out] at C1
  refine held_call 49 (f := 17) (args := #[.int .i64 7, .string ⟨#[115]⟩, .slice (some ⟨W1.heap.size, 0, none⟩) 1 1, .slice (some ⟨G, 0, none⟩) 16 16]) rfl (by kernel_rfl) (by rfl) (by go_simp) ?_
  refine C1.mono ?_
  rintro e W2 ⟨rfl, b1⟩
  have hS := k2.next b1
  refine ⟨_, rfl, hS, ?_⟩
  simp only [Act.put, List.setIfInBounds_toArray, List.set_cons_zero, List.set_cons_succ]
  clear k1 k2 hr C1 b1
  refine held_take 50 (v := ?_) rfl (by kernel_rfl) (by kernel_rfl) (by kernel_rfl) (fun _ _ _ h => h) (by assumption) (by rfl) ?_ ?_
  rotate_left
  · (intro W hW; go_simp; try with_reducible rfl)
  simp only [Act.put, List.setIfInBounds_toArray, List.set_cons_zero, List.set_cons_succ]
  refine held_take 51 (v := ?_) rfl (by kernel_rfl) (by kernel_rfl) (by kernel_rfl) (fun _ _ _ h => h) (by assumption) (by rfl) ?_ ?_
  rotate_left
  · (intro W hW; go_simp; try with_reducible rfl)
  simp only [Act.put, List.setIfInBounds_toArray, List.set_cons_zero, List.set_cons_succ]
  refine held_take 54 (v := ?_) rfl (by kernel_rfl) (by kernel_rfl) (by kernel_rfl) (fun _ _ _ h => h) (by assumption) (by rfl) ?_ ?_
  rotate_left
  · (intro W hW; go_simp; try with_reducible rfl)
  simp only [Act.put, List.setIfInBounds_toArray, List.set_cons_zero, List.set_cons_succ]
  have k1 := hS.next (below_one W2 (.cells #[.int .u8 118] 5))
  refine held_makes 52 (v := .slice (some ⟨W2.heap.size, 0, none⟩) 1 1) (w' := W2.alloc (.cells #[.int .u8 118] 5)) rfl (by kernel_rfl) (by rfl) (by go_simp) k1 ?_
  simp only [Act.put, List.setIfInBounds_toArray, List.set_cons_zero, List.set_cons_succ]
  have k2 := hS.next (below_one W2 (.cells #[.int .u8 118] 5 (1, 2)))
  refine held_makes 53 (v := .slice (some ⟨W2.heap.size, 0, none⟩) 1 1) (w' := W2.alloc (.cells #[.int .u8 118] 5 (1, 2))) rfl (by kernel_rfl) (by rfl) (run_const_bytes (.tmp 98) rfl W2 _ 1 1 rfl) k2 ?_
  simp only [Act.put, List.setIfInBounds_toArray, List.set_cons_zero, List.set_cons_succ]
  have hr := rowAt_built W2 [118] 1 #[.int .u8 118] rfl rfl (by omega) (1, 2)
  have C1 := right_any 8 [115] [118] D (some ⟨W2.heap.size, 0, none⟩) (some ⟨G, 0, none⟩) 1 1 16 16 (W2.alloc (.cells #[.int .u8 118] 5 (1, 2))) rfl (by omega) (by simp) D12.out (by omega) hr (rowAt_dig D12.out k2.dig) (HT.out.next k2.bel)
  rw [F12.out] at C1
  refine held_call 55 (f := 17) (args := #[.int .i64 8, .string ⟨#[115]⟩, .slice (some ⟨W2.heap.size, 0, none⟩) 1 1, .slice (some ⟨G, 0, none⟩) 16 16]) rfl (by kernel_rfl) (by rfl) (by go_simp) ?_
  refine C1.mono ?_
  rintro e W3 ⟨rfl, b1⟩
  have hS := k2.next b1
  refine ⟨_, rfl, hS, ?_⟩
  simp only [Act.put, List.setIfInBounds_toArray, List.set_cons_zero, List.set_cons_succ]
  clear k1 k2 hr C1 b1
  refine held_take 56 (v := ?_) rfl (by kernel_rfl) (by kernel_rfl) (by kernel_rfl) (fun _ _ _ h => h) (by assumption) (by rfl) ?_ ?_
  rotate_left
  · (intro W hW; go_simp; try with_reducible rfl)
  simp only [Act.put, List.setIfInBounds_toArray, List.set_cons_zero, List.set_cons_succ]
  refine held_take 57 (v := ?_) rfl (by kernel_rfl) (by kernel_rfl) (by kernel_rfl) (fun _ _ _ h => h) (by assumption) (by rfl) ?_ ?_
  rotate_left
  · (intro W hW; go_simp; try with_reducible rfl)
  simp only [Act.put, List.setIfInBounds_toArray, List.set_cons_zero, List.set_cons_succ]
  refine held_take 58 (v := ?_) rfl (by kernel_rfl) (by kernel_rfl) (by kernel_rfl) (fun _ _ _ h => h) (by assumption) (by rfl) ?_ ?_
  rotate_left
  · (intro W hW; go_simp; try with_reducible rfl)
  simp only [Act.put, List.setIfInBounds_toArray, List.set_cons_zero]
  refine held_done (by kernel_rfl) ?_
  go_wp2
  go_ret
  exact ⟨rfl, hS.bel⟩
end Go.Proofs.YtjalhlofpoknoaaDoor
