/- == of what requests tell; contract of awake. -/
import Derived.Test.YtbbfhajokiajpaaSe
namespace Go.Proofs.Ytbbfhajokiajpaa
open Go.RowKit

theorem guardLg : Try.prog.eqGuardType Try.prog.depth 23 = false := by kernel_rfl
theorem eq_lg (s u : List UInt8) (w : World) : (Op.equalIn 10000 23 (.agg (lcells s u).toArray) (.agg (lcells s u).toArray)).run Try.prog w = .ok true w := by
  simp only [lcells]
  go_simp
theorem run_eql_lg {o : Oper} {a : Act} (x y : Operand) (ho : o.op = .binOp .eql 23 x y 23) (s u : List UInt8) (hx : a.eval x = .agg (lcells s u).toArray) (hy : a.eval y = .agg (lcells s u).toArray) (W : World) :
    (execOp a.eval o).run Try.prog W = .ok (.value (.bool true)) W := by
  unfold execOp
  simp only [ho, hx, hy, Sem.run_bind, run_eqGuard_agg W .eql 23 x y _ _ guardLg, run_eql_struct, eq_lg, Result.andThen_ok, Sem.run_pure]
theorem run_neq_lg {o : Oper} {a : Act} (x y : Operand) (ho : o.op = .binOp .neq 23 x y 23) (s u : List UInt8) (hx : a.eval x = .agg (lcells s u).toArray) (hy : a.eval y = .agg (lcells s u).toArray) (W : World) :
    (execOp a.eval o).run Try.prog W = .ok (.value (.bool false)) W := by
  unfold execOp
  simp only [ho, hx, hy, Sem.run_bind, run_eqGuard_agg W .neq 23 x y _ _ guardLg, run_neq_struct, eq_lg, Result.andThen_ok, Sem.run_pure, Bool.not_true]
/-- What a request tells, in a block of its own. -/
def LgAt (w : World) (g : Nat) (s u : List UInt8) : Prop := w.heap[g]? = some (.cells (lcells s u).toArray 23 (0, 0))
theorem LgAt.next {w w' : World} {g : Nat} {s u : List UInt8} (h : LgAt w g s u) (b : Below w.heap.size w w') : LgAt w' g s u := block_next h b
theorem run_load_lg {W : World} {o : Oper} {a : Act} (x : Operand) (ho : o.op = .load 23 x) (R : Nat) (s u : List UInt8) (hx : a.eval x = .pointer (some ⟨R, 0, none⟩)) (hR : LgAt W R s u) :
    (execOp a.eval o).run Try.prog W = .ok (.value (.agg (lcells s u).toArray)) W := by
  unfold execOp
  simp only [ho, hx, Instr.loadAt, Instr.sureAddr, Sem.run_bind, Sem.run_pure, Result.andThen_ok, run_loadVar_row W R 23 23 _ _ _ hR Try.underlying23 rfl infoLg]
/-- What a request tells, laid into a new block. -/
def lgIn (w : World) (s u : List UInt8) : World := (w.alloc (.cells (lcells [] []).toArray 23)).setRow w.heap.size (lcells s u).toArray
theorem lgIn_at (w : World) (s u : List UInt8) : LgAt (lgIn w s u) w.heap.size s u := setRow_heap _ _ _ _ _ _ (heap_alloc_new w _)
theorem lgIn_below (w : World) (s u : List UInt8) : Below w.heap.size w (lgIn w s u) := below_setRow (below_one w _) (Nat.le_refl _) _
theorem wpList_lgIn {w : World} {ops : Array Oper} {rest : List Oper} {o : Oper} {a : Act} {Q : Exit → Act → World → Prop} (hgd : o.guard = none) (x y : Operand) (ho : o.op = .store 23 x y) (s u : List UInt8)
    (hx : a.eval x = .pointer (some ⟨w.heap.size, 0, none⟩)) (hy : a.eval y = .agg (lcells s u).toArray)
    (h : ∀ w', LgAt w' w.heap.size s u → Below w.heap.size w w' → wpList Try.prog ops Q rest (a.put o.dst undef) w') : wpList Try.prog ops Q (o :: rest) a (w.alloc (.cells (lcells [] []).toArray 23)) :=
  wpList_store_lg hgd x y ho w.heap.size s u _ hx hy (heap_alloc_new w _) rfl (h (lgIn w s u) (lgIn_at w s u) (lgIn_below w s u))
theorem PutRes.at {w w' : World} {e : Ending} {A : List UInt8 × Nat} (h : PutRes w w' e A) {xs : List UInt8} {k n : Nat} {z : Int} (hA : A = (xs, k)) (hn : xs.length = n) (hz : (k : Int) = z) :
    ∃ p c, e = .returned (.tuple #[.slice p n c, .int .i64 z]) ∧ RowAt w' p c xs ∧ Below w.heap.size w w' := by
  subst hA
  subst hn
  subst hz
  obtain ⟨v, rfl, p, c, rfl, o⟩ := h
  exact ⟨p, c, rfl, o.row, o.bel⟩
theorem AskRes.at {w w' : World} {e : Ending} {A : List UInt8 × List UInt8 × Nat} (h : AskRes w w' e A) {s u : List UInt8} {k : Nat} {z : Int} (hA : A = (s, u, k)) (hz : (k : Int) = z) : e = .returned (.tuple #[.agg (lcells s u).toArray, .int .i64 z]) ∧ Below w.heap.size w w' := by
  subst hA
  subst hz
  exact h
theorem SayRes.at {w w' : World} {e : Ending} {A : List UInt8 × Nat} (h : SayRes w w' e A) {s : List UInt8} {k : Nat} {z : Int} (hA : A = (s, k)) (hz : (k : Int) = z) : e = .returned (.tuple #[.string ⟨s.toArray⟩, .int .i64 z]) ∧ Below w.heap.size w w' := by
  subst hA
  subst hz
  exact h
namespace Aw
def z256 : List UInt8 := List.replicate 256 0
theorem made : madeCells #[.int .u8 0] 256 = (Lib.byteCells z256).toArray := by
  rw [← Array.toArray_toList (xs := madeCells #[.int .u8 0] 256), toList_madeCells_one, z256, Lib.byteCells, List.map_replicate]
  rfl
theorem len : z256.length = 256 := List.length_replicate
theorem ask1 : Pp.ask [1, 97, 2, 98, 99] = ([97], [98, 99], 0) := by decide
theorem put1 : Pp.put [[97], [98, 99]] = ([1, 97, 2, 98, 99], 0) := by decide
theorem say1 : Pp.say [0] = ([], 0) := by decide
theorem put2 : Pp.put [[104, 105]] = ([2, 104, 105], 0) := by decide
theorem ask2 : Pp.ask [1, 97] = ([], [], 2) := by decide
theorem say2 : Pp.say [0, 0] = ([], 3) := by decide
theorem put3 : Pp.put [z256] = ([], 4) := Pp.put_bad (by rw [Pp.bad_one, len]; rfl)
end Aw
set_option maxRecDepth 100000 in
set_option maxHeartbeats 2000000 in
theorem awake_any (w : World) : Calls Try.prog 8 #[] w fun e w' => e = .returned (.bool true) ∧ Below w.heap.size w w' := by
  have b0 := below_one w (.cells #[.int .u8 1, .int .u8 97, .int .u8 2, .int .u8 98, .int .u8 99] 5)
  have C1 := Lib.hid (readAsk_any (some ⟨w.heap.size, 0, none⟩) 5 5 [1, 97, 2, 98, 99] _ rfl (by omega) (rowAt_built w [1, 97, 2, 98, 99] 5 #[.int .u8 1, .int .u8 97, .int .u8 2, .int .u8 98, .int .u8 99] rfl rfl (by omega) (0, 0)))
  have B0 := Lib.hid b0
  rw [Aw.ask1] at C1
  clear b0
  go_enter Try.func8, Try.ntmps8
  go_wp2_with fail
  refine C1.out.mono ?_
  rintro e w1 ⟨rfl, b1⟩
  have B1 := Lib.hid (Below.chain B0.out b1)
  clear C1 B0 b1
  go_wp2_with (first
    | (refine wpList_lgIn (w := w1) rfl (.tmp 1) (.tmp 18) rfl [97] [98, 99] rfl rfl ?_; intro W2 l2 b2; have L2 := Lib.hid l2; have B2 := Lib.hid (Below.chain B1.out b2); clear l2 b2 B1)
    | (refine wpList_value (by rfl) (run_load_lg (.tmp 1) rfl w1.heap.size [97] [98, 99] rfl L2.out) ?_))
  refine (putAsk_any [97] [98, 99] W2).mono ?_
  intro e w3 p3
  obtain ⟨pb, cb, rfl, r3, b3⟩ := p3.at (n := 5) (z := 0) Aw.put1 rfl rfl
  have L3 := Lib.hid (L2.out.next b3)
  have B3 := Lib.hid (Below.chain B2.out b3)
  have R3 := Lib.hid r3
  clear L2 B2 p3 r3 b3
  have b4 := below_one w3 (.cells #[.int .u8 0] 5)
  have C4 := Lib.hid (readSay_any (some ⟨w3.heap.size, 0, none⟩) 1 1 [0] _ rfl (by omega) (rowAt_built w3 [0] 1 #[.int .u8 0] rfl rfl (by omega) (0, 0)))
  have B4 := Lib.hid (Below.chain B3.out b4)
  have L4 := Lib.hid (L3.out.next b4)
  have R4 := Lib.hid (R3.out.next b4)
  clear B3 L3 R3 b4
  go_wp2_with fail
  refine C4.out.mono ?_
  intro e w5 p5
  obtain ⟨rfl, b5⟩ := p5.at (z := 0) Aw.say1 rfl
  have B5 := Lib.hid (Below.chain B4.out b5)
  have L5 := Lib.hid (L4.out.next b5)
  have R5 := Lib.hid (R4.out.next b5)
  clear B4 L4 R4 p5 b5 C4
  go_wp2_with fail
  refine (putSay_any [104, 105] w5).mono ?_
  intro e w6 p6
  obtain ⟨pc, cc, rfl, r6, b6⟩ := p6.at (n := 3) (z := 0) Aw.put2 rfl rfl
  have B6 := Lib.hid (Below.chain B5.out b6)
  have L6 := Lib.hid (L5.out.next b6)
  have R6 := Lib.hid (R5.out.next b6)
  have S6 := Lib.hid r6
  clear B5 L5 R5 p6 b6 r6
  have b7 := below_one w6 (.cells #[.int .u8 1, .int .u8 97] 5)
  have C7 := Lib.hid (readAsk_any (some ⟨w6.heap.size, 0, none⟩) 2 2 [1, 97] _ rfl (by omega) (rowAt_built w6 [1, 97] 2 #[.int .u8 1, .int .u8 97] rfl rfl (by omega) (0, 0)))
  have B7 := Lib.hid (Below.chain B6.out b7)
  have L7 := Lib.hid (L6.out.next b7)
  have R7 := Lib.hid (R6.out.next b7)
  have S7 := Lib.hid (S6.out.next b7)
  clear B6 L6 R6 S6 b7
  go_wp2_with fail
  refine C7.out.mono ?_
  intro e w8 p8
  obtain ⟨rfl, b8⟩ := p8.at (z := 2) Aw.ask2 rfl
  have B8 := Lib.hid (Below.chain B7.out b8)
  have L8 := Lib.hid (L7.out.next b8)
  have R8 := Lib.hid (R7.out.next b8)
  have S8 := Lib.hid (S7.out.next b8)
  clear B7 L7 R7 S7 p8 b8 C7
  go_wp2_with (refine wpList_lgIn (w := w8) rfl (.tmp 9) (.tmp 37) rfl [] [] rfl rfl ?_; intro W9 l9 b9; have B9 := Lib.hid (Below.chain B8.out b9); have L9 := Lib.hid (L8.out.next b9); have R9 := Lib.hid (R8.out.next b9); have S9 := Lib.hid (S8.out.next b9); clear B8 L8 R8 S8 l9 b9)
  have b10 := below_one W9 (.cells #[.int .u8 0, .int .u8 0] 5)
  have C10 := Lib.hid (readSay_any (some ⟨W9.heap.size, 0, none⟩) 2 2 [0, 0] _ rfl (by omega) (rowAt_built W9 [0, 0] 2 #[.int .u8 0, .int .u8 0] rfl rfl (by omega) (0, 0)))
  have B10 := Lib.hid (Below.chain B9.out b10)
  have L10 := Lib.hid (L9.out.next b10)
  have R10 := Lib.hid (R9.out.next b10)
  have S10 := Lib.hid (S9.out.next b10)
  clear B9 L9 R9 S9 b10
  refine C10.out.mono ?_
  intro e w11 p11
  obtain ⟨rfl, b11⟩ := p11.at (z := 3) Aw.say2 rfl
  have B11 := Lib.hid (Below.chain B10.out b11)
  have L11 := Lib.hid (L10.out.next b11)
  have R11 := Lib.hid (R10.out.next b11)
  have S11 := Lib.hid (S10.out.next b11)
  clear B10 L10 R10 S10 p11 b11 C10
  have hmk : ∀ W, (Instr.makeSlice 25 (.int .i64 256) (.int .i64 256)).run Try.prog W = .ok (.slice (some ⟨W.heap.size, 0, none⟩) 256 256) (W.alloc (.cells (Lib.byteCells Aw.z256).toArray 5)) := fun W => by
    have := run_make_row' (P := Try.prog) 25 5 (.int .u8 0) 1 Try.underlying25 info5 rfl .i64 .i64 256 (by omega) (by omega) W
    rw [Aw.made] at this
    exact this
  have hcv := conv_row (n := 256) Aw.len (rowAt_built w11 Aw.z256 256 _ Aw.len rfl (by omega) (0, 0))
  have b12 := below_one w11 (.cells (Lib.byteCells Aw.z256).toArray 5)
  have B12 := Lib.hid (Below.chain B11.out b12)
  have L12 := Lib.hid (L11.out.next b12)
  have R12 := Lib.hid (R11.out.next b12)
  have S12 := Lib.hid (S11.out.next b12)
  have hp := Aw.put3
  have HP := Lib.hid hp
  clear B11 L11 R11 S11 b12 hp
  generalize Aw.z256 = Z at *
  go_wp2_with fail
  refine (putSay_any Z _).mono ?_
  intro e w13 p13
  obtain ⟨pz, cz, rfl, _, b13⟩ := p13.at (n := 0) (z := 4) HP.out rfl rfl
  have B13 := Lib.hid (Below.chain B12.out b13)
  have L13 := L12.out.next b13
  have x1 : (convert 25 9 (.slice pb 5 cb)).run Try.prog w13 = .ok (.string ⟨#[1, 97, 2, 98, 99]⟩) w13 := conv_row (n := 5) rfl (R12.out.next b13)
  have x2 : (convert 25 9 (.slice pc 3 cc)).run Try.prog w13 = .ok (.string ⟨#[2, 104, 105]⟩) w13 := conv_row (n := 3) rfl (S12.out.next b13)
  clear B12 L12 R12 S12 p13 b13 hcv hmk HP
  go_wp2_with (first
    | (refine wpList_value (by rfl) (run_build_lg (s := [97]) (u := [98, 99]) rfl rfl rfl _) ?_)
    | (refine wpList_value (by rfl) (run_eql_lg (.tmp 53) (.tmp 54) rfl [97] [98, 99] rfl rfl _) ?_)
    | (refine wpList_value (by rfl) (run_load_lg (.tmp 1) rfl w1.heap.size [97] [98, 99] rfl L13) ?_))
  go_ret
  exact ⟨rfl, B13.out⟩
end Go.Proofs.Ytbbfhajokiajpaa
