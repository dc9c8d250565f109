/- The walk of PacketParts. -/
import Derived.Test.YtbpkhjjabnboaaaPj
import Derived.Test.YtbpkhjjabnboaaaOg
namespace Go.Proofs.Ytbpkhjjabnboaaa
open Go.RowKit S2 S12

/-- What the last region reads. -/
structure PartsS (W : World) (S : Nat) (x y : Pk.P) (p q : Option Addr) (n m c d : Nat) (R T : List UInt8) (a1 a2 a3 a4 : Option Addr) (c1 c2 c3 c4 : Nat) : Prop where
  px : W.heap[S]? = some (.cells #[.int .i64 x.code, .int .i64 x.id, .slice p n c] 24 (0, 0))
  py : W.heap[S + 1]? = some (.cells #[.int .i64 y.code, .int .i64 y.id, .slice q m d] 24 (0, 0))
  r1 : RowAt W a1 c1 R
  r2 : RowAt W a2 c2 R
  r3 : RowAt W a3 c3 T
  r4 : RowAt W a4 c4 T
theorem PartsS.next {W W' : World} {S : Nat} {x y : Pk.P} {p q : Option Addr} {n m c d : Nat} {R T : List UInt8} {a1 a2 a3 a4 : Option Addr} {c1 c2 c3 c4 : Nat} (h : PartsS W S x y p q n m c d R T a1 a2 a3 a4 c1 c2 c3 c4) (b : Below W.heap.size W W') : PartsS W' S x y p q n m c d R T a1 a2 a3 a4 c1 c2 c3 c4 :=
  ⟨block_next h.px b, block_next h.py b, h.r1.next b, h.r2.next b, h.r3.next b, h.r4.next b⟩
section
variable {W : World} {S : Nat} {x y : Pk.P} {p q : Option Addr} {n m c d : Nat} {R T : List UInt8} {a1 a2 a3 a4 : Option Addr} {c1 c2 c3 c4 : Nat} (h : PartsS W S x y p q n m c d R T a1 a2 a3 a4 c1 c2 c3 c4)
include h
theorem PartsS.x0 : W.cell? ⟨S, 0, none⟩ = some (.int .i64 x.code) := cell_of_row _ _ 0 _ _ _ h.px
theorem PartsS.x1 : W.cell? ⟨S, 1, none⟩ = some (.int .i64 x.id) := cell_of_row _ _ 1 _ _ _ h.px
theorem PartsS.x2 : W.cell? ⟨S, 2, none⟩ = some (.slice p n c) := cell_of_row _ _ 2 _ _ _ h.px
theorem PartsS.y0 : W.cell? ⟨S + 1, 0, none⟩ = some (.int .i64 y.code) := cell_of_row _ _ 0 _ _ _ h.py
theorem PartsS.y1 : W.cell? ⟨S + 1, 1, none⟩ = some (.int .i64 y.id) := cell_of_row _ _ 1 _ _ _ h.py
theorem PartsS.y2 : W.cell? ⟨S + 1, 2, none⟩ = some (.slice q m d) := cell_of_row _ _ 2 _ _ _ h.py
end

set_option maxRecDepth 100000 in
set_option maxHeartbeats 1000000 in
theorem parts_walk (x y : Pk.P) (p q : Option Addr) (c d : Nat) (w : World) (hx : RowAt w p c x.data) (hy : RowAt w q d y.data) :
    Calls Try.prog 6 #[.agg (pcells x (.slice p x.data.length c)).toArray, .agg (pcells y (.slice q y.data.length d)).toArray] w fun e w' => e = .returned (.bool true) ∧ Below w.heap.size w w' := by
  obtain ⟨n, hn⟩ : ∃ n, x.data.length = n := ⟨_, rfl⟩
  obtain ⟨m, hm⟩ : ∃ m, y.data.length = m := ⟨_, rfl⟩
  rw [hn, hm]
  have h0 := two_pkts w (pcells x (.slice p n c)).toArray (pcells y (.slice q m d)).toArray
  have B0 := Lib.hid h0.1
  have D0 := Lib.hid h0.2.1
  have E0 := Lib.hid h0.2.2
  have HX := Lib.hid (hx.next h0.1)
  have HY := Lib.hid (hy.next h0.1)
  have HN := Lib.hid hn
  have HM := Lib.hid hm
  simp only [pcells] at B0 D0 E0 HX HY ⊢
  clear h0 hx hy hn hm
  go_enter Try.func6, Try.ntmps6
  go_wp2_with fail
  generalize (w.alloc (.cells #[.int .i64 x.code, .int .i64 x.id, .slice p n c] 24)).alloc (.cells #[.int .i64 y.code, .int .i64 y.id, .slice q m d] 24) = w0 at *
  refine (awake_any w0).mono ?_
  rintro e w1 ⟨rfl, b1⟩
  have B1 := Lib.hid (Below.chain B0.out b1)
  have D1 := Lib.hid (block_next D0.out b1)
  have E1 := Lib.hid (block_next E0.out b1)
  have X1 := Lib.hid (HX.out.next b1)
  have Y1 := Lib.hid (HY.out.next b1)
  clear b1 B0 D0 E0 HX HY
  have d0 : w1.cell? ⟨w.heap.size, 2, none⟩ = some (.slice p n c) := cell_of_row _ _ 2 _ _ _ D1.out
  have e0 : w1.cell? ⟨w.heap.size + 1, 2, none⟩ = some (.slice q m d) := cell_of_row _ _ 2 _ _ _ E1.out
  by_cases hbig : (3000 : Int) < (n : Int) ∨ (3000 : Int) < (m : Int)
  · clear X1 Y1 D1 E1 HN HM
    by_cases h1 : (3000 : Int) < (n : Int)
    · clear hbig
      go_wp2_with fail
      refine (awake_any w1).mono ?_
      rintro e w2 ⟨rfl, b2⟩
      have B2 := Lib.hid (Below.chain B1.out b2)
      clear b2 B1 d0 e0
      go_wp2
      go_ret
      exact ⟨rfl, B2.out⟩
    · have h2 : (3000 : Int) < (m : Int) := by omega
      clear hbig
      go_wp2_with fail
      refine (awake_any w1).mono ?_
      rintro e w2 ⟨rfl, b2⟩
      have B2 := Lib.hid (Below.chain B1.out b2)
      clear b2 B1 d0 e0
      go_wp2
      go_ret
      exact ⟨rfl, B2.out⟩
  · have h1 : ¬ (3000 : Int) < (n : Int) := by omega
    have h2 : ¬ (3000 : Int) < (m : Int) := by omega
    clear hbig
    have c1 := Lib.hid (fun (W : World) (r : RowAt W p c x.data) => options_any x p n c W HN.out (by omega) r)
    have c2 := Lib.hid (fun (W : World) (r : RowAt W p c x.data) => refOptions_any x p n c W HN.out (by omega) r)
    have c3 := Lib.hid (fun (W : World) (r : RowAt W p c x.data) => magic_any x p n c W HN.out (by omega) r)
    have c4 := Lib.hid (fun (W : World) (r : RowAt W p c x.data) => refMagic_any x p n c W HN.out (by omega) r)
    have c5 := Lib.hid (fun (W : World) (r : RowAt W p c x.data) => rejected_any x p n c W HN.out (by omega) r)
    have c6 := Lib.hid (fun (W : World) (r : RowAt W p c x.data) => refRejected_any x p n c W HN.out (by omega) r)
    have s1 := Lib.hid (fun (W : World) (r : RowAt W p c x.data) (s : RowAt W q d y.data) => same_any x y p q n m c d W HN.out HM.out r s)
    have s2 := Lib.hid (fun (W : World) (r : RowAt W p c x.data) (s : RowAt W q d y.data) => refSame_any x y p q n m c d W HN.out HM.out r s)
    have s3 := Lib.hid (fun (W : World) (r : RowAt W p c x.data) => by have := same_any x x p p n n c c W HN.out HN.out r r; rw [decide_eq_true (rfl : x = x)] at this; exact this)
    have hol : (Pk.options x).1.length ≤ 1000000 := by have := Pk.options_len x; have := HN.out; omega
    generalize decide (x = y) = Z at *
    simp only [pcells] at c1 c2 c3 c4 c5 c6 s1 s2 s3
    generalize Pk.options x = A at *
    generalize Pk.magic x = M at *
    generalize Pk.rejected x = J at *
    obtain ⟨L, o⟩ := A
    obtain ⟨mn, mr, mo⟩ := M
    obtain ⟨jn, jr, jo⟩ := J
    have t1 := D1.out
    go_wp2_with (refine wpList_load_row rfl 24 (.tmp 2) rfl w.heap.size rfl 24 #[.int .i64 x.code, .int .i64 x.id, .slice p n c] (0, 0) _ t1 Try.underlying24 rfl infoPkt ?_)
    refine (c1.out w1 X1.out).mono ?_
    rintro e w2 ⟨v2, rfl, o2, b2⟩
    obtain ⟨la, lc, rfl, L2⟩ := Opts.at o2
    have B2 := Lib.hid (Below.chain B1.out b2)
    have D2 := Lib.hid (block_next D1.out b2)
    have E2 := Lib.hid (block_next E1.out b2)
    have X2 := Lib.hid (X1.out.next b2)
    have Y2 := Lib.hid (Y1.out.next b2)
    have LL2 := Lib.hid L2
    clear b2 o2 L2 B1 D1 E1 X1 Y1 t1 d0 e0 c1
    have t2 := D2.out
    go_wp2_with (refine wpList_load_row rfl 24 (.tmp 2) rfl w.heap.size rfl 24 #[.int .i64 x.code, .int .i64 x.id, .slice p n c] (0, 0) _ t2 Try.underlying24 rfl infoPkt ?_)
    refine (c2.out w2 X2.out).mono ?_
    rintro e w3 ⟨v3, rfl, o3, b3⟩
    obtain ⟨ka, kc, rfl, K3⟩ := Opts.at o3
    have B3 := Lib.hid (Below.chain B2.out b3)
    have D3 := Lib.hid (block_next D2.out b3)
    have E3 := Lib.hid (block_next E2.out b3)
    have X3 := Lib.hid (X2.out.next b3)
    have Y3 := Lib.hid (Y2.out.next b3)
    have LL3 := Lib.hid (LL2.out.next b3)
    have KK3 := Lib.hid K3
    clear b3 o3 K3 B2 D2 E2 X2 Y2 t2 c2 LL2
    have t3 := D3.out
    go_wp2_with (refine wpList_load_row rfl 24 (.tmp 2) rfl w.heap.size rfl 24 #[.int .i64 x.code, .int .i64 x.id, .slice p n c] (0, 0) _ t3 Try.underlying24 rfl infoPkt ?_)
    refine (c3.out w3 X3.out).mono ?_
    intro e w4 h4
    obtain ⟨a1, c1, rfl, _, r4, b4⟩ := h4.row
    have B4 := Lib.hid (Below.chain B3.out b4)
    have D4 := Lib.hid (block_next D3.out b4)
    have E4 := Lib.hid (block_next E3.out b4)
    have X4 := Lib.hid (X3.out.next b4)
    have Y4 := Lib.hid (Y3.out.next b4)
    have LL4 := Lib.hid (LL3.out.next b4)
    have KK4 := Lib.hid (KK3.out.next b4)
    have R4 := Lib.hid r4
    clear b4 h4 r4 B3 D3 E3 X3 Y3 t3 c3 LL3 KK3
    have t4 := D4.out
    go_wp2_with (refine wpList_load_row rfl 24 (.tmp 2) rfl w.heap.size rfl 24 #[.int .i64 x.code, .int .i64 x.id, .slice p n c] (0, 0) _ t4 Try.underlying24 rfl infoPkt ?_)
    refine (c4.out w4 X4.out).mono ?_
    intro e w5 h5
    obtain ⟨a2, c2, rfl, _, r5, b5⟩ := h5.row
    have B5 := Lib.hid (Below.chain B4.out b5)
    have D5 := Lib.hid (block_next D4.out b5)
    have E5 := Lib.hid (block_next E4.out b5)
    have X5 := Lib.hid (X4.out.next b5)
    have Y5 := Lib.hid (Y4.out.next b5)
    have LL5 := Lib.hid (LL4.out.next b5)
    have KK5 := Lib.hid (KK4.out.next b5)
    have R5 := Lib.hid (R4.out.next b5)
    have Q5 := Lib.hid r5
    clear b5 h5 r5 B4 D4 E4 X4 Y4 t4 c4 LL4 KK4 R4
    have t5 := D5.out
    go_wp2_with (refine wpList_load_row rfl 24 (.tmp 2) rfl w.heap.size rfl 24 #[.int .i64 x.code, .int .i64 x.id, .slice p n c] (0, 0) _ t5 Try.underlying24 rfl infoPkt ?_)
    refine (c5.out w5 X5.out).mono ?_
    intro e w6 h6
    obtain ⟨a3, c3, rfl, _, r6, b6⟩ := h6.row
    have B6 := Lib.hid (Below.chain B5.out b6)
    have D6 := Lib.hid (block_next D5.out b6)
    have E6 := Lib.hid (block_next E5.out b6)
    have X6 := Lib.hid (X5.out.next b6)
    have Y6 := Lib.hid (Y5.out.next b6)
    have LL6 := Lib.hid (LL5.out.next b6)
    have KK6 := Lib.hid (KK5.out.next b6)
    have R6 := Lib.hid (R5.out.next b6)
    have Q6 := Lib.hid (Q5.out.next b6)
    have J6 := Lib.hid r6
    clear b6 h6 r6 B5 D5 E5 X5 Y5 t5 c5 LL5 KK5 R5 Q5
    have t6 := D6.out
    go_wp2_with (refine wpList_load_row rfl 24 (.tmp 2) rfl w.heap.size rfl 24 #[.int .i64 x.code, .int .i64 x.id, .slice p n c] (0, 0) _ t6 Try.underlying24 rfl infoPkt ?_)
    refine (c6.out w6 X6.out).mono ?_
    intro e w7 h7
    obtain ⟨a4, c4, rfl, _, r7, b7⟩ := h7.row
    have B7 := Lib.hid (Below.chain B6.out b7)
    have hS : PartsS w7 w.heap.size x y p q n m c d mr jr a1 a2 a3 a4 c1 c2 c3 c4 := ⟨block_next D6.out b7, block_next E6.out b7, R6.out.next b7, Q6.out.next b7, J6.out.next b7, r7⟩
    have X7 := Lib.hid (X6.out.next b7)
    have Y7 := Lib.hid (Y6.out.next b7)
    have LL7 := Lib.hid (LL6.out.next b7)
    have KK7 := Lib.hid (KK6.out.next b7)
    clear b7 h7 r7 B6 D6 E6 X6 Y6 t6 c6 LL6 KK6 R6 Q6 J6
    simp only
    obtain ⟨NL, hNL⟩ : ∃ NL, L.length = NL := ⟨_, rfl⟩
    have HNL := Lib.hid hNL
    obtain ⟨NM, hNM⟩ : ∃ NM, mr.length = NM := ⟨_, rfl⟩
    have HNM := Lib.hid hNM
    obtain ⟨NJ, hNJ⟩ : ∃ NJ, jr.length = NJ := ⟨_, rfl⟩
    have HNJ := Lib.hid hNJ
    simp only [hNL, hNM, hNJ] at hol ⊢
    clear hNL hNM hNJ
    go_wp2_with fail
    refine held_start (S := fun W => PartsS W w.heap.size x y p q n m c d mr jr a1 a2 a3 a4 c1 c2 c3 c4) 57 (by kernel_rfl) rfl ?_
    have hSd : PartsS w7.drew w.heap.size x y p q n m c d mr jr a1 a2 a3 a4 c1 c2 c3 c4 := hS.next (Below.refl _ _).drew
    have B8 := Lib.hid B7.out.drew
    have X8 := Lib.hid (X7.out.next (Below.refl _ _).drew)
    have Y8 := Lib.hid (Y7.out.next (Below.refl _ _).drew)
    have LL8 := Lib.hid (LL7.out.next (Below.refl _ _).drew)
    have KK8 := Lib.hid (KK7.out.next (Below.refl _ _).drew)
    replace hS := hSd
    clear hSd B7 X7 Y7 LL7 KK7
    generalize w7.drew = W8 at *
    refine held_take 0 (v := ?_) rfl (by kernel_rfl) (by kernel_rfl) (by kernel_rfl) (fun _ _ _ h => h) (by assumption) (by rfl) ?_ ?_
    rotate_left
    · (intro W hW; go_simp; try with_reducible rfl)
    simp only [Act.put, List.setIfInBounds_toArray, List.set_cons_zero, List.set_cons_succ]
    refine held_take 1 (v := ?_) rfl (by kernel_rfl) (by kernel_rfl) (by kernel_rfl) (fun _ _ _ h => h) (by assumption) (by rfl) ?_ ?_
    rotate_left
    · (intro W hW; go_simp; try with_reducible rfl)
    simp only [Act.put, List.setIfInBounds_toArray, List.set_cons_zero, List.set_cons_succ]
    refine held_call 2 (f := 21) (args := #[.slice la NL lc, .slice ka NL kc]) rfl (by kernel_rfl) (by rfl) (by go_simp) ?_
    have sm := S12.refSame_any la ka NL NL lc kc L L W8 HNL.out HNL.out hol LL8.out KK8.out
    rw [decide_eq_true (rfl : L = L)] at sm
    refine sm.mono ?_
    rintro e W9 ⟨rfl, b9⟩
    replace hS := hS.next b9
    have B9 := Lib.hid (Below.chain B8.out b9)
    have X9 := Lib.hid (X8.out.next b9)
    have Y9 := Lib.hid (Y8.out.next b9)
    clear sm B8 X8 Y8 LL8 KK8 b9
    refine ⟨_, rfl, hS, ?_⟩
    simp only [Act.put, List.setIfInBounds_toArray, List.set_cons_zero, List.set_cons_succ]
    refine held_take 3 (v := ?_) rfl (by kernel_rfl) (by kernel_rfl) (by kernel_rfl) (fun _ _ _ h => h) (by assumption) (by rfl) ?_ ?_
    rotate_left
    · (intro W hW; go_simp; try with_reducible rfl)
    simp only [Act.put, List.setIfInBounds_toArray, List.set_cons_zero, List.set_cons_succ]
    refine held_take 4 (v := ?_) rfl (by kernel_rfl) (by kernel_rfl) (by kernel_rfl) (fun _ _ _ h => h) (by assumption) (by rfl) ?_ ?_
    rotate_left
    · (intro W hW; go_simp; try with_reducible rfl)
    simp only [Act.put, List.setIfInBounds_toArray, List.set_cons_zero, List.set_cons_succ]
    refine held_take 5 (v := ?_) rfl (by kernel_rfl) (by kernel_rfl) (by kernel_rfl) (fun _ _ _ h => h) (by assumption) (by rfl) ?_ ?_
    rotate_left
    · (intro W hW; go_simp; try with_reducible rfl)
    simp only [Act.put, List.setIfInBounds_toArray, List.set_cons_zero, List.set_cons_succ]
    refine held_take 6 (v := ?_) rfl (by kernel_rfl) (by kernel_rfl) (by kernel_rfl) (fun _ _ _ h => h) (by assumption) (by rfl) ?_ ?_
    rotate_left
    · (intro W hW; go_simp; try with_reducible rfl)
    simp only [Act.put, List.setIfInBounds_toArray, List.set_cons_zero, List.set_cons_succ]
    refine held_take 7 (v := ?_) rfl (by kernel_rfl) (by kernel_rfl) (by kernel_rfl) (fun _ _ _ h => h) (by assumption) (by rfl) ?_ ?_
    rotate_left
    · (intro W hW; go_simp; try with_reducible rfl)
    simp only [Act.put, List.setIfInBounds_toArray, List.set_cons_zero, List.set_cons_succ]
    refine held_take 8 (v := ?_) rfl (by kernel_rfl) (by kernel_rfl) (by kernel_rfl) (fun _ _ _ h => h) (by assumption) (by rfl) ?_ ?_
    rotate_left
    · (intro W hW; go_simp; try with_reducible rfl)
    simp only [Act.put, List.setIfInBounds_toArray, List.set_cons_zero, List.set_cons_succ]
    refine held_take 9 (v := ?_) rfl (by kernel_rfl) (by kernel_rfl) (by kernel_rfl) (fun _ _ _ h => h) (by assumption) (by rfl) ?_ ?_
    rotate_left
    · (intro W hW; go_simp; try with_reducible rfl)
    simp only [Act.put, List.setIfInBounds_toArray, List.set_cons_zero, List.set_cons_succ]
    refine held_take 10 (v := ?_) rfl (by kernel_rfl) (by kernel_rfl) (by kernel_rfl) (fun _ _ _ h => h) (by assumption) (by rfl) ?_ ?_
    rotate_left
    · (intro W hW; go_simp; try with_reducible rfl)
    simp only [Act.put, List.setIfInBounds_toArray, List.set_cons_zero, List.set_cons_succ]
    refine held_take 11 (v := ?_) rfl (by kernel_rfl) (by kernel_rfl) (by kernel_rfl) (fun _ _ _ h => h) (by assumption) (by rfl) ?_ ?_
    rotate_left
    · (intro W hW; go_simp; try with_reducible rfl)
    simp only [Act.put, List.setIfInBounds_toArray, List.set_cons_zero, List.set_cons_succ]
    refine held_take 12 (v := ?_) rfl (by kernel_rfl) (by kernel_rfl) (by kernel_rfl) (fun _ _ _ h => h) (by assumption) (by rfl) ?_ ?_
    rotate_left
    · (intro W hW; go_simp; try with_reducible rfl)
    simp only [Act.put, List.setIfInBounds_toArray, List.set_cons_zero, List.set_cons_succ]
    refine held_take 13 (v := ?_) rfl (by kernel_rfl) (by kernel_rfl) (by kernel_rfl) (fun _ _ _ h => h) (by assumption) (by rfl) ?_ ?_
    rotate_left
    · (intro W hW; go_simp; try with_reducible rfl)
    simp only [Act.put, List.setIfInBounds_toArray, List.set_cons_zero, List.set_cons_succ]
    refine held_take 14 (v := ?_) rfl (by kernel_rfl) (by kernel_rfl) (by kernel_rfl) (fun _ _ _ h => h) (by assumption) (by rfl) ?_ ?_
    rotate_left
    · (intro W hW; go_simp; try with_reducible rfl)
    simp only [Act.put, List.setIfInBounds_toArray, List.set_cons_zero, List.set_cons_succ]
    refine held_take 15 (v := ?_) rfl (by kernel_rfl) (by kernel_rfl) (by kernel_rfl) (fun _ _ _ h => h) (by assumption) (by rfl) ?_ ?_
    rotate_left
    · (intro W hW; have hc := conv_row HNM.out hW.r1; go_simp; try with_reducible rfl)
    simp only [Act.put, List.setIfInBounds_toArray, List.set_cons_zero, List.set_cons_succ]
    refine held_take 16 (v := ?_) rfl (by kernel_rfl) (by kernel_rfl) (by kernel_rfl) (fun _ _ _ h => h) (by assumption) (by rfl) ?_ ?_
    rotate_left
    · (intro W hW; go_simp; try with_reducible rfl)
    simp only [Act.put, List.setIfInBounds_toArray, List.set_cons_zero, List.set_cons_succ]
    refine held_take 17 (v := ?_) rfl (by kernel_rfl) (by kernel_rfl) (by kernel_rfl) (fun _ _ _ h => h) (by assumption) (by rfl) ?_ ?_
    rotate_left
    · (intro W hW; have hc := conv_row HNM.out hW.r2; go_simp; try with_reducible rfl)
    simp only [Act.put, List.setIfInBounds_toArray, List.set_cons_zero, List.set_cons_succ]
    refine held_take 18 (v := ?_) rfl (by kernel_rfl) (by kernel_rfl) (by kernel_rfl) (fun _ _ _ h => h) (by assumption) (by rfl) ?_ ?_
    rotate_left
    · (intro W hW; go_simp; try with_reducible rfl)
    simp only [Act.put, List.setIfInBounds_toArray, List.set_cons_zero, List.set_cons_succ]
    refine held_take 19 (v := ?_) rfl (by kernel_rfl) (by kernel_rfl) (by kernel_rfl) (fun _ _ _ h => h) (by assumption) (by rfl) ?_ ?_
    rotate_left
    · (intro W hW; go_simp; try with_reducible rfl)
    simp only [Act.put, List.setIfInBounds_toArray, List.set_cons_zero, List.set_cons_succ]
    refine held_take 20 (v := ?_) rfl (by kernel_rfl) (by kernel_rfl) (by kernel_rfl) (fun _ _ _ h => h) (by assumption) (by rfl) ?_ ?_
    rotate_left
    · (intro W hW; go_simp; try with_reducible rfl)
    simp only [Act.put, List.setIfInBounds_toArray, List.set_cons_zero, List.set_cons_succ]
    refine held_take 21 (v := ?_) rfl (by kernel_rfl) (by kernel_rfl) (by kernel_rfl) (fun _ _ _ h => h) (by assumption) (by rfl) ?_ ?_
    rotate_left
    · (intro W hW; go_simp; try with_reducible rfl)
    simp only [Act.put, List.setIfInBounds_toArray, List.set_cons_zero, List.set_cons_succ]
    refine held_take 22 (v := ?_) rfl (by kernel_rfl) (by kernel_rfl) (by kernel_rfl) (fun _ _ _ h => h) (by assumption) (by rfl) ?_ ?_
    rotate_left
    · (intro W hW; go_simp; try with_reducible rfl)
    simp only [Act.put, List.setIfInBounds_toArray, List.set_cons_zero, List.set_cons_succ]
    refine held_take 23 (v := ?_) rfl (by kernel_rfl) (by kernel_rfl) (by kernel_rfl) (fun _ _ _ h => h) (by assumption) (by rfl) ?_ ?_
    rotate_left
    · (intro W hW; go_simp; try with_reducible rfl)
    simp only [Act.put, List.setIfInBounds_toArray, List.set_cons_zero, List.set_cons_succ]
    refine held_take 24 (v := ?_) rfl (by kernel_rfl) (by kernel_rfl) (by kernel_rfl) (fun _ _ _ h => h) (by assumption) (by rfl) ?_ ?_
    rotate_left
    · (intro W hW; go_simp; try with_reducible rfl)
    simp only [Act.put, List.setIfInBounds_toArray, List.set_cons_zero, List.set_cons_succ]
    refine held_take 25 (v := ?_) rfl (by kernel_rfl) (by kernel_rfl) (by kernel_rfl) (fun _ _ _ h => h) (by assumption) (by rfl) ?_ ?_
    rotate_left
    · (intro W hW; go_simp; try with_reducible rfl)
    simp only [Act.put, List.setIfInBounds_toArray, List.set_cons_zero, List.set_cons_succ]
    refine held_take 26 (v := ?_) rfl (by kernel_rfl) (by kernel_rfl) (by kernel_rfl) (fun _ _ _ h => h) (by assumption) (by rfl) ?_ ?_
    rotate_left
    · (intro W hW; go_simp; try with_reducible rfl)
    simp only [Act.put, List.setIfInBounds_toArray, List.set_cons_zero, List.set_cons_succ]
    refine held_take 27 (v := ?_) rfl (by kernel_rfl) (by kernel_rfl) (by kernel_rfl) (fun _ _ _ h => h) (by assumption) (by rfl) ?_ ?_
    rotate_left
    · (intro W hW; go_simp; try with_reducible rfl)
    simp only [Act.put, List.setIfInBounds_toArray, List.set_cons_zero, List.set_cons_succ]
    refine held_take 28 (v := ?_) rfl (by kernel_rfl) (by kernel_rfl) (by kernel_rfl) (fun _ _ _ h => h) (by assumption) (by rfl) ?_ ?_
    rotate_left
    · (intro W hW; go_simp; try with_reducible rfl)
    simp only [Act.put, List.setIfInBounds_toArray, List.set_cons_zero, List.set_cons_succ]
    refine held_take 29 (v := ?_) rfl (by kernel_rfl) (by kernel_rfl) (by kernel_rfl) (fun _ _ _ h => h) (by assumption) (by rfl) ?_ ?_
    rotate_left
    · (intro W hW; go_simp; try with_reducible rfl)
    simp only [Act.put, List.setIfInBounds_toArray, List.set_cons_zero, List.set_cons_succ]
    refine held_take 30 (v := ?_) rfl (by kernel_rfl) (by kernel_rfl) (by kernel_rfl) (fun _ _ _ h => h) (by assumption) (by rfl) ?_ ?_
    rotate_left
    · (intro W hW; go_simp; try with_reducible rfl)
    simp only [Act.put, List.setIfInBounds_toArray, List.set_cons_zero, List.set_cons_succ]
    refine held_take 31 (v := ?_) rfl (by kernel_rfl) (by kernel_rfl) (by kernel_rfl) (fun _ _ _ h => h) (by assumption) (by rfl) ?_ ?_
    rotate_left
    · (intro W hW; go_simp; try with_reducible rfl)
    simp only [Act.put, List.setIfInBounds_toArray, List.set_cons_zero, List.set_cons_succ]
    refine held_take 32 (v := ?_) rfl (by kernel_rfl) (by kernel_rfl) (by kernel_rfl) (fun _ _ _ h => h) (by assumption) (by rfl) ?_ ?_
    rotate_left
    · (intro W hW; have hc := conv_row HNJ.out hW.r3; go_simp; try with_reducible rfl)
    simp only [Act.put, List.setIfInBounds_toArray, List.set_cons_zero, List.set_cons_succ]
    refine held_take 33 (v := ?_) rfl (by kernel_rfl) (by kernel_rfl) (by kernel_rfl) (fun _ _ _ h => h) (by assumption) (by rfl) ?_ ?_
    rotate_left
    · (intro W hW; go_simp; try with_reducible rfl)
    simp only [Act.put, List.setIfInBounds_toArray, List.set_cons_zero, List.set_cons_succ]
    refine held_take 34 (v := ?_) rfl (by kernel_rfl) (by kernel_rfl) (by kernel_rfl) (fun _ _ _ h => h) (by assumption) (by rfl) ?_ ?_
    rotate_left
    · (intro W hW; have hc := conv_row HNJ.out hW.r4; go_simp; try with_reducible rfl)
    simp only [Act.put, List.setIfInBounds_toArray, List.set_cons_zero, List.set_cons_succ]
    refine held_take 35 (v := ?_) rfl (by kernel_rfl) (by kernel_rfl) (by kernel_rfl) (fun _ _ _ h => h) (by assumption) (by rfl) ?_ ?_
    rotate_left
    · (intro W hW; go_simp; try with_reducible rfl)
    simp only [Act.put, List.setIfInBounds_toArray, List.set_cons_zero, List.set_cons_succ]
    refine held_take 36 (v := ?_) rfl (by kernel_rfl) (by kernel_rfl) (by kernel_rfl) (fun _ _ _ h => h) (by assumption) (by rfl) ?_ ?_
    rotate_left
    · (intro W hW; go_simp; try with_reducible rfl)
    simp only [Act.put, List.setIfInBounds_toArray, List.set_cons_zero, List.set_cons_succ]
    refine held_take 37 (v := ?_) rfl (by kernel_rfl) (by kernel_rfl) (by kernel_rfl) (fun _ _ _ h => h) (by assumption) (by rfl) ?_ ?_
    rotate_left
    · (intro W hW; go_simp; try with_reducible rfl)
    simp only [Act.put, List.setIfInBounds_toArray, List.set_cons_zero, List.set_cons_succ]
    refine held_take 38 (v := ?_) rfl (by kernel_rfl) (by kernel_rfl) (by kernel_rfl) (fun _ _ _ h => h) (by assumption) (by rfl) ?_ ?_
    rotate_left
    · (intro W hW; go_simp; try with_reducible rfl)
    simp only [Act.put, List.setIfInBounds_toArray, List.set_cons_zero, List.set_cons_succ]
    refine held_take 39 (v := ?_) rfl (by kernel_rfl) (by kernel_rfl) (by kernel_rfl) (fun _ _ _ h => h) (by assumption) (by rfl) ?_ ?_
    rotate_left
    · (intro W hW; go_simp; try with_reducible rfl)
    simp only [Act.put, List.setIfInBounds_toArray, List.set_cons_zero, List.set_cons_succ]
    refine held_take 40 (v := ?_) rfl (by kernel_rfl) (by kernel_rfl) (by kernel_rfl) (fun _ _ _ h => h) (by assumption) (by rfl) ?_ ?_
    rotate_left
    · (intro W hW; go_simp; try with_reducible rfl)
    simp only [Act.put, List.setIfInBounds_toArray, List.set_cons_zero, List.set_cons_succ]
    refine held_take 41 (v := ?_) rfl (by kernel_rfl) (by kernel_rfl) (by kernel_rfl) (fun _ _ _ h => h) (by assumption) (by rfl) ?_ ?_
    rotate_left
    · (intro W hW; go_simp; try with_reducible rfl)
    simp only [Act.put, List.setIfInBounds_toArray, List.set_cons_zero, List.set_cons_succ]
    refine held_take 42 (v := ?_) rfl (by kernel_rfl) (by kernel_rfl) (by kernel_rfl) (fun _ _ _ h => h) (by assumption) (by rfl) ?_ ?_
    rotate_left
    · (intro W hW; go_simp; try with_reducible rfl)
    simp only [Act.put, List.setIfInBounds_toArray, List.set_cons_zero, List.set_cons_succ]
    refine held_take 43 (v := ?_) rfl (by kernel_rfl) (by kernel_rfl) (by kernel_rfl) (fun _ _ _ h => h) (by assumption) (by rfl) ?_ ?_
    rotate_left
    · (intro W hW; have k0 := hW.x0; have k1 := hW.x1; have k2 := hW.x2; go_simp; try with_reducible rfl)
    simp only [Act.put, List.setIfInBounds_toArray, List.set_cons_zero, List.set_cons_succ]
    refine held_take 46 (v := ?_) rfl (by kernel_rfl) (by kernel_rfl) (by kernel_rfl) (fun _ _ _ h => h) (by assumption) (by rfl) ?_ ?_
    rotate_left
    · (intro W hW; have k0 := hW.x0; have k1 := hW.x1; have k2 := hW.x2; go_simp; try with_reducible rfl)
    simp only [Act.put, List.setIfInBounds_toArray, List.set_cons_zero, List.set_cons_succ]
    refine held_take 44 (v := ?_) rfl (by kernel_rfl) (by kernel_rfl) (by kernel_rfl) (fun _ _ _ h => h) (by assumption) (by rfl) ?_ ?_
    rotate_left
    · (intro W hW; have k0 := hW.y0; have k1 := hW.y1; have k2 := hW.y2; go_simp; try with_reducible rfl)
    simp only [Act.put, List.setIfInBounds_toArray, List.set_cons_zero, List.set_cons_succ]
    refine held_take 47 (v := ?_) rfl (by kernel_rfl) (by kernel_rfl) (by kernel_rfl) (fun _ _ _ h => h) (by assumption) (by rfl) ?_ ?_
    rotate_left
    · (intro W hW; have k0 := hW.y0; have k1 := hW.y1; have k2 := hW.y2; go_simp; try with_reducible rfl)
    simp only [Act.put, List.setIfInBounds_toArray, List.set_cons_zero, List.set_cons_succ]
    refine held_call 45 (f := 14) (args := #[.agg #[.int .i64 x.code, .int .i64 x.id, .slice p n c], .agg #[.int .i64 y.code, .int .i64 y.id, .slice q m d]]) rfl (by kernel_rfl) (by rfl) (by go_simp) ?_
    refine (s1.out W9 X9.out Y9.out).mono ?_
    rintro e WA ⟨rfl, bA⟩
    replace hS := hS.next bA
    have BA := Lib.hid (Below.chain B9.out bA)
    have XA := Lib.hid (X9.out.next bA)
    have YA := Lib.hid (Y9.out.next bA)
    clear s1 B9 X9 Y9 bA
    refine ⟨_, rfl, hS, ?_⟩
    simp only [Act.put, List.setIfInBounds_toArray, List.set_cons_zero, List.set_cons_succ]
    refine held_call 48 (f := 13) (args := #[.agg #[.int .i64 x.code, .int .i64 x.id, .slice p n c], .agg #[.int .i64 y.code, .int .i64 y.id, .slice q m d]]) rfl (by kernel_rfl) (by rfl) (by go_simp) ?_
    refine (s2.out WA XA.out YA.out).mono ?_
    rintro e WB ⟨rfl, bB⟩
    replace hS := hS.next bB
    have BB := Lib.hid (Below.chain BA.out bB)
    have XB := Lib.hid (XA.out.next bB)
    clear s2 BA XA YA bB
    refine ⟨_, rfl, hS, ?_⟩
    simp only [Act.put, List.setIfInBounds_toArray, List.set_cons_zero, List.set_cons_succ]
    refine held_take 49 (v := ?_) rfl (by kernel_rfl) (by kernel_rfl) (by kernel_rfl) (fun _ _ _ h => h) (by assumption) (by rfl) ?_ ?_
    rotate_left
    · (intro W hW; go_simp; try with_reducible rfl)
    simp only [Act.put, List.setIfInBounds_toArray, List.set_cons_zero, List.set_cons_succ]
    refine held_take 50 (v := ?_) rfl (by kernel_rfl) (by kernel_rfl) (by kernel_rfl) (fun _ _ _ h => h) (by assumption) (by rfl) ?_ ?_
    rotate_left
    · (intro W hW; go_simp; try with_reducible rfl)
    simp only [Act.put, List.setIfInBounds_toArray, List.set_cons_zero, List.set_cons_succ]
    refine held_take 51 (v := ?_) rfl (by kernel_rfl) (by kernel_rfl) (by kernel_rfl) (fun _ _ _ h => h) (by assumption) (by rfl) ?_ ?_
    rotate_left
    · (intro W hW; go_simp; try with_reducible rfl)
    simp only [Act.put, List.setIfInBounds_toArray, List.set_cons_zero, List.set_cons_succ]
    refine held_take 52 (v := ?_) rfl (by kernel_rfl) (by kernel_rfl) (by kernel_rfl) (fun _ _ _ h => h) (by assumption) (by rfl) ?_ ?_
    rotate_left
    · (intro W hW; have k0 := hW.x0; have k1 := hW.x1; have k2 := hW.x2; go_simp; try with_reducible rfl)
    simp only [Act.put, List.setIfInBounds_toArray, List.set_cons_zero, List.set_cons_succ]
    refine held_take 53 (v := ?_) rfl (by kernel_rfl) (by kernel_rfl) (by kernel_rfl) (fun _ _ _ h => h) (by assumption) (by rfl) ?_ ?_
    rotate_left
    · (intro W hW; have k0 := hW.x0; have k1 := hW.x1; have k2 := hW.x2; go_simp; try with_reducible rfl)
    simp only [Act.put, List.setIfInBounds_toArray, List.set_cons_zero, List.set_cons_succ]
    refine held_call 54 (f := 14) (args := #[.agg #[.int .i64 x.code, .int .i64 x.id, .slice p n c], .agg #[.int .i64 x.code, .int .i64 x.id, .slice p n c]]) rfl (by kernel_rfl) (by rfl) (by go_simp) ?_
    refine (s3.out WB XB.out).mono ?_
    rintro e WC ⟨rfl, bC⟩
    replace hS := hS.next bC
    have BC := Lib.hid (Below.chain BB.out bC)
    clear s3 BB XB bC
    refine ⟨_, rfl, hS, ?_⟩
    simp only [Act.put, List.setIfInBounds_toArray, List.set_cons_zero, List.set_cons_succ]
    refine held_take 55 (v := ?_) rfl (by kernel_rfl) (by kernel_rfl) (by kernel_rfl) (fun _ _ _ h => h) (by assumption) (by rfl) ?_ ?_
    rotate_left
    · (intro W hW; go_simp; try with_reducible rfl)
    simp only [Act.put, List.setIfInBounds_toArray, List.set_cons_zero, List.set_cons_succ]
    refine held_take 56 (v := ?_) rfl (by kernel_rfl) (by kernel_rfl) (by kernel_rfl) (fun _ _ _ h => h) (by assumption) (by rfl) ?_ ?_
    rotate_left
    · (intro W hW; go_simp; try with_reducible rfl)
    simp only [Act.put, List.setIfInBounds_toArray, List.set_cons_zero, List.set_cons_succ]
    refine held_done (by kernel_rfl) ?_
    clear hS
    go_wp2
    go_ret
    exact ⟨rfl, BC.out⟩
end Go.Proofs.Ytbpkhjjabnboaaa
