/- awake. -/
import Derived.Test.YtbbnkmhlgfoacaaDoorCs
import Derived.KernelRfl
import Derived.Lib.SmallJoins
namespace Go.Proofs.YtbbnkmhlgfoacaaDoor
open Go.RowKit
open S10

namespace Cp
def aw : List It := [⟨1, 49185, [1, 1, 0, 4]⟩, ⟨2, 33, [122]⟩]
theorem aw_may : ∀ x ∈ aw, may x = true := fun x h => by
  simp [aw] at h
  rcases h with rfl | rfl
  · decide +kernel
  · decide +kernel
def x0 : Xc := ⟨0, 0, 0, 0, ⟨#[]⟩, ⟨#[]⟩, ⟨0, 0, false⟩⟩
theorem aw_len : (write aw 1 x0.c).1.length = 71 := by
  rw [write_one aw _ aw_may]
  have h1 := S9.Pc.put_length hdr (rcds aw)
  have h2 := size_rcds aw
  have h3 : (rcds aw).length = 2 := rfl
  have h4 : tot aw = 5 := rfl
  have h5 : aw.length = 2 := rfl
  simp only
  omega
theorem aw_no : write aw 3 x0.c = ([], 7) := write_no aw 3 _ (by decide) (by decide)
theorem a0_no : write [⟨0, 0, []⟩] 1 x0.c = ([], 1) := write_bad _ 1 _ (.inl rfl) (fun h => by have := h ⟨0, 0, []⟩ (by simp); revert this; decide +kernel)
end Cp
theorem awk_items (w : World) : Below w.heap.size w (((w.alloc (.cells #[.int .u8 1, .int .u8 1, .int .u8 0, .int .u8 4] 5)).alloc (.cells #[.int .u8 122] 5 (1, 2))).alloc (.cells #[.int .i64 1, .int .i64 49185, .slice (some ⟨w.heap.size, 0, none⟩) 4 4, .int .i64 2, .int .i64 33, .slice (some ⟨w.heap.size + 1, 0, none⟩) 1 1] 48)) ∧
    ItsAt (((w.alloc (.cells #[.int .u8 1, .int .u8 1, .int .u8 0, .int .u8 4] 5)).alloc (.cells #[.int .u8 122] 5 (1, 2))).alloc (.cells #[.int .i64 1, .int .i64 49185, .slice (some ⟨w.heap.size, 0, none⟩) 4 4, .int .i64 2, .int .i64 33, .slice (some ⟨w.heap.size + 1, 0, none⟩) 1 1] 48)) (some ⟨w.heap.size + 1 + 1, 0, none⟩) Cp.aw := by
  have r1 : RowAt (w.alloc (.cells #[.int .u8 1, .int .u8 1, .int .u8 0, .int .u8 4] 5)) (some ⟨w.heap.size, 0, none⟩) 4 [1, 1, 0, 4] := rowAt_built w [1, 1, 0, 4] 4 _ rfl (by simp [Lib.byteCells]) (by omega) (0, 0)
  have hs1 : (w.alloc (.cells #[.int .u8 1, .int .u8 1, .int .u8 0, .int .u8 4] 5)).heap.size = w.heap.size + 1 := by simp
  have b1 := below_one w (.cells #[.int .u8 1, .int .u8 1, .int .u8 0, .int .u8 4] 5)
  generalize w.alloc (.cells #[.int .u8 1, .int .u8 1, .int .u8 0, .int .u8 4] 5) = W1 at *
  have r2 : RowAt (W1.alloc (.cells #[.int .u8 122] 5 (1, 2))) (some ⟨W1.heap.size, 0, none⟩) 1 [122] := rowAt_built W1 [122] 1 _ rfl (by simp [Lib.byteCells]) (by omega) (1, 2)
  have hs2 : (W1.alloc (.cells #[.int .u8 122] 5 (1, 2))).heap.size = W1.heap.size + 1 := by simp
  have b2 := below_one W1 (.cells #[.int .u8 122] 5 (1, 2))
  have r1 := r1.next b2
  generalize W1.alloc (.cells #[.int .u8 122] 5 (1, 2)) = W2 at *
  rw [hs1] at r2
  have b3 := below_one W2 (.cells #[.int .i64 1, .int .i64 49185, .slice (some ⟨w.heap.size, 0, none⟩) 4 4, .int .i64 2, .int .i64 33, .slice (some ⟨w.heap.size + 1, 0, none⟩) 1 1] 48)
  have hg := heap_alloc_new W2 (.cells #[.int .i64 1, .int .i64 49185, .slice (some ⟨w.heap.size, 0, none⟩) 4 4, .int .i64 2, .int .i64 33, .slice (some ⟨w.heap.size + 1, 0, none⟩) 1 1] 48)
  have r1 := r1.next b3
  have r2 := r2.next b3
  have hb := Below.chain (Below.chain b1 b2) b3
  generalize W2.alloc (.cells #[.int .i64 1, .int .i64 49185, .slice (some ⟨w.heap.size, 0, none⟩) 4 4, .int .i64 2, .int .i64 33, .slice (some ⟨w.heap.size + 1, 0, none⟩) 1 1] 48) = W3 at *
  rw [hs2, hs1] at hg
  refine ⟨hb, .inr ⟨w.heap.size + 1 + 1, 0, rfl, lt_of_block hg, fun j hj => ?_⟩⟩
  have hj2 : j = 0 ∨ j = 1 := by
    have : Cp.aw.length = 2 := rfl
    omega
  rcases hj2 with rfl | rfl
  · exact ⟨_, _, cell_of_row _ _ _ _ _ _ hg, cell_of_row _ _ _ _ _ _ hg, cell_of_row _ _ _ _ _ _ hg, r1⟩
  · exact ⟨_, _, cell_of_row _ _ _ _ _ _ hg, cell_of_row _ _ _ _ _ _ hg, cell_of_row _ _ _ _ _ _ hg, r2⟩

set_option maxRecDepth 100000 in
set_option maxHeartbeats 1000000 in
theorem awake_any (w : World) (ht : Tab w) : Calls Tryd.prog 6 #[] w fun e w' => e = .returned (.bool true) ∧ Below w.heap.size w w' := by
  have HT := Lib.hid ht
  have h0 := awk_items w
  have hcv : (convert 28 28 (.slice (some ⟨w.heap.size + 1, 0, none⟩) 1 1)).run Tryd.prog ((w.alloc (.cells #[.int .u8 1, .int .u8 1, .int .u8 0, .int .u8 4] 5)).alloc (.cells #[.int .u8 122] 5)) = .ok (.slice (some ⟨w.heap.size + 1, 0, none⟩) 1 1) ((w.alloc (.cells #[.int .u8 1, .int .u8 1, .int .u8 0, .int .u8 4] 5)).alloc (.cells #[.int .u8 122] 5 (1, 2))) := Go.Joins.run_convert_bytes_const_at (w.alloc (.cells #[.int .u8 1, .int .u8 1, .int .u8 0, .int .u8 4] 5)) 28 5 #[.int .u8 122] 1 1 (w.heap.size + 1) (by simp) Tryd.underlying28 Tryd.underlying5
  clear ht
  go_enter Tryd.func6, Tryd.ntmps6
  go_wp2_with fail
  generalize ((w.alloc (.cells #[.int .u8 1, .int .u8 1, .int .u8 0, .int .u8 4] 5)).alloc (.cells #[.int .u8 122] 5 (1, 2))).alloc (.cells #[.int .i64 1, .int .i64 49185, .slice (some ⟨w.heap.size, 0, none⟩) 4 4, .int .i64 2, .int .i64 33, .slice (some ⟨w.heap.size + 1, 0, none⟩) 1 1] 48) = W1 at *
  generalize w.heap.size + 1 + 1 = g1 at *
  obtain ⟨hb1, hi1⟩ := h0
  have HB1 := Lib.hid hb1
  have HI1 := Lib.hid hi1
  have hm := Cp.aw_may
  have hac : Cp.x0.c.accm < 4294967296 := by decide
  have htt : Cp.tot Cp.aw ≤ 70000 := by decide
  obtain ⟨nd, hnd⟩ : ∃ nd, (Cp.write Cp.aw 2 Cp.x0.c).1.length = nd := ⟨_, rfl⟩
  clear hb1 hi1 hcv
  have T1 := Lib.hid (HT.out.next HB1.out)
  refine (ways_write 1 (.inl rfl) Cp.x0 _ 2 2 Cp.aw W1 rfl (by omega) htt hm hac HI1.out T1.out 71 Cp.aw_len).mono ?_
  rintro e W2 ⟨p2, c2, rfl, r2, b2⟩
  have HB2 := Lib.hid (Below.chain HB1.out b2)
  have HI2 := Lib.hid (HI1.out.next b2)
  have T2 := Lib.hid (T1.out.next b2)
  have R2 := Lib.hid r2
  clear HB1 HI1 T1 r2 b2
  go_wp2_with fail
  refine (ways_write 2 (.inr rfl) Cp.x0 _ 2 2 Cp.aw W2 rfl (by omega) htt hm hac HI2.out T2.out nd hnd).mono ?_
  rintro e W3 ⟨p3, c3, rfl, r3, b3⟩
  have HB3 := Lib.hid (Below.chain HB2.out b3)
  have HI3 := Lib.hid (HI2.out.next b3)
  have T3 := Lib.hid (T2.out.next b3)
  have R23 := Lib.hid (R2.out.next b3)
  have R3 := Lib.hid r3
  clear HB2 HI2 T2 R2 r3 b3
  go_wp2_with fail
  refine (ways_read 1 (.inl rfl) Cp.x0 Cp.aw W3 2 rfl (by omega) htt hm hac p2 71 c2 Cp.aw_len R23.out T3.out).mono ?_
  rintro e W4 ⟨a4, c4, rfl, i4, b4⟩
  simp only [scells]
  have hs4 := heap_alloc_new W4 (.cells (scells 0 0).toArray 33)
  have ba := below_one W4 (.cells (scells 0 0).toArray 33)
  simp only [scells] at hs4 ba
  go_wp2_with fail
  generalize W4.alloc (.cells #[.int .i64 0, .int .i64 0] 33) = W5 at *
  generalize W4.heap.size = s4 at hs4 ⊢
  have b35 := Below.chain b4 ba
  have HB5 := Lib.hid (Below.chain HB3.out b35)
  have HI5 := Lib.hid (HI3.out.next b35)
  have T5 := Lib.hid (T3.out.next b35)
  have R25 := Lib.hid (R23.out.next b35)
  have R35 := Lib.hid (R3.out.next b35)
  have I5 := Lib.hid (i4.next ba)
  have S5 := Lib.hid hs4
  clear HB3 HI3 T3 R23 R3 i4 hs4 b4 ba b35
  refine (ways_read 2 (.inr rfl) Cp.x0 Cp.aw W5 2 rfl (by omega) htt hm hac p3 nd c3 hnd R35.out T5.out).mono ?_
  rintro e W6 ⟨a6, c6, rfl, i6, b6⟩
  simp only [scells]
  have hs6 := heap_alloc_new W6 (.cells (scells 0 0).toArray 33)
  have ba := below_one W6 (.cells (scells 0 0).toArray 33)
  simp only [scells] at hs6 ba
  go_wp2_with fail
  generalize W6.alloc (.cells #[.int .i64 0, .int .i64 0] 33) = W7 at *
  generalize W6.heap.size = s6 at hs6 ⊢
  have b57 := Below.chain b6 ba
  have HB7 := Lib.hid (Below.chain HB5.out b57)
  have HI7 := Lib.hid (HI5.out.next b57)
  have T7 := Lib.hid (T5.out.next b57)
  have R27 := Lib.hid (R25.out.next b57)
  have I57 := Lib.hid (I5.out.next b57)
  have S57 := Lib.hid (block_next S5.out b57)
  have I7 := Lib.hid (i6.next ba)
  have S7' := Lib.hid hs6
  clear HB5 HI5 T5 R25 R35 I5 S5 i6 hs6 b6 ba b57
  refine (ways_not 3 Cp.x0 _ 2 2 Cp.aw W7 rfl (by omega) htt hac HI7.out T7.out 7 Cp.aw_no).mono ?_
  rintro e W8 ⟨p8, c8, rfl, _, b8⟩
  have HB8 := Lib.hid (Below.chain HB7.out b8)
  have HI8 := Lib.hid (HI7.out.next b8)
  have T8 := Lib.hid (T7.out.next b8)
  have R28 := Lib.hid (R27.out.next b8)
  have I58 := Lib.hid (I57.out.next b8)
  have S58 := Lib.hid (block_next S57.out b8)
  have I78 := Lib.hid (I7.out.next b8)
  have S78 := Lib.hid (block_next S7'.out b8)
  clear HB7 HI7 T7 R27 I57 S57 I7 S7' b8
  have ba := below_one W8 (.cells #[.int .i64 0, .int .i64 0, .slice none 0 0] 48)
  have hz := heap_alloc_new W8 (.cells #[.int .i64 0, .int .i64 0, .slice none 0 0] 48)
  go_wp2_with fail
  generalize W8.alloc (.cells #[.int .i64 0, .int .i64 0, .slice none 0 0] 48) = W9 at *
  generalize W8.heap.size = g8 at hz ⊢
  have hiz : ItsAt W9 (some ⟨g8, 0, none⟩) [⟨0, 0, []⟩] := by
    refine .inr ⟨g8, 0, rfl, lt_of_block hz, fun j hj => ?_⟩
    have : j = 0 := by simpa using hj
    subst this
    exact ⟨none, 0, cell_of_row _ _ _ _ _ _ hz, cell_of_row _ _ _ _ _ _ hz, cell_of_row _ _ _ _ _ _ hz, rowAt_nil _⟩
  refine (ways_not 1 Cp.x0 _ 1 1 [⟨0, 0, []⟩] W9 rfl (by omega) (by decide) hac hiz (T8.out.next ba) 1 Cp.a0_no).mono ?_
  rintro e W10 ⟨p10, c10, rfl, _, b10⟩
  have b8 := Below.chain ba b10
  have HB10 := Lib.hid (Below.chain HB8.out b8)
  have HI10 := Lib.hid (HI8.out.next b8)
  have T10 := Lib.hid (T8.out.next b8)
  have R210 := Lib.hid (R28.out.next b8)
  have I510 := Lib.hid (I58.out.next b8)
  have S510 := Lib.hid (block_next S58.out b8)
  have I710 := Lib.hid (I78.out.next b8)
  have S710 := Lib.hid (block_next S78.out b8)
  clear HB8 HI8 T8 R28 I58 S58 I78 S78 b8 b10 ba hz hiz
  go_wp2_with fail
  have hrd := capRead_any 3 Cp.x0 p2 71 c2 (Cp.write Cp.aw 1 Cp.x0.c).1 W10 Cp.aw_len (by omega) R210.out T10.out hac (fun e => by cases e) (fun e => by cases e)
  rw [Cp.read_no _ 3 _ (by decide) (by decide)] at hrd
  refine hrd.mono ?_
  rintro e W11 ⟨v11, rfl, _, b11⟩
  simp only [scells]
  have hs11 := heap_alloc_new W11 (.cells (scells 0 7).toArray 33)
  have ba := below_one W11 (.cells (scells 0 7).toArray 33)
  simp only [scells] at hs11 ba
  have b8 := Below.chain b11 ba
  go_wp2_with fail
  generalize W11.alloc (.cells #[.int .i64 0, .int .i64 7] 33) = W12 at *
  generalize W11.heap.size = s11 at hs11 ⊢
  have HB12 := Lib.hid (Below.chain HB10.out b8)
  have HI12 := Lib.hid (HI10.out.next b8)
  have I512 := Lib.hid (I510.out.next b8)
  have S512 := Lib.hid (block_next S510.out b8)
  have I712 := Lib.hid (I710.out.next b8)
  have S712 := Lib.hid (block_next S710.out b8)
  have S1112 := Lib.hid hs11
  clear HB10 HI10 T10 R210 I510 S510 I710 S710 b8 b11 ba hs11
  refine (itsame_any a4 _ c4 2 2 Cp.aw W12 rfl (by omega) I512.out HI12.out).mono ?_
  rintro e W13 ⟨rfl, b13⟩
  have S5 := Lib.hid (block_next S512.out b13)
  have S7 := Lib.hid (block_next S712.out b13)
  have S11 := Lib.hid (block_next S1112.out b13)
  have HB := Lib.hid (Below.chain HB12.out b13)
  have HI := Lib.hid (HI12.out.next b13)
  have I7 := Lib.hid (I712.out.next b13)
  clear HB12 HI12 I512 S512 I712 S712 S1112 b13
  have q50 : W13.cell? ⟨s4, 0, none⟩ = some (.int .i64 0) := cell_of_row _ _ _ _ _ _ S5.out
  have q51 : W13.cell? ⟨s4, 1, none⟩ = some (.int .i64 0) := cell_of_row _ _ _ _ _ _ S5.out
  go_wp2_with fail
  refine (itsame_any a6 _ c6 2 2 Cp.aw W13 rfl (by omega) I7.out HI.out).mono ?_
  rintro e W14 ⟨rfl, b14⟩
  have S74 := Lib.hid (block_next S7.out b14)
  have S114 := Lib.hid (block_next S11.out b14)
  have HB14 := Lib.hid (Below.chain HB.out b14)
  have HI14 := Lib.hid (HI.out.next b14)
  clear S5 S7 S11 HB HI I7 b14
  obtain ⟨b0, o0, p0, c0, e0, hit, _⟩ := HI14.out.at 0 (by decide)
  cases e0
  have hrg := Lib.hid hit.range
  have e00 : Cp.aw[0] = ⟨1, 49185, [1, 1, 0, 4]⟩ := rfl
  rw [e00] at hrg
  clear hit e00
  have q60 : W14.cell? ⟨s6, 0, none⟩ = some (.int .i64 0) := cell_of_row _ _ _ _ _ _ S74.out
  have q61 : W14.cell? ⟨s6, 1, none⟩ = some (.int .i64 0) := cell_of_row _ _ _ _ _ _ S74.out
  have q70 : W14.cell? ⟨s11, 0, none⟩ = some (.int .i64 0) := cell_of_row _ _ _ _ _ _ S114.out
  have q71 : W14.cell? ⟨s11, 1, none⟩ = some (.int .i64 7) := cell_of_row _ _ _ _ _ _ S114.out
  have q80 : W14.cell? ⟨g1, 0, none⟩ = some (.int .i64 1) := hrg.out 0 _ rfl
  have q81 : W14.cell? ⟨g1, 1, none⟩ = some (.int .i64 49185) := hrg.out 1 _ rfl
  have q82 : W14.cell? ⟨g1, 2, none⟩ = some (.slice p0 4 c0) := hrg.out 2 _ rfl
  go_wp2_with fail
  refine (capMay_any ⟨1, 49185, [1, 1, 0, 4]⟩ p0 c0 W14 (by simp)).mono ?_
  rw [hm _ (by simp [Cp.aw])]
  rintro e W15 ⟨rfl, b15⟩
  go_wp2
  go_ret
  exact ⟨rfl, Below.chain HB14.out b15⟩
end Go.Proofs.YtbbnkmhlgfoacaaDoor
