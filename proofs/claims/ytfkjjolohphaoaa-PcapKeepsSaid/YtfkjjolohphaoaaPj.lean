/- The answers that awake asks for; contract of awake. -/
import Derived.Test.YtfkjjolohphaoaaRf
import Derived.Test.YtfkjjolohphaoaaPs
import Derived.Test.YtfkjjolohphaoaaPlainq
import Derived.Lib.SlBytesConst
namespace Go.Proofs.Ytfkjjolohphaoaa
open Go.RowKit
namespace Pc
def am : Hdr := ⟨true, false, 65535, 9⟩
def ar : Rcd := ⟨1, 0, 3, [97, 98, 99]⟩
theorem am_ok : am.Ok := ⟨by decide, by decide⟩
theorem ar_ok : ar.Ok := ⟨by decide, by decide, by decide⟩
theorem ar_all : ∀ r ∈ [ar], r.Ok := fun r h => by simp at h; subst h; exact ar_ok
theorem ar_small : ∀ r ∈ [ar], r.data.length ≤ 131072 := fun r h => by simp at h; subst h; decide
theorem awk_len : (put am [ar]).length = 43 := by rw [put_length]; rfl
theorem awk_eight : (put am [ar]).take 8 = [161, 178, 195, 212, 0, 2, 0, 4] := by decide +kernel
theorem awk_read : read (put am [ar]) = (am, [ar], 0, 0) := read_put am [ar] am_ok ar_all ar_small
theorem awk_next : next ((put am [ar]).drop 24) true = (ar, 19, 0) := by
  have h := next_put true ar [] ar_ok (by decide)
  rw [put_eq, List.drop_left' (hbytes_length am), recs_cons, recs_nil]
  exact h
theorem awk_h0 : head [] = (hz, 2) := head_end [] (by decide)
theorem awk_h4 : head [1, 2, 3, 4] = (hz, 3) := head_form [1, 2, 3, 4] (by decide) (by decide +kernel)
theorem awk_n0 : next [] true = (rz, 0, 2) := next_end [] true (by decide)
end Pc

theorem awk_recs (w : World) : RecsAt ((w.alloc (.cells #[.int .u8 97, .int .u8 98, .int .u8 99] 5 (3, 4))).alloc (.cells #[.int .u32 1, .int .u32 0, .int .u32 3, .slice (some ⟨w.heap.size, 0, none⟩) 3 3] 46)) (some ⟨w.heap.size + 1, 0, none⟩) [Pc.ar] := by
  have hr := rowAt_built w [97, 98, 99] 3 #[.int .u8 97, .int .u8 98, .int .u8 99] rfl (by simp [Lib.byteCells]) (by omega) (3, 4)
  have hg := heap_alloc_new (w.alloc (.cells #[.int .u8 97, .int .u8 98, .int .u8 99] 5 (3, 4))) (.cells #[.int .u32 1, .int .u32 0, .int .u32 3, .slice (some ⟨w.heap.size, 0, none⟩) 3 3] 46)
  rw [show (w.alloc (.cells #[.int .u8 97, .int .u8 98, .int .u8 99] 5 (3, 4))).heap.size = w.heap.size + 1 by simp] at hg
  refine .inr ⟨w.heap.size + 1, 0, rfl, lt_of_block hg, fun j hj => ?_⟩
  have : j = 0 := by simpa using hj
  subst this
  exact ⟨_, 3, cell_of_row _ _ _ _ _ _ hg, cell_of_row _ _ _ _ _ _ hg, cell_of_row _ _ _ _ _ _ hg, cell_of_row _ _ _ _ _ _ hg, rowAt_alloc hr _, Pc.ar_ok⟩

theorem conv_const2 (w : World) (o : Obj) (C : Array Value) (n c : Nat) : (convert 28 28 (.slice (some ⟨w.heap.size + 1, 0, none⟩) n c)).run Try.prog ((w.alloc o).alloc (.cells C 5)) = .ok (.slice (some ⟨w.heap.size + 1, 0, none⟩) n c) ((w.alloc o).alloc (.cells C 5 (C.size, C.size + 1))) := by
  have h := Lib.run_convert_bytes_const (P := Try.prog) (w.alloc o) 28 5 C n c Try.underlying28 Try.underlying5
  rw [show (w.alloc o).heap.size = w.heap.size + 1 by simp] at h
  exact h
theorem awk_put (w : World) : Calls Try.prog 11 #[.agg #[.bool true, .bool false, .int .u32 65535, .int .u32 9], .slice (some ⟨w.heap.size + 1, 0, none⟩) 1 1] ((w.alloc (.cells #[.int .u8 97, .int .u8 98, .int .u8 99] 5 (3, 4))).alloc (.cells #[.int .u32 1, .int .u32 0, .int .u32 3, .slice (some ⟨w.heap.size, 0, none⟩) 3 3] 46))
    fun e w' => ∃ a c, e = .returned (.tuple #[.slice a 43 c, .int .i64 0]) ∧ RowAt w' a c (Pc.put Pc.am [Pc.ar]) ∧ Below w.heap.size w w' := by
  have h := put_any Pc.am (some ⟨w.heap.size + 1, 0, none⟩) 1 1 [Pc.ar] _ Pc.am_ok rfl (by decide) (awk_recs w)
  refine h.mono ?_
  rintro e w' ⟨b, h1 | ⟨h1, _⟩⟩
  · obtain ⟨_, v, rfl, o⟩ := h1
    rw [Pc.awk_len] at o
    obtain ⟨a, c, rfl, r⟩ := rowAt_own Pc.awk_len o
    refine ⟨a, c, rfl, r, below_alloc (below_alloc b)⟩
  · exact absurd Pc.ar_small h1
set_option maxRecDepth 100000 in
set_option maxHeartbeats 4000000 in
theorem awake_any (w : World) : Calls Try.prog 9 #[] w fun e w' => e = .returned (.bool true) ∧ Below w.heap.size w w' := by
  have cv := conv_const2
  have hT0 := heap_alloc_new w (.cells (hcells Pc.am).toArray 24)
  have b0 : Below w.heap.size w (w.alloc (.cells (hcells Pc.am).toArray 24)) := (Below.refl _ _).alloc (Nat.le_refl _) _
  have hs0 : (w.alloc (.cells (hcells Pc.am).toArray 24)).heap.size = w.heap.size + 1 := by simp
  have hp := awk_put (w.alloc (.cells (hcells Pc.am).toArray 24))
  have HP := Lib.hid hp
  have T0 := Lib.hid hT0
  have B0 := Lib.hid b0
  clear hT0 b0 hp
  have HS0 := Lib.hid hs0
  clear hs0
  go_enter Try.func9, Try.ntmps9
  go_wp2_with fail
  rw [HS0.out] at HP
  refine HP.out.mono ?_
  rintro e w1 ⟨a1, c1, rfl, r1, b1⟩
  rw [← HS0.out] at b1
  have T1 := Lib.hid (block_next T0.out b1)
  have B1 := Lib.hid (Below.chain B0.out b1)
  have R1 := Lib.hid r1
  generalize w.heap.size = T at T1 ⊢
  clear r1 b1 T0 B0 HP cv
  go_wp2_with fail
  have hrd := read_any a1 43 c1 _ w1 Pc.awk_len (by omega) R1.out
  rw [Pc.awk_read] at hrd
  refine hrd.mono ?_
  rintro e w2 ⟨v2, rfl, rec2, b2⟩
  obtain ⟨a2, c2, rfl, ra2⟩ := rec2.at Pc.ar_all
  simp only [hcells, scells]
  go_wp2_with fail
  have h2 := two_blocks w2 (.cells (hcells Pc.am).toArray 24) (.cells (scells 0 0).toArray 36)
  have U2 : Hid (((w2.alloc (.cells #[.bool Pc.am.big, .bool Pc.am.nano, .int .u32 (Pc.am.snap : Int), .int .u32 (Pc.am.link : Int)] 24)).alloc (.cells #[.int .i64 0, .int .i64 0] 36)).heap[w2.heap.size]? = some (.cells (hcells Pc.am).toArray 24 (0, 0))) := h2.1
  have V2 : Hid (((w2.alloc (.cells #[.bool Pc.am.big, .bool Pc.am.nano, .int .u32 (Pc.am.snap : Int), .int .u32 (Pc.am.link : Int)] 24)).alloc (.cells #[.int .i64 0, .int .i64 0] 36)).heap[w2.heap.size + 1]? = some (.cells (scells 0 0).toArray 36 (0, 0))) := h2.2.1
  have bb : Below w2.heap.size w2 ((w2.alloc (.cells #[.bool Pc.am.big, .bool Pc.am.nano, .int .u32 (Pc.am.snap : Int), .int .u32 (Pc.am.link : Int)] 24)).alloc (.cells #[.int .i64 0, .int .i64 0] 36)) := h2.2.2
  have b3 := Below.chain b2 bb
  have T3 := Lib.hid (block_next T1.out b3)
  have R3 := Lib.hid (R1.out.next b3)
  have B3 := Lib.hid (Below.chain B1.out b3)
  have A3 := Lib.hid (ra2.next bb)
  clear h2 bb b3 b2 ra2 rec2 T1 R1 B1 hrd
  generalize (w2.alloc (.cells #[.bool Pc.am.big, .bool Pc.am.nano, .int .u32 (Pc.am.snap : Int), .int .u32 (Pc.am.link : Int)] 24)).alloc (.cells #[.int .i64 0, .int .i64 0] 36) = w3 at *
  generalize w2.heap.size = U at *
  have h4 := head_any none 0 0 [] w3 rfl (by omega) (rowAt_nil w3)
  rw [Pc.awk_h0] at h4
  refine h4.mono ?_
  rintro e w4 ⟨rfl, b4⟩
  have T4 := Lib.hid (block_next T3.out b4)
  have U4 := Lib.hid (block_next U2.out b4)
  have V4 := Lib.hid (block_next V2.out b4)
  have R4 := Lib.hid (R3.out.next b4)
  have B4 := Lib.hid (Below.chain B3.out b4)
  have A4 := Lib.hid (A3.out.next b4)
  clear T3 U2 V2 R3 B3 A3 b4 h4
  simp only [hcells]
  have h5 := head_any (some ⟨w4.heap.size + 1, 0, none⟩) 4 4 [1, 2, 3, 4] _ rfl (by omega) (by have := rowAt_built (w4.alloc (.cells #[.bool Pc.hz.big, .bool Pc.hz.nano, .int .u32 (Pc.hz.snap : Int), .int .u32 (Pc.hz.link : Int)] 24)) [1, 2, 3, 4] 4 #[.int .u8 1, .int .u8 2, .int .u8 3, .int .u8 4] rfl (by simp [Lib.byteCells]) (by omega) (0, 0); simpa using this)
  rw [Pc.awk_h4] at h5
  have H5 := Lib.hid h5
  clear h5
  go_wp2_with fail
  refine H5.out.mono ?_
  rintro e w5 ⟨rfl, b5⟩
  have b5' := below_alloc (below_alloc b5)
  have T5 := Lib.hid (block_next T4.out b5')
  have U5 := Lib.hid (block_next U4.out b5')
  have V5 := Lib.hid (block_next V4.out b5')
  have R5 := Lib.hid (R4.out.next b5')
  have B5 := Lib.hid (Below.chain B4.out b5')
  have A5 := Lib.hid (A4.out.next b5')
  clear T4 U4 V4 R4 B4 A4 b5 b5' H5
  simp only [hcells]
  generalize w4.heap.size = X4
  have b6 : Below w5.heap.size w5 (w5.alloc (.cells #[.bool Pc.hz.big, .bool Pc.hz.nano, .int .u32 (Pc.hz.snap : Int), .int .u32 (Pc.hz.link : Int)] 24)) := (Below.refl _ _).alloc (Nat.le_refl _) _
  have T6 := Lib.hid (block_next T5.out b6)
  have U6 := Lib.hid (block_next U5.out b6)
  have V6 := Lib.hid (block_next V5.out b6)
  have R6 := Lib.hid (R5.out.next b6)
  have B6 := Lib.hid (Below.chain B5.out b6)
  have A6 := Lib.hid (A5.out.next b6)
  have hcap := R5.out.le
  rw [Pc.awk_len] at hcap
  have j1 : ¬ c1 = 24 := by omega
  have j2 : ¬ (c1 : Int) = 24 := by omega
  clear T5 U5 V5 R5 B5 A5 b6
  go_wp2_with fail
  generalize w5.alloc (.cells #[.bool Pc.hz.big, .bool Pc.hz.nano, .int .u32 (Pc.hz.snap : Int), .int .u32 (Pc.hz.link : Int)] 24) = w6 at *
  generalize w5.heap.size = X5
  have hcut := R6.out.cut 24 43 (by omega) (by rw [Pc.awk_len]; omega)
  rw [if_neg j1, List.take_of_length_le (by rw [Pc.awk_len]; omega)] at hcut
  simp only [Addr.add] at hcut
  have h7 := next_any _ 19 _ _ true w6 (by rw [List.length_drop, Pc.awk_len]) (by omega) hcut
  rw [Pc.awk_next] at h7
  refine h7.mono ?_
  rintro e w7 ⟨v7, rfl, o7, b7⟩
  obtain ⟨p7, c7, rfl, r7⟩ := rowAt_own (n := 3) rfl o7
  have T7 := Lib.hid (block_next T6.out b7)
  have U7 := Lib.hid (block_next U6.out b7)
  have V7 := Lib.hid (block_next V6.out b7)
  have R7 := Lib.hid (R6.out.next b7)
  have B7 := Lib.hid (Below.chain B6.out b7)
  have A7 := Lib.hid (A6.out.next b7)
  have K7 := Lib.hid r7
  clear T6 U6 V6 R6 B6 A6 b7 r7 o7 h7 hcut
  simp only [rcells]
  go_wp2_with fail
  have hY : (w7.alloc (.cells #[.int .u32 (Pc.ar.sec : Int), .int .u32 (Pc.ar.frac : Int), .int .u32 (Pc.ar.len : Int), .slice p7 3 c7] 46)).heap[w7.heap.size]? = some (.cells (rcells Pc.ar (.slice p7 3 c7)).toArray 46 (0, 0)) := heap_alloc_new w7 _
  have b8 : Below w7.heap.size w7 (w7.alloc (.cells #[.int .u32 (Pc.ar.sec : Int), .int .u32 (Pc.ar.frac : Int), .int .u32 (Pc.ar.len : Int), .slice p7 3 c7] 46)) := (Below.refl _ _).alloc (Nat.le_refl _) _
  have T8 := Lib.hid (block_next T7.out b8)
  have U8 := Lib.hid (block_next U7.out b8)
  have V8 := Lib.hid (block_next V7.out b8)
  have R8 := Lib.hid (R7.out.next b8)
  have B8 := Lib.hid (Below.chain B7.out b8)
  have A8 := Lib.hid (A7.out.next b8)
  have K8 := Lib.hid (K7.out.next b8)
  clear T7 U7 V7 R7 B7 A7 K7 b8
  generalize w7.alloc (.cells #[.int .u32 (Pc.ar.sec : Int), .int .u32 (Pc.ar.frac : Int), .int .u32 (Pc.ar.len : Int), .slice p7 3 c7] 46) = w8 at *
  generalize w7.heap.size = Y at *
  have h9 := next_any none 0 0 [] true w8 rfl (by omega) (rowAt_nil w8)
  rw [Pc.awk_n0] at h9
  refine h9.mono ?_
  rintro e w9 ⟨v9, rfl, o9, b9⟩
  obtain ⟨p9, c9, rfl, _⟩ := rowAt_own (n := 0) rfl o9
  simp only [rcells]
  have b10 : ∀ o, Below w9.heap.size w9 (w9.alloc o) := fun o => (Below.refl _ _).alloc (Nat.le_refl _) _
  have b11 := fun o => Below.chain b9 (b10 o)
  have T9 := fun o => block_next T8.out (b11 o)
  have U9 := fun o => block_next U8.out (b11 o)
  have V9 := fun o => block_next V8.out (b11 o)
  have Y9 := fun o => block_next hY (b11 o)
  have r9 := fun o => R8.out.next (b11 o)
  have B9 := Lib.hid (fun o => Below.chain B8.out (b11 o))
  have k9 := fun o => K8.out.next (b11 o)
  obtain ⟨b, off, p, c, rfl, q9⟩ := RecsAt.at (A8.out.next b9) 0 (by simp)
  simp only [List.getElem_cons_zero, Nat.zero_mul, Nat.add_zero] at q9
  have hbl : b < w9.heap.size := by
    rcases A8.out.next b9 with h | ⟨b', off', e1, h, _⟩
    · simp at h
    · cases e1; exact h
  have q10 := fun o => q9.next hbl (b10 o)
  clear T8 U8 V8 R8 B8 A8 K8 b9 b10 b11 h9 o9 hY q9 hbl
  have t0 : ∀ o, (w9.alloc o).cell? ⟨T, 0, none⟩ = some (.bool true) := fun o => cell_of_row _ _ _ _ _ _ (T9 o)
  have t1 : ∀ o, (w9.alloc o).cell? ⟨T, 1, none⟩ = some (.bool false) := fun o => cell_of_row _ _ _ _ _ _ (T9 o)
  have t2 : ∀ o, (w9.alloc o).cell? ⟨T, 2, none⟩ = some (.int .u32 65535) := fun o => cell_of_row _ _ _ _ _ _ (T9 o)
  have t3 : ∀ o, (w9.alloc o).cell? ⟨T, 3, none⟩ = some (.int .u32 9) := fun o => cell_of_row _ _ _ _ _ _ (T9 o)
  have u0 : ∀ o, (w9.alloc o).cell? ⟨U, 0, none⟩ = some (.bool true) := fun o => cell_of_row _ _ _ _ _ _ (U9 o)
  have u1 : ∀ o, (w9.alloc o).cell? ⟨U, 1, none⟩ = some (.bool false) := fun o => cell_of_row _ _ _ _ _ _ (U9 o)
  have u2 : ∀ o, (w9.alloc o).cell? ⟨U, 2, none⟩ = some (.int .u32 65535) := fun o => cell_of_row _ _ _ _ _ _ (U9 o)
  have u3 : ∀ o, (w9.alloc o).cell? ⟨U, 3, none⟩ = some (.int .u32 9) := fun o => cell_of_row _ _ _ _ _ _ (U9 o)
  have v0 : ∀ o, (w9.alloc o).cell? ⟨U + 1, 0, none⟩ = some (.int .i64 0) := fun o => cell_of_row _ _ _ _ _ _ (V9 o)
  have v1 : ∀ o, (w9.alloc o).cell? ⟨U + 1, 1, none⟩ = some (.int .i64 0) := fun o => cell_of_row _ _ _ _ _ _ (V9 o)
  have y3 : ∀ o, (w9.alloc o).cell? ⟨Y, 3, none⟩ = some (.slice p7 3 c7) := fun o => cell_of_row _ _ _ _ _ _ (Y9 o)
  have q0 : ∀ o, (w9.alloc o).cell? ⟨b, off, none⟩ = some (.int .u32 1) := fun o => (q10 o).sec
  have q3 : ∀ o, (w9.alloc o).cell? ⟨b, off + 3, none⟩ = some (.slice p 3 c) := fun o => (q10 o).data
  have z1 : ∀ o, (convert 28 9 (.slice a1 8 c1)).run Try.prog (w9.alloc o) = .ok (.string ⟨#[161, 178, 195, 212, 0, 2, 0, 4]⟩) (w9.alloc o) := fun o => by
    have := conv_row (n := 8) (by rw [Pc.awk_eight]; rfl) ((r9 o).head 8 (by rw [Pc.awk_len]; omega))
    rw [Pc.awk_eight] at this
    exact this
  have z2 : ∀ o, (convert 28 9 (.slice p 3 c)).run Try.prog (w9.alloc o) = .ok (.string ⟨#[97, 98, 99]⟩) (w9.alloc o) := fun o => conv_row (xs := [97, 98, 99]) rfl (q10 o).row
  have z3 : ∀ o, (convert 28 9 (.slice p7 3 c7)).run Try.prog (w9.alloc o) = .ok (.string ⟨#[97, 98, 99]⟩) (w9.alloc o) := fun o => conv_row (xs := [97, 98, 99]) rfl (k9 o)
  have j8 : (8 : Int) ≤ (c1 : Int) := by omega
  clear T9 U9 V9 Y9 r9 k9 q10
  go_wp2
  go_ret
  exact ⟨rfl, B9.out _⟩
end Go.Proofs.Ytfkjjolohphaoaa
