/- The answers that awake asks for; contract of awake. -/
import Derived.Test.YtcklhgpfiibcaaaOk
import Derived.Test.YtcklhgpfiibcaaaOl
import Derived.KernelRfl
namespace Go.Proofs.Ytcklhgpfiibcaaa
open Go.RowKit
namespace Ot
def an : List O := [⟨1, [5, 220]⟩, ⟨7, []⟩]
theorem an_fine : fine an := fun x h => by
  simp [an] at h
  rcases h with rfl | rfl
  · decide
  · decide
theorem an_bytes : bytes an = [1, 4, 5, 220, 7, 2] := by decide +kernel
theorem an_read : read [1, 4, 5, 220, 7, 2] = (an, 0, 0) := by rw [← an_bytes]; exact read_put an an_fine
theorem an_err : err an = 0 := (err_zero an).2 an_fine
theorem a11_read : read [1, 1] = ([], 0, 3) := by kernel_rfl
theorem a13_read : read [1, 3] = ([], 0, 2) := by kernel_rfl
theorem a256_err : err [⟨256, []⟩] = 1 := by decide +kernel
theorem an_find1 : find an 1 = some [5, 220] := by decide +kernel
theorem an_find2 : find an 2 = none := by decide +kernel
theorem an_in : within (an.drop 1) an = true := by decide +kernel
theorem an_out : within an (an.drop 1) = false := by decide +kernel
theorem an_twice : twice an = false := by decide +kernel
theorem an_short : ∀ x ∈ an, x.data.length ≤ 300000 := fun x h => by
  simp [an] at h
  rcases h with rfl | rfl <;> simp
theorem an_wf : ∀ x ∈ an, (Lit.int .i64 x.ty).wf = true := fun x h => by
  simp [an] at h
  rcases h with rfl | rfl <;> decide
end Ot
theorem awk_256 (w : World) : OptsAt (w.alloc (.cells #[.int .i64 256, .slice none 0 0] 42)) (some ⟨w.heap.size, 0, none⟩) [⟨256, []⟩] := by
  have hg := heap_alloc_new w (.cells #[.int .i64 256, .slice none 0 0] 42)
  refine .inr ⟨w.heap.size, 0, rfl, lt_of_block hg, fun j hj => ?_⟩
  have : j = 0 := by simpa using hj
  subst this
  exact ⟨none, 0, cell_of_row _ _ _ _ _ _ hg, cell_of_row _ _ _ _ _ _ hg, rowAt_nil _⟩
/-- What awake holds. -/
structure Awk (w W : World) (S : Nat) (a : Option Addr) : Prop where
  bel : Below w.heap.size w W
  spot : W.heap[S]? = some (.cells (scells 0 0).toArray 32 (0, 0))
  opts : OptsAt W a Ot.an
theorem Awk.next {w W W' : World} {S : Nat} {a : Option Addr} (h : Awk w W S a) (b : Below W.heap.size W W') : Awk w W' S a := ⟨Below.chain h.bel b, block_next h.spot b, h.opts.next b⟩
theorem put_fine {w w' : World} {e : Ending} {L : List Ot.O} (h : PutRes w w' e L) (h0 : Ot.err L = 0) : ∃ a c, e = .returned (.tuple #[.slice a (Ot.bytes L).length c, .int .i64 0]) ∧ RowAt w' a c (Ot.bytes L) ∧ Below w.heap.size w w' ∧ w'.ownsRow w.heap.size 5 1 (.slice a (Ot.bytes L).length c) (Ot.bytes L).length (Lib.byteCells (Ot.bytes L)) := by
  rcases h with ⟨b, ⟨_, v, rfl, o⟩ | ⟨h1, _⟩⟩
  · obtain ⟨a, c, rfl, r⟩ := rowAt_own rfl o
    exact ⟨a, c, rfl, r, b, o⟩
  · exact absurd h0 h1
theorem put_bad {w w' : World} {e : Ending} {L : List Ot.O} (h : PutRes w w' e L) (h0 : Ot.err L ≠ 0) : e = .returned (.tuple #[.slice none 0 0, .int .i64 (Ot.err L : Int)]) ∧ Below w.heap.size w w' := by
  rcases h with ⟨b, ⟨h1, _⟩ | ⟨_, h1⟩⟩
  · exact absurd h1 h0
  · exact ⟨h1, b⟩

set_option maxRecDepth 100000 in
set_option maxHeartbeats 1000000 in
theorem awake_any (w : World) : Calls Try.prog 9 #[] w fun e w' => e = .returned (.bool true) ∧ Below w.heap.size w w' := by
  have h0 := read_any (some ⟨w.heap.size, 0, none⟩) 6 6 [1, 4, 5, 220, 7, 2] (w.alloc (.cells #[.int .u8 1, .int .u8 4, .int .u8 5, .int .u8 220, .int .u8 7, .int .u8 2] 5)) rfl (by omega) (rowAt_built w [1, 4, 5, 220, 7, 2] 6 _ rfl (by simp [Lib.byteCells]) (by omega) (0, 0))
  rw [Ot.an_read] at h0
  have H0 := Lib.hid h0
  clear h0
  go_enter Try.func9, Try.ntmps9
  go_wp2_with fail
  refine H0.out.mono ?_
  rintro e w1 ⟨v1, rfl, n1, b1⟩
  obtain ⟨a1, c1, rfl, A1⟩ := n1.at
  have hc1 := Opts.cap n1
  have hB1 := below_alloc b1
  clear b1 H0 n1
  simp only [scells]
  have hl : Ot.an.length = 2 := rfl
  simp only [hl] at hc1 ⊢
  have W2 : Hid (Awk w (w1.alloc (.cells #[.int .i64 0, .int .i64 0] 32)) w1.heap.size a1) := ⟨Below.chain hB1 (below_one w1 _), heap_alloc_new w1 _, A1.next (below_one w1 _)⟩
  clear hB1 A1
  go_wp2_with fail
  generalize w1.alloc (.cells #[.int .i64 0, .int .i64 0] 32) = w2 at *
  generalize w1.heap.size = S at *
  refine (put_any a1 2 c1 Ot.an w2 rfl (by omega) W2.out.opts).mono ?_
  intro e w3 h3
  obtain ⟨ax, cx, rfl, rx, b3, _⟩ := put_fine h3 Ot.an_err
  have hxl : (Ot.bytes Ot.an).length = 6 := by rw [Ot.an_bytes]; rfl
  simp only [hxl]
  have W3 := Lib.hid (W2.out.next b3)
  have RX := Lib.hid rx
  clear h3 rx b3 W2
  have h4 := read_any (some ⟨w3.heap.size, 0, none⟩) 2 2 [1, 1] (w3.alloc (.cells #[.int .u8 1, .int .u8 1] 5)) rfl (by omega) (rowAt_built w3 [1, 1] 2 _ rfl (by simp [Lib.byteCells]) (by omega) (0, 0))
  rw [Ot.a11_read] at h4
  have H4 := Lib.hid h4
  clear h4
  go_wp2_with fail
  refine H4.out.mono ?_
  rintro e w4 ⟨v4, rfl, n4, b4⟩
  obtain ⟨a4, c4, rfl⟩ := opts_slice n4
  have b4' := below_alloc b4
  have W4 := Lib.hid ((W3.out.next b4').next (below_one w4 (.cells #[.int .i64 0, .int .i64 3] 32)))
  have RX4 := Lib.hid ((RX.out.next b4').next (below_one w4 (.cells #[.int .i64 0, .int .i64 3] 32)))
  have T4 := Lib.hid (heap_alloc_new w4 (.cells #[.int .i64 0, .int .i64 3] 32))
  have hs4 : (w4.alloc (.cells #[.int .i64 0, .int .i64 3] 32)).heap.size = w4.heap.size + 1 := by simp
  simp only [scells]
  have h5 := read_any (some ⟨w4.heap.size + 1, 0, none⟩) 2 2 [1, 3] ((w4.alloc (.cells #[.int .i64 0, .int .i64 3] 32)).alloc (.cells #[.int .u8 1, .int .u8 3] 5)) rfl (by omega) (by have := rowAt_built (w4.alloc (.cells #[.int .i64 0, .int .i64 3] 32)) [1, 3] 2 (#[.int .u8 1, .int .u8 3]) rfl (by simp [Lib.byteCells]) (by omega) (0, 0); rw [hs4] at this; exact this)
  rw [Ot.a13_read] at h5
  have H5 := Lib.hid h5
  clear b4 b4' n4 H4 W3 RX h5
  go_wp2_with fail
  refine H5.out.mono ?_
  rintro e w5 ⟨v5, rfl, n5, b5⟩
  obtain ⟨a5, c5, rfl⟩ := opts_slice n5
  have b5' := below_alloc b5
  have W5 := Lib.hid ((W4.out.next b5').next (below_one w5 (.cells #[.int .i64 0, .int .i64 2] 32)))
  have RX5 := Lib.hid ((RX4.out.next b5').next (below_one w5 (.cells #[.int .i64 0, .int .i64 2] 32)))
  have T5 := Lib.hid (block_next (block_next T4.out b5') (below_one w5 (.cells #[.int .i64 0, .int .i64 2] 32)))
  have U5 := Lib.hid (heap_alloc_new w5 (.cells #[.int .i64 0, .int .i64 2] 32))
  have hs5 : (w5.alloc (.cells #[.int .i64 0, .int .i64 2] 32)).heap.size = w5.heap.size + 1 := by simp
  simp only [scells]
  have h6 := put_any (some ⟨w5.heap.size + 1, 0, none⟩) 1 1 [⟨256, []⟩] ((w5.alloc (.cells #[.int .i64 0, .int .i64 2] 32)).alloc (.cells #[.int .i64 256, .slice none 0 0] 42)) rfl (by omega) (by have := awk_256 (w5.alloc (.cells #[.int .i64 0, .int .i64 2] 32)); rw [hs5] at this; exact this)
  have H6 := Lib.hid h6
  clear b5 b5' n5 H5 W4 RX4 T4 hs4 h6
  generalize w4.heap.size = T at *
  go_wp2_with fail
  refine H6.out.mono ?_
  intro e w6 h6
  obtain ⟨rfl, b6⟩ := put_bad h6 (by rw [Ot.a256_err]; omega)
  rw [Ot.a256_err]
  have b6' := below_alloc b6
  have W6 := Lib.hid (W5.out.next b6')
  have RX6 := Lib.hid (RX5.out.next b6')
  have T6 := Lib.hid (block_next T5.out b6')
  have U6 := Lib.hid (block_next U5.out b6')
  clear h6 b6 b6' H6 W5 RX5 T5 U5 hs5
  generalize w5.heap.size = U at *
  have h7 := find_any a1 2 c1 Ot.an 1 w6 rfl (by omega) Ot.an_short W6.out.opts
  rw [Ot.an_find1] at h7
  have H7 := Lib.hid h7
  clear h7
  go_wp2_with fail
  refine H7.out.mono ?_
  rintro e w7 ⟨b7, v7, rfl, o7⟩
  obtain ⟨af, cf, rfl, rf⟩ := rowAt_own (n := 2) rfl o7
  have W7 := Lib.hid (W6.out.next b7)
  have RX7 := Lib.hid (RX6.out.next b7)
  have T7 := Lib.hid (block_next T6.out b7)
  have U7 := Lib.hid (block_next U6.out b7)
  have RF7 := Lib.hid rf
  clear b7 o7 rf H7 W6 RX6 T6 U6
  simp only [Option.isSome_some]
  have h8 := find_any a1 2 c1 Ot.an 2 w7 rfl (by omega) Ot.an_short W7.out.opts
  rw [Ot.an_find2] at h8
  have H8 := Lib.hid h8
  clear h8
  go_wp2_with fail
  refine H8.out.mono ?_
  rintro e w8 ⟨b8, v8, rfl, o8⟩
  obtain ⟨p8, c8, rfl⟩ := own_slice o8
  have W8 := Lib.hid (W7.out.next b8)
  have RX8 := RX7.out.next b8
  have T8 := block_next T7.out b8
  have U8 := block_next U7.out b8
  have RF8 := RF7.out.next b8
  clear b8 o8 H8 W7 RX7 T7 U7 RF7
  simp only [Option.isSome_none]
  have s0 : w8.cell? ⟨S, 0, none⟩ = some (.int .i64 0) := cell_of_row _ _ _ _ _ _ W8.out.spot
  have s1 : w8.cell? ⟨S, 1, none⟩ = some (.int .i64 0) := cell_of_row _ _ _ _ _ _ W8.out.spot
  have t0 : w8.cell? ⟨T, 0, none⟩ = some (.int .i64 0) := cell_of_row _ _ _ _ _ _ T8
  have t1 : w8.cell? ⟨T, 1, none⟩ = some (.int .i64 3) := cell_of_row _ _ _ _ _ _ T8
  have u0 : w8.cell? ⟨U, 0, none⟩ = some (.int .i64 0) := cell_of_row _ _ _ _ _ _ U8
  have u1 : w8.cell? ⟨U, 1, none⟩ = some (.int .i64 2) := cell_of_row _ _ _ _ _ _ U8
  obtain ⟨b, off, p, c, rfl, q1, hbl⟩ := W8.out.opts.at 1 (by decide)
  have y1 : w8.cell? ⟨b, off + 2, none⟩ = some (.int .i64 7) := by have := q1.ty; rw [Nat.one_mul] at this; exact this
  have z1 : (convert 25 9 (.slice af 2 cf)).run Try.prog w8 = .ok (.string ⟨#[5, 220]⟩) w8 := conv_row (xs := [5, 220]) rfl RF8
  have z2 : (convert 25 9 (.slice ax 6 cx)).run Try.prog w8 = .ok (.string ⟨#[1, 4, 5, 220, 7, 2]⟩) w8 := by
    have := conv_row (n := 6) (by rw [Ot.an_bytes]; rfl) RX8
    rw [Ot.an_bytes] at this
    exact this
  have BB := Lib.hid W8.out.bel
  have OP := Lib.hid W8.out.opts
  clear q1 RX8 RF8 T8 U8 W8 hbl
  go_wp2_with fail
  refine (same_any _ _ 2 2 c1 c1 Ot.an Ot.an w8 rfl rfl (by omega) OP.out OP.out).mono ?_
  rintro e w9 ⟨rfl, b9⟩
  rw [decide_eq_true (rfl : Ot.an = Ot.an)]
  have BB9 := Lib.hid (Below.chain BB.out b9)
  have OP9 := Lib.hid (OP.out.next b9)
  have i1 : ¬ c1 = 1 := by omega
  have i2 : (1 : Int) ≤ (c1 : Int) := by omega
  clear b9 BB OP
  have DR : ∀ W, OptsAt W (some ⟨b, off, none⟩) Ot.an → OptsAt W (some ⟨b, off + 2, none⟩) (Ot.an.drop 1) := fun W h => by
    have := h.drop 1
    rw [Option.map_some, Go.WideShapes.add_plain] at this
    exact this
  have DR := Lib.hid DR
  go_wp2_with fail
  refine (within_any (some ⟨b, off + 2, none⟩) (some ⟨b, off, none⟩) 1 2 (c1 - 1) c1 (Ot.an.drop 1) Ot.an w9 rfl rfl (by omega) (by omega) hc1 (DR.out _ OP9.out) OP9.out).mono ?_
  rintro e w10 ⟨rfl, b10⟩
  rw [Ot.an_in]
  have BB10 := Lib.hid (Below.chain BB9.out b10)
  have OP10 := Lib.hid (OP9.out.next b10)
  clear b10 BB9 OP9
  go_wp2_with fail
  refine (within_any (some ⟨b, off, none⟩) (some ⟨b, off + 2, none⟩) 2 1 c1 (c1 - 1) Ot.an (Ot.an.drop 1) w10 rfl rfl (by omega) (by omega) (by omega) OP10.out (DR.out _ OP10.out)).mono ?_
  rintro e w11 ⟨rfl, b11⟩
  rw [Ot.an_out]
  have BB11 := Lib.hid (Below.chain BB10.out b11)
  have OP11 := Lib.hid (OP10.out.next b11)
  clear b11 BB10 OP10
  go_wp2_with fail
  refine (twice_any (some ⟨b, off, none⟩) 2 c1 Ot.an w11 rfl (by omega) Ot.an_wf OP11.out).mono ?_
  rintro e w12 ⟨rfl, b12⟩
  rw [Ot.an_twice]
  have BB12 := Lib.hid (Below.chain BB11.out b12)
  clear b12 BB11 OP11 DR
  go_wp2
  go_ret
  exact ⟨rfl, BB12.out⟩
end Go.Proofs.Ytcklhgpfiibcaaa
