/- The answers that awake asks for; contract of awake. -/
import Derived.Test.YtbpkhjjabnboaaaPb
import Derived.Test.YtbpkhjjabnboaaaPc
import Derived.Test.YtbpkhjjabnboaaaPf
import Derived.Test.YtbpkhjjabnboaaaPe
import Derived.KernelRfl
namespace Go.Proofs.Ytbpkhjjabnboaaa
open Go.RowKit S2 S12
namespace Pk
def q : P := ⟨1, 7, [7, 2]⟩
theorem a_get : get [1, 7, 0, 6, 7, 2, 99] = (q, 0) := by decide +kernel
theorem a_put : err q = 0 := by decide +kernel
theorem a_bytes : bytes q = [1, 7, 0, 6, 7, 2] := by decide +kernel
theorem a_form : get [1, 7, 0, 3] = (pz, 3) := by decide +kernel
theorem a_end : get [1, 7, 0] = (pz, 2) := by decide +kernel
theorem a_arg : err ⟨256, 0, []⟩ = 1 := by decide +kernel
theorem a_opts : ∃ L : List Ot.O, L.length = 1 ∧ options q = (L, true) := ⟨[⟨7, []⟩], rfl, by kernel_rfl⟩
theorem a_magic : magic ⟨9, 0, [0, 0, 1, 0, 5]⟩ = (256, [5], true) := by decide +kernel
theorem a_rej : rejected ⟨8, 0, [192, 33, 5]⟩ = (49185, [5], true) := by decide +kernel
end Pk
/-- What awake holds. -/
structure Awk (w W : World) (S : Nat) (a : Option Addr) (c : Nat) : Prop where
  bel : Below w.heap.size w W
  pkt : W.heap[S]? = some (.cells (pcells Pk.q (.slice a 2 c)).toArray 24 (0, 0))
  row : RowAt W a c Pk.q.data
theorem Awk.next {w W W' : World} {S : Nat} {a : Option Addr} {c : Nat} (h : Awk w W S a c) (b : Below W.heap.size W W') : Awk w W' S a c := ⟨Below.chain h.bel b, block_next h.pkt b, h.row.next b⟩

set_option maxRecDepth 100000 in
set_option maxHeartbeats 1000000 in
theorem awake_any (w : World) : Calls Try.prog 8 #[] w fun e w' => e = .returned (.bool true) ∧ Below w.heap.size w w' := by
  have h0 := get_any (some ⟨w.heap.size, 0, none⟩) 7 7 [1, 7, 0, 6, 7, 2, 99] (w.alloc (.cells #[.int .u8 1, .int .u8 7, .int .u8 0, .int .u8 6, .int .u8 7, .int .u8 2, .int .u8 99] 5)) rfl (by omega) (rowAt_built w [1, 7, 0, 6, 7, 2, 99] 7 _ rfl (by simp [Lib.byteCells]) (by omega) (0, 0))
  rw [Pk.a_get] at h0
  have H0 := Lib.hid h0
  clear h0
  go_enter Try.func8, Try.ntmps8
  go_wp2_with fail
  refine H0.out.mono ?_
  intro e w1 h1
  obtain ⟨a1, c1, rfl, o1, r1, b1⟩ := h1.row
  have hB1 := below_alloc b1
  have hql : Pk.q.data.length = 2 := rfl
  have W2 : Hid (Awk w (w1.alloc (.cells (pcells Pk.q (.slice a1 2 c1)).toArray 24)) w1.heap.size a1 c1) := ⟨Below.chain hB1 (below_one w1 _), heap_alloc_new w1 _, r1.next (below_one w1 _)⟩
  simp only [hql]
  simp only [pcells] at W2 ⊢
  clear hB1 b1 o1 r1 h1 H0
  go_wp2_with fail
  generalize w1.alloc (.cells #[.int .i64 Pk.q.code, .int .i64 Pk.q.id, .slice a1 2 c1] 24) = w2 at *
  generalize w1.heap.size = S at *
  refine (put_any Pk.q a1 2 c1 w2 rfl (by omega) W2.out.row).mono ?_
  intro e w3 h3
  obtain ⟨ax, cx, rfl, rx, b3, _⟩ := put_fine h3 Pk.a_put
  have hxl : (Pk.bytes Pk.q).length = 6 := by rw [Pk.a_bytes]; rfl
  simp only [hxl]
  have W3 := Lib.hid (W2.out.next b3)
  have RX := Lib.hid rx
  clear h3 rx b3 W2
  have h4 := get_any (some ⟨w3.heap.size, 0, none⟩) 4 4 [1, 7, 0, 3] (w3.alloc (.cells #[.int .u8 1, .int .u8 7, .int .u8 0, .int .u8 3] 5)) rfl (by omega) (rowAt_built w3 [1, 7, 0, 3] 4 _ rfl (by simp [Lib.byteCells]) (by omega) (0, 0))
  rw [Pk.a_form] at h4
  have H4 := Lib.hid h4
  clear h4
  go_wp2_with fail
  refine H4.out.mono ?_
  intro e w4 h4
  obtain ⟨a4, c4, rfl, o4, r4, b4⟩ := h4.row
  have b4' := below_alloc b4
  simp only [pcells]
  have W4 := Lib.hid ((W3.out.next b4').next (below_one w4 (.cells #[.int .i64 Pk.pz.code, .int .i64 Pk.pz.id, .slice a4 Pk.pz.data.length c4] 24)))
  have RX4 := Lib.hid ((RX.out.next b4').next (below_one w4 (.cells #[.int .i64 Pk.pz.code, .int .i64 Pk.pz.id, .slice a4 Pk.pz.data.length c4] 24)))
  clear h4 o4 r4 b4 b4' H4 W3 RX
  have hs4 : (w4.alloc (.cells #[.int .i64 Pk.pz.code, .int .i64 Pk.pz.id, .slice a4 Pk.pz.data.length c4] 24)).heap.size = w4.heap.size + 1 := by simp
  have h6 := get_any (some ⟨w4.heap.size + 1, 0, none⟩) 3 3 [1, 7, 0] ((w4.alloc (.cells #[.int .i64 Pk.pz.code, .int .i64 Pk.pz.id, .slice a4 Pk.pz.data.length c4] 24)).alloc (.cells #[.int .u8 1, .int .u8 7, .int .u8 0] 5)) rfl (by omega) (by have := rowAt_built (w4.alloc (.cells #[.int .i64 Pk.pz.code, .int .i64 Pk.pz.id, .slice a4 Pk.pz.data.length c4] 24)) [1, 7, 0] 3 (#[.int .u8 1, .int .u8 7, .int .u8 0]) rfl (by simp [Lib.byteCells]) (by omega) (0, 0); rw [hs4] at this; exact this)
  rw [Pk.a_end] at h6
  have H6 := Lib.hid h6
  clear h6
  go_wp2_with fail
  refine H6.out.mono ?_
  intro e w6 h6
  obtain ⟨a6, c6, rfl, o6, r6, b6⟩ := h6.row
  have b6' := below_alloc b6
  simp only [pcells]
  have W6 := Lib.hid ((W4.out.next b6').next (below_one w6 (.cells #[.int .i64 Pk.pz.code, .int .i64 Pk.pz.id, .slice a6 Pk.pz.data.length c6] 24)))
  have RX6 := Lib.hid ((RX4.out.next b6').next (below_one w6 (.cells #[.int .i64 Pk.pz.code, .int .i64 Pk.pz.id, .slice a6 Pk.pz.data.length c6] 24)))
  clear h6 o6 r6 b6 b6' H6 W4 RX4 hs4
  go_wp2_with fail
  generalize w6.alloc (.cells #[.int .i64 Pk.pz.code, .int .i64 Pk.pz.id, .slice a6 Pk.pz.data.length c6] 24) = w7 at *
  have h8 := put_any ⟨256, 0, []⟩ none 0 0 w7 rfl (by omega) (rowAt_nil _)
  have H8 := Lib.hid h8
  clear h8
  refine H8.out.mono ?_
  intro e w8 h8
  obtain ⟨rfl, b8⟩ := put_bad h8 (by rw [Pk.a_arg]; omega)
  rw [Pk.a_arg]
  have W8 := Lib.hid (W6.out.next b8)
  have RX8 := Lib.hid (RX6.out.next b8)
  clear h8 b8 H8 W6 RX6
  have L8 := W8.out.pkt
  simp only [pcells] at L8
  go_wp2_with (refine wpList_load_row rfl 24 (.tmp 1) rfl S rfl 24 #[.int .i64 Pk.q.code, .int .i64 Pk.q.id, .slice a1 2 c1] (0, 0) _ L8 Try.underlying24 rfl infoPkt ?_)
  refine (options_any Pk.q a1 2 c1 w8 rfl (by omega) W8.out.row).mono ?_
  rintro e w9 ⟨v9, rfl, o9, b9⟩
  obtain ⟨L, hL, hO⟩ := Pk.a_opts
  rw [hO] at o9 ⊢
  obtain ⟨a9, c9, rfl⟩ := opts_slice o9
  simp only [hL]
  have W9 := Lib.hid (W8.out.next b9)
  have RX9 := Lib.hid (RX8.out.next b9)
  clear b9 o9 W8 RX8 L8 hO
  have h10 := magic_any ⟨9, 0, [0, 0, 1, 0, 5]⟩ (some ⟨w9.heap.size, 0, none⟩) 5 5 (w9.alloc (.cells #[.int .u8 0, .int .u8 0, .int .u8 1, .int .u8 0, .int .u8 5] 5)) rfl (by omega) (rowAt_built w9 [0, 0, 1, 0, 5] 5 _ rfl (by simp [Lib.byteCells]) (by omega) (0, 0))
  rw [Pk.a_magic] at h10
  have H10 := Lib.hid h10
  clear h10
  go_wp2_with fail
  refine H10.out.mono ?_
  intro e w10 h10
  obtain ⟨a10, c10, rfl, _, r10, b10⟩ := h10.row
  have b10' := below_alloc b10
  simp only [List.length_cons, List.length_nil]
  have W10 := Lib.hid (W9.out.next b10')
  have RX10 := Lib.hid (RX9.out.next b10')
  have RM10 := Lib.hid r10
  clear h10 b10 b10' r10 H10 W9 RX9
  have h11 := rejected_any ⟨8, 0, [192, 33, 5]⟩ (some ⟨w10.heap.size, 0, none⟩) 3 3 (w10.alloc (.cells #[.int .u8 192, .int .u8 33, .int .u8 5] 5)) rfl (by omega) (rowAt_built w10 [192, 33, 5] 3 _ rfl (by simp [Lib.byteCells]) (by omega) (0, 0))
  rw [Pk.a_rej] at h11
  have H11 := Lib.hid h11
  clear h11
  go_wp2_with fail
  refine H11.out.mono ?_
  intro e w11 h11
  obtain ⟨a11, c11, rfl, _, r11, b11⟩ := h11.row
  have b11' := below_alloc b11
  simp only [List.length_cons, List.length_nil]
  have W11 := Lib.hid (W10.out.next b11')
  have RX11 := RX10.out.next b11'
  have RM11 := RM10.out.next b11'
  have RR11 := r11
  clear h11 b11 b11' r11 H11 W10 RX10 RM10
  have L11 := W11.out.pkt
  have s0 : w11.cell? ⟨S, 0, none⟩ = some (.int .i64 1) := cell_of_row _ _ _ _ _ _ L11
  have s1 : w11.cell? ⟨S, 1, none⟩ = some (.int .i64 7) := cell_of_row _ _ _ _ _ _ L11
  have s2 : w11.cell? ⟨S, 2, none⟩ = some (.slice a1 2 c1) := cell_of_row _ _ _ _ _ _ L11
  simp only [pcells] at L11
  have z1 : (convert 22 9 (.slice a1 2 c1)).run Try.prog w11 = .ok (.string ⟨#[7, 2]⟩) w11 := conv_row (xs := [7, 2]) rfl W11.out.row
  have z2 : (convert 22 9 (.slice ax 6 cx)).run Try.prog w11 = .ok (.string ⟨#[1, 7, 0, 6, 7, 2]⟩) w11 := by
    have := conv_row (n := 6) (by rw [Pk.a_bytes]; rfl) RX11
    rw [Pk.a_bytes] at this
    exact this
  have z3 : (convert 22 9 (.slice a10 1 c10)).run Try.prog w11 = .ok (.string ⟨#[5]⟩) w11 := conv_row (xs := [5]) rfl RM11
  have z4 : (convert 22 9 (.slice a11 1 c11)).run Try.prog w11 = .ok (.string ⟨#[5]⟩) w11 := conv_row (xs := [5]) rfl RR11
  have sm := same_any Pk.q Pk.q a1 a1 2 2 c1 c1 w11 rfl rfl W11.out.row W11.out.row
  rw [decide_eq_true (rfl : Pk.q = Pk.q)] at sm
  have SM := Lib.hid sm
  clear sm
  have BB := Lib.hid W11.out.bel
  clear RX11 RM11 RR11 W11 hL
  go_wp2_with (refine wpList_load_row rfl 24 (.tmp 1) rfl S rfl 24 #[.int .i64 Pk.q.code, .int .i64 Pk.q.id, .slice a1 2 c1] (0, 0) _ L11 Try.underlying24 rfl infoPkt ?_)
  refine SM.out.mono ?_
  rintro e w12 ⟨rfl, b12⟩
  have BB12 := Lib.hid (Below.chain BB.out b12)
  clear b12 BB SM s0 s1 s2 z1 z2 z3 z4 L11
  go_wp2
  go_ret
  exact ⟨rfl, BB12.out⟩
end Go.Proofs.Ytbpkhjjabnboaaa
