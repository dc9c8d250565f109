/- The answers that awake asks for; contract of awake. -/
import Derived.Test.YtbmlacmpiaklpaaDoorRf
import Derived.Test.YtbmlacmpiaklpaaDoorDd
import Derived.Test.YtbmlacmpiaklpaaDoorDq
import Derived.Test.YtbmlacmpiaklpaaDoorPlaine
import Derived.KernelRfl
namespace Go.Proofs.YtbmlacmpiaklpaaDoor
open Go.RowKit
namespace Dm
def an : List Nt := [⟨1, 0, [97, 98]⟩, ⟨6, 9, []⟩]
theorem an_ok : ∀ x ∈ an, x.Ok := fun x h => by
  simp [an] at h
  rcases h with rfl | rfl
  · exact ⟨by decide, by decide, by decide⟩
  · exact ⟨by decide, by decide, by decide⟩
theorem an_fine : fine an := fun x h => by
  simp [an] at h
  rcases h with rfl | rfl
  · decide
  · decide
theorem an_bytes : bytes an = [1, 0, 2, 97, 98, 6, 9] := by decide +kernel
theorem an_read : read [1, 0, 2, 97, 98, 6, 9] = (an, 0, 0) := by rw [← an_bytes]; exact read_put an an_fine
theorem an_err : err an = 0 := err_fine an an_fine
theorem a8_ok : (⟨8, 0, []⟩ : Nt).Ok := ⟨by decide, by decide, by decide⟩
theorem a8_err : err [⟨8, 0, []⟩] = 1 := by decide +kernel
theorem a3_read : read [3, 9] = ([⟨3, 0, []⟩], 1, 7) := by kernel_rfl
theorem a5_next : next [5, 0, 0, 1, 0, 7] = (⟨5, 256, []⟩, 5, 0) := by kernel_rfl
theorem a0_next : next [] = (nz, 0, 2) := next_end [] rfl
end Dm
theorem awk_eight (w : World) : NtsAt (w.alloc (.cells #[.int .i64 8, .int .u32 0, .slice none 0 0] 37)) (some ⟨w.heap.size, 0, none⟩) [⟨8, 0, []⟩] := by
  have hg := heap_alloc_new w (.cells #[.int .i64 8, .int .u32 0, .slice none 0 0] 37)
  refine .inr ⟨w.heap.size, 0, rfl, lt_of_block hg, fun j hj => ?_⟩
  have : j = 0 := by simpa using hj
  subst this
  exact ⟨none, 0, cell_of_row _ _ _ _ _ _ hg, cell_of_row _ _ _ _ _ _ hg, cell_of_row _ _ _ _ _ _ hg, rowAt_nil _, Dm.a8_ok⟩
/-- What awake holds. -/
structure Awk (w W : World) (S : Nat) (a : Option Addr) : Prop where
  bel : Below w.heap.size w W
  spot : W.heap[S]? = some (.cells (scells 0 0).toArray 32 (0, 0))
  notes : NtsAt W a Dm.an
theorem Awk.next {w W W' : World} {S : Nat} {a : Option Addr} (h : Awk w W S a) (b : Below W.heap.size W W') : Awk w W' S a := ⟨Below.chain h.bel b, block_next h.spot b, h.notes.next b⟩
theorem put_fine {w w' : World} {e : Ending} {L : List Dm.Nt} (h : PutRes w w' e L) (h0 : Dm.err L = 0) : ∃ a c, e = .returned (.tuple #[.slice a (Dm.bytes L).length c, .int .i64 0]) ∧ RowAt w' a c (Dm.bytes L) ∧ Below w.heap.size w w' ∧ w'.ownsRow w.heap.size 5 1 (.slice a (Dm.bytes L).length c) (Dm.bytes L).length (Lib.byteCells (Dm.bytes L)) := by
  rcases h with ⟨b, ⟨_, v, rfl, o⟩ | ⟨h1, _⟩⟩
  · obtain ⟨a, c, rfl, r⟩ := rowAt_own rfl o
    exact ⟨a, c, rfl, r, b, o⟩
  · exact absurd h0 h1
theorem put_bad {w w' : World} {e : Ending} {L : List Dm.Nt} (h : PutRes w w' e L) (h0 : Dm.err L ≠ 0) : e = .returned (.tuple #[.slice none 0 0, .int .i64 (Dm.err L : Int)]) ∧ Below w.heap.size w w' := by
  rcases h with ⟨b, ⟨h1, _⟩ | ⟨_, h1⟩⟩
  · exact absurd h1 h0
  · exact ⟨h1, b⟩

set_option maxRecDepth 100000 in
set_option maxHeartbeats 4000000 in
theorem awake_any (w : World) (ht : Tab w) : Calls Tryd.prog 9 #[] w fun e w' => e = .returned (.bool true) ∧ Below w.heap.size w w' := by
  have HT := Lib.hid ht
  clear ht
  have h0 := read_any (some ⟨w.heap.size, 0, none⟩) 7 7 [1, 0, 2, 97, 98, 6, 9] (w.alloc (.cells #[.int .u8 1, .int .u8 0, .int .u8 2, .int .u8 97, .int .u8 98, .int .u8 6, .int .u8 9] 5)) rfl (by omega) (rowAt_built w [1, 0, 2, 97, 98, 6, 9] 7 _ rfl (by simp [Lib.byteCells]) (by omega) (0, 0)) (HT.out.next (below_one _ _))
  rw [Dm.an_read] at h0
  have H0 := Lib.hid h0
  clear h0
  go_enter Tryd.func9, Tryd.ntmps9
  go_wp2_with fail
  refine H0.out.mono ?_
  rintro e w1 ⟨v1, rfl, n1, b1⟩
  obtain ⟨a1, c1, rfl, A1⟩ := n1.at Dm.an_ok
  have hB1 := below_alloc b1
  clear b1 H0 n1
  simp only [scells]
  have hl : Dm.an.length = 2 := rfl
  simp only [hl]
  have W2 : Hid (Awk w (w1.alloc (.cells #[.int .i64 0, .int .i64 0] 32)) w1.heap.size a1) := ⟨Below.chain hB1 (below_one w1 _), heap_alloc_new w1 _, A1.next (below_one w1 _)⟩
  clear hB1 A1
  go_wp2_with fail
  generalize w1.alloc (.cells #[.int .i64 0, .int .i64 0] 32) = w2 at *
  generalize w1.heap.size = S at *
  refine (put_any a1 2 c1 Dm.an w2 rfl (by rw [Dm.an_bytes]; decide) (by omega) W2.out.notes (HT.out.next W2.out.bel)).mono ?_
  intro e w3 h3
  obtain ⟨ax, cx, rfl, rx, b3, _⟩ := put_fine h3 Dm.an_err
  have hxl : (Dm.bytes Dm.an).length = 7 := by rw [Dm.an_bytes]; rfl
  simp only [hxl]
  have W3 := Lib.hid (W2.out.next b3)
  have RX := Lib.hid rx
  clear h3 rx b3 W2
  have h4 := put_any (some ⟨w3.heap.size, 0, none⟩) 1 1 [⟨8, 0, []⟩] _ rfl (by decide +kernel) (by omega) (awk_eight w3) (HT.out.next (Below.chain W3.out.bel (below_one _ _)))
  have H4 := Lib.hid h4
  clear h4
  go_wp2_with fail
  refine H4.out.mono ?_
  intro e w5 h5
  obtain ⟨rfl, b5⟩ := put_bad h5 (by rw [Dm.a8_err]; omega)
  rw [Dm.a8_err]
  have W5 := Lib.hid (W3.out.next (below_alloc b5))
  have RX5 := Lib.hid (RX.out.next (below_alloc b5))
  clear h5 b5 H4 W3 RX
  have h6 := read_any (some ⟨w5.heap.size, 0, none⟩) 2 2 [3, 9] (w5.alloc (.cells #[.int .u8 3, .int .u8 9] 5)) rfl (by omega) (rowAt_built w5 [3, 9] 2 _ rfl (by simp [Lib.byteCells]) (by omega) (0, 0)) (HT.out.next (Below.chain W5.out.bel (below_one _ _)))
  rw [Dm.a3_read] at h6
  have H6 := Lib.hid h6
  clear h6
  go_wp2_with fail
  refine H6.out.mono ?_
  rintro e w7 ⟨v7, rfl, n7, b7⟩
  obtain ⟨a7, c7, rfl⟩ := nts_slice n7
  have W7 := Lib.hid (W5.out.next (below_alloc b7))
  have RX7 := Lib.hid (RX5.out.next (below_alloc b7))
  clear b7 n7 H6 W5 RX5
  simp only [scells]
  have W8 : Hid (Awk w (w7.alloc (.cells #[.int .i64 1, .int .i64 7] 32)) S a1) := W7.out.next (below_one _ _)
  have RX8 : Hid (RowAt (w7.alloc (.cells #[.int .i64 1, .int .i64 7] 32)) ax cx (Dm.bytes Dm.an)) := RX7.out.next (below_one _ _)
  have T8 : Hid ((w7.alloc (.cells #[.int .i64 1, .int .i64 7] 32)).heap[w7.heap.size]? = some (.cells (scells 1 7).toArray 32 (0, 0))) := heap_alloc_new w7 _
  have hs8 : (w7.alloc (.cells #[.int .i64 1, .int .i64 7] 32)).heap.size = w7.heap.size + 1 := by simp
  have h9 := next_any (some ⟨w7.heap.size + 1, 0, none⟩) 6 6 [5, 0, 0, 1, 0, 7] ((w7.alloc (.cells #[.int .i64 1, .int .i64 7] 32)).alloc (.cells #[.int .u8 5, .int .u8 0, .int .u8 0, .int .u8 1, .int .u8 0, .int .u8 7] 5)) rfl (by omega) (by have := rowAt_built (w7.alloc (.cells #[.int .i64 1, .int .i64 7] 32)) [5, 0, 0, 1, 0, 7] 6 #[.int .u8 5, .int .u8 0, .int .u8 0, .int .u8 1, .int .u8 0, .int .u8 7] rfl (by simp [Lib.byteCells]) (by omega) (0, 0); rw [hs8] at this; exact this) (HT.out.next (Below.chain W8.out.bel (below_one _ _)))
  rw [Dm.a5_next] at h9
  have H9 := Lib.hid h9
  clear h9 W7 RX7
  go_wp2_with fail
  refine H9.out.mono ?_
  rintro e w10 ⟨v10, rfl, o10, b10⟩
  obtain ⟨p10, c10, rfl⟩ := own_slice o10
  have b10' := below_alloc b10
  have W10 := Lib.hid (W8.out.next b10')
  have RX10 := Lib.hid (RX8.out.next b10')
  have T10 := Lib.hid (block_next T8.out b10')
  clear b10 b10' o10 H9 W8 RX8 T8 hs8
  generalize w7.heap.size = T at *
  simp only [ncells]
  have W11 : Hid (Awk w (w10.alloc (.cells #[.int .i64 5, .int .u32 256, .slice p10 0 c10] 37)) S a1) := W10.out.next (below_one _ _)
  have RX11 : Hid (RowAt (w10.alloc (.cells #[.int .i64 5, .int .u32 256, .slice p10 0 c10] 37)) ax cx (Dm.bytes Dm.an)) := RX10.out.next (below_one _ _)
  have T11 : Hid ((w10.alloc (.cells #[.int .i64 5, .int .u32 256, .slice p10 0 c10] 37)).heap[T]? = some (.cells (scells 1 7).toArray 32 (0, 0))) := block_next T10.out (below_one _ _)
  clear W10 RX10 T10
  go_wp2_with fail
  generalize w10.alloc (.cells #[.int .i64 5, .int .u32 256, .slice p10 0 c10] 37) = w11 at *
  generalize w10.heap.size = Y at *
  have h12 := next_any none 0 0 [] w11 rfl (by omega) (rowAt_nil w11) (HT.out.next W11.out.bel)
  rw [Dm.a0_next] at h12
  refine h12.mono ?_
  rintro e w12 ⟨v12, rfl, o12, b12⟩
  obtain ⟨p12, c12, rfl⟩ := own_slice o12
  have W12 := W11.out.next b12
  have RX12 := RX11.out.next b12
  have T12 := block_next T11.out b12
  have ba : ∀ o, Below w12.heap.size w12 (w12.alloc o) := fun o => below_one _ _
  have BB := Lib.hid (fun o => (W12.next (ba o)).bel)
  have s0 : ∀ o, (w12.alloc o).cell? ⟨S, 0, none⟩ = some (.int .i64 0) := fun o => cell_of_row _ _ _ _ _ _ (W12.next (ba o)).spot
  have s1 : ∀ o, (w12.alloc o).cell? ⟨S, 1, none⟩ = some (.int .i64 0) := fun o => cell_of_row _ _ _ _ _ _ (W12.next (ba o)).spot
  have t0 : ∀ o, (w12.alloc o).cell? ⟨T, 0, none⟩ = some (.int .i64 1) := fun o => cell_of_row _ _ _ _ _ _ (block_next T12 (ba o))
  have t1 : ∀ o, (w12.alloc o).cell? ⟨T, 1, none⟩ = some (.int .i64 7) := fun o => cell_of_row _ _ _ _ _ _ (block_next T12 (ba o))
  obtain ⟨b, off, p, c, rfl, q0, hbl⟩ := W12.notes.at 0 (by decide)
  obtain ⟨b', off', p', c', e1, q1, hbl'⟩ := W12.notes.at 1 (by decide)
  cases e1
  have x0 : ∀ o, (w12.alloc o).cell? ⟨b, off, none⟩ = some (.int .i64 1) := fun o => by have := (q0.next hbl (ba o)).kind; rw [Nat.zero_mul, Nat.add_zero] at this; exact this
  have x2 : ∀ o, (w12.alloc o).cell? ⟨b, off + 2, none⟩ = some (.slice p 2 c) := fun o => by have := (q0.next hbl (ba o)).data; rw [Nat.zero_mul, Nat.add_zero] at this; exact this
  have y1 : ∀ o, (w12.alloc o).cell? ⟨b, off + 3 + 1, none⟩ = some (.int .u32 9) := fun o => by have := (q1.next hbl (ba o)).n; rw [Nat.one_mul] at this; exact this
  have z1 : ∀ o, (convert 25 9 (.slice p 2 c)).run Tryd.prog (w12.alloc o) = .ok (.string ⟨#[97, 98]⟩) (w12.alloc o) := fun o => conv_row (xs := [97, 98]) rfl ((q0.next hbl (ba o)).row)
  have z2 : ∀ o, (convert 25 9 (.slice ax 7 cx)).run Tryd.prog (w12.alloc o) = .ok (.string ⟨#[1, 0, 2, 97, 98, 6, 9]⟩) (w12.alloc o) := fun o => by
    have := conv_row (n := 7) (by rw [Dm.an_bytes]; rfl) (RX12.next (ba o))
    rw [Dm.an_bytes] at this
    exact this
  simp only [ncells]
  clear h12 o12 b12 W11 RX11 T11 W12 RX12 T12 ba q0 q1 hbl hbl' HT
  go_wp2
  go_ret
  exact ⟨rfl, BB.out _⟩
end Go.Proofs.YtbmlacmpiaklpaaDoor
