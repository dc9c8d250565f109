/- The walk of PacketGets. -/
import Derived.Test.YtbpkhjjabnboaaaPj
namespace Go.Proofs.Ytbpkhjjabnboaaa
open Go.RowKit S2 S12

set_option maxRecDepth 100000 in
set_option maxHeartbeats 1000000 in
theorem gets_walk (a : Option Addr) (cap : Nat) (xs : List UInt8) (w : World) (h : RowAt w a cap xs) :
    Calls Try.prog 4 #[.slice a xs.length cap] w fun e w' => e = .returned (.bool true) ∧ Below w.heap.size w w' := by
  obtain ⟨n, hn⟩ : ∃ n, xs.length = n := ⟨_, rfl⟩
  rw [hn]
  have H := Lib.hid h
  have HN := Lib.hid hn
  clear h hn
  go_enter Try.func4, Try.ntmps4
  go_wp2_with fail
  refine (awake_any w).mono ?_
  rintro e w1 ⟨rfl, b1⟩
  have B1 := Lib.hid b1
  have H1 := Lib.hid (H.out.next b1)
  clear b1 H
  by_cases hn : (70000 : Int) < (n : Int)
  · clear HN
    go_wp2_with fail
    refine (awake_any w1).mono ?_
    rintro e w2 ⟨rfl, b2⟩
    have B2 := Lib.hid (Below.chain B1.out b2)
    clear b2 B1 H1
    go_wp2
    go_ret
    exact ⟨rfl, B2.out⟩
  · go_wp2_with fail
    refine (get_any a n cap xs w1 HN.out (by omega) H1.out).mono ?_
    intro e w2 h2
    obtain ⟨a2, c2, rfl, _, r2, b2⟩ := h2.row
    have B2 := Lib.hid (Below.chain B1.out b2)
    have H2 := Lib.hid (H1.out.next b2)
    have R2 := Lib.hid r2
    clear h2 b2 r2 B1 H1
    obtain ⟨A, hA⟩ : ∃ A, Pk.get xs = A := ⟨_, rfl⟩
    rw [hA] at R2 ⊢
    obtain ⟨x, er⟩ := A
    have T2 := Lib.hid (heap_alloc_new w2 (.cells #[.int .i64 x.code, .int .i64 x.id, .slice a2 x.data.length c2] 24))
    have B3 := Lib.hid (Below.chain B2.out (below_one w2 (.cells #[.int .i64 x.code, .int .i64 x.id, .slice a2 x.data.length c2] 24)))
    have R3 := Lib.hid (R2.out.next (below_one w2 (.cells #[.int .i64 x.code, .int .i64 x.id, .slice a2 x.data.length c2] 24)))
    have H3 := Lib.hid (H2.out.next (below_one w2 (.cells #[.int .i64 x.code, .int .i64 x.id, .slice a2 x.data.length c2] 24)))
    simp only [pcells]
    clear B2 R2 H2
    go_wp2_with fail
    generalize w2.alloc (.cells #[.int .i64 x.code, .int .i64 x.id, .slice a2 x.data.length c2] 24) = w3 at *
    generalize w2.heap.size = S at *
    refine (refGet_any a n cap xs w3 HN.out (by omega) H3.out).mono ?_
    intro e w4 h4
    rw [hA] at h4
    obtain ⟨a4, c4, rfl, _, r4, b4⟩ := h4.row
    have T5 := Lib.hid (block_next (block_next T2.out b4) (below_one w4 (.cells #[.int .i64 x.code, .int .i64 x.id, .slice a4 x.data.length c4] 24)))
    have U5 := Lib.hid (heap_alloc_new w4 (.cells #[.int .i64 x.code, .int .i64 x.id, .slice a4 x.data.length c4] 24))
    have B5 := Lib.hid (Below.chain (Below.chain B3.out b4) (below_one w4 (.cells #[.int .i64 x.code, .int .i64 x.id, .slice a4 x.data.length c4] 24)))
    have R5 := Lib.hid (R3.out.next (Below.chain b4 (below_one w4 (.cells #[.int .i64 x.code, .int .i64 x.id, .slice a4 x.data.length c4] 24))))
    have Q5 := Lib.hid (r4.next (below_one w4 (.cells #[.int .i64 x.code, .int .i64 x.id, .slice a4 x.data.length c4] 24)))
    simp only [pcells]
    clear h4 b4 r4 T2 B3 R3 H3 HN
    have t5 := T5.out
    have u5 := U5.out
    go_wp2_with (first | (refine wpList_load_row rfl 24 (.tmp 3) rfl S rfl 24 #[.int .i64 x.code, .int .i64 x.id, .slice a2 x.data.length c2] (0, 0) _ t5 Try.underlying24 rfl infoPkt ?_) | (refine wpList_load_row rfl 24 (.tmp 5) rfl w4.heap.size rfl 24 #[.int .i64 x.code, .int .i64 x.id, .slice a4 x.data.length c4] (0, 0) _ u5 Try.underlying24 rfl infoPkt ?_))
    have sm := refSame_any x x a2 a4 x.data.length x.data.length c2 c4 (w4.alloc (.cells #[.int .i64 x.code, .int .i64 x.id, .slice a4 x.data.length c4] 24)) rfl rfl R5.out Q5.out
    rw [decide_eq_true (rfl : x = x)] at sm
    refine sm.mono ?_
    rintro e w6 ⟨rfl, b6⟩
    have B6 := Lib.hid (Below.chain B5.out b6)
    clear b6 B5 R5 Q5 T5 U5 t5 u5 sm
    go_wp2
    go_ret
    exact ⟨rfl, B6.out⟩
end Go.Proofs.Ytbpkhjjabnboaaa
