/- The walk of OptionReads. -/
import Derived.Test.YtcklhgpfiibcaaaOz
import Derived.Test.YtcklhgpfiibcaaaOi
import Derived.Test.YtcklhgpfiibcaaaOg
namespace Go.Proofs.Ytcklhgpfiibcaaa
open Go.RowKit

theorem reads_long (a : Option Addr) (len cap : Nat) (w : World) (hg : (3000 : Int) < (len : Int)) :
    Calls Try.prog 4 #[.slice a len cap] w fun e w' => e = .returned (.bool true) ∧ Below w.heap.size w w' := by
  go_enter Try.func4, Try.ntmps4
  go_wp2_with fail
  refine (awake_any w).mono ?_
  rintro e w1 ⟨rfl, b1⟩
  go_wp2_with fail
  refine (awake_any w1).mono ?_
  rintro e w2 ⟨rfl, b2⟩
  go_wp2
  go_ret
  exact ⟨rfl, Below.chain b1 b2⟩

set_option maxRecDepth 100000 in
set_option maxHeartbeats 1000000 in
theorem reads_short (a : Option Addr) (cap n : Nat) (xs : List UInt8) (w : World) (hn : xs.length = n) (h : RowAt w a cap xs) (hg : ¬ (3000 : Int) < (n : Int)) :
    Calls Try.prog 4 #[.slice a n cap] w fun e w' => e = .returned (.bool true) ∧ Below w.heap.size w w' := by
  have c1 := fun W (h : RowAt W a cap xs) => read_any a n cap xs W hn (by omega) h
  have c2 := fun W (h : RowAt W a cap xs) => refRead_any a n cap xs W hn (by omega) h
  have tl := Ot.read_told xs
  have hm := tl.many
  have hat := tl.le
  rw [hn] at hm hat
  generalize Ot.read xs = A at *
  obtain ⟨L, s, er⟩ := A
  simp only at hm hat
  have H := Lib.hid h
  have C1 := Lib.hid c1
  have C2 := Lib.hid c2
  clear h c1 c2 hn tl
  go_enter Try.func4, Try.ntmps4
  go_wp2_with fail
  refine (awake_any w).mono ?_
  rintro e w1 ⟨rfl, b1⟩
  have B1 := Lib.hid b1
  clear b1
  go_wp2_with fail
  refine (C1.out w1 (H.out.next B1.out)).mono ?_
  rintro e w2 ⟨v2, rfl, n2, b2⟩
  obtain ⟨a2, c2, rfl, A2⟩ := n2.at
  have B2 := Lib.hid (Below.chain (Below.chain B1.out b2) (below_one w2 (.cells (scells s er).toArray 32)))
  have T2 := Lib.hid (heap_alloc_new w2 (.cells (scells s er).toArray 32))
  have L2 := Lib.hid (A2.next (below_one w2 (.cells (scells s er).toArray 32)))
  clear n2 b2 A2
  simp only [scells] at B2 T2 L2 ⊢
  go_wp2_with fail
  generalize w2.alloc (.cells #[.int .i64 (s : Int), .int .i64 (er : Int)] 32) = w3 at *
  generalize w2.heap.size = S at *
  refine (C2.out w3 (H.out.next B2.out)).mono ?_
  rintro e w4 ⟨v4, rfl, n4, b4⟩
  obtain ⟨a4, c4, rfl, A4⟩ := n4.at
  have b5 := below_one w4 (.cells (scells s er).toArray 32)
  have B5 := Lib.hid (Below.chain (Below.chain B2.out b4) b5)
  have T5 := Lib.hid (block_next (block_next T2.out b4) b5)
  have U5 := Lib.hid (heap_alloc_new w4 (.cells (scells s er).toArray 32))
  have L5 := Lib.hid ((L2.out.next b4).next b5)
  have M5 := Lib.hid (A4.next b5)
  clear n4 b4 A4 b5 T2 L2 B2
  simp only [scells] at B5 T5 U5 L5 M5 ⊢
  go_wp2_with fail
  generalize w4.alloc (.cells #[.int .i64 (s : Int), .int .i64 (er : Int)] 32) = w5 at *
  generalize w4.heap.size = U at *
  refine (refSame_any a2 a4 L.length L.length c2 c4 L L w5 rfl rfl (by omega) L5.out M5.out).mono ?_
  rintro e w6 ⟨rfl, b6⟩
  rw [decide_eq_true (rfl : L = L)]
  have s0 : w6.cell? ⟨S, 0, none⟩ = some (.int .i64 (s : Int)) := cell_of_row _ _ _ _ _ _ (block_next T5.out b6)
  have s1 : w6.cell? ⟨S, 1, none⟩ = some (.int .i64 (er : Int)) := cell_of_row _ _ _ _ _ _ (block_next T5.out b6)
  have u0 : w6.cell? ⟨U, 0, none⟩ = some (.int .i64 (s : Int)) := cell_of_row _ _ _ _ _ _ (block_next U5.out b6)
  have u1 : w6.cell? ⟨U, 1, none⟩ = some (.int .i64 (er : Int)) := cell_of_row _ _ _ _ _ _ (block_next U5.out b6)
  have BB := Lib.hid (Below.chain B5.out b6)
  clear b6 T5 U5 L5 M5 B5
  go_wp2
  go_ret
  exact ⟨rfl, BB.out⟩

theorem reads_walk (a : Option Addr) (cap : Nat) (xs : List UInt8) (w : World) (h : RowAt w a cap xs) :
    Calls Try.prog 4 #[.slice a xs.length cap] w fun e w' => e = .returned (.bool true) ∧ Below w.heap.size w w' := by
  by_cases hg : (3000 : Int) < (xs.length : Int)
  · exact reads_long a _ cap w hg
  · exact reads_short a cap _ xs w rfl h hg
end Go.Proofs.Ytcklhgpfiibcaaa
