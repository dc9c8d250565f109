/- The walk of PacketPuts. -/
import Derived.Test.YtbpkhjjabnboaaaPj
namespace Go.Proofs.Ytbpkhjjabnboaaa
open Go.RowKit S2 S12

set_option maxRecDepth 100000 in
set_option maxHeartbeats 1000000 in
theorem puts_walk (x : Pk.P) (p : Option Addr) (n c : Nat) (w : World) (hn : x.data.length = n) (h : RowAt w p c x.data) :
    Calls Try.prog 3 #[.agg (pcells x (.slice p n c)).toArray] w fun e w' => e = .returned (.bool true) ∧ Below w.heap.size w w' := by
  have B0 := Lib.hid (one_pkt w (pcells x (.slice p n c)).toArray).1
  have T0 := Lib.hid (one_pkt w (pcells x (.slice p n c)).toArray).2
  have H := Lib.hid (h.next B0.out)
  have HN := Lib.hid hn
  simp only [pcells] at B0 T0 H ⊢
  clear h hn
  go_enter Try.func3, Try.ntmps3
  go_wp2_with fail
  generalize w.alloc (.cells #[.int .i64 x.code, .int .i64 x.id, .slice p n c] 24) = w0 at *
  refine (awake_any w0).mono ?_
  rintro e w1 ⟨rfl, b1⟩
  have B1 := Lib.hid (Below.chain B0.out b1)
  have T1 := block_next T0.out b1
  have H1 := Lib.hid (H.out.next b1)
  have d0 : w1.cell? ⟨w.heap.size, 2, none⟩ = some (.slice p n c) := cell_of_row _ _ 2 _ _ _ T1
  clear b1 B0 T0 H
  by_cases hn : (70000 : Int) < (n : Int)
  · clear HN
    go_wp2_with fail
    refine (awake_any w1).mono ?_
    rintro e w2 ⟨rfl, b2⟩
    have B2 := Lib.hid (Below.chain B1.out b2)
    clear b2 B1 H1 T1 d0
    go_wp2
    go_ret
    exact ⟨rfl, B2.out⟩
  · have hP := Lib.hid (fun (W : World) (r : RowAt W p c x.data) => put_any x p n c W HN.out (by omega) r)
    have hR := Lib.hid (fun (W : World) (r : RowAt W p c x.data) => refPut_any x p n c W HN.out (by omega) r)
    simp only [pcells] at hP hR
    go_wp2_with (refine wpList_load_row rfl 24 (.tmp 1) rfl w.heap.size rfl 24 #[.int .i64 x.code, .int .i64 x.id, .slice p n c] (0, 0) _ T1 Try.underlying24 rfl infoPkt ?_)
    refine (hP.out w1 H1.out).mono ?_
    intro e w2 h2
    obtain ⟨a2, c2, rfl, r2, b2, _⟩ := put_both h2
    have B2 := Lib.hid (Below.chain B1.out b2)
    have T2 := block_next T1 b2
    have H2 := Lib.hid (H1.out.next b2)
    have R2 := Lib.hid r2
    clear h2 b2 r2 B1 T1 H1 d0 hP
    go_wp2_with (refine wpList_load_row rfl 24 (.tmp 1) rfl w.heap.size rfl 24 #[.int .i64 x.code, .int .i64 x.id, .slice p n c] (0, 0) _ T2 Try.underlying24 rfl infoPkt ?_)
    refine (hR.out w2 H2.out).mono ?_
    intro e w3 h3
    obtain ⟨a3, c3, rfl, r3, b3, _⟩ := put_both h3
    have B3 := Lib.hid (Below.chain B2.out b3)
    have z2 := conv_row rfl (R2.out.next b3)
    have z3 := conv_row rfl r3
    clear h3 b3 r3 B2 T2 H2 hR R2 HN
    generalize outs x = Y at *
    generalize Y.length = m at *
    generalize Pk.err x = er at *
    go_wp2
    go_ret
    exact ⟨rfl, B3.out⟩
end Go.Proofs.Ytbpkhjjabnboaaa
