/- The walk of CaptureWays. -/
import Derived.Test.YtbbnkmhlgfoacaaDoorCr
import Derived.Test.YtbbnkmhlgfoacaaDoorCq
namespace Go.Proofs.YtbbnkmhlgfoacaaDoor
open Go.RowKit
open S10

set_option maxRecDepth 100000 in
set_option maxHeartbeats 1000000 in
theorem ways_walk (a : Option Addr) (n cap : Nat) (L : List Cp.It) (y : Xc) (w : World) (hn : L.length = n) (h : ItsAt w a L) (hac : y.c.accm < 4294967296) (ht : Tab w) :
    Calls Tryd.prog 3 #[.slice a n cap, .agg (ccells y).toArray] w fun e w' => e = .returned (.bool true) ∧ Below w.heap.size w w' := by
  have H := Lib.hid h
  have Hn := Lib.hid hn
  have HT := Lib.hid ht
  have hB0 := below_one w (.cells (ccells y).toArray 25)
  have hD0 := heap_alloc_new w (.cells (ccells y).toArray 25)
  clear h hn ht
  go_enter Tryd.func3, Tryd.ntmps3
  simp only [ccells] at hB0 hD0 ⊢
  go_wp2_with fail
  generalize w.alloc (.cells #[.int .i64 y.n0, .int .i64 y.n1, .int .i64 y.n2, .int .i64 y.n3, .string y.s1, .string y.s2, .int .i64 y.c.dir, .int .u32 (y.c.accm : Int), .bool y.c.wide] 25) = W0 at *
  refine (awake_any W0 (HT.out.next hB0)).mono ?_
  rintro e w1 ⟨rfl, b1⟩
  have B1 := Lib.hid (Below.chain hB0 b1)
  have D1 := Lib.hid (block_next hD0 b1)
  clear b1 hB0 hD0
  go_wp2_with fail
  refine (itfew_any a n cap L w1 Hn.out (H.out.next B1.out)).mono ?_
  rintro e w2 ⟨r, rfl, rfl, hfew⟩
  cases r
  · go_wp2_with fail
    refine (awake_any _ (HT.out.next B1.out)).mono ?_
    rintro e w3 ⟨rfl, b3⟩
    have B3 := Lib.hid (Below.chain B1.out b3)
    clear b3
    go_wp2
    go_ret
    exact ⟨rfl, B3.out⟩
  · obtain ⟨h60, htt⟩ := hfew rfl
    clear hfew
    go_wp2
    go_loopw [5] (fun i wr => (i = .int .i64 1 ∨ i = .int .i64 2 ∨ i = .int .i64 3) ∧ Below w.heap.size w wr ∧ wr.heap[w.heap.size]? = some (.cells (ccells y).toArray 25 (0, 0))) (fun i _ => 3 - (intOf i).toNat)
    case atStart => exact ⟨.inl rfl, B1.out, D1.out⟩
    case round =>
      obtain ⟨hi, hbr, hdr⟩ := hrel
      have Br := Lib.hid hbr
      have Dr := Lib.hid hdr
      clear hbr hdr B1 D1
      rcases hi with rfl | rfl | rfl
      ·
        cases hall : decide (∀ x ∈ L, Cp.may x = true) with
        | false =>
          have hbad : Cp.write L 1 y.c = ([], 1) := Cp.write_bad L 1 y.c (by decide) (by simpa using hall)
          go_wp2_with (refine wpList_load_row rfl 25 (.tmp 3) rfl w.heap.size rfl 25 (ccells y).toArray (0, 0) _ Dr.out Tryd.underlying25 rfl infoConf ?_; simp only [ccells])
          refine (ways_not 1 y a n cap L wr Hn.out h60 htt hac (H.out.next Br.out) (HT.out.next Br.out) 1 hbad).mono ?_
          rintro e w3 ⟨p3, c3, rfl, _, b3⟩
          go_wp2
          go_ret
          exact ⟨rfl, Below.chain Br.out b3⟩
        | true =>
          have hm : ∀ x ∈ L, Cp.may x = true := by simpa using hall
          obtain ⟨m, hX⟩ : ∃ m, (Cp.write L 1 y.c).1.length = m := ⟨_, rfl⟩
          have cR := fun W p c hr t => ways_read 1 (by decide) y L W n Hn.out h60 htt hm hac p m c hX hr t
          go_wp2_with (refine wpList_load_row rfl 25 (.tmp 3) rfl w.heap.size rfl 25 (ccells y).toArray (0, 0) _ Dr.out Tryd.underlying25 rfl infoConf ?_; simp only [ccells])
          refine (ways_write 1 (by decide) y a n cap L wr Hn.out h60 htt hm hac (H.out.next Br.out) (HT.out.next Br.out) m hX).mono ?_
          rintro e w3 ⟨p3, c3, rfl, r3, b3⟩
          have B3 := Lib.hid (Below.chain Br.out b3)
          have R3 := Lib.hid r3
          have D3 := Lib.hid (block_next Dr.out b3)
          clear r3 b3 hX hm hall
          go_wp2_with (refine wpList_load_row rfl 25 (.tmp 3) rfl w.heap.size rfl 25 (ccells y).toArray (0, 0) _ D3.out Tryd.underlying25 rfl infoConf ?_; simp only [ccells])
          refine (cR w3 p3 c3 R3.out (HT.out.next B3.out)).mono ?_
          rintro e w4 ⟨a4, c4, rfl, i4, b4⟩
          simp only [scells]
          have hs4 := heap_alloc_new w4 (.cells (scells 0 0).toArray 33)
          have ba := below_one w4 (.cells (scells 0 0).toArray 33)
          have q0 : (w4.alloc (.cells (scells 0 0).toArray 33)).cell? ⟨w4.heap.size, 0, none⟩ = some (.int .i64 0) := cell_of_row _ _ _ _ _ _ hs4
          have q1 : (w4.alloc (.cells (scells 0 0).toArray 33)).cell? ⟨w4.heap.size, 1, none⟩ = some (.int .i64 0) := cell_of_row _ _ _ _ _ _ hs4
          simp only [scells] at hs4 ba q0 q1
          have B5 := Lib.hid (Below.chain (Below.chain B3.out b4) ba)
          have I5 := Lib.hid (i4.next ba)
          have DB := Lib.hid (Below.chain b4 ba)
          clear cR b4 i4 ba
          go_wp2_with fail
          refine (itsame_any a4 a c4 cap n L _ Hn.out (by omega) I5.out (H.out.next B5.out)).mono ?_
          rintro e w6 ⟨rfl, b6⟩
          have B6 := Lib.hid (Below.chain B5.out b6)
          have D6 := Lib.hid (block_next (block_next D3.out DB.out) b6)
          clear b6
          go_wp2
          go_roundw
          case rel => exact ⟨by simp, B6.out, D6.out⟩
          case measure => simp [intOf]
      ·
        cases hall : decide (∀ x ∈ L, Cp.may x = true) with
        | false =>
          have hbad : Cp.write L 2 y.c = ([], 1) := Cp.write_bad L 2 y.c (by decide) (by simpa using hall)
          go_wp2_with (refine wpList_load_row rfl 25 (.tmp 3) rfl w.heap.size rfl 25 (ccells y).toArray (0, 0) _ Dr.out Tryd.underlying25 rfl infoConf ?_; simp only [ccells])
          refine (ways_not 2 y a n cap L wr Hn.out h60 htt hac (H.out.next Br.out) (HT.out.next Br.out) 1 hbad).mono ?_
          rintro e w3 ⟨p3, c3, rfl, _, b3⟩
          go_wp2
          go_ret
          exact ⟨rfl, Below.chain Br.out b3⟩
        | true =>
          have hm : ∀ x ∈ L, Cp.may x = true := by simpa using hall
          obtain ⟨m, hX⟩ : ∃ m, (Cp.write L 2 y.c).1.length = m := ⟨_, rfl⟩
          have cR := fun W p c hr t => ways_read 2 (by decide) y L W n Hn.out h60 htt hm hac p m c hX hr t
          go_wp2_with (refine wpList_load_row rfl 25 (.tmp 3) rfl w.heap.size rfl 25 (ccells y).toArray (0, 0) _ Dr.out Tryd.underlying25 rfl infoConf ?_; simp only [ccells])
          refine (ways_write 2 (by decide) y a n cap L wr Hn.out h60 htt hm hac (H.out.next Br.out) (HT.out.next Br.out) m hX).mono ?_
          rintro e w3 ⟨p3, c3, rfl, r3, b3⟩
          have B3 := Lib.hid (Below.chain Br.out b3)
          have R3 := Lib.hid r3
          have D3 := Lib.hid (block_next Dr.out b3)
          clear r3 b3 hX hm hall
          go_wp2_with (refine wpList_load_row rfl 25 (.tmp 3) rfl w.heap.size rfl 25 (ccells y).toArray (0, 0) _ D3.out Tryd.underlying25 rfl infoConf ?_; simp only [ccells])
          refine (cR w3 p3 c3 R3.out (HT.out.next B3.out)).mono ?_
          rintro e w4 ⟨a4, c4, rfl, i4, b4⟩
          simp only [scells]
          have hs4 := heap_alloc_new w4 (.cells (scells 0 0).toArray 33)
          have ba := below_one w4 (.cells (scells 0 0).toArray 33)
          have q0 : (w4.alloc (.cells (scells 0 0).toArray 33)).cell? ⟨w4.heap.size, 0, none⟩ = some (.int .i64 0) := cell_of_row _ _ _ _ _ _ hs4
          have q1 : (w4.alloc (.cells (scells 0 0).toArray 33)).cell? ⟨w4.heap.size, 1, none⟩ = some (.int .i64 0) := cell_of_row _ _ _ _ _ _ hs4
          simp only [scells] at hs4 ba q0 q1
          have B5 := Lib.hid (Below.chain (Below.chain B3.out b4) ba)
          have I5 := Lib.hid (i4.next ba)
          have DB := Lib.hid (Below.chain b4 ba)
          clear cR b4 i4 ba
          go_wp2_with fail
          refine (itsame_any a4 a c4 cap n L _ Hn.out (by omega) I5.out (H.out.next B5.out)).mono ?_
          rintro e w6 ⟨rfl, b6⟩
          have B6 := Lib.hid (Below.chain B5.out b6)
          have D6 := Lib.hid (block_next (block_next D3.out DB.out) b6)
          clear b6
          go_wp2
          go_roundw
          case rel => exact ⟨by simp, B6.out, D6.out⟩
          case measure => simp [intOf]
      · go_wp2
        go_ret
        exact ⟨rfl, Br.out⟩
end Go.Proofs.YtbbnkmhlgfoacaaDoor
