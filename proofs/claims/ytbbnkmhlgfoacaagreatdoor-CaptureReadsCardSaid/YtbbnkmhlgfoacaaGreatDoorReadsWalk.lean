/- The walk of CaptureReads. -/
import Derived.Test.YtbbnkmhlgfoacaaGreatDoorCr
import Derived.Test.YtbbnkmhlgfoacaaGreatDoorVe
import Derived.Test.YtbbnkmhlgfoacaaGreatDoorLb
namespace Go.Proofs.YtbbnkmhlgfoacaaGreatDoor
open Go.RowKit
open S10

set_option maxRecDepth 100000 in
set_option maxHeartbeats 1000000 in
theorem reads_walk (a : Option Addr) (n cap : Nat) (xs : List UInt8) (f : Int) (y : Xc) (w : World) (hn : xs.length = n) (h : RowAt w a cap xs) (hac : y.c.accm < 4294967296) (ht : Tab w) :
  Calls Tryz.prog 3 #[.slice a n cap, .int .i64 f, .agg (ccells y).toArray] w fun e w' => e = .returned (.bool true) ∧ Below w.heap.size w w' := by
 have H := Lib.hid h
 have Hn := Lib.hid hn
 have HT := Lib.hid ht
 have hB0 := below_one w (.cells (ccells y).toArray 25)
 have hD0 := heap_alloc_new w (.cells (ccells y).toArray 25)
 clear h hn ht
 go_enter Tryz.func3, Tryz.ntmps3
 simp only [ccells] at hB0 hD0 ⊢
 go_wp2_with fail
 generalize w.alloc (.cells #[.int .i64 y.n0, .int .i64 y.n1, .int .i64 y.n2, .int .i64 y.n3, .string y.s1, .string y.s2, .int .i64 y.c.dir, .int .u32 (y.c.accm : Int), .bool y.c.wide] 25) = W0 at *
 refine (awake_any W0 (HT.out.next hB0)).mono ?_
 rintro e w1 ⟨rfl, b1⟩
 have B1 := Lib.hid (Below.chain hB0 b1)
 have D1 := Lib.hid (block_next hD0 b1)
 clear b1 hB0 hD0
 by_cases hlt : (4000 : Int) < (n : Int)
 ·
  go_wp2_with fail
  refine (awake_any _ (HT.out.next B1.out)).mono ?_
  rintro e w3 ⟨rfl, b3⟩
  have B3 := Lib.hid (Below.chain B1.out b3)
  clear b3
  go_wp2
  go_ret
  exact ⟨rfl, B3.out⟩
 ·
  have hx4 : xs.length ≤ 4000 := by rw [Hn.out]; omega
  have SH := Lib.hid (Cp.recs_short xs hx4)
  have SF := Lib.hid (Cp.notes_safe y.c xs hx4)
  have cR := Lib.hid (fun W h t => refRead_any f y a n cap xs W Hn.out (by rw [← Hn.out]; exact hx4) h t hac (fun _ => SH.out))
  have cP := Lib.hid (fun W h t => capRead_any f y a n cap xs W Hn.out (by rw [← Hn.out]; omega) h t hac (fun _ => SH.out) (fun _ => SF.out))
  have few := (Cp.read_few xs f y.c).1
  obtain ⟨Z, hZ⟩ : ∃ Z, Cp.read xs f y.c = Z := ⟨_, rfl⟩
  rw [hZ] at cR cP few
  obtain ⟨L, s, er⟩ := Z
  obtain ⟨nl, hnl⟩ : ∃ nl, L.length = nl := ⟨_, rfl⟩
  have NL := Lib.hid hnl
  have FEW := Lib.hid (show nl ≤ 4000 by rw [← hnl]; exact Nat.le_trans few hx4)
  clear hZ few hx4 SH SF hnl
  go_wp2_with (refine wpList_load_row rfl 25 (.tmp 5) rfl w.heap.size rfl 25 (ccells y).toArray (0, 0) _ D1.out Tryz.underlying25 rfl infoConf ?_; simp only [ccells])
  refine (cP.out w1 (H.out.next B1.out) (HT.out.next B1.out)).mono ?_
  rintro e w3 ⟨v3, rfl, i3, b3⟩
  obtain ⟨a3, c3, rfl, j3⟩ := Its.at' i3 NL.out
  simp only [scells]
  have hs4 := heap_alloc_new w3 (.cells (scells s er).toArray 30)
  have ba := below_one w3 (.cells (scells s er).toArray 30)
  have j4 := j3.next ba
  have b14 := Below.chain b3 ba
  simp only [scells] at hs4 ba j4 b14
  clear i3 j3 b3 ba cP
  obtain ⟨W4, hW4⟩ : ∃ W4, w3.alloc (.cells #[.int .i64 (s : Int), .int .i64 (er : Int)] 30) = W4 := ⟨_, rfl⟩
  obtain ⟨g4, hg4⟩ : ∃ g4, w3.heap.size = g4 := ⟨_, rfl⟩
  rw [hW4] at hs4 j4 b14
  rw [hg4] at hs4
  have B4 := Lib.hid (Below.chain B1.out b14)
  have D4 := Lib.hid (block_next D1.out b14)
  have J4 := Lib.hid j4
  have S4 := Lib.hid hs4
  have HW4 := Lib.hid hW4
  have HG4 := Lib.hid hg4
  clear hs4 j4 b14 hW4 hg4
  go_wp2_with (rw [HW4.out, HG4.out]; refine wpList_load_row rfl 25 (.tmp 5) rfl w.heap.size rfl 25 (ccells y).toArray (0, 0) _ D4.out Tryz.underlying25 rfl infoConf ?_; simp only [ccells])
  refine (cR.out W4 (H.out.next B4.out) (HT.out.next B4.out)).mono ?_
  rintro e w5 ⟨v5, rfl, i5, b5⟩
  obtain ⟨a5, c5, rfl, j5⟩ := Its.at' i5 NL.out
  simp only [scells]
  have hs6 := heap_alloc_new w5 (.cells (scells s er).toArray 30)
  have ba := below_one w5 (.cells (scells s er).toArray 30)
  have j6 := j5.next ba
  have b46 := Below.chain b5 ba
  simp only [scells] at hs6 ba j6 b46
  clear i5 j5 b5 ba cR
  go_wp2_with fail
  generalize w5.alloc (.cells #[.int .i64 (s : Int), .int .i64 (er : Int)] 30) = W6 at *
  generalize w5.heap.size = g6 at *
  have B6 := Lib.hid (Below.chain B4.out b46)
  have S46 := block_next S4.out b46
  refine (itsame_any a3 a5 c3 c5 nl L W6 NL.out (by have := FEW.out; omega) (J4.out.next b46) j6).mono ?_
  rintro e w7 ⟨rfl, b7⟩
  have q40 : w7.cell? ⟨g4, 0, none⟩ = some (.int .i64 (s : Int)) := cell_of_row _ _ _ _ _ _ (block_next S46 b7)
  have q41 : w7.cell? ⟨g4, 1, none⟩ = some (.int .i64 (er : Int)) := cell_of_row _ _ _ _ _ _ (block_next S46 b7)
  have q60 : w7.cell? ⟨g6, 0, none⟩ = some (.int .i64 (s : Int)) := cell_of_row _ _ _ _ _ _ (block_next hs6 b7)
  have q61 : w7.cell? ⟨g6, 1, none⟩ = some (.int .i64 (er : Int)) := cell_of_row _ _ _ _ _ _ (block_next hs6 b7)
  have B7 := Lib.hid (Below.chain B6.out b7)
  clear b46 hs6 j6 S46 b7
  go_wp2
  go_ret
  exact ⟨rfl, B7.out⟩
end Go.Proofs.YtbbnkmhlgfoacaaGreatDoor
