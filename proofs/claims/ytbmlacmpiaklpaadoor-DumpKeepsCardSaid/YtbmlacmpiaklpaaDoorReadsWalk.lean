/- The walk of DumpReads. -/
import Derived.Test.YtbmlacmpiaklpaaDoorDj
namespace Go.Proofs.YtbmlacmpiaklpaaDoor
open Go.RowKit

theorem nts_one {w : World} {p : Option Addr} {c : Nat} {r : Dm.Nt} (hr : RowAt w p c r.data) (hok : r.Ok) : NtsAt (w.alloc (.cells #[.int .i64 r.kind, .int .u32 (r.n : Int), .slice p r.data.length c] 37)) (some ⟨w.heap.size, 0, none⟩) [r] := by
  have hg := heap_alloc_new w (.cells #[.int .i64 r.kind, .int .u32 (r.n : Int), .slice p r.data.length c] 37)
  refine .inr ⟨w.heap.size, 0, rfl, lt_of_block hg, fun j hj => ?_⟩
  have : j = 0 := by simpa using hj
  subst this
  exact ⟨p, c, cell_of_row _ _ _ _ _ _ hg, cell_of_row _ _ _ _ _ _ hg, cell_of_row _ _ _ _ _ _ hg, rowAt_alloc hr _, hok⟩

set_option maxRecDepth 100000 in
set_option maxHeartbeats 4000000 in
theorem reads_walk (a : Option Addr) (cap : Nat) (xs : List UInt8) (w : World) (h : RowAt w a cap xs) (ht : Tab w) :
    Calls Tryd.prog 4 #[.slice a xs.length cap] w fun e w' => e = .returned (.bool true) ∧ Below w.heap.size w w' := by
  have HR := Lib.hid h
  have HT := Lib.hid ht
  obtain ⟨n, hn⟩ : ∃ n, xs.length = n := ⟨_, rfl⟩
  have bk := Dm.read_back xs
  have nk := Dm.next_known xs
  rw [hn]
  have c13 := fun W hm h t => read_any a n cap xs W hn hm h t
  have c14 := fun W hm h t => refRead_any a n cap xs W hn hm h t
  have c15 := fun W hm h t => next_any a n cap xs W hn hm h t
  have c16 := fun W hm h t => refNext_any a n cap xs W hn hm h t
  have hll := bk.many
  have hok := bk.ok
  have hxok := nk.ok
  rw [hn] at hll
  generalize Dm.read xs = A at *
  generalize Dm.next xs = B at *
  obtain ⟨L, at', er⟩ := A
  obtain ⟨x, sz, ex⟩ := B
  simp only at hll hok hxok
  have C13 := Lib.hid c13
  have C14 := Lib.hid c14
  have C15 := Lib.hid c15
  have C16 := Lib.hid c16
  have Hok := Lib.hid hok
  have Hxok := Lib.hid hxok
  clear c13 c14 c15 c16 h hok hxok bk nk hn ht
  go_enter Tryd.func4, Tryd.ntmps4
  go_wp2_with fail
  refine (awake_any w HT.out).mono ?_
  rintro e w1 ⟨rfl, b1⟩
  have B1 := Lib.hid b1
  clear b1
  by_cases hl : 70000 < n
  · have i1 : (70000 : Int) < (n : Int) := by omega
    go_wp2_with fail
    refine (awake_any w1 (HT.out.next B1.out)).mono ?_
    rintro e w2 ⟨rfl, b2⟩
    have B2 := Lib.hid (Below.chain B1.out b2)
    clear b2
    go_wp2
    go_ret
    exact ⟨rfl, B2.out⟩
  · have i1 : ¬ (70000 : Int) < (n : Int) := by omega
    go_wp2_with fail
    refine (C13.out w1 (by omega) (HR.out.next B1.out) (HT.out.next B1.out)).mono ?_
    rintro e w2 ⟨v2, rfl, rec2, b2⟩
    obtain ⟨a2, c2, rfl, ra2⟩ := rec2.at Hok.out
    simp only [scells]
    have U2 : Hid ((w2.alloc (.cells #[.int .i64 (at' : Int), .int .i64 (er : Int)] 32)).heap[w2.heap.size]? = some (.cells (scells at' er).toArray 32 (0, 0))) := heap_alloc_new w2 _
    have B3 : Hid (Below w.heap.size w (w2.alloc (.cells #[.int .i64 (at' : Int), .int .i64 (er : Int)] 32))) := Below.chain (Below.chain B1.out b2) (below_one _ _)
    have A3 : Hid (NtsAt (w2.alloc (.cells #[.int .i64 (at' : Int), .int .i64 (er : Int)] 32)) a2 L) := ra2.next (below_one _ _)
    clear b2 ra2 rec2 B1 C13
    go_wp2_with fail
    generalize w2.alloc (.cells #[.int .i64 (at' : Int), .int .i64 (er : Int)] 32) = w3 at *
    generalize w2.heap.size = U at *
    refine (C14.out w3 (by omega) (HR.out.next B3.out) (HT.out.next B3.out)).mono ?_
    rintro e w4 ⟨v4, rfl, rec4, b4⟩
    obtain ⟨a4, c4, rfl, ra4⟩ := rec4.at Hok.out
    simp only [scells]
    have V5 : Hid ((w4.alloc (.cells #[.int .i64 (at' : Int), .int .i64 (er : Int)] 32)).heap[w4.heap.size]? = some (.cells (scells at' er).toArray 32 (0, 0))) := heap_alloc_new w4 _
    have bb : Below w3.heap.size w3 (w4.alloc (.cells #[.int .i64 (at' : Int), .int .i64 (er : Int)] 32)) := Below.chain b4 (below_one _ _)
    have B5 := Lib.hid (Below.chain B3.out bb)
    have U5 := Lib.hid (block_next U2.out bb)
    have A5 := Lib.hid (A3.out.next bb)
    have D5 : Hid (NtsAt (w4.alloc (.cells #[.int .i64 (at' : Int), .int .i64 (er : Int)] 32)) a4 L) := ra4.next (below_one _ _)
    clear bb b4 ra4 rec4 B3 C14 U2 A3
    go_wp2_with fail
    generalize w4.alloc (.cells #[.int .i64 (at' : Int), .int .i64 (er : Int)] 32) = w5 at *
    generalize w4.heap.size = V at *
    refine (C15.out w5 (by omega) (HR.out.next B5.out) (HT.out.next B5.out)).mono ?_
    rintro e w6 ⟨v6, rfl, o6, b6⟩
    obtain ⟨p6, c6, rfl, r6⟩ := rowAt_own rfl o6
    simp only [ncells]
    have X7 : Hid ((w6.alloc (.cells #[.int .i64 x.kind, .int .u32 (x.n : Int), .slice p6 x.data.length c6] 37)).heap[w6.heap.size]? = some (.cells (ncells x (.slice p6 x.data.length c6)).toArray 37 (0, 0))) := heap_alloc_new w6 _
    have bb : Below w5.heap.size w5 (w6.alloc (.cells #[.int .i64 x.kind, .int .u32 (x.n : Int), .slice p6 x.data.length c6] 37)) := Below.chain b6 (below_one _ _)
    have B7 := Lib.hid (Below.chain B5.out bb)
    have U7 := Lib.hid (block_next U5.out bb)
    have V7 := Lib.hid (block_next V5.out bb)
    have A7 := Lib.hid (A5.out.next bb)
    have D7 := Lib.hid (D5.out.next bb)
    have R7 : Hid (RowAt (w6.alloc (.cells #[.int .i64 x.kind, .int .u32 (x.n : Int), .slice p6 x.data.length c6] 37)) p6 c6 x.data) := rowAt_alloc r6 _
    clear bb b6 o6 r6 B5 U5 V5 A5 D5 C15
    go_wp2_with fail
    generalize w6.alloc (.cells #[.int .i64 x.kind, .int .u32 (x.n : Int), .slice p6 x.data.length c6] 37) = w7 at *
    generalize w6.heap.size = X at *
    refine (C16.out w7 (by omega) (HR.out.next B7.out) (HT.out.next B7.out)).mono ?_
    rintro e w8 ⟨v8, rfl, o8, b8⟩
    obtain ⟨p8, c8, rfl, r8⟩ := rowAt_own rfl o8
    simp only [ncells]
    have Y9 : Hid ((w8.alloc (.cells #[.int .i64 x.kind, .int .u32 (x.n : Int), .slice p8 x.data.length c8] 37)).heap[w8.heap.size]? = some (.cells (ncells x (.slice p8 x.data.length c8)).toArray 37 (0, 0))) := heap_alloc_new w8 _
    have bb : Below w7.heap.size w7 (w8.alloc (.cells #[.int .i64 x.kind, .int .u32 (x.n : Int), .slice p8 x.data.length c8] 37)) := Below.chain b8 (below_one _ _)
    have B9 := Lib.hid (Below.chain B7.out bb)
    have U9 := Lib.hid (block_next U7.out bb)
    have V9 := Lib.hid (block_next V7.out bb)
    have X9 := Lib.hid (block_next X7.out bb)
    have A9 := Lib.hid (A7.out.next bb)
    have D9 := Lib.hid (D7.out.next bb)
    have R9 := Lib.hid (R7.out.next bb)
    have S9 : Hid (RowAt (w8.alloc (.cells #[.int .i64 x.kind, .int .u32 (x.n : Int), .slice p8 x.data.length c8] 37)) p8 c8 x.data) := rowAt_alloc r8 _
    clear bb b8 o8 r8 B7 U7 V7 X7 A7 D7 R7 C16
    go_wp2_with fail
    generalize w8.alloc (.cells #[.int .i64 x.kind, .int .u32 (x.n : Int), .slice p8 x.data.length c8] 37) = w9 at *
    generalize w8.heap.size = Y at *
    refine (same_any a2 a4 c2 c4 L.length L _ rfl (by omega) A9.out D9.out).mono ?_
    rintro e w10 ⟨rfl, b10⟩
    have B10 := Lib.hid (Below.chain B9.out b10)
    have u0 : w10.cell? ⟨U, 0, none⟩ = some (.int .i64 (at' : Int)) := cell_of_row _ _ _ _ _ _ (block_next U9.out b10)
    have u1 : w10.cell? ⟨U, 1, none⟩ = some (.int .i64 (er : Int)) := cell_of_row _ _ _ _ _ _ (block_next U9.out b10)
    have v0 : w10.cell? ⟨V, 0, none⟩ = some (.int .i64 (at' : Int)) := cell_of_row _ _ _ _ _ _ (block_next V9.out b10)
    have v1 : w10.cell? ⟨V, 1, none⟩ = some (.int .i64 (er : Int)) := cell_of_row _ _ _ _ _ _ (block_next V9.out b10)
    have x0 : w10.cell? ⟨X, 0, none⟩ = some (.int .i64 x.kind) := cell_of_row _ _ _ _ _ _ (block_next X9.out b10)
    have x1 : w10.cell? ⟨X, 1, none⟩ = some (.int .u32 (x.n : Int)) := cell_of_row _ _ _ _ _ _ (block_next X9.out b10)
    have x2 : w10.cell? ⟨X, 2, none⟩ = some (.slice p6 x.data.length c6) := cell_of_row _ _ _ _ _ _ (block_next X9.out b10)
    have y0 : ∀ o, (w10.alloc o).cell? ⟨Y, 0, none⟩ = some (.int .i64 x.kind) := fun o => cell_of_row _ _ _ _ _ _ (block_next (block_next Y9.out b10) (below_one _ _))
    have y1 : ∀ o, (w10.alloc o).cell? ⟨Y, 1, none⟩ = some (.int .u32 (x.n : Int)) := fun o => cell_of_row _ _ _ _ _ _ (block_next (block_next Y9.out b10) (below_one _ _))
    have y2 : ∀ o, (w10.alloc o).cell? ⟨Y, 2, none⟩ = some (.slice p8 x.data.length c8) := fun o => cell_of_row _ _ _ _ _ _ (block_next (block_next Y9.out b10) (below_one _ _))
    have R10 := Lib.hid (R9.out.next b10)
    have S10 := Lib.hid (S9.out.next b10)
    clear b10 B9 U9 V9 X9 Y9 A9 D9 R9 S9
    have hn1 := nts_one R10.out Hxok.out
    have hn2 := nts_one (rowAt_alloc S10.out (.cells #[.int .i64 x.kind, .int .u32 (x.n : Int), .slice p6 x.data.length c6] 37)) Hxok.out
    have hs1 : (w10.alloc (.cells #[.int .i64 x.kind, .int .u32 (x.n : Int), .slice p6 x.data.length c6] 37)).heap.size = w10.heap.size + 1 := by simp
    rw [hs1] at hn2
    have c17 := same_any _ _ 1 1 1 [x] _ rfl (by omega) (hn1.next (below_one _ (.cells #[.int .i64 x.kind, .int .u32 (x.n : Int), .slice p8 x.data.length c8] 37))) hn2
    have C17 := Lib.hid c17
    have B11 : Hid (Below w.heap.size w ((w10.alloc (.cells #[.int .i64 x.kind, .int .u32 (x.n : Int), .slice p6 x.data.length c6] 37)).alloc (.cells #[.int .i64 x.kind, .int .u32 (x.n : Int), .slice p8 x.data.length c8] 37))) := Below.chain B10.out (below_two _ _ _)
    clear hn1 hn2 hs1 c17 R10 S10
    go_wp2_with fail
    refine C17.out.mono ?_
    rintro e w11 ⟨rfl, b11⟩
    have B12 := Lib.hid (Below.chain B11.out b11)
    clear b11 B10 B11 C17
    go_wp2
    go_ret
    exact ⟨rfl, B12.out⟩
end Go.Proofs.YtbmlacmpiaklpaaDoor
