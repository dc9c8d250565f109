/- The walk of PcapNexts. -/
import Derived.Test.YtfkjjolohphaoaaPj
namespace Go.Proofs.Ytfkjjolohphaoaa
open Go.RowKit

theorem recs_built {w : World} {r : Pc.Rcd} {p : Option Addr} {c n : Nat} (hn : r.data.length = n) (h : RowAt w p c r.data) (hok : r.Ok) : RecsAt (w.alloc (.cells #[.int .u32 (r.sec : Int), .int .u32 (r.frac : Int), .int .u32 (r.len : Int), .slice p n c] 46)) (some ⟨w.heap.size, 0, none⟩) [r] := by
  subst hn
  have hg : (w.alloc (.cells #[.int .u32 (r.sec : Int), .int .u32 (r.frac : Int), .int .u32 (r.len : Int), .slice p r.data.length c] 46)).heap[w.heap.size]? = some (.cells (rcells r (.slice p r.data.length c)).toArray 46 (0, 0)) := heap_alloc_new w _
  refine .inr ⟨w.heap.size, 0, rfl, lt_of_block hg, fun j hj => ?_⟩
  have : j = 0 := by simpa using hj
  subst this
  exact ⟨p, c, cell_of_row _ _ _ _ _ _ hg, cell_of_row _ _ _ _ _ _ hg, cell_of_row _ _ _ _ _ _ hg, cell_of_row _ _ _ _ _ _ hg, rowAt_alloc h _, hok⟩

set_option maxRecDepth 100000 in
set_option maxHeartbeats 4000000 in
theorem nexts_walk (a : Option Addr) (cap : Nat) (xs : List UInt8) (big : Bool) (w : World) (h : RowAt w a cap xs) :
    Calls Try.prog 5 #[.slice a xs.length cap, .bool big] w fun e w' => e = .returned (.bool true) ∧ Below w.heap.size w w' := by
  have HR := Lib.hid h
  have nk := Pc.next_known xs big
  obtain ⟨n, hn⟩ : ∃ n, xs.length = n := ⟨_, rfl⟩
  rw [hn]
  have c18 := fun W hm h => next_any a n cap xs big W hn hm h
  have c19 := fun W hm h => refNext_any a n cap xs big W hn hm h
  generalize Pc.next xs big = A at *
  obtain ⟨r, sz, er⟩ := A
  have hok := nk.ok
  have her := nk.err
  have hsz := nk.size
  simp only at hok her hsz
  rw [hn] at hsz
  have C18 := Lib.hid c18
  have C19 := Lib.hid c19
  have Hok := Lib.hid hok
  clear c18 c19 h nk hok hn
  go_enter Try.func5, Try.ntmps5
  go_wp2_with fail
  refine (awake_any w).mono ?_
  rintro e w1 ⟨rfl, b1⟩
  have B1 := Lib.hid b1
  clear b1
  by_cases hl : 140000 < n
  · have i1 : (140000 : Int) < (n : Int) := by omega
    go_wp2_with fail
    refine (awake_any w1).mono ?_
    rintro e w2 ⟨rfl, b2⟩
    have B2 := Lib.hid (Below.chain B1.out b2)
    clear b2
    go_wp2
    go_ret
    exact ⟨rfl, B2.out⟩
  · have i1 : ¬ (140000 : Int) < (n : Int) := by omega
    go_wp2_with fail
    refine (C18.out w1 (by omega) (HR.out.next B1.out)).mono ?_
    rintro e w2 ⟨v2, rfl, o2, b2⟩
    obtain ⟨p2, d2, rfl, r2⟩ := rowAt_own rfl o2
    have B2 := Lib.hid (Below.chain B1.out b2)
    have R2 := Lib.hid r2
    clear o2 b2 r2 B1 C18
    simp only [rcells]
    generalize hrl : r.data.length = k at *
    go_wp2_with fail
    have hT := heap_alloc_new w2 (.cells #[.int .u32 (r.sec : Int), .int .u32 (r.frac : Int), .int .u32 (r.len : Int), .slice p2 k d2] 46)
    have bT : Below w2.heap.size w2 (w2.alloc (.cells #[.int .u32 (r.sec : Int), .int .u32 (r.frac : Int), .int .u32 (r.len : Int), .slice p2 k d2] 46)) := (Below.refl _ _).alloc (Nat.le_refl _) _
    have B3 := Lib.hid (Below.chain B2.out bT)
    have R3 := Lib.hid (R2.out.next bT)
    have T3 := Lib.hid hT
    clear hT bT B2 R2
    generalize w2.alloc (.cells #[.int .u32 (r.sec : Int), .int .u32 (r.frac : Int), .int .u32 (r.len : Int), .slice p2 k d2] 46) = w3 at *
    generalize w2.heap.size = T at *
    refine (C19.out w3 (by omega) (HR.out.next B3.out)).mono ?_
    rintro e w4 ⟨v4, rfl, o4, b4⟩
    rw [hrl] at o4
    obtain ⟨p4, d4, rfl, r4⟩ := rowAt_own hrl o4
    have B4 := Lib.hid (Below.chain B3.out b4)
    have R4 := Lib.hid (R3.out.next b4)
    have S4 := Lib.hid r4
    have T4 := Lib.hid (block_next T3.out b4)
    clear o4 b4 r4 B3 R3 T3 C19
    simp only [rcells]
    have ba : ∀ o, Below w4.heap.size w4 (w4.alloc o) := fun o => (Below.refl _ _).alloc (Nat.le_refl _) o
    have t0 : ∀ o, (w4.alloc o).cell? ⟨T, 0, none⟩ = some (.int .u32 (r.sec : Int)) := fun o => cell_of_row _ _ _ _ _ _ (block_next T4.out (ba o))
    have t1 : ∀ o, (w4.alloc o).cell? ⟨T, 1, none⟩ = some (.int .u32 (r.frac : Int)) := fun o => cell_of_row _ _ _ _ _ _ (block_next T4.out (ba o))
    have t2 : ∀ o, (w4.alloc o).cell? ⟨T, 2, none⟩ = some (.int .u32 (r.len : Int)) := fun o => cell_of_row _ _ _ _ _ _ (block_next T4.out (ba o))
    have t3 : ∀ o, (w4.alloc o).cell? ⟨T, 3, none⟩ = some (.slice p2 k d2) := fun o => cell_of_row _ _ _ _ _ _ (block_next T4.out (ba o))
    go_wp2_with fail
    have q1 := recs_built hrl ((R4.out.next (ba (.cells #[.int .u32 (r.sec : Int), .int .u32 (r.frac : Int), .int .u32 (r.len : Int), .slice p4 k d4] 46)))) Hok.out
    have s1 : (w4.alloc (.cells #[.int .u32 (r.sec : Int), .int .u32 (r.frac : Int), .int .u32 (r.len : Int), .slice p4 k d4] 46)).heap.size = w4.heap.size + 1 := by simp
    have b5 := ba (.cells #[.int .u32 (r.sec : Int), .int .u32 (r.frac : Int), .int .u32 (r.len : Int), .slice p4 k d4] 46)
    have r5 := S4.out.next b5
    rw [s1] at q1
    have b5' := Below.chain B4.out b5
    clear b5 t0 t1 t2 t3
    generalize w4.alloc (.cells #[.int .u32 (r.sec : Int), .int .u32 (r.frac : Int), .int .u32 (r.len : Int), .slice p4 k d4] 46) = w5 at *
    have b6 : Below w5.heap.size w5 (w5.alloc (.cells #[.int .u32 (r.sec : Int), .int .u32 (r.frac : Int), .int .u32 (r.len : Int), .slice p2 k d2] 46)) := (Below.refl _ _).alloc (Nat.le_refl _) _
    have r6 := r5.next b6
    have b6' := Below.chain b5' b6
    have s2 : (w5.alloc (.cells #[.int .u32 (r.sec : Int), .int .u32 (r.frac : Int), .int .u32 (r.len : Int), .slice p2 k d2] 46)).heap.size = w4.heap.size + 1 + 1 := by simp [s1]
    generalize w5.alloc (.cells #[.int .u32 (r.sec : Int), .int .u32 (r.frac : Int), .int .u32 (r.len : Int), .slice p2 k d2] 46) = w6 at *
    have q2 := recs_built hrl r6 Hok.out
    rw [s2] at q2
    have b7 : Below w6.heap.size w6 (w6.alloc (.cells #[.int .u32 (r.sec : Int), .int .u32 (r.frac : Int), .int .u32 (r.len : Int), .slice p4 k d4] 46)) := (Below.refl _ _).alloc (Nat.le_refl _) _
    have q1' := q1.next b7
    have b7' := Below.chain b6' b7
    generalize w6.alloc (.cells #[.int .u32 (r.sec : Int), .int .u32 (r.frac : Int), .int .u32 (r.len : Int), .slice p4 k d4] 46) = w7 at *
    refine (same_any _ _ 1 1 1 [r] w7 rfl (by omega) q1' q2).mono ?_
    rintro e w8 ⟨rfl, b8⟩
    have B8 := Lib.hid (Below.chain b7' b8)
    clear b8 b7' q1' b7 q2 q1 b6 b6' r6 r5 b5' ba
    go_wp2
    go_ret
    exact ⟨rfl, B8.out⟩
end Go.Proofs.Ytfkjjolohphaoaa
