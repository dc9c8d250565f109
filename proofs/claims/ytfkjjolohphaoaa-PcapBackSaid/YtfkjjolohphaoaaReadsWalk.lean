/- The walk of PcapReads. -/
import Derived.Test.YtfkjjolohphaoaaNextsWalk
namespace Go.Proofs.Ytfkjjolohphaoaa
open Go.RowKit

theorem Pc.rdr_count (big : Bool) : ∀ (f : Nat) (b : List UInt8) (k : Nat), b.length ≤ f → 16 * (Pc.rdr b big k).1.length + Pc.size (Pc.rdr b big k).1 ≤ b.length
  | 0, b, k, hf => by
    have : b = [] := List.eq_nil_of_length_eq_zero (by omega)
    subst this
    rw [Pc.rdr_nil]; simp [Pc.size]
  | f + 1, b, k, hf => by
    by_cases hb : b = []
    · subst hb; rw [Pc.rdr_nil]; simp [Pc.size]
    · have hpos : 0 < b.length := List.length_pos_iff.2 hb
      have hk := Pc.next_known b big
      rcases hx : Pc.next b big with ⟨r, n, e⟩
      rw [hx] at hk
      by_cases he : e = 0
      · subst he
        have h5 := (hk.good rfl).1
        have h7 := hk.size
        simp only at h5 h7
        rw [Pc.rdr_good b big k hpos r n hx]
        have ih := Pc.rdr_count big f (b.drop n) (k + n) (by simp; omega)
        rw [List.length_drop] at ih
        simp only [List.length_cons, Pc.size_cons]
        omega
      · rw [Pc.rdr_bad b big k hpos r n e hx he]; simp [Pc.size]
theorem Pc.read_count (b : List UInt8) : 16 * (Pc.read b).2.1.length + Pc.size (Pc.read b).2.1 ≤ b.length := by
  rcases hx : Pc.head b with ⟨m, e⟩
  by_cases he : e = 0
  · subst he
    rw [Pc.read_good b m hx]
    have h := Pc.rdr_count m.big _ (b.drop 24) 24 (Nat.le_refl _)
    rw [List.length_drop] at h
    simp only
    omega
  · rw [Pc.read_bad b e m hx he]; simp [Pc.size]

set_option maxRecDepth 100000 in
set_option maxHeartbeats 4000000 in
theorem reads_walk (a : Option Addr) (cap : Nat) (xs : List UInt8) (w : World) (h : RowAt w a cap xs) :
    Calls Try.prog 4 #[.slice a xs.length cap] w fun e w' => e = .returned (.bool true) ∧ Below w.heap.size w w' := by
  have HR := Lib.hid h
  have rk := Pc.read_known xs
  have rr := Pc.read_recs xs
  have hh := Pc.head_known xs
  obtain ⟨n, hn⟩ : ∃ n, xs.length = n := ⟨_, rfl⟩
  rw [hn]
  have c13 := fun W hm h => read_any a n cap xs W hn hm h
  have c14 := fun W hm h => refRead_any a n cap xs W hn hm h
  have c15 := fun W hm h => head_any a n cap xs W hn hm h
  have c16 := fun W hm h => refHead_any a n cap xs W hn hm h
  have hll : (Pc.read xs).2.1.length ≤ n := by have := Pc.read_count xs; omega
  generalize Pc.read xs = A at *
  generalize Pc.head xs = B at *
  obtain ⟨m, L, at', er⟩ := A
  obtain ⟨mh, eh⟩ := B
  have C13 := Lib.hid c13
  have C14 := Lib.hid c14
  have C15 := Lib.hid c15
  have C16 := Lib.hid c16
  have Hok := Lib.hid rr
  simp only at hll
  clear c13 c14 c15 c16 h rk rr hn hh
  go_enter Try.func4, Try.ntmps4
  go_wp2_with fail
  refine (awake_any w).mono ?_
  rintro e w1 ⟨rfl, b1⟩
  have B1 := Lib.hid b1
  clear b1
  by_cases hl : 140000 < n
  · have i1 : (140000 : Int) < (n : Int) := by omega
    go_wp2_with fail
    refine (awake_any w1).mono ?_
    rintro e w2 ⟨rfl, b2⟩
    have B2 := Lib.hid (Below.chain B1.out b2)
    clear b2
    go_wp2
    go_ret
    exact ⟨rfl, B2.out⟩
  · have i1 : ¬ (140000 : Int) < (n : Int) := by omega
    go_wp2_with fail
    refine (C13.out w1 (by omega) (HR.out.next B1.out)).mono ?_
    rintro e w2 ⟨v2, rfl, rec2, b2⟩
    obtain ⟨a2, c2, rfl, ra2⟩ := rec2.at Hok.out
    simp only [hcells, scells]
    go_wp2_with fail
    have h2 := two_blocks w2 (.cells (hcells m).toArray 24) (.cells (scells at' er).toArray 36)
    have U2 : Hid (((w2.alloc (.cells #[.bool m.big, .bool m.nano, .int .u32 (m.snap : Int), .int .u32 (m.link : Int)] 24)).alloc (.cells #[.int .i64 (at' : Int), .int .i64 (er : Int)] 36)).heap[w2.heap.size]? = some (.cells (hcells m).toArray 24 (0, 0))) := h2.1
    have V2 : Hid (((w2.alloc (.cells #[.bool m.big, .bool m.nano, .int .u32 (m.snap : Int), .int .u32 (m.link : Int)] 24)).alloc (.cells #[.int .i64 (at' : Int), .int .i64 (er : Int)] 36)).heap[w2.heap.size + 1]? = some (.cells (scells at' er).toArray 36 (0, 0))) := h2.2.1
    have bb : Below w2.heap.size w2 ((w2.alloc (.cells #[.bool m.big, .bool m.nano, .int .u32 (m.snap : Int), .int .u32 (m.link : Int)] 24)).alloc (.cells #[.int .i64 (at' : Int), .int .i64 (er : Int)] 36)) := h2.2.2
    have B3 := Lib.hid (Below.chain (Below.chain B1.out b2) bb)
    have A3 := Lib.hid (ra2.next bb)
    clear h2 bb b2 ra2 rec2 B1 C13
    generalize (w2.alloc (.cells #[.bool m.big, .bool m.nano, .int .u32 (m.snap : Int), .int .u32 (m.link : Int)] 24)).alloc (.cells #[.int .i64 (at' : Int), .int .i64 (er : Int)] 36) = w3 at *
    generalize w2.heap.size = U at *
    refine (C14.out w3 (by omega) (HR.out.next B3.out)).mono ?_
    rintro e w4 ⟨v4, rfl, rec4, b4⟩
    obtain ⟨a4, c4, rfl, ra4⟩ := rec4.at Hok.out
    simp only [hcells, scells]
    go_wp2_with fail
    have h2 := two_blocks w4 (.cells (hcells m).toArray 24) (.cells (scells at' er).toArray 36)
    have X4 : Hid (((w4.alloc (.cells #[.bool m.big, .bool m.nano, .int .u32 (m.snap : Int), .int .u32 (m.link : Int)] 24)).alloc (.cells #[.int .i64 (at' : Int), .int .i64 (er : Int)] 36)).heap[w4.heap.size]? = some (.cells (hcells m).toArray 24 (0, 0))) := h2.1
    have Y4 : Hid (((w4.alloc (.cells #[.bool m.big, .bool m.nano, .int .u32 (m.snap : Int), .int .u32 (m.link : Int)] 24)).alloc (.cells #[.int .i64 (at' : Int), .int .i64 (er : Int)] 36)).heap[w4.heap.size + 1]? = some (.cells (scells at' er).toArray 36 (0, 0))) := h2.2.1
    have bb : Below w4.heap.size w4 ((w4.alloc (.cells #[.bool m.big, .bool m.nano, .int .u32 (m.snap : Int), .int .u32 (m.link : Int)] 24)).alloc (.cells #[.int .i64 (at' : Int), .int .i64 (er : Int)] 36)) := h2.2.2
    have b5 := Below.chain b4 bb
    have B5 := Lib.hid (Below.chain B3.out b5)
    have U5 := Lib.hid (block_next U2.out b5)
    have V5 := Lib.hid (block_next V2.out b5)
    have A5 := Lib.hid (A3.out.next b5)
    have D5 := Lib.hid (ra4.next bb)
    clear h2 bb b4 b5 ra4 rec4 B3 C14 U2 V2 A3
    generalize (w4.alloc (.cells #[.bool m.big, .bool m.nano, .int .u32 (m.snap : Int), .int .u32 (m.link : Int)] 24)).alloc (.cells #[.int .i64 (at' : Int), .int .i64 (er : Int)] 36) = w5 at *
    generalize w4.heap.size = X at *
    refine (C15.out w5 (by omega) (HR.out.next B5.out)).mono ?_
    rintro e w6 ⟨rfl, b6⟩
    simp only [hcells]
    go_wp2_with fail
    have hZ : (w6.alloc (.cells #[.bool mh.big, .bool mh.nano, .int .u32 (mh.snap : Int), .int .u32 (mh.link : Int)] 24)).heap[w6.heap.size]? = some (.cells (hcells mh).toArray 24 (0, 0)) := heap_alloc_new w6 _
    have bb : Below w6.heap.size w6 (w6.alloc (.cells #[.bool mh.big, .bool mh.nano, .int .u32 (mh.snap : Int), .int .u32 (mh.link : Int)] 24)) := (Below.refl _ _).alloc (Nat.le_refl _) _
    have b7 := Below.chain b6 bb
    have B7 := Lib.hid (Below.chain B5.out b7)
    have U7 := Lib.hid (block_next U5.out b7)
    have V7 := Lib.hid (block_next V5.out b7)
    have X7 := Lib.hid (block_next X4.out b7)
    have Y7 := Lib.hid (block_next Y4.out b7)
    have A7 := Lib.hid (A5.out.next b7)
    have D7 := Lib.hid (D5.out.next b7)
    have Z7 := Lib.hid hZ
    clear bb b6 b7 hZ B5 U5 V5 X4 Y4 A5 D5 C15
    generalize w6.alloc (.cells #[.bool mh.big, .bool mh.nano, .int .u32 (mh.snap : Int), .int .u32 (mh.link : Int)] 24) = w7 at *
    generalize w6.heap.size = Z at *
    refine (C16.out w7 (by omega) (HR.out.next B7.out)).mono ?_
    rintro e w8 ⟨rfl, b8⟩
    have B8 := Lib.hid (Below.chain B7.out b8)
    have U8 := Lib.hid (block_next U7.out b8)
    have V8 := Lib.hid (block_next V7.out b8)
    have X8 := Lib.hid (block_next X7.out b8)
    have Y8 := Lib.hid (block_next Y7.out b8)
    have A8 := Lib.hid (A7.out.next b8)
    have D8 := Lib.hid (D7.out.next b8)
    have Z8 := Lib.hid (block_next Z7.out b8)
    clear b8 B7 U7 V7 X7 Y7 A7 D7 Z7 C16
    simp only [hcells]
    have ba : ∀ o, Below w8.heap.size w8 (w8.alloc o) := fun o => (Below.refl _ _).alloc (Nat.le_refl _) o
    have s0 : ∀ o, (w8.alloc o).cell? ⟨U, 0, none⟩ = some (.bool m.big) := fun o => cell_of_row _ _ _ _ _ _ (block_next U8.out (ba o))
    have s1 : ∀ o, (w8.alloc o).cell? ⟨U, 1, none⟩ = some (.bool m.nano) := fun o => cell_of_row _ _ _ _ _ _ (block_next U8.out (ba o))
    have s2 : ∀ o, (w8.alloc o).cell? ⟨U, 2, none⟩ = some (.int .u32 (m.snap : Int)) := fun o => cell_of_row _ _ _ _ _ _ (block_next U8.out (ba o))
    have s3 : ∀ o, (w8.alloc o).cell? ⟨U, 3, none⟩ = some (.int .u32 (m.link : Int)) := fun o => cell_of_row _ _ _ _ _ _ (block_next U8.out (ba o))
    have t0 : ∀ o, (w8.alloc o).cell? ⟨X, 0, none⟩ = some (.bool m.big) := fun o => cell_of_row _ _ _ _ _ _ (block_next X8.out (ba o))
    have t1 : ∀ o, (w8.alloc o).cell? ⟨X, 1, none⟩ = some (.bool m.nano) := fun o => cell_of_row _ _ _ _ _ _ (block_next X8.out (ba o))
    have t2 : ∀ o, (w8.alloc o).cell? ⟨X, 2, none⟩ = some (.int .u32 (m.snap : Int)) := fun o => cell_of_row _ _ _ _ _ _ (block_next X8.out (ba o))
    have t3 : ∀ o, (w8.alloc o).cell? ⟨X, 3, none⟩ = some (.int .u32 (m.link : Int)) := fun o => cell_of_row _ _ _ _ _ _ (block_next X8.out (ba o))
    go_wp2_with fail
    have hG : (w8.alloc (.cells #[.bool mh.big, .bool mh.nano, .int .u32 (mh.snap : Int), .int .u32 (mh.link : Int)] 24)).heap[w8.heap.size]? = some (.cells (hcells mh).toArray 24 (0, 0)) := heap_alloc_new w8 _
    refine (same_any a2 a4 c2 c4 L.length L _ rfl (by omega) (A8.out.next (ba _)) (D8.out.next (ba _))).mono ?_
    rintro e w9 ⟨rfl, b9⟩
    have b10 := Below.chain (ba _) b9
    have B9 := Lib.hid (Below.chain B8.out b10)
    have u0 : w9.cell? ⟨U + 1, 0, none⟩ = some ((.int .i64 (at' : Int))) := cell_of_row _ _ _ _ _ _ (block_next V8.out b10)
    have u1 : w9.cell? ⟨U + 1, 1, none⟩ = some ((.int .i64 (er : Int))) := cell_of_row _ _ _ _ _ _ (block_next V8.out b10)
    have v0 : w9.cell? ⟨X + 1, 0, none⟩ = some ((.int .i64 (at' : Int))) := cell_of_row _ _ _ _ _ _ (block_next Y8.out b10)
    have v1 : w9.cell? ⟨X + 1, 1, none⟩ = some ((.int .i64 (er : Int))) := cell_of_row _ _ _ _ _ _ (block_next Y8.out b10)
    have x0 : w9.cell? ⟨Z, 0, none⟩ = some (.bool mh.big) := cell_of_row _ _ _ _ _ _ (block_next Z8.out b10)
    have x1 : w9.cell? ⟨Z, 1, none⟩ = some (.bool mh.nano) := cell_of_row _ _ _ _ _ _ (block_next Z8.out b10)
    have x2 : w9.cell? ⟨Z, 2, none⟩ = some (.int .u32 (mh.snap : Int)) := cell_of_row _ _ _ _ _ _ (block_next Z8.out b10)
    have x3 : w9.cell? ⟨Z, 3, none⟩ = some (.int .u32 (mh.link : Int)) := cell_of_row _ _ _ _ _ _ (block_next Z8.out b10)
    have y0 : w9.cell? ⟨w8.heap.size, 0, none⟩ = some (.bool mh.big) := cell_of_row _ _ _ _ _ _ (block_next hG b9)
    have y1 : w9.cell? ⟨w8.heap.size, 1, none⟩ = some (.bool mh.nano) := cell_of_row _ _ _ _ _ _ (block_next hG b9)
    have y2 : w9.cell? ⟨w8.heap.size, 2, none⟩ = some (.int .u32 (mh.snap : Int)) := cell_of_row _ _ _ _ _ _ (block_next hG b9)
    have y3 : w9.cell? ⟨w8.heap.size, 3, none⟩ = some (.int .u32 (mh.link : Int)) := cell_of_row _ _ _ _ _ _ (block_next hG b9)
    generalize w8.heap.size = G at *
    clear hG b9 b10 B8 U8 V8 X8 Y8 A8 D8 Z8
    go_wp2
    go_ret
    exact ⟨rfl, B9.out⟩
end Go.Proofs.Ytfkjjolohphaoaa
