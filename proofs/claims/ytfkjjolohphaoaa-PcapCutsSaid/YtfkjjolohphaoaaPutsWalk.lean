/- The walk of PcapPuts. -/
import Derived.Test.YtfkjjolohphaoaaPj
namespace Go.Proofs.Ytfkjjolohphaoaa
open Go.RowKit

/-- Bytes that are answered, wherever they lie. -/
theorem PutRes.row {w w' : World} {e : Ending} {m : Pc.Hdr} {L : List Pc.Rcd} (h : PutRes w w' e m L) : Below w.heap.size w w' ∧ ((Pc.small L ∧ ∃ a c, e = .returned (.tuple #[.slice a (Pc.put m L).length c, .int .i64 0]) ∧ RowAt w' a c (Pc.put m L)) ∨ (¬ Pc.small L ∧ e = .returned (.tuple #[.slice none 0 0, .int .i64 4]))) := by
  obtain ⟨b, h⟩ := h
  refine ⟨b, ?_⟩
  rcases h with ⟨h1, v, rfl, o⟩ | h
  · obtain ⟨a, c, rfl, r⟩ := rowAt_own rfl o
    exact .inl ⟨h1, a, c, rfl, r⟩
  · exact .inr h

set_option maxRecDepth 100000 in
set_option maxHeartbeats 4000000 in
theorem puts_walk (m : Pc.Hdr) (a : Option Addr) (n cap : Nat) (L : List Pc.Rcd) (w : World) (hm : m.Ok) (hn : L.length = n) (h : RecsAt w a L) :
    Calls Try.prog 3 #[.agg (hcells m).toArray, .slice a n cap] w fun e w' => e = .returned (.bool true) ∧ Below w.heap.size w w' := by
  have H := Lib.hid h
  have Hn := Lib.hid hn
  have b0 : Below w.heap.size w (w.alloc (.cells #[.bool m.big, .bool m.nano, .int .u32 (m.snap : Int), .int .u32 (m.link : Int)] 24)) := (Below.refl _ _).alloc (Nat.le_refl _) _
  have hT0 : (w.alloc (.cells #[.bool m.big, .bool m.nano, .int .u32 (m.snap : Int), .int .u32 (m.link : Int)] 24)).heap[w.heap.size]? = some (.cells (hcells m).toArray 24 (0, 0)) := heap_alloc_new w _
  have B0 := Lib.hid b0
  have T0 := Lib.hid hT0
  clear h hn b0 hT0
  go_enter Try.func3, Try.ntmps3
  simp only [hcells]
  go_wp2_with fail
  generalize w.alloc (.cells #[.bool m.big, .bool m.nano, .int .u32 (m.snap : Int), .int .u32 (m.link : Int)] 24) = w0 at *
  refine (awake_any w0).mono ?_
  rintro e w1 ⟨rfl, b1⟩
  have B1 := Lib.hid (Below.chain B0.out b1)
  have T1 := Lib.hid (block_next T0.out b1)
  generalize w.heap.size = T at T1 ⊢
  clear b1 B0 T0
  go_wp2_with fail
  refine (few_any a n cap L w1 Hn.out (H.out.next B1.out)).mono ?_
  rintro e w2 ⟨r, rfl, rfl, hfew⟩
  cases r
  · go_wp2_with fail
    refine (awake_any _).mono ?_
    rintro e w3 ⟨rfl, b3⟩
    have B3 := Lib.hid (Below.chain B1.out b3)
    clear b3
    go_wp2
    go_ret
    exact ⟨rfl, B3.out⟩
  · obtain ⟨h50, h14⟩ := hfew rfl
    clear hfew
    have t0 : w2.cell? ⟨T, 0, none⟩ = some (.bool m.big) := cell_of_row _ _ _ _ _ _ T1.out
    have t1 : w2.cell? ⟨T, 1, none⟩ = some (.bool m.nano) := cell_of_row _ _ _ _ _ _ T1.out
    have t2 : w2.cell? ⟨T, 2, none⟩ = some (.int .u32 (m.snap : Int)) := cell_of_row _ _ _ _ _ _ T1.out
    have t3 : w2.cell? ⟨T, 3, none⟩ = some (.int .u32 (m.link : Int)) := cell_of_row _ _ _ _ _ _ T1.out
    go_wp2_with fail
    refine (put_any m a n cap L w2 hm Hn.out (by omega) (H.out.next B1.out)).mono ?_
    intro e w3 hres
    obtain ⟨b3, hres⟩ := hres.row
    have B3 := Lib.hid (Below.chain B1.out b3)
    have T3 := Lib.hid (block_next T1.out b3)
    have u0 : w3.cell? ⟨T, 0, none⟩ = some (.bool m.big) := cell_of_row _ _ _ _ _ _ T3.out
    have u1 : w3.cell? ⟨T, 1, none⟩ = some (.bool m.nano) := cell_of_row _ _ _ _ _ _ T3.out
    have u2 : w3.cell? ⟨T, 2, none⟩ = some (.int .u32 (m.snap : Int)) := cell_of_row _ _ _ _ _ _ T3.out
    have u3 : w3.cell? ⟨T, 3, none⟩ = some (.int .u32 (m.link : Int)) := cell_of_row _ _ _ _ _ _ T3.out
    clear b3 t0 t1 t2 t3 B1 T1
    generalize hlen : (Pc.put m L).length = k at *
    rcases hres with ⟨hs, a3, c3, rfl, r3⟩ | ⟨hs, rfl⟩
    · have R3 := Lib.hid r3
      clear r3
      go_wp2_with fail
      refine (refPut_put m a n cap L w3 hm Hn.out (by omega) (H.out.next B3.out)).mono ?_
      intro e w4 hres
      obtain ⟨b4, hres⟩ := hres.row
      rw [hlen] at hres
      rcases hres with ⟨_, a4, c4, rfl, r4⟩ | ⟨hs2, _⟩
      · have B4 := Lib.hid (Below.chain B3.out b4)
        have y1 : (convert 28 9 (.slice a3 k c3)).run Try.prog w4 = .ok (.string ⟨(Pc.put m L).toArray⟩) w4 := conv_row hlen (R3.out.next b4)
        have y2 : (convert 28 9 (.slice a4 k c4)).run Try.prog w4 = .ok (.string ⟨(Pc.put m L).toArray⟩) w4 := conv_row hlen r4
        generalize (⟨(Pc.put m L).toArray⟩ : ByteArray) = Z at y1 y2
        clear b4 r4 R3 u0 u1 u2 u3
        go_wp2
        go_ret
        exact ⟨rfl, B4.out⟩
      · exact absurd hs hs2
    · go_wp2_with fail
      refine (refPut_put m a n cap L w3 hm Hn.out (by omega) (H.out.next B3.out)).mono ?_
      intro e w4 hres
      obtain ⟨b4, hres⟩ := hres.row
      rcases hres with ⟨hs2, _⟩ | ⟨_, rfl⟩
      · exact absurd hs2 hs
      · have B4 := Lib.hid (Below.chain B3.out b4)
        have y1 := conv_nil w4
        clear b4 u0 u1 u2 u3
        go_wp2
        go_ret
        exact ⟨rfl, B4.out⟩
end Go.Proofs.Ytfkjjolohphaoaa
