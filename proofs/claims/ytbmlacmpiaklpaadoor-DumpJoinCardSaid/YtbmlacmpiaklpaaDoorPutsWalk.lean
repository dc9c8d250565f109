/- The walk of DumpPuts. -/
import Derived.Test.YtbmlacmpiaklpaaDoorDj
import Derived.Test.YtbmlacmpiaklpaaDoorRu
namespace Go.Proofs.YtbmlacmpiaklpaaDoor
open Go.RowKit

set_option maxRecDepth 100000 in
set_option maxHeartbeats 4000000 in
theorem puts_walk (a : Option Addr) (n cap : Nat) (L : List Dm.Nt) (w : World) (hn : L.length = n) (h : NtsAt w a L) (ht : Tab w) :
    Calls Tryd.prog 3 #[.slice a n cap] w fun e w' => e = .returned (.bool true) ∧ Below w.heap.size w w' := by
  have H := Lib.hid h
  have Hn := Lib.hid hn
  have HT := Lib.hid ht
  clear h hn ht
  go_enter Tryd.func3, Tryd.ntmps3
  go_wp2_with fail
  refine (awake_any w HT.out).mono ?_
  rintro e w1 ⟨rfl, b1⟩
  have B1 := Lib.hid b1
  clear b1
  go_wp2_with fail
  refine (few_any a n cap L w1 Hn.out (H.out.next B1.out)).mono ?_
  rintro e w2 ⟨r, rfl, rfl, hfew⟩
  cases r
  · go_wp2_with fail
    refine (awake_any _ (HT.out.next B1.out)).mono ?_
    rintro e w3 ⟨rfl, b3⟩
    have B3 := Lib.hid (Below.chain B1.out b3)
    clear b3
    go_wp2
    go_ret
    exact ⟨rfl, B3.out⟩
  · obtain ⟨h50, h14⟩ := hfew rfl
    clear hfew
    go_wp2_with fail
    refine (put_any a n cap L w2 Hn.out (by have := Dm.bytes_le L; have := Hn.out; omega) (by omega) (H.out.next B1.out) (HT.out.next B1.out)).mono ?_
    intro e w3 hres
    by_cases h0 : Dm.err L = 0
    · obtain ⟨a3, c3, rfl, r3, b3, _⟩ := put_fine hres h0
      have B3 := Lib.hid (Below.chain B1.out b3)
      have R3 := Lib.hid r3
      clear b3 r3 hres
      generalize hlen : (Dm.bytes L).length = k at *
      have HL := Lib.hid hlen
      clear hlen
      go_wp2_with fail
      refine (refPut_put a n cap L w3 Hn.out (by omega) (H.out.next B3.out)).mono ?_
      intro e w4 hres
      obtain ⟨a4, c4, rfl, r4, b4, _⟩ := put_fine hres h0
      rw [HL.out]
      have B4 := Lib.hid (Below.chain B3.out b4)
      have y1 : (convert 25 9 (.slice a3 k c3)).run Tryd.prog w4 = .ok (.string ⟨(Dm.bytes L).toArray⟩) w4 := conv_row HL.out (R3.out.next b4)
      have y2 : (convert 25 9 (.slice a4 k c4)).run Tryd.prog w4 = .ok (.string ⟨(Dm.bytes L).toArray⟩) w4 := conv_row HL.out r4
      generalize (⟨(Dm.bytes L).toArray⟩ : ByteArray) = Z at y1 y2
      clear b4 r4 R3 hres h0
      go_wp2
      go_ret
      exact ⟨rfl, B4.out⟩
    · obtain ⟨rfl, b3⟩ := put_bad hres h0
      have B3 := Lib.hid (Below.chain B1.out b3)
      clear b3 hres
      go_wp2_with fail
      refine (refPut_put a n cap L w3 Hn.out (by omega) (H.out.next B3.out)).mono ?_
      intro e w4 hres
      obtain ⟨rfl, b4⟩ := put_bad hres h0
      have B4 := Lib.hid (Below.chain B3.out b4)
      have y1 := conv_nil w4
      clear b4 hres h0
      generalize Dm.err L = q at *
      go_wp2
      go_ret
      exact ⟨rfl, B4.out⟩
end Go.Proofs.YtbmlacmpiaklpaaDoor
