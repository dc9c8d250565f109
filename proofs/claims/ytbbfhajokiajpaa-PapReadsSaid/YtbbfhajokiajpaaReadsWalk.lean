/- The law of what is read. -/
import Derived.Test.YtbbfhajokiajpaaSf
namespace Go.Proofs.Ytbbfhajokiajpaa
open Go.RowKit

set_option maxRecDepth 100000 in
set_option maxHeartbeats 2000000 in
theorem reads_walk (a : Option Addr) (n cap : Nat) (xs : List UInt8) (w : World) (hn : xs.length = n) (h : RowAt w a cap xs) :
    Calls Try.prog 4 #[.slice a n cap] w fun e w' => e = .returned (.bool true) ∧ Below w.heap.size w w' := by
  have H := Lib.hid h
  have HN := Lib.hid hn
  clear h hn
  by_cases hb : 3000 < n
  · have i1 : (3000 : Int) < (n : Int) := by omega
    go_enter Try.func4, Try.ntmps4
    go_wp2_with fail
    refine (awake_any _).mono ?_
    rintro e w1 ⟨rfl, b1⟩
    have B1 := Lib.hid b1
    clear b1
    go_wp2_with fail
    refine (awake_any _).mono ?_
    rintro e w2 ⟨rfl, b2⟩
    have B2 := Lib.hid (Below.chain B1.out b2)
    clear b2 B1
    go_wp2
    go_ret
    exact ⟨rfl, B2.out⟩
  · have i1 : (n : Int) ≤ 3000 := by omega
    have i2 : n ≤ 300000 := by omega
    rcases hA : Pp.ask xs with ⟨s, u, k⟩
    rcases hS : Pp.say xs with ⟨t, m⟩
    have HA := Lib.hid hA
    have HS := Lib.hid hS
    clear hA hS
    go_enter Try.func4, Try.ntmps4
    go_wp2_with fail
    refine (awake_any _).mono ?_
    rintro e w1 ⟨rfl, b1⟩
    have B1 := Lib.hid b1
    clear b1
    go_wp2_with fail
    refine (readAsk_any a n cap xs w1 HN.out i2 (H.out.next B1.out)).mono ?_
    intro e w2 p2
    obtain ⟨rfl, b2⟩ := p2.at HA.out rfl
    have B2 := Lib.hid (Below.chain B1.out b2)
    clear p2 b2 B1
    go_wp2_with (refine wpList_lgIn (w := w2) rfl (.tmp 3) (.tmp 22) rfl s u rfl rfl ?_; intro W3 l3 b3; have L3 := Lib.hid l3; have B3 := Lib.hid (Below.chain B2.out b3); clear l3 b3 B2)
    refine (refAsk_any a n cap xs W3 HN.out i2 (H.out.next B3.out)).mono ?_
    intro e w4 p4
    obtain ⟨rfl, b4⟩ := p4.at HA.out rfl
    have B4 := Lib.hid (Below.chain B3.out b4)
    have L4 := Lib.hid (L3.out.next b4)
    clear p4 b4 B3 L3
    go_wp2_with (refine wpList_lgIn (w := w4) rfl (.tmp 5) (.tmp 27) rfl s u rfl rfl ?_; intro W5 l5 b5; have L5 := Lib.hid (L4.out.next b5); have M5 := Lib.hid l5; have B5 := Lib.hid (Below.chain B4.out b5); clear l5 b5 B4 L4)
    refine (readSay_any a n cap xs W5 HN.out i2 (H.out.next B5.out)).mono ?_
    intro e w6 p6
    obtain ⟨rfl, b6⟩ := p6.at HS.out rfl
    have B6 := Lib.hid (Below.chain B5.out b6)
    have L6 := Lib.hid (L5.out.next b6)
    have M6 := Lib.hid (M5.out.next b6)
    clear p6 b6 B5 L5 M5
    go_wp2_with fail
    refine (refSay_any a n cap xs w6 HN.out i2 (H.out.next B6.out)).mono ?_
    intro e w7 p7
    obtain ⟨rfl, b7⟩ := p7.at HS.out rfl
    have B7 := Lib.hid (Below.chain B6.out b7)
    have L7 := Lib.hid (L6.out.next b7)
    have M7 := Lib.hid (M6.out.next b7)
    clear p7 b7 B6 L6 M6
    go_wp2_with (first
      | (refine wpList_value (by rfl) (run_load_lg (.tmp 3) rfl w2.heap.size s u rfl L7.out) ?_)
      | (refine wpList_value (by rfl) (run_load_lg (.tmp 5) rfl w4.heap.size s u rfl M7.out) ?_)
      | (refine wpList_value (by rfl) (run_eql_lg (.tmp 39) (.tmp 40) rfl s u rfl rfl _) ?_))
    go_ret
    exact ⟨rfl, B7.out⟩
end Go.Proofs.Ytbbfhajokiajpaa
