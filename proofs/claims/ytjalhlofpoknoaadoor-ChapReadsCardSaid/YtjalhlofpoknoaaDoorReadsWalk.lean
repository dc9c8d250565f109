/- The law of what is read. -/
import Derived.Test.YtjalhlofpoknoaaDoorCg
namespace Go.Proofs.YtjalhlofpoknoaaDoor
open Go.RowKit

set_option maxRecDepth 100000 in
set_option maxHeartbeats 2000000 in
theorem reads_walk (a : Option Addr) (n cap : Nat) (xs : List UInt8) (w : World) (hn : xs.length = n) (h : RowAt w a cap xs) (ht : S3.Tabs w) (hg : S3.Trig w) :
    Calls Tryd.prog 4 #[.slice a n cap] w fun e w' => e = .returned (.bool true) ∧ Below w.heap.size w w' := by
  have HT := Lib.hid ht
  have HG := Lib.hid hg
  have H := Lib.hid h
  have HN := Lib.hid hn
  clear ht hg h hn
  by_cases hb : 70000 < n
  · have i1 : (70000 : Int) < (n : Int) := by omega
    go_enter Tryd.func4, Tryd.ntmps4
    go_wp2_with fail
    refine (awake_any _ HT.out HG.out).mono ?_
    rintro e w1 ⟨rfl, b1⟩
    have B1 := Lib.hid b1
    clear b1
    go_wp2_with fail
    refine (awake_any _ (HT.out.next B1.out) (HG.out.next B1.out)).mono ?_
    rintro e w2 ⟨rfl, b2⟩
    have B2 := Lib.hid (Below.chain B1.out b2)
    clear b2 B1
    go_wp2
    go_ret
    exact ⟨rfl, B2.out⟩
  · have i1 : (n : Int) ≤ 70000 := by omega
    have i2 : n ≤ 300000 := by omega
    rcases hA : Ch.read xs with ⟨v, s, k⟩
    have HA := Lib.hid hA
    clear hA
    go_enter Tryd.func4, Tryd.ntmps4
    go_wp2_with fail
    refine (awake_any _ HT.out HG.out).mono ?_
    rintro e w1 ⟨rfl, b1⟩
    have B1 := Lib.hid b1
    clear b1
    go_wp2_with fail
    refine (read_any a n cap xs w1 HN.out i2 (H.out.next B1.out)).mono ?_
    intro e w2 p2
    obtain ⟨p, c, rfl, o2⟩ := p2.at HA.out rfl rfl
    have B2 := Lib.hid (Below.chain B1.out o2.bel)
    have R2 := Lib.hid o2.row
    clear p2 o2 B1
    obtain ⟨m, hm⟩ : ∃ m, v.length = m := ⟨_, rfl⟩
    rw [hm]
    have HM := Lib.hid hm
    clear hm
    go_wp2_with (refine wpList_chIn (w := w2) rfl (.tmp 3) (.tmp 18) rfl p m c s rfl rfl ?_; intro w3 l3 b3; have L3 := Lib.hid l3; have R3 := Lib.hid (R2.out.next b3); have B3 := Lib.hid (Below.chain B2.out b3); clear l3 b3 B2 R2)
    refine (refRead_any a n cap xs w3 HN.out i2 (H.out.next B3.out)).mono ?_
    intro e w4 p4
    obtain ⟨q, d, rfl, o4⟩ := p4.at HA.out HM.out rfl
    have B4 := Lib.hid (Below.chain B3.out o4.bel)
    have L4 := Lib.hid (L3.out.next o4.bel)
    have R4 := Lib.hid (R3.out.next o4.bel)
    have Q4 := Lib.hid o4.row
    clear p4 o4 B3 L3 R3
    generalize w2.heap.size = U at *
    go_wp2_with (first
      | (refine wpList_chIn (w := w4) rfl (.tmp 5) (.tmp 23) rfl q m d s rfl rfl ?_; intro w5 l5 b5; have M5 := Lib.hid l5; have L5 := Lib.hid (L4.out.next b5); have R5 := Lib.hid (R4.out.next b5); have Q5 := Lib.hid (Q4.out.next b5); have B5 := Lib.hid (Below.chain B4.out b5); clear l5 b5 B4 L4 R4 Q4)
      | (refine wpList_value (by rfl) (run_load_ch (.tmp 3) rfl U p m c s rfl L5.out) ?_)
      | (refine wpList_value (by rfl) (run_load_ch (.tmp 5) rfl w4.heap.size q m d s rfl M5.out) ?_))
    refine (same_any p q m c d v s w5 HM.out R5.out Q5.out).mono ?_
    rintro e w6 ⟨rfl, b6⟩
    have B6 := Lib.hid (Below.chain B5.out b6)
    clear b6 B5 L5 R5 Q5 M5
    go_wp2
    go_ret
    exact ⟨rfl, B6.out⟩
end Go.Proofs.YtjalhlofpoknoaaDoor
