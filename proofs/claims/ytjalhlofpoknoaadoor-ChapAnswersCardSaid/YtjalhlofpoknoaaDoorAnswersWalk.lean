/- The law of the answer, and of whether some bytes are it. -/
import Derived.Test.YtjalhlofpoknoaaDoorCg
namespace Go.Proofs.YtjalhlofpoknoaaDoor
open Go.RowKit

set_option maxRecDepth 100000 in
set_option maxHeartbeats 2000000 in
theorem answers_walk (i : Int) (s : List UInt8) (p : Option Addr) (n c : Nat) (v : List UInt8) (q : Option Addr) (m d : Nat) (ans : List UInt8) (w : World) (hn : v.length = n) (h : RowAt w p c v) (hm : ans.length = m) (k : RowAt w q d ans) (ht : S3.Tabs w) (hg : S3.Trig w) :
    Calls Tryd.prog 5 #[.int .i64 i, .string ⟨s.toArray⟩, .slice p n c, .slice q m d] w fun e w' => e = .returned (.bool true) ∧ Below w.heap.size w w' := by
  have HT := Lib.hid ht
  have HG := Lib.hid hg
  have H := Lib.hid h
  have K := Lib.hid k
  have HN := Lib.hid hn
  have HM := Lib.hid hm
  clear ht hg h hn k hm
  by_cases h1 : 1000 < s.length
  · have i1 : (1000 : Int) < (s.length : Int) := by omega
    go_enter Tryd.func5, Tryd.ntmps5
    go_wp2_with fail
    refine (awake_any _ HT.out HG.out).mono ?_
    rintro e w1 ⟨rfl, b1⟩
    have B1 := Lib.hid b1
    clear b1
    go_wp2_with fail
    refine (awake_any _ (HT.out.next B1.out) (HG.out.next B1.out)).mono ?_
    rintro e w2 ⟨rfl, b2⟩
    have B2 := Lib.hid (Below.chain B1.out b2)
    clear b2 B1
    go_wp2
    go_ret
    exact ⟨rfl, B2.out⟩
  have i1 : (s.length : Int) ≤ 1000 := by omega
  by_cases h2 : 1000 < n
  · have i2 : (1000 : Int) < (n : Int) := by omega
    go_enter Tryd.func5, Tryd.ntmps5
    go_wp2_with fail
    refine (awake_any _ HT.out HG.out).mono ?_
    rintro e w1 ⟨rfl, b1⟩
    have B1 := Lib.hid b1
    clear b1
    go_wp2_with fail
    refine (awake_any _ (HT.out.next B1.out) (HG.out.next B1.out)).mono ?_
    rintro e w2 ⟨rfl, b2⟩
    have B2 := Lib.hid (Below.chain B1.out b2)
    clear b2 B1
    go_wp2
    go_ret
    exact ⟨rfl, B2.out⟩
  have i2 : (n : Int) ≤ 1000 := by omega
  by_cases h3 : 1000 < m
  · have i3 : (1000 : Int) < (m : Int) := by omega
    go_enter Tryd.func5, Tryd.ntmps5
    go_wp2_with fail
    refine (awake_any _ HT.out HG.out).mono ?_
    rintro e w1 ⟨rfl, b1⟩
    have B1 := Lib.hid b1
    clear b1
    go_wp2_with fail
    refine (awake_any _ (HT.out.next B1.out) (HG.out.next B1.out)).mono ?_
    rintro e w2 ⟨rfl, b2⟩
    have B2 := Lib.hid (Below.chain B1.out b2)
    clear b2 B1
    go_wp2
    go_ret
    exact ⟨rfl, B2.out⟩
  have i3 : (m : Int) ≤ 1000 := by omega
  have HL := Lib.hid (Ch.answer_length i s v)
  obtain ⟨D, hD⟩ : ∃ D, Ch.answer i s v = D := ⟨_, rfl⟩
  obtain ⟨Z, hZ⟩ : ∃ Z, decide (ans = Ch.answer i s v) = Z := ⟨_, rfl⟩
  have A1 := Lib.hid (fun W (b : Below w.heap.size w W) => answer_any i s v p n c W HN.out (by omega) (by omega) (H.out.next b) (HT.out.next b))
  have A2 := Lib.hid (fun W (b : Below w.heap.size w W) => refAnswer_any i s v p n c W HN.out (by omega) (by omega) (H.out.next b) (HG.out.next b))
  have A3 := Lib.hid (fun W (b : Below w.heap.size w W) => right_any i s v ans p q n c m d W HN.out (by omega) (by omega) HM.out (by omega) (H.out.next b) (K.out.next b) (HT.out.next b))
  have A4 := Lib.hid (fun W (b : Below w.heap.size w W) => refRight_any i s v ans p q n c m d W HN.out (by omega) (by omega) HM.out (H.out.next b) (K.out.next b) (HG.out.next b))
  rw [hZ] at A3 A4
  rw [hD] at A1 A2 HL
  clear hZ hD h1 h2 h3
  go_enter Tryd.func5, Tryd.ntmps5
  go_wp2_with fail
  refine (awake_any _ HT.out HG.out).mono ?_
  rintro e w1 ⟨rfl, b1⟩
  have B1 := Lib.hid b1
  clear b1
  go_wp2_with fail
  refine (A1.out w1 B1.out).mono ?_
  rintro e w2 ⟨rfl, b2⟩
  have B2 := Lib.hid (Below.chain B1.out b2)
  clear b2 B1
  go_wp2_with fail
  refine (A2.out w2 B2.out).mono ?_
  rintro e w3 ⟨rfl, b3⟩
  have B3 := Lib.hid (Below.chain B2.out b3)
  clear b3 B2
  go_wp2_with (refine wpList_value (v := .bool true) (by rfl) ((run_eql_16 (.tmp 30) (.tmp 34) rfl D D HL.out HL.out rfl rfl w3).trans (by rw [decide_eq_true (rfl : D = D)])) ?_)
  refine (A3.out w3 B3.out).mono ?_
  rintro e w4 ⟨rfl, b4⟩
  have B4 := Lib.hid (Below.chain B3.out b4)
  clear b4 B3
  go_wp2_with fail
  refine (A4.out w4 B4.out).mono ?_
  rintro e w5 ⟨rfl, b5⟩
  have B5 := Lib.hid (Below.chain B4.out b5)
  clear b5 B4
  go_wp2
  go_ret
  exact ⟨rfl, B5.out⟩
end Go.Proofs.YtjalhlofpoknoaaDoor
