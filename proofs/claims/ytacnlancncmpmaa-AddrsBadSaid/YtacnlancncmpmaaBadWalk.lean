/- The law of Bad. -/
import Derived.Test.YtacnlancncmpmaaReadsWalk
namespace Go.Proofs.Ytacnlancncmpmaa
open Go.RowKit Go.Maps S2 S12

set_option maxRecDepth 100000 in
set_option maxHeartbeats 2000000 in
theorem bad_walk (P : Int) (a : Option Addr) (n cap : Nat) (L : List Ot.O) (w : World) (hL : L.length = n) (hc : n ≤ cap) (hw : ∀ x ∈ L, (Lit.int .i64 x.ty).wf = true) (h : OptsAt w a L) :
    Calls Try.prog 6 #[.int .i64 P, .slice a n cap] w fun e w' => e = .returned (.bool true) ∧ Below w.heap.size w w' := by
  have H := Lib.hid h
  have HL := Lib.hid hL
  have HW := Lib.hid hw
  clear h hL hw
  by_cases hf : Ot.few L = true
  · obtain ⟨hn, hd⟩ := few_small hf
    have hn2 : n ≤ 50 := by have := HL.out; omega
    have HF := Lib.hid hf
    have HD := Lib.hid hd
    clear hf hn hd
    go_enter Try.func6, Try.ntmps6
    go_wp2_with fail
    refine (awake_any _).mono ?_
    rintro e w1 ⟨rfl, b1⟩
    have B1 := Lib.hid b1
    clear b1
    go_wp2_with fail
    refine (few_any a n cap L w1 HL.out (H.out.next B1.out)).mono ?_
    rintro e w2 ⟨rfl, h2⟩; rw [h2]; clear h2
    rw [HF.out]
    have C1 := Lib.hid (bad_any P a n cap L w1 HL.out (by omega) HD.out HW.out (H.out.next B1.out))
    have C2 := Lib.hid (fun W (hB : Below w.heap.size w W) => refBad_any P a n cap L W HL.out (by omega) hc (H.out.next hB))
    have hx1 : (Ad.away P L).length ≤ 50 := by have := Ad.away_le P L n; rw [Ad.away_all P (by rw [HL.out]; exact Nat.le_refl _)] at this; omega
    have hx2 : (Ad.changed P L).length ≤ 50 := by have := Ad.changed_le P L n; rw [Ad.changed_all P (by rw [HL.out]; exact Nat.le_refl _)] at this; omega
    generalize Ad.away P L = A at *
    generalize Ad.changed P L = C at *
    obtain ⟨na, hna⟩ : ∃ na, A.length = na := ⟨_, rfl⟩
    obtain ⟨nc, hnc⟩ : ∃ nc, C.length = nc := ⟨_, rfl⟩
    have HNA := Lib.hid hna
    have HNC := Lib.hid hnc
    rw [hna] at hx1
    rw [hnc] at hx2
    clear hna hnc H HL HD HW HF
    go_wp2_with fail
    refine C1.out.mono ?_
    rintro e w3 ⟨u3, v3, rfl, ou, ov, b3⟩
    obtain ⟨a3, c3, e3, h3⟩ := ou.at
    obtain ⟨a4, c4, e4, h4⟩ := ov.at
    rw [HNA.out] at e3
    rw [HNC.out] at e4
    subst e3
    subst e4
    have B3 := Lib.hid (Below.chain B1.out b3)
    have X3 := Lib.hid h3
    have Y3 := Lib.hid h4
    clear ou ov h3 h4 b3 B1 C1
    go_wp2_with fail
    refine (C2.out w3 B3.out).mono ?_
    rintro e w5 ⟨u5, v5, rfl, ou, ov, b5⟩
    obtain ⟨a5, c5, e5, h5⟩ := ou.at b5
    obtain ⟨a6, c6, e6, h6⟩ := ov.at b5
    rw [HNA.out] at e5
    rw [HNC.out] at e6
    subst e5
    subst e6
    have B5 := Lib.hid (Below.chain B3.out b5)
    have X5 := Lib.hid (X3.out.next b5)
    have Y5 := Lib.hid (Y3.out.next b5)
    have Z5 := Lib.hid h6
    have S5 := Lib.hid (refSame_any a3 a5 na na c3 c5 A A w5 HNA.out HNA.out (by omega) X5.out h5)
    rw [decide_eq_true rfl] at S5
    clear ou ov h5 h6 b5 B3 X3 Y3 X5 C2
    go_wp2_with fail
    refine S5.out.mono ?_
    rintro e w7 ⟨rfl, b7⟩
    have B7 := Lib.hid (Below.chain B5.out b7)
    have S7 := Lib.hid (refSame_any a4 a6 nc nc c4 c6 C C w7 HNC.out HNC.out (by omega) (Y5.out.next b7) (Z5.out.next b7))
    rw [decide_eq_true rfl] at S7
    clear b7 B5 Y5 Z5 S5
    go_wp2_with fail
    refine S7.out.mono ?_
    rintro e w8 ⟨rfl, b8⟩
    have B8 := Lib.hid (Below.chain B7.out b8)
    clear b8 B7 S7
    go_wp2
    go_ret
    exact ⟨rfl, B8.out⟩
  · rw [Bool.not_eq_true] at hf
    have HF := Lib.hid hf
    clear hf
    go_enter Try.func6, Try.ntmps6
    go_wp2_with fail
    refine (awake_any _).mono ?_
    rintro e w1 ⟨rfl, b1⟩
    have B1 := Lib.hid b1
    clear b1
    go_wp2_with fail
    refine (few_any a n cap L w1 HL.out (H.out.next B1.out)).mono ?_
    rintro e w2 ⟨rfl, h2⟩; rw [h2]; clear h2
    rw [HF.out]
    go_wp2_with fail
    refine (awake_any _).mono ?_
    rintro e w3 ⟨rfl, b3⟩
    have B3 := Lib.hid (Below.chain B1.out b3)
    clear b3 B1
    go_wp2
    go_ret
    exact ⟨rfl, B3.out⟩
end Go.Proofs.Ytacnlancncmpmaa
