/- The law of Put. -/
import Derived.Test.YtacnlancncmpmaaReadsWalk
namespace Go.Proofs.Ytacnlancncmpmaa
open Go.RowKit Go.Maps S2 S12

set_option maxRecDepth 100000 in
set_option maxHeartbeats 2000000 in
theorem puts_walk (P : Int) (t : Ad.T) (w : World) :
    Calls Try.prog 5 #[.int .i64 P, .agg (acells t).toArray] w fun e w' => e = .returned (.bool true) ∧ Below w.heap.size w w' := by
  have T0 : Hid (TmAt (w.alloc (.cells (acells t).toArray 35)) w.heap.size t) := heap_alloc_new w _
  have B0 := Lib.hid (below_one w (.cells (acells t).toArray 35))
  by_cases hy : Ad.may P t = true
  · have HY := Lib.hid hy
    have HP := Lib.hid (Ad.put_yes P hy)
    clear hy
    go_enter Try.func5, Try.ntmps5
    go_wp2_with fail
    refine (awake_any _).mono ?_
    rintro e w1 ⟨rfl, b1⟩
    have B1 := Lib.hid (Below.chain B0.out b1)
    have T1 := Lib.hid (T0.out.next b1)
    clear b1 B0 T0
    go_wp2_with (refine wpList_load_row rfl 35 (.tmp 3) rfl w.heap.size rfl 35 (acells t).toArray (0, 0) _ T1.out Try.underlying35 rfl infoAd ?_)
    have C1 := Lib.hid (put_any P t w1)
    rw [HP.out] at C1
    refine C1.out.mono ?_
    rintro e w2 ⟨v, rfl, o2, b2⟩
    have B2 := Lib.hid (Below.chain B1.out b2)
    have T2 := Lib.hid (T1.out.next b2)
    obtain ⟨ap, cp, rfl, hp⟩ := o2.at
    have P2 := Lib.hid hp
    clear b2 B1 T1 o2 hp C1
    obtain ⟨nl, hnl⟩ : ∃ nl, (Ad.opts t).length = nl := ⟨_, rfl⟩
    have HNL := Lib.hid hnl
    have hnl7 : nl ≤ 7 := by have := Ad.opts_le t; omega
    simp only [hnl]
    clear hnl
    go_wp2_with (refine wpList_load_row rfl 35 (.tmp 3) rfl w.heap.size rfl 35 (acells t).toArray (0, 0) _ T2.out Try.underlying35 rfl infoAd ?_)
    refine (may_any P t w2).mono ?_
    rintro e w3 ⟨rfl, b3⟩
    rw [HY.out]
    have B3 := Lib.hid (Below.chain B2.out b3)
    have T3 := Lib.hid (T2.out.next b3)
    have P3 := Lib.hid (P2.out.next b3)
    clear b3 B2 T2 P2
    have w5' : ∃ x, x = w3 := ⟨_, rfl⟩
    obtain ⟨w5, hw5⟩ := w5'
    rw [← hw5] at B3 T3 P3 ⊢
    have T5 := T3
    clear hw5 T3
    have C6 := Lib.hid (refPut_any P t w5)
    go_wp2_with (refine wpList_value (by rfl) (run_load_arr (.tmp 3) rfl w.heap.size 0 rfl (acells t) _ Try.underlying35 rfl infoAd (range_block T5.out)) ?_)
    clear T5
    refine C6.out.mono ?_
    rintro e w6 ⟨v6, rfl, o6, b6⟩
    obtain ⟨a6, c6, rfl, h6⟩ := o6.at
    have B6 := Lib.hid (Below.chain B3.out b6)
    have P6 := Lib.hid (P3.out.next b6)
    have S6 := Lib.hid (refSame_any ap a6 nl nl cp c6 (Ad.opts t) (Ad.opts t) w6 HNL.out HNL.out (by omega) P6.out h6)
    rw [decide_eq_true rfl] at S6
    rw [HNL.out]
    clear o6 h6 b6 B3 P3 P6 C6
    go_wp2_with fail
    refine S6.out.mono ?_
    rintro e w7 ⟨rfl, b7⟩
    have B7 := Lib.hid (Below.chain B6.out b7)
    clear b7 B6 S6
    go_wp2
    go_ret
    exact ⟨rfl, B7.out⟩
  · rw [Bool.not_eq_true] at hy
    have HY := Lib.hid hy
    have HP := Lib.hid (Ad.put_no P hy)
    clear hy
    go_enter Try.func5, Try.ntmps5
    go_wp2_with fail
    refine (awake_any _).mono ?_
    rintro e w1 ⟨rfl, b1⟩
    have B1 := Lib.hid (Below.chain B0.out b1)
    have T1 := Lib.hid (T0.out.next b1)
    clear b1 B0 T0
    go_wp2_with (refine wpList_load_row rfl 35 (.tmp 3) rfl w.heap.size rfl 35 (acells t).toArray (0, 0) _ T1.out Try.underlying35 rfl infoAd ?_)
    have C1 := Lib.hid (put_any P t w1)
    rw [HP.out] at C1
    refine C1.out.mono ?_
    rintro e w2 ⟨v, rfl, o2, b2⟩
    have B2 := Lib.hid (Below.chain B1.out b2)
    have T2 := Lib.hid (T1.out.next b2)
    obtain ⟨ap, cp, rfl, hp⟩ := o2.at
    have P2 := Lib.hid hp
    clear b2 B1 T1 o2 hp C1
    simp only [List.length_nil]
    go_wp2_with (refine wpList_load_row rfl 35 (.tmp 3) rfl w.heap.size rfl 35 (acells t).toArray (0, 0) _ T2.out Try.underlying35 rfl infoAd ?_)
    refine (may_any P t w2).mono ?_
    rintro e w3 ⟨rfl, b3⟩
    rw [HY.out]
    have B3 := Lib.hid (Below.chain B2.out b3)
    have T3 := Lib.hid (T2.out.next b3)
    have P3 := Lib.hid (P2.out.next b3)
    clear b3 B2 T2 P2
    go_wp2
    go_ret
    exact ⟨rfl, B3.out⟩
end Go.Proofs.Ytacnlancncmpmaa
