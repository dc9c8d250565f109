/- The law of Put. -/
import Derived.Test.YtnhjpbhndckfgaaTw
namespace Go.Proofs.Ytnhjpbhndckfgaa
open Go.RowKit Go.Maps S2 S12

set_option maxRecDepth 100000 in
set_option maxHeartbeats 2000000 in
theorem puts_walk (t : Tm.T) (w : World) (hi : Tm.In t) (hm : -9223372036854775808 ≤ t.mru ∧ t.mru ≤ 9223372036854775807) (hg : -9223372036854775808 ≤ t.login ∧ t.login ≤ 9223372036854775807) :
    Calls Try.prog 5 #[.agg (tcells t).toArray] w fun e w' => e = .returned (.bool true) ∧ Below w.heap.size w w' := by
  have T0 : Hid (TmAt (w.alloc (.cells (tcells t).toArray 32)) w.heap.size t) := heap_alloc_new w _
  have B0 := Lib.hid (below_one w (.cells (tcells t).toArray 32))
  have HI := Lib.hid hi
  have HM := Lib.hid hm
  have HG := Lib.hid hg
  clear hi hm hg
  simp only [tcells] at T0 B0 ⊢
  by_cases hy : Tm.may t = true
  · have HY := Lib.hid hy
    have HP := Lib.hid (Tm.put_yes HI.out hy)
    clear hy
    go_enter Try.func5, Try.ntmps5
    go_wp2_with fail
    refine (awake_any _).mono ?_
    rintro e w1 ⟨rfl, b1⟩
    have B1 := Lib.hid (Below.chain B0.out b1)
    have T1 := Lib.hid (T0.out.next b1)
    clear b1 B0 T0
    go_wp2_with (refine wpList_load_row rfl 32 (.tmp 1) rfl w.heap.size rfl 32 (tcells t).toArray (0, 0) _ T1.out Try.underlying32 rfl infoTm ?_)
    have C1 := Lib.hid (put_any t w1 HI.out HM.out.1 HM.out.2 HG.out.1 HG.out.2)
    rw [HP.out] at C1
    refine C1.out.mono ?_
    rintro e w2 ⟨v, rfl, o2, b2⟩
    have B2 := Lib.hid (Below.chain B1.out b2)
    have T2 := Lib.hid (T1.out.next b2)
    obtain ⟨ap, cp, rfl, hp⟩ := o2.at
    have P2 := Lib.hid hp
    clear b2 B1 T1 o2 hp C1
    obtain ⟨nl, hnl⟩ : ∃ nl, (Tm.opts t).length = nl := ⟨_, rfl⟩
    have HNL := Lib.hid hnl
    have hnl7 : nl ≤ 7 := by have := Tm.opts_le t; omega
    simp only [hnl]
    clear hnl
    go_wp2_with (refine wpList_load_row rfl 32 (.tmp 1) rfl w.heap.size rfl 32 (tcells t).toArray (0, 0) _ T2.out Try.underlying32 rfl infoTm ?_)
    refine (may_any t w2).mono ?_
    rintro e w3 ⟨rfl, b3⟩
    rw [HY.out]
    have B3 := Lib.hid (Below.chain B2.out b3)
    have T3 := Lib.hid (T2.out.next b3)
    have P3 := Lib.hid (P2.out.next b3)
    clear b3 B2 T2 P2
    have w5' : ∃ x, x = w3 := ⟨_, rfl⟩
    obtain ⟨w5, hw5⟩ := w5'
    rw [← hw5] at B3 T3 P3 ⊢
    have T5 := T3
    clear hw5 T3
    have d0 : w5.cell? ⟨w.heap.size, 0, none⟩ = some (.bool t.hasMru) := T5.out.cell 0
    have d1 : w5.cell? ⟨w.heap.size, 1, none⟩ = some (.int .i64 t.mru) := T5.out.cell 1
    have d2 : w5.cell? ⟨w.heap.size, 2, none⟩ = some (.bool t.hasAccm) := T5.out.cell 2
    have d3 : w5.cell? ⟨w.heap.size, 3, none⟩ = some (.int .u32 (t.accm : Int)) := T5.out.cell 3
    have d4 : w5.cell? ⟨w.heap.size, 4, none⟩ = some (.int .i64 t.login) := T5.out.cell 4
    have d5 : w5.cell? ⟨w.heap.size, 5, none⟩ = some (.bool t.quality) := T5.out.cell 5
    have d6 : w5.cell? ⟨w.heap.size, 6, none⟩ = some (.bool t.hasMagic) := T5.out.cell 6
    have d7 : w5.cell? ⟨w.heap.size, 7, none⟩ = some (.int .u32 (t.magic : Int)) := T5.out.cell 7
    have d8 : w5.cell? ⟨w.heap.size, 8, none⟩ = some (.bool t.pfc) := T5.out.cell 8
    have d9 : w5.cell? ⟨w.heap.size, 9, none⟩ = some (.bool t.acfc) := T5.out.cell 9
    have C6 := Lib.hid (refTermPut_any t w5 HI.out HY.out)
    simp only [tcells] at C6
    clear T5
    go_wp2_with fail
    refine C6.out.mono ?_
    rintro e w6 ⟨v6, rfl, o6, b6⟩
    obtain ⟨a6, c6, rfl, h6⟩ := o6.at
    have B6 := Lib.hid (Below.chain B3.out b6)
    have P6 := Lib.hid (P3.out.next b6)
    have S6 := Lib.hid (refSame_any ap a6 nl nl cp c6 (Tm.opts t) (Tm.opts t) w6 HNL.out HNL.out (by omega) P6.out h6)
    rw [decide_eq_true rfl] at S6
    rw [HNL.out]
    clear o6 h6 b6 B3 P3 P6 C6 d0 d1 d2 d3 d4 d5 d6 d7 d8 d9
    go_wp2_with fail
    refine S6.out.mono ?_
    rintro e w7 ⟨rfl, b7⟩
    have B7 := Lib.hid (Below.chain B6.out b7)
    clear b7 B6 S6
    go_wp2
    go_ret
    exact ⟨rfl, B7.out⟩
  · rw [Bool.not_eq_true] at hy
    have HY := Lib.hid hy
    have HP := Lib.hid (Tm.put_no HI.out hy)
    clear hy
    go_enter Try.func5, Try.ntmps5
    go_wp2_with fail
    refine (awake_any _).mono ?_
    rintro e w1 ⟨rfl, b1⟩
    have B1 := Lib.hid (Below.chain B0.out b1)
    have T1 := Lib.hid (T0.out.next b1)
    clear b1 B0 T0
    go_wp2_with (refine wpList_load_row rfl 32 (.tmp 1) rfl w.heap.size rfl 32 (tcells t).toArray (0, 0) _ T1.out Try.underlying32 rfl infoTm ?_)
    have C1 := Lib.hid (put_any t w1 HI.out HM.out.1 HM.out.2 HG.out.1 HG.out.2)
    rw [HP.out] at C1
    refine C1.out.mono ?_
    rintro e w2 ⟨v, rfl, o2, b2⟩
    have B2 := Lib.hid (Below.chain B1.out b2)
    have T2 := Lib.hid (T1.out.next b2)
    obtain ⟨ap, cp, rfl, hp⟩ := o2.at
    have P2 := Lib.hid hp
    clear b2 B1 T1 o2 hp C1
    simp only [List.length_nil]
    go_wp2_with (refine wpList_load_row rfl 32 (.tmp 1) rfl w.heap.size rfl 32 (tcells t).toArray (0, 0) _ T2.out Try.underlying32 rfl infoTm ?_)
    refine (may_any t w2).mono ?_
    rintro e w3 ⟨rfl, b3⟩
    rw [HY.out]
    have B3 := Lib.hid (Below.chain B2.out b3)
    have T3 := Lib.hid (T2.out.next b3)
    have P3 := Lib.hid (P2.out.next b3)
    clear b3 B2 T2 P2
    go_wp2
    go_ret
    exact ⟨rfl, B3.out⟩
end Go.Proofs.Ytnhjpbhndckfgaa
