/- Contracts of options and usual. -/
import Derived.Test.YtnhjpbhndckfgaaTj
import Derived.Test.YtnhjpbhndckfgaaAccm
import Derived.Test.YtnhjpbhndckfgaaTh
namespace Go.Proofs.Ytnhjpbhndckfgaa
open Go.RowKit S2 S12 S5

set_option maxRecDepth 100000 in
set_option maxHeartbeats 1000000 in
theorem options_any (t : Tm.T) (w : World) (hi : Tm.In t) (hm1 : -9223372036854775808 ≤ t.mru) (hm2 : t.mru ≤ 9223372036854775807) (hg1 : -9223372036854775808 ≤ t.login) (hg2 : t.login ≤ 9223372036854775807) :
    Calls Try.prog 31 #[.agg (tcells t).toArray] w fun e w' => ∃ v, e = .returned v ∧ Opts w' w.heap.size v (Tm.opts t) ∧ Below w.heap.size w w' := by
  have T0 := Lib.hid ((show TmAt (w.alloc (.cells (tcells t).toArray 32)) w.heap.size t from heap_alloc_new w _).next (below_one _ (.cells #[.slice none 0 0] 28)))
  have V0 : Hid (VarAt ((w.alloc (.cells (tcells t).toArray 32)).alloc (.cells #[.slice none 0 0] 28)) (w.heap.size + 1) (w.heap.size + 2) []) := by
    refine ⟨.slice none 0 0, ?_, lopts_none _ _ _ _⟩
    have := heap_alloc_new (w.alloc (.cells (tcells t).toArray 32)) (.cells #[.slice none 0 0] 28)
    rw [show (w.alloc (.cells (tcells t).toArray 32)).heap.size = w.heap.size + 1 by simp] at this
    exact this
  have B0 := Lib.hid (Below.chain (below_one w (.cells (tcells t).toArray 32)) (below_one (w.alloc (.cells (tcells t).toArray 32)) (.cells #[.slice none 0 0] 28)))
  have s0 : w.heap.size + 2 ≤ ((w.alloc (.cells (tcells t).toArray 32)).alloc (.cells #[.slice none 0 0] 28)).heap.size := by simp
  obtain ⟨u, hu⟩ : ∃ u : Nat, IntKind.u64.wrap t.mru = (u : Int) := Int.eq_ofNat_of_zero_le (by rw [IntKind.wrap_u64]; omega)
  have hD : Tm.bytesOf u 2 = Tm.mruD t.mru := by
    rw [← Tm.bytesOf_mru t.mru hm1 hm2]
    congr 1
    rw [IntKind.wrap_u64] at hu
    omega
  have HD1 := Lib.hid hD
  have HD2 := Lib.hid (Tm.bytesOf_magic hi.magic)
  have hwm : IntKind.u64.wrap (t.magic : Int) = (t.magic : Int) := by have := hi.magic; rw [IntKind.wrap_u64]; omega
  have HI := Lib.hid hi
  have HG := Lib.hid (And.intro hg1 hg2)
  obtain ⟨n1, hn1⟩ : ∃ n1, (Tm.mruD t.mru).length = n1 := ⟨_, rfl⟩
  obtain ⟨n3, hn3⟩ : ∃ n3, (Tm.loginD t.login).length = n3 := ⟨_, rfl⟩
  have HN1 := Lib.hid hn1
  have HN3 := Lib.hid hn3
  have HDEC : Hid (decide (0 < n3) = decide (0 < (Tm.loginD t.login).length)) := by show _ = _; rw [hn3]
  clear hD hi hm1 hm2 hg1 hg2 hn1 hn3
  simp only [tcells] at T0 V0 B0 s0 ⊢
  go_enter Try.func31, Try.ntmps31
  go_wp2_with fail
  refine (oput_any u 2 _ (by omega) (by omega)).mono ?_
  rintro e w1 ⟨v, bb, rfl, o, b⟩
  rw [HD1.out, HN1.out] at o
  obtain ⟨p1, c1, rfl⟩ := own_slice o
  have R1_1 := Lib.hid (ownsRow_lower o s0)
  have T1 := Lib.hid (T0.out.next b)
  have V1 := Lib.hid (V0.out.next b)
  have B1 := Lib.hid (Below.chain B0.out b)
  have s1 := Nat.le_trans s0 b.size
  clear o b T0 V0 B0 s0
  have k7 : w1.cell? ⟨w.heap.size, 7, none⟩ = some (.int .u32 (t.magic : Int)) := T1.out.cell 7
  go_wp2_with fail
  refine (oput_any t.magic 4 _ (by omega) (by omega)).mono ?_
  rintro e w2 ⟨v, bb, rfl, o, b⟩
  rw [HD2.out, Oc.put_length] at o
  obtain ⟨p5, c5, rfl⟩ := own_slice o
  have R5_2 := Lib.hid (ownsRow_lower o s1)
  have T2 := Lib.hid (T1.out.next b)
  have V2 := Lib.hid (V1.out.next b)
  have B2 := Lib.hid (Below.chain B1.out b)
  have s2 := Nat.le_trans s1 b.size
  have R1_2 := Lib.hid (ownsRow_next R1_1.out b)
  clear o b T1 V1 B1 s1 R1_1 k7
  go_wp2_with fail
  refine (oput_any 49189 2 _ (by omega) (by omega)).mono ?_
  rintro e w3 ⟨v, bb, rfl, o, b⟩
  rw [Tm.bytesOf_report, show ([192, 37] : List UInt8).length = 2 from rfl] at o
  obtain ⟨p4, c4, rfl⟩ := own_slice o
  have R4_3 := Lib.hid (ownsRow_lower o s2)
  have T3 := Lib.hid (T2.out.next b)
  have V3 := Lib.hid (V2.out.next b)
  have B3 := Lib.hid (Below.chain B2.out b)
  have s3 := Nat.le_trans s2 b.size
  have R1_3 := Lib.hid (ownsRow_next R1_2.out b)
  have R5_3 := Lib.hid (ownsRow_next R5_2.out b)
  clear o b T2 V2 B2 s2 R1_2 R5_2
  have k4 : w3.cell? ⟨w.heap.size, 4, none⟩ = some (.int .i64 t.login) := T3.out.cell 4
  go_wp2_with fail
  refine (loginData_any t.login _ HG.out.1 HG.out.2).mono ?_
  rintro e w4 ⟨v, rfl, o, b⟩
  rw [HN3.out] at o
  obtain ⟨p3, c3, rfl⟩ := own_slice o
  have R3_4 := Lib.hid (ownsRow_lower o s3)
  have T4 := Lib.hid (T3.out.next b)
  have V4 := Lib.hid (V3.out.next b)
  have B4 := Lib.hid (Below.chain B3.out b)
  have s4 := Nat.le_trans s3 b.size
  have R1_4 := Lib.hid (ownsRow_next R1_3.out b)
  have R5_4 := Lib.hid (ownsRow_next R5_3.out b)
  have R4_4 := Lib.hid (ownsRow_next R4_3.out b)
  clear o b T3 V3 B3 s3 R1_3 R5_3 R4_3 k4
  have k0 : w4.cell? ⟨w.heap.size, 0, none⟩ = some (.bool t.hasMru) := T4.out.cell 0
  go_wp2_with fail
  refine (tell_any (t.hasMru) 1 p1 n1 c1 (w.heap.size + 1) (w.heap.size + 2) (Tm.mruD t.mru) _ _ HN1.out V4.out (by omega) (by simp only [List.length_nil]; (try have q1 := Tm.pick_le t.hasMru ⟨1, Tm.mruD t.mru⟩); (try have q2 := Tm.pick_le t.hasAccm ⟨2, Oc.put t.accm 4 true⟩); (try have q3 := Tm.pick_le (decide (0 < (Tm.loginD t.login).length)) ⟨3, Tm.loginD t.login⟩); (try have q4 := Tm.pick_le t.quality ⟨4, [192, 37]⟩); (try have q5 := Tm.pick_le t.hasMagic ⟨5, Oc.put t.magic 4 true⟩); (try have q7 := Tm.pick_le t.pfc ⟨7, []⟩); omega) R1_4.out s4).mono ?_
  rintro e w5 ⟨rfl, r⟩
  have T5 : Hid (TmAt w5 w.heap.size t) := (r.below.block w.heap.size (by omega)).trans T4.out
  have V5 := Lib.hid r.var
  have B5 := Lib.hid (Below.trans B4.out (r.below.mono (by omega)))
  have s5 := Nat.le_trans s4 r.below.size
  have R1_5 := Lib.hid (r.rows _ _ _ R1_4.out)
  have R5_5 := Lib.hid (r.rows _ _ _ R5_4.out)
  have R4_5 := Lib.hid (r.rows _ _ _ R4_4.out)
  have R3_5 := Lib.hid (r.rows _ _ _ R3_4.out)
  clear r T4 V4 B4 s4 R1_4 R5_4 R4_4 R3_4 k0
  go_wp2_with fail
  have TD : TmAt w5.drew w.heap.size t := T5.out
  have VD := Lib.hid (V5.out.next (Below.refl _ w5).drew)
  have BD := Lib.hid B5.out.drew
  have sD : w.heap.size + 2 ≤ w5.drew.heap.size := s5
  have R1_D := Lib.hid (ownsRow_next R1_5.out (Below.refl _ w5).drew)
  have R5_D := Lib.hid (ownsRow_next R5_5.out (Below.refl _ w5).drew)
  have R4_D := Lib.hid (ownsRow_next R4_5.out (Below.refl _ w5).drew)
  have R3_D := Lib.hid (ownsRow_next R3_5.out (Below.refl _ w5).drew)
  refine held_start (S := fun W => TmAt W w.heap.size t) 7 (by kernel_rfl) rfl ?_
  generalize w5.drew = wD at *
  clear T5 V5 B5 s5 R1_5 R5_5 R4_5 R3_5
  refine held_take 0 (v := ?_) rfl (by kernel_rfl) (by kernel_rfl) (by kernel_rfl) (fun _ _ _ h => h) (by assumption) (by rfl) ?_ ?_
  rotate_left
  · (intro W hW; go_simp; try with_reducible rfl)
  simp only [Act.put, List.setIfInBounds_toArray, List.set_cons_zero, List.set_cons_succ]
  refine held_take 1 (v := ?_) rfl (by kernel_rfl) (by kernel_rfl) (by kernel_rfl) (fun _ _ _ h => h) (by assumption) (by rfl) ?_ ?_
  rotate_left
  · (intro W hW; go_simp; try with_reducible rfl)
  simp only [Act.put, List.setIfInBounds_toArray, List.set_cons_zero, List.set_cons_succ]
  refine held_take 2 (v := ?_) rfl (by kernel_rfl) (by kernel_rfl) (by kernel_rfl) (fun _ _ _ h => h) (by assumption) (by rfl) ?_ ?_
  rotate_left
  · (intro W hW; have e0 : W.cell? ⟨w.heap.size, 2, none⟩ = some (.bool t.hasAccm) := TmAt.cell hW 2; go_simp; try with_reducible rfl)
  simp only [Act.put, List.setIfInBounds_toArray, List.set_cons_zero, List.set_cons_succ]
  refine held_take 3 (v := ?_) rfl (by kernel_rfl) (by kernel_rfl) (by kernel_rfl) (fun _ _ _ h => h) (by assumption) (by rfl) ?_ ?_
  rotate_left
  · (intro W hW; go_simp; try with_reducible rfl)
  simp only [Act.put, List.setIfInBounds_toArray, List.set_cons_zero, List.set_cons_succ]
  refine held_take 4 (v := ?_) rfl (by kernel_rfl) (by kernel_rfl) (by kernel_rfl) (fun _ _ _ h => h) (by assumption) (by rfl) ?_ ?_
  rotate_left
  · (intro W hW; have e0 : W.cell? ⟨w.heap.size, 3, none⟩ = some (.int .u32 (t.accm : Int)) := TmAt.cell hW 3; go_simp; try with_reducible rfl)
  simp only [Act.put, List.setIfInBounds_toArray, List.set_cons_zero, List.set_cons_succ]
  refine held_call 5 (f := 48) (args := #[.int .u32 (t.accm : Int)]) rfl (by kernel_rfl) (by rfl) (by go_simp) ?_
  refine (S5.put_own t.accm wD HI.out.accm).mono ?_
  rintro e w6 ⟨v, rfl, o, b⟩
  obtain ⟨p2, c2, rfl⟩ := own_slice o
  have R2_6 := Lib.hid (ownsRow_lower o sD)
  have T6 := Lib.hid (TmAt.next TD b)
  have V6 := Lib.hid (VD.out.next b)
  have B6 := Lib.hid (Below.chain BD.out b)
  have s6 := Nat.le_trans sD b.size
  have R1_6 := Lib.hid (ownsRow_next R1_D.out b)
  have R5_6 := Lib.hid (ownsRow_next R5_D.out b)
  have R4_6 := Lib.hid (ownsRow_next R4_D.out b)
  have R3_6 := Lib.hid (ownsRow_next R3_D.out b)
  have hT6 : TmAt w6 w.heap.size t := T6.out
  refine ⟨_, rfl, hT6, ?_⟩
  simp only [Act.put, List.setIfInBounds_toArray, List.set_cons_zero, List.set_cons_succ]
  clear o b TD VD BD sD R1_D R5_D R4_D R3_D
  refine held_call 6 (f := 45) (args := #[.bool t.hasAccm, .int .i64 2, .slice p2 4 c2, .pointer (some ⟨w.heap.size + 1, 0, none⟩)]) rfl (by kernel_rfl) (by rfl) (by go_simp) ?_
  refine (tell_any t.hasAccm 2 p2 4 c2 (w.heap.size + 1) (w.heap.size + 2) (Oc.put t.accm 4 true) _ _ (Oc.put_length _ _ _) V6.out (by omega) (by simp only [List.length_append, List.length_nil]; (try have q1 := Tm.pick_le t.hasMru ⟨1, Tm.mruD t.mru⟩); (try have q2 := Tm.pick_le t.hasAccm ⟨2, Oc.put t.accm 4 true⟩); (try have q3 := Tm.pick_le (decide (0 < (Tm.loginD t.login).length)) ⟨3, Tm.loginD t.login⟩); (try have q4 := Tm.pick_le t.quality ⟨4, [192, 37]⟩); (try have q5 := Tm.pick_le t.hasMagic ⟨5, Oc.put t.magic 4 true⟩); (try have q7 := Tm.pick_le t.pfc ⟨7, []⟩); omega) R2_6.out s6).mono ?_
  rintro e w7 ⟨rfl, r⟩
  have T7 : Hid (TmAt w7 w.heap.size t) := (r.below.block w.heap.size (by omega)).trans T6.out
  have V7 := Lib.hid r.var
  have B7 := Lib.hid (Below.trans B6.out (r.below.mono (by omega)))
  have s7 := Nat.le_trans s6 r.below.size
  have R1_7 := Lib.hid (r.rows _ _ _ R1_6.out)
  have R5_7 := Lib.hid (r.rows _ _ _ R5_6.out)
  have R4_7 := Lib.hid (r.rows _ _ _ R4_6.out)
  have R3_7 := Lib.hid (r.rows _ _ _ R3_6.out)
  have R2_7 := Lib.hid (r.rows _ _ _ R2_6.out)
  have hT7 : TmAt w7 w.heap.size t := T7.out
  refine ⟨_, rfl, hT7, ?_⟩
  simp only [Act.put, List.setIfInBounds_toArray, List.set_cons_zero, List.set_cons_succ]
  refine held_done (by kernel_rfl) ?_
  clear r hT6 hT7 T6 V6 B6 s6 R1_6 R5_6 R4_6 R3_6 R2_6
  go_wp2_with fail
  refine (tell_any (decide (0 < n3)) 3 p3 n3 c3 (w.heap.size + 1) (w.heap.size + 2) (Tm.loginD t.login) _ _ HN3.out V7.out (by omega) (by simp only [List.length_append, List.length_nil]; (try have q1 := Tm.pick_le t.hasMru ⟨1, Tm.mruD t.mru⟩); (try have q2 := Tm.pick_le t.hasAccm ⟨2, Oc.put t.accm 4 true⟩); (try have q3 := Tm.pick_le (decide (0 < (Tm.loginD t.login).length)) ⟨3, Tm.loginD t.login⟩); (try have q4 := Tm.pick_le t.quality ⟨4, [192, 37]⟩); (try have q5 := Tm.pick_le t.hasMagic ⟨5, Oc.put t.magic 4 true⟩); (try have q7 := Tm.pick_le t.pfc ⟨7, []⟩); omega) R3_7.out s7).mono ?_
  rintro e w8 ⟨rfl, r⟩
  rw [HDEC.out] at r
  have T8 : Hid (TmAt w8 w.heap.size t) := (r.below.block w.heap.size (by omega)).trans T7.out
  have V8 := Lib.hid r.var
  have B8 := Lib.hid (Below.trans B7.out (r.below.mono (by omega)))
  have s8 := Nat.le_trans s7 r.below.size
  have R1_8 := Lib.hid (r.rows _ _ _ R1_7.out)
  have R5_8 := Lib.hid (r.rows _ _ _ R5_7.out)
  have R4_8 := Lib.hid (r.rows _ _ _ R4_7.out)
  have R3_8 := Lib.hid (r.rows _ _ _ R3_7.out)
  have R2_8 := Lib.hid (r.rows _ _ _ R2_7.out)
  clear r T7 V7 B7 s7 R1_7 R5_7 R4_7 R3_7 R2_7
  have k5 : w8.cell? ⟨w.heap.size, 5, none⟩ = some (.bool t.quality) := T8.out.cell 5
  go_wp2_with fail
  refine (tell_any (t.quality) 4 p4 2 c4 (w.heap.size + 1) (w.heap.size + 2) [192, 37] _ _ rfl V8.out (by omega) (by simp only [List.length_append, List.length_nil]; (try have q1 := Tm.pick_le t.hasMru ⟨1, Tm.mruD t.mru⟩); (try have q2 := Tm.pick_le t.hasAccm ⟨2, Oc.put t.accm 4 true⟩); (try have q3 := Tm.pick_le (decide (0 < (Tm.loginD t.login).length)) ⟨3, Tm.loginD t.login⟩); (try have q4 := Tm.pick_le t.quality ⟨4, [192, 37]⟩); (try have q5 := Tm.pick_le t.hasMagic ⟨5, Oc.put t.magic 4 true⟩); (try have q7 := Tm.pick_le t.pfc ⟨7, []⟩); omega) R4_8.out s8).mono ?_
  rintro e w9 ⟨rfl, r⟩
  have T9 : Hid (TmAt w9 w.heap.size t) := (r.below.block w.heap.size (by omega)).trans T8.out
  have V9 := Lib.hid r.var
  have B9 := Lib.hid (Below.trans B8.out (r.below.mono (by omega)))
  have s9 := Nat.le_trans s8 r.below.size
  have R1_9 := Lib.hid (r.rows _ _ _ R1_8.out)
  have R5_9 := Lib.hid (r.rows _ _ _ R5_8.out)
  have R4_9 := Lib.hid (r.rows _ _ _ R4_8.out)
  have R3_9 := Lib.hid (r.rows _ _ _ R3_8.out)
  have R2_9 := Lib.hid (r.rows _ _ _ R2_8.out)
  clear r T8 V8 B8 s8 R1_8 R5_8 R4_8 R3_8 R2_8 k5
  have k6 : w9.cell? ⟨w.heap.size, 6, none⟩ = some (.bool t.hasMagic) := T9.out.cell 6
  go_wp2_with fail
  refine (tell_any (t.hasMagic) 5 p5 4 c5 (w.heap.size + 1) (w.heap.size + 2) (Oc.put t.magic 4 true) _ _ (Oc.put_length _ _ _) V9.out (by omega) (by simp only [List.length_append, List.length_nil]; (try have q1 := Tm.pick_le t.hasMru ⟨1, Tm.mruD t.mru⟩); (try have q2 := Tm.pick_le t.hasAccm ⟨2, Oc.put t.accm 4 true⟩); (try have q3 := Tm.pick_le (decide (0 < (Tm.loginD t.login).length)) ⟨3, Tm.loginD t.login⟩); (try have q4 := Tm.pick_le t.quality ⟨4, [192, 37]⟩); (try have q5 := Tm.pick_le t.hasMagic ⟨5, Oc.put t.magic 4 true⟩); (try have q7 := Tm.pick_le t.pfc ⟨7, []⟩); omega) R5_9.out s9).mono ?_
  rintro e w10 ⟨rfl, r⟩
  have T10 : Hid (TmAt w10 w.heap.size t) := (r.below.block w.heap.size (by omega)).trans T9.out
  have V10 := Lib.hid r.var
  have B10 := Lib.hid (Below.trans B9.out (r.below.mono (by omega)))
  have s10 := Nat.le_trans s9 r.below.size
  have R1_10 := Lib.hid (r.rows _ _ _ R1_9.out)
  have R5_10 := Lib.hid (r.rows _ _ _ R5_9.out)
  have R4_10 := Lib.hid (r.rows _ _ _ R4_9.out)
  have R3_10 := Lib.hid (r.rows _ _ _ R3_9.out)
  have R2_10 := Lib.hid (r.rows _ _ _ R2_9.out)
  clear r T9 V9 B9 s9 R1_9 R5_9 R4_9 R3_9 R2_9 k6
  have k8 : w10.cell? ⟨w.heap.size, 8, none⟩ = some (.bool t.pfc) := T10.out.cell 8
  go_wp2_with fail
  refine (tell_any (t.pfc) 7 none 0 0 (w.heap.size + 1) (w.heap.size + 2) [] _ _ rfl V10.out (by omega) (by simp only [List.length_append, List.length_nil]; (try have q1 := Tm.pick_le t.hasMru ⟨1, Tm.mruD t.mru⟩); (try have q2 := Tm.pick_le t.hasAccm ⟨2, Oc.put t.accm 4 true⟩); (try have q3 := Tm.pick_le (decide (0 < (Tm.loginD t.login).length)) ⟨3, Tm.loginD t.login⟩); (try have q4 := Tm.pick_le t.quality ⟨4, [192, 37]⟩); (try have q5 := Tm.pick_le t.hasMagic ⟨5, Oc.put t.magic 4 true⟩); (try have q7 := Tm.pick_le t.pfc ⟨7, []⟩); omega) (World.ownsRow_nil _ _ _ _) s10).mono ?_
  rintro e w11 ⟨rfl, r⟩
  have T11 : Hid (TmAt w11 w.heap.size t) := (r.below.block w.heap.size (by omega)).trans T10.out
  have V11 := Lib.hid r.var
  have B11 := Lib.hid (Below.trans B10.out (r.below.mono (by omega)))
  have s11 := Nat.le_trans s10 r.below.size
  have R1_11 := Lib.hid (r.rows _ _ _ R1_10.out)
  have R5_11 := Lib.hid (r.rows _ _ _ R5_10.out)
  have R4_11 := Lib.hid (r.rows _ _ _ R4_10.out)
  have R3_11 := Lib.hid (r.rows _ _ _ R3_10.out)
  have R2_11 := Lib.hid (r.rows _ _ _ R2_10.out)
  clear r T10 V10 B10 s10 R1_10 R5_10 R4_10 R3_10 R2_10 k8
  have k9 : w11.cell? ⟨w.heap.size, 9, none⟩ = some (.bool t.acfc) := T11.out.cell 9
  go_wp2_with fail
  refine (tell_any (t.acfc) 8 none 0 0 (w.heap.size + 1) (w.heap.size + 2) [] _ _ rfl V11.out (by omega) (by simp only [List.length_append, List.length_nil]; (try have q1 := Tm.pick_le t.hasMru ⟨1, Tm.mruD t.mru⟩); (try have q2 := Tm.pick_le t.hasAccm ⟨2, Oc.put t.accm 4 true⟩); (try have q3 := Tm.pick_le (decide (0 < (Tm.loginD t.login).length)) ⟨3, Tm.loginD t.login⟩); (try have q4 := Tm.pick_le t.quality ⟨4, [192, 37]⟩); (try have q5 := Tm.pick_le t.hasMagic ⟨5, Oc.put t.magic 4 true⟩); (try have q7 := Tm.pick_le t.pfc ⟨7, []⟩); omega) (World.ownsRow_nil _ _ _ _) s11).mono ?_
  rintro e w12 ⟨rfl, r⟩
  have T12 : Hid (TmAt w12 w.heap.size t) := (r.below.block w.heap.size (by omega)).trans T11.out
  have V12 := Lib.hid r.var
  have B12 := Lib.hid (Below.trans B11.out (r.below.mono (by omega)))
  have s12 := Nat.le_trans s11 r.below.size
  have R1_12 := Lib.hid (r.rows _ _ _ R1_11.out)
  have R5_12 := Lib.hid (r.rows _ _ _ R5_11.out)
  have R4_12 := Lib.hid (r.rows _ _ _ R4_11.out)
  have R3_12 := Lib.hid (r.rows _ _ _ R3_11.out)
  have R2_12 := Lib.hid (r.rows _ _ _ R2_11.out)
  clear r T11 V11 B11 s11 R1_11 R5_11 R4_11 R3_11 R2_11 k9
  obtain ⟨v, hv, hl⟩ := V12.out
  obtain ⟨pl, nl, cl, e⟩ : ∃ p n c, v = .slice p n c := by obtain ⟨p, c, e⟩ := hl.slice; exact ⟨p, _, c, e⟩
  rw [List.nil_append] at hl
  have HLL := Lib.hid (hl.opts.lower (Nat.le_trans (Nat.le_refl _) (by omega : w.heap.size ≤ w.heap.size + 2)))
  subst e
  have kv := cell_of_row _ _ 0 _ _ _ hv
  clear hv hl
  go_wp2
  go_ret
  exact ⟨_, rfl, HLL.out, B12.out⟩

set_option maxRecDepth 100000 in
set_option maxHeartbeats 1000000 in
theorem usual_any (kind : Int) (w : World) (hk : Tm.known kind = true) :
    Calls Try.prog 35 #[.int .i64 kind] w fun e w' => ∃ v, e = .returned (.agg (ocells ⟨kind, Tm.usualD kind⟩ v).toArray) ∧ w'.ownsRow w.heap.size 5 1 v (Tm.usualD kind).length (Lib.byteCells (Tm.usualD kind)) ∧ Below w.heap.size w w' := by
  have b1 := below_one w (.cells #[.int .i64 0, .slice none 0 0] 24)
  have hg := heap_alloc_new w (.cells #[.int .i64 0, .slice none 0 0] 24)
  have C1 := Lib.hid (options_any Tm.full (w.alloc (.cells #[.int .i64 0, .slice none 0 0] 24)) ⟨by decide, by decide⟩ (by decide) (by decide) (by decide) (by decide))
  have HF := Lib.hid (Tm.find_full hk)
  have HL := Lib.hid (Tm.opts_le Tm.full)
  have HM := Lib.hid (show ∀ x ∈ Tm.opts Tm.full, x.data.length ≤ 300000 by decide)
  have B1 := Lib.hid b1
  have HGG := Lib.hid hg
  have hs : (w.alloc (.cells #[.int .i64 0, .slice none 0 0] 24)).heap.size = w.heap.size + 1 := by simp
  clear b1 hg hk
  generalize Tm.opts Tm.full = L at *
  generalize Tm.usualD kind = D at *
  simp only [tcells, Tm.full] at C1
  go_enter Try.func35, Try.ntmps35
  go_wp2_with fail
  refine C1.out.mono ?_
  rintro e w2 ⟨v, rfl, o2, b2⟩
  obtain ⟨a, c, rfl, hat⟩ := o2.at
  obtain ⟨n, hn⟩ : ∃ n, L.length = n := ⟨_, rfl⟩
  have C2 := Lib.hid (find_any a n c L kind w2 hn (by have := HL.out; omega) HM.out hat)
  rw [HF.out] at C2
  have B2 := Lib.hid (Below.chain B1.out b2)
  have G2 := Lib.hid (block_next HGG.out b2)
  have hs2 : w.heap.size + 1 ≤ w2.heap.size := by rw [← hs]; exact b2.size
  rw [hn]
  clear o2 b2 hat hs C1 HL HM B1 HGG HF hn
  go_wp2_with fail
  refine C2.out.mono ?_
  rintro e w3 ⟨b3, v3, rfl, o3⟩
  obtain ⟨a3, c3, rfl⟩ := own_slice o3
  have G3 := Lib.hid (block_next G2.out b3)
  have O3 := Lib.hid (ownsRow_lower o3 hs2)
  have B3 := Lib.hid (Below.chain B2.out b3)
  clear o3 b3 C2 B2 G2
  simp only [Option.getD_some] at O3 ⊢
  generalize hd : D.length = m at *
  go_wp2_with (refine wpList_store_opt rfl _ _ rfl w.heap.size ⟨kind, D⟩ a3 m c3 _ rfl rfl G3.out rfl ?_)
  refine bodyPost_ret (results_cell_row (P := Try.prog) Try.results35 _ _ w.heap.size 24 _ _ _ rfl (setRow_heap _ _ _ _ _ _ G3.out) Try.underlying24 rfl infoOpt) rfl (⟨_, rfl, ?_, below_setRow B3.out (Nat.le_refl _) _⟩ : _)
  rw [hd]
  exact ownsRow_lower (own_kept O3.out (grown_row _ _ _) (Nat.lt_succ_self _)) (by omega)
end Go.Proofs.Ytnhjpbhndckfgaa
