/- Contract of Put. -/
import Derived.Test.YtnhjpbhndckfgaaTq
namespace Go.Proofs.Ytnhjpbhndckfgaa
open Go.RowKit Go.Maps S2 S12


set_option maxRecDepth 100000 in
set_option maxHeartbeats 2000000 in
theorem put_any (t : Tm.T) (w : World) (hi : Tm.In t) (hm1 : -9223372036854775808 ≤ t.mru) (hm2 : t.mru ≤ 9223372036854775807) (hg1 : -9223372036854775808 ≤ t.login) (hg2 : t.login ≤ 9223372036854775807) :
    Calls Try.prog 19 #[.agg (tcells t).toArray] w fun e w' => TermPutRes w w' e (Tm.put t) := by
  have T1 : Hid (TmAt (w.alloc (.cells (tcells t).toArray 32)) w.heap.size t) := heap_alloc_new w _
  have B1 := Lib.hid (below_one w (.cells (tcells t).toArray 32))
  have S1 : Hid ((w.alloc (.cells (tcells t).toArray 32)).heap.size = w.heap.size + 1) := by show _ = _; simp
  have C1 := Lib.hid (options_any t (w.alloc (.cells (tcells t).toArray 32)) hi hm1 hm2 hg1 hg2)
  simp only [tcells] at T1 B1 C1 S1 ⊢
  clear hm1 hm2 hg1 hg2
  by_cases hok : Tm.okl (Tm.opts t)
  · have HA := Lib.hid (Tm.read_yes hok)
    by_cases hto : Tm.told (Tm.opts t) = t
    · rw [show Tm.put t = (Tm.opts t, true) from if_pos ⟨hok, hto⟩]
      rw [hto] at HA
      clear hok hto hi
      go_enter Try.func19, Try.ntmps19
      go_wp2_with fail
      refine C1.out.mono ?_
      rintro e w2 ⟨v, rfl, o2, b2⟩
      obtain ⟨a, c, rfl, hat⟩ := o2.at
      have C2 := Lib.hid (read_any a (Tm.opts t).length c (Tm.opts t) w2 rfl (by have := Tm.opts_le t; omega) (fun x hx => (opts_small t x hx).1) (fun x hx => (opts_small t x hx).2) hat)
      rw [HA.out] at C2
      have C3 : Hid (Calls Try.prog 15 #[.slice a (Tm.opts t).length c] w2 fun e w' => e = .returned (.tuple #[.agg (tcells t).toArray, .bool true]) ∧ Below w2.heap.size w2 w') := C2
      have T2 := Lib.hid (T1.out.next b2)
      have B2 := Lib.hid (Below.chain B1.out b2)
      have O2 := Lib.hid (o2.lower (Nat.le_trans (Nat.le_succ _) (Nat.le_of_eq S1.out.symm)))
      obtain ⟨nl, hnl⟩ : ∃ nl, (Tm.opts t).length = nl := ⟨_, rfl⟩
      rw [hnl] at C3 O2 ⊢
      clear C2 o2 b2 hat C1 T1 B1 S1 hnl
      go_wp2_with fail
      refine C3.out.mono ?_
      rintro e w3 ⟨rfl, b3⟩
      have T3 := Lib.hid (T2.out.next b3)
      have B3 := Lib.hid (Below.chain B2.out b3)
      have O3 := Lib.hid (O2.out.next b3)
      have s3 := B3.out.size
      clear b3 C3 T2 B2 O2
      have bz := below_one w3 (.cells (tcells Tm.z).toArray 32)
      have GZ := Lib.hid (heap_alloc_new w3 (.cells (tcells Tm.z).toArray 32))
      have T4 : Hid (TmAt ((w3.alloc (.cells (tcells Tm.z).toArray 32)).setRow w3.heap.size (tcells t).toArray) w.heap.size t) := by
        show _ = _
        rw [setRow_other _ _ _ _ (by have := T3.out.lt; omega)]
        exact T3.out.next bz
      have A4 : Hid (TmAt ((w3.alloc (.cells (tcells Tm.z).toArray 32)).setRow w3.heap.size (tcells t).toArray) w3.heap.size t) := setRow_heap _ _ _ _ _ _ GZ.out
      have B4 := Lib.hid (below_setRow (Below.chain B3.out bz) s3 (tcells t).toArray)
      have O4 := Lib.hid (O3.out.next (below_setRow bz (Nat.le_refl _) (tcells t).toArray))
      clear bz
      go_wp2_with (refine wpList_store_tm rfl _ _ rfl w3.heap.size t _ rfl rfl GZ.out rfl ?_; show wpList _ _ _ _ _ ((w3.alloc (.cells (tcells Tm.z).toArray 32)).setRow w3.heap.size (tcells t).toArray); generalize (w3.alloc (.cells (tcells Tm.z).toArray 32)).setRow w3.heap.size (tcells t).toArray = W4 at T4 A4 B4 O4 ⊢; have hA4 := A4.out; have hT4 := T4.out; have c0 : W4.cell? ⟨w3.heap.size, 0, none⟩ = some (.bool t.hasMru) := hA4.cell 0; have c1 : W4.cell? ⟨w3.heap.size, 1, none⟩ = some (.int .i64 t.mru) := hA4.cell 1; have c2 : W4.cell? ⟨w3.heap.size, 2, none⟩ = some (.bool t.hasAccm) := hA4.cell 2; have c3 : W4.cell? ⟨w3.heap.size, 3, none⟩ = some (.int .u32 (t.accm : Int)) := hA4.cell 3; have c4 : W4.cell? ⟨w3.heap.size, 4, none⟩ = some (.int .i64 t.login) := hA4.cell 4; have c5 : W4.cell? ⟨w3.heap.size, 5, none⟩ = some (.bool t.quality) := hA4.cell 5; have c6 : W4.cell? ⟨w3.heap.size, 6, none⟩ = some (.bool t.hasMagic) := hA4.cell 6; have c7 : W4.cell? ⟨w3.heap.size, 7, none⟩ = some (.int .u32 (t.magic : Int)) := hA4.cell 7; have c8 : W4.cell? ⟨w3.heap.size, 8, none⟩ = some (.bool t.pfc) := hA4.cell 8; have c9 : W4.cell? ⟨w3.heap.size, 9, none⟩ = some (.bool t.acfc) := hA4.cell 9; have d0 : W4.cell? ⟨w.heap.size, 0, none⟩ = some (.bool t.hasMru) := hT4.cell 0; have d1 : W4.cell? ⟨w.heap.size, 1, none⟩ = some (.int .i64 t.mru) := hT4.cell 1; have d2 : W4.cell? ⟨w.heap.size, 2, none⟩ = some (.bool t.hasAccm) := hT4.cell 2; have d3 : W4.cell? ⟨w.heap.size, 3, none⟩ = some (.int .u32 (t.accm : Int)) := hT4.cell 3; have d4 : W4.cell? ⟨w.heap.size, 4, none⟩ = some (.int .i64 t.login) := hT4.cell 4; have d5 : W4.cell? ⟨w.heap.size, 5, none⟩ = some (.bool t.quality) := hT4.cell 5; have d6 : W4.cell? ⟨w.heap.size, 6, none⟩ = some (.bool t.hasMagic) := hT4.cell 6; have d7 : W4.cell? ⟨w.heap.size, 7, none⟩ = some (.int .u32 (t.magic : Int)) := hT4.cell 7; have d8 : W4.cell? ⟨w.heap.size, 8, none⟩ = some (.bool t.pfc) := hT4.cell 8; have d9 : W4.cell? ⟨w.heap.size, 9, none⟩ = some (.bool t.acfc) := hT4.cell 9; clear hA4 hT4 A4 T4)
      go_ret2
      exact ⟨_, rfl, O4.out, B4.out⟩
    · rw [show Tm.put t = ([], false) from if_neg fun e => hto e.2]
      obtain ⟨tl, htl⟩ : ∃ tl, Tm.told (Tm.opts t) = tl := ⟨_, rfl⟩
      rw [htl] at HA hto
      have heq := fun W => eq_terms tl t W
      rw [decide_eq_false hto] at heq
      simp only [tcells] at heq
      clear hok htl hi
      go_enter Try.func19, Try.ntmps19
      go_wp2_with fail
      refine C1.out.mono ?_
      rintro e w2 ⟨v, rfl, o2, b2⟩
      obtain ⟨a, c, rfl, hat⟩ := o2.at
      have C2 := Lib.hid (read_any a (Tm.opts t).length c (Tm.opts t) w2 rfl (by have := Tm.opts_le t; omega) (fun x hx => (opts_small t x hx).1) (fun x hx => (opts_small t x hx).2) hat)
      rw [HA.out] at C2
      have C3 : Hid (Calls Try.prog 15 #[.slice a (Tm.opts t).length c] w2 fun e w' => e = .returned (.tuple #[.agg (tcells tl).toArray, .bool true]) ∧ Below w2.heap.size w2 w') := C2
      have T2 := Lib.hid (T1.out.next b2)
      have B2 := Lib.hid (Below.chain B1.out b2)
      have O2 := Lib.hid (o2.lower (Nat.le_trans (Nat.le_succ _) (Nat.le_of_eq S1.out.symm)))
      obtain ⟨nl, hnl⟩ : ∃ nl, (Tm.opts t).length = nl := ⟨_, rfl⟩
      rw [hnl] at C3 O2 ⊢
      clear C2 o2 b2 hat C1 T1 B1 S1 hnl
      go_wp2_with fail
      refine C3.out.mono ?_
      rintro e w3 ⟨rfl, b3⟩
      have T3 := Lib.hid (T2.out.next b3)
      have B3 := Lib.hid (Below.chain B2.out b3)
      have O3 := Lib.hid (O2.out.next b3)
      have s3 := B3.out.size
      clear b3 C3 T2 B2 O2
      have bz := below_one w3 (.cells (tcells Tm.z).toArray 32)
      have GZ := Lib.hid (heap_alloc_new w3 (.cells (tcells Tm.z).toArray 32))
      have T4 : Hid (TmAt ((w3.alloc (.cells (tcells Tm.z).toArray 32)).setRow w3.heap.size (tcells tl).toArray) w.heap.size t) := by
        show _ = _
        rw [setRow_other _ _ _ _ (by have := T3.out.lt; omega)]
        exact T3.out.next bz
      have A4 : Hid (TmAt ((w3.alloc (.cells (tcells Tm.z).toArray 32)).setRow w3.heap.size (tcells tl).toArray) w3.heap.size tl) := setRow_heap _ _ _ _ _ _ GZ.out
      have B4 := Lib.hid (below_setRow (Below.chain B3.out bz) s3 (tcells tl).toArray)
      have O4 := Lib.hid (O3.out.next (below_setRow bz (Nat.le_refl _) (tcells tl).toArray))
      clear bz
      go_wp2_with (refine wpList_store_tm rfl _ _ rfl w3.heap.size tl _ rfl rfl GZ.out rfl ?_; show wpList _ _ _ _ _ ((w3.alloc (.cells (tcells Tm.z).toArray 32)).setRow w3.heap.size (tcells tl).toArray); generalize (w3.alloc (.cells (tcells Tm.z).toArray 32)).setRow w3.heap.size (tcells tl).toArray = W4 at T4 A4 B4 O4 ⊢; have hA4 := A4.out; have hT4 := T4.out; have c0 : W4.cell? ⟨w3.heap.size, 0, none⟩ = some (.bool tl.hasMru) := hA4.cell 0; have c1 : W4.cell? ⟨w3.heap.size, 1, none⟩ = some (.int .i64 tl.mru) := hA4.cell 1; have c2 : W4.cell? ⟨w3.heap.size, 2, none⟩ = some (.bool tl.hasAccm) := hA4.cell 2; have c3 : W4.cell? ⟨w3.heap.size, 3, none⟩ = some (.int .u32 (tl.accm : Int)) := hA4.cell 3; have c4 : W4.cell? ⟨w3.heap.size, 4, none⟩ = some (.int .i64 tl.login) := hA4.cell 4; have c5 : W4.cell? ⟨w3.heap.size, 5, none⟩ = some (.bool tl.quality) := hA4.cell 5; have c6 : W4.cell? ⟨w3.heap.size, 6, none⟩ = some (.bool tl.hasMagic) := hA4.cell 6; have c7 : W4.cell? ⟨w3.heap.size, 7, none⟩ = some (.int .u32 (tl.magic : Int)) := hA4.cell 7; have c8 : W4.cell? ⟨w3.heap.size, 8, none⟩ = some (.bool tl.pfc) := hA4.cell 8; have c9 : W4.cell? ⟨w3.heap.size, 9, none⟩ = some (.bool tl.acfc) := hA4.cell 9; have d0 : W4.cell? ⟨w.heap.size, 0, none⟩ = some (.bool t.hasMru) := hT4.cell 0; have d1 : W4.cell? ⟨w.heap.size, 1, none⟩ = some (.int .i64 t.mru) := hT4.cell 1; have d2 : W4.cell? ⟨w.heap.size, 2, none⟩ = some (.bool t.hasAccm) := hT4.cell 2; have d3 : W4.cell? ⟨w.heap.size, 3, none⟩ = some (.int .u32 (t.accm : Int)) := hT4.cell 3; have d4 : W4.cell? ⟨w.heap.size, 4, none⟩ = some (.int .i64 t.login) := hT4.cell 4; have d5 : W4.cell? ⟨w.heap.size, 5, none⟩ = some (.bool t.quality) := hT4.cell 5; have d6 : W4.cell? ⟨w.heap.size, 6, none⟩ = some (.bool t.hasMagic) := hT4.cell 6; have d7 : W4.cell? ⟨w.heap.size, 7, none⟩ = some (.int .u32 (t.magic : Int)) := hT4.cell 7; have d8 : W4.cell? ⟨w.heap.size, 8, none⟩ = some (.bool t.pfc) := hT4.cell 8; have d9 : W4.cell? ⟨w.heap.size, 9, none⟩ = some (.bool t.acfc) := hT4.cell 9; clear hA4 hT4 A4 T4)
      go_ret2
      exact ⟨_, rfl, opts_none _ _, B4.out⟩
  · rw [show Tm.put t = ([], false) from if_neg fun e => hok e.1]
    have HA := Lib.hid (Tm.read_no hok)
    clear hok hi
    go_enter Try.func19, Try.ntmps19
    go_wp2_with fail
    refine C1.out.mono ?_
    rintro e w2 ⟨v, rfl, o2, b2⟩
    obtain ⟨a, c, rfl, hat⟩ := o2.at
    have C2 := Lib.hid (read_any a (Tm.opts t).length c (Tm.opts t) w2 rfl (by have := Tm.opts_le t; omega) (fun x hx => (opts_small t x hx).1) (fun x hx => (opts_small t x hx).2) hat)
    rw [HA.out] at C2
    have C3 : Hid (Calls Try.prog 15 #[.slice a (Tm.opts t).length c] w2 fun e w' => e = .returned (.tuple #[.agg (tcells Tm.z).toArray, .bool false]) ∧ Below w2.heap.size w2 w') := C2
    have T2 := Lib.hid (T1.out.next b2)
    have B2 := Lib.hid (Below.chain B1.out b2)
    have O2 := Lib.hid (o2.lower (Nat.le_trans (Nat.le_succ _) (Nat.le_of_eq S1.out.symm)))
    obtain ⟨nl, hnl⟩ : ∃ nl, (Tm.opts t).length = nl := ⟨_, rfl⟩
    rw [hnl] at C3 O2 ⊢
    clear C2 o2 b2 hat C1 T1 B1 S1 hnl
    go_wp2_with fail
    refine C3.out.mono ?_
    rintro e w3 ⟨rfl, b3⟩
    have T3 := Lib.hid (T2.out.next b3)
    have B3 := Lib.hid (Below.chain B2.out b3)
    have O3 := Lib.hid (O2.out.next b3)
    have s3 := B3.out.size
    clear b3 C3 T2 B2 O2
    have bz := below_one w3 (.cells (tcells Tm.z).toArray 32)
    have GZ := Lib.hid (heap_alloc_new w3 (.cells (tcells Tm.z).toArray 32))
    have T4 : Hid (TmAt ((w3.alloc (.cells (tcells Tm.z).toArray 32)).setRow w3.heap.size (tcells Tm.z).toArray) w.heap.size t) := by
      show _ = _
      rw [setRow_other _ _ _ _ (by have := T3.out.lt; omega)]
      exact T3.out.next bz
    have A4 : Hid (TmAt ((w3.alloc (.cells (tcells Tm.z).toArray 32)).setRow w3.heap.size (tcells Tm.z).toArray) w3.heap.size Tm.z) := setRow_heap _ _ _ _ _ _ GZ.out
    have B4 := Lib.hid (below_setRow (Below.chain B3.out bz) s3 (tcells Tm.z).toArray)
    have O4 := Lib.hid (O3.out.next (below_setRow bz (Nat.le_refl _) (tcells Tm.z).toArray))
    clear bz
    go_wp2_with (refine wpList_store_tm rfl _ _ rfl w3.heap.size Tm.z _ rfl rfl GZ.out rfl ?_; show wpList _ _ _ _ _ ((w3.alloc (.cells (tcells Tm.z).toArray 32)).setRow w3.heap.size (tcells Tm.z).toArray); generalize (w3.alloc (.cells (tcells Tm.z).toArray 32)).setRow w3.heap.size (tcells Tm.z).toArray = W4 at T4 A4 B4 O4 ⊢; have hA4 := A4.out; have hT4 := T4.out; have c0 : W4.cell? ⟨w3.heap.size, 0, none⟩ = some (.bool Tm.z.hasMru) := hA4.cell 0; have c1 : W4.cell? ⟨w3.heap.size, 1, none⟩ = some (.int .i64 Tm.z.mru) := hA4.cell 1; have c2 : W4.cell? ⟨w3.heap.size, 2, none⟩ = some (.bool Tm.z.hasAccm) := hA4.cell 2; have c3 : W4.cell? ⟨w3.heap.size, 3, none⟩ = some (.int .u32 (Tm.z.accm : Int)) := hA4.cell 3; have c4 : W4.cell? ⟨w3.heap.size, 4, none⟩ = some (.int .i64 Tm.z.login) := hA4.cell 4; have c5 : W4.cell? ⟨w3.heap.size, 5, none⟩ = some (.bool Tm.z.quality) := hA4.cell 5; have c6 : W4.cell? ⟨w3.heap.size, 6, none⟩ = some (.bool Tm.z.hasMagic) := hA4.cell 6; have c7 : W4.cell? ⟨w3.heap.size, 7, none⟩ = some (.int .u32 (Tm.z.magic : Int)) := hA4.cell 7; have c8 : W4.cell? ⟨w3.heap.size, 8, none⟩ = some (.bool Tm.z.pfc) := hA4.cell 8; have c9 : W4.cell? ⟨w3.heap.size, 9, none⟩ = some (.bool Tm.z.acfc) := hA4.cell 9; have d0 : W4.cell? ⟨w.heap.size, 0, none⟩ = some (.bool t.hasMru) := hT4.cell 0; have d1 : W4.cell? ⟨w.heap.size, 1, none⟩ = some (.int .i64 t.mru) := hT4.cell 1; have d2 : W4.cell? ⟨w.heap.size, 2, none⟩ = some (.bool t.hasAccm) := hT4.cell 2; have d3 : W4.cell? ⟨w.heap.size, 3, none⟩ = some (.int .u32 (t.accm : Int)) := hT4.cell 3; have d4 : W4.cell? ⟨w.heap.size, 4, none⟩ = some (.int .i64 t.login) := hT4.cell 4; have d5 : W4.cell? ⟨w.heap.size, 5, none⟩ = some (.bool t.quality) := hT4.cell 5; have d6 : W4.cell? ⟨w.heap.size, 6, none⟩ = some (.bool t.hasMagic) := hT4.cell 6; have d7 : W4.cell? ⟨w.heap.size, 7, none⟩ = some (.int .u32 (t.magic : Int)) := hT4.cell 7; have d8 : W4.cell? ⟨w.heap.size, 8, none⟩ = some (.bool t.pfc) := hT4.cell 8; have d9 : W4.cell? ⟨w.heap.size, 9, none⟩ = some (.bool t.acfc) := hT4.cell 9; clear hA4 hT4 A4 T4)
    go_ret2
    exact ⟨_, rfl, opts_none _ _, B4.out⟩
end Go.Proofs.Ytnhjpbhndckfgaa
