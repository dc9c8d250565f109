/- Contract of Put; operations that are guarded, and wanted. -/
import Derived.Test.YtacnlancncmpmaaTq
import Derived.Test.YtacnlancncmpmaaTl
namespace Go.Proofs.Ytacnlancncmpmaa
open Go.RowKit Go.Maps S2 S12

theorem wpList_want {P : Program} {w : World} {ops : Array Oper} {rest : List Oper} {o : Oper} {a : Act} {Q : Exit → Act → World → Prop} (hw : Region.wanted o (yielded ops a.tmps) = true) (h : o.wp P a w (wpList P ops Q rest) Q) : wpList P ops Q (o :: rest) a w := by
  unfold wpList
  rw [if_pos hw]
  exact .inl h
/-- An operation that is wanted yields a value. -/
theorem wpList_value {P : Program} {w w' : World} {ops : Array Oper} {rest : List Oper} {o : Oper} {a : Act} {v : Value} {Q : Exit → Act → World → Prop} (hw : Region.wanted o (yielded ops a.tmps) = true) (he : (execOp a.eval o).run P w = .ok (.value v) w') (h : wpList P ops Q rest (a.put o.dst v) w') : wpList P ops Q (o :: rest) a w :=
  wpList_want hw (wp_value he h)
/-- What Put tells. -/
def TermPutRes (w w' : World) (e : Ending) (A : List Ot.O × Bool) : Prop := ∃ v, e = .returned (.tuple #[v, .bool A.2]) ∧ Opts w' w.heap.size v A.1 ∧ Below w.heap.size w w'
theorem opts_wf (t : Ad.T) : ∀ x ∈ Ad.opts t, (Lit.int .i64 x.ty).wf = true := by
  intro x hx
  simp only [Ad.opts, List.mem_append, Ad.mem_pick] at hx
  rcases hx with (((((⟨_, rfl⟩ | ⟨_, rfl⟩) | ⟨_, rfl⟩) | ⟨_, rfl⟩) | ⟨_, rfl⟩) | ⟨_, rfl⟩) | ⟨_, rfl⟩ <;> rfl

set_option maxRecDepth 100000 in
set_option maxHeartbeats 2000000 in
theorem put_any (P : Int) (t : Ad.T) (w : World) :
    Calls Try.prog 17 #[.int .i64 P, .agg (acells t).toArray] w fun e w' => TermPutRes w w' e (Ad.put P t) := by
  by_cases h4 : P = 32801
  · subst h4
    by_cases hok : Ad.okl 32801 (Ad.opts t)
    · have HA := Lib.hid (Ad.read_yes 32801 hok)
      obtain ⟨s, hs⟩ : ∃ s, Ad.told (Ad.opts t) = s := ⟨_, rfl⟩
      rw [hs] at HA
      by_cases hto : s = t
      · rw [show Ad.put 32801 t = (Ad.opts t, true) from if_pos ⟨.inl rfl, hok, hs.trans hto⟩]
        have HD := Lib.hid (decide_eq_true hto)
        clear hok hto hs
        have T1 : Hid (TmAt (w.alloc (.cells (acells t).toArray 35)) w.heap.size t) := heap_alloc_new w _
        have B1 := Lib.hid (below_one w (.cells (acells t).toArray 35))
        have S1 : Hid ((w.alloc (.cells (acells t).toArray 35)).heap.size = w.heap.size + 1) := by show _ = _; simp
        have C1 := Lib.hid (options_any t (w.alloc (.cells (acells t).toArray 35)))
        go_enter Try.func17, Try.ntmps17
        go_wp2_with (refine wpList_load_row rfl 35 (.tmp 3) rfl w.heap.size rfl 35 (acells t).toArray (0, 0) _ T1.out Try.underlying35 rfl infoAd ?_)
        refine C1.out.mono ?_
        rintro e w2 ⟨v, rfl, o2, b2⟩
        obtain ⟨a, c, rfl, hat⟩ := o2.at
        have C3 := Lib.hid (read_any 32801 a (Ad.opts t).length c (Ad.opts t) w2 rfl (by have := Ad.opts_le t; omega) (opts_wf t) hat)
        rw [HA.out] at C3
        have T2 := Lib.hid (T1.out.next b2)
        have B2 := Lib.hid (Below.chain B1.out b2)
        have O2 := Lib.hid (o2.lower (Nat.le_trans (Nat.le_succ _) (Nat.le_of_eq S1.out.symm)))
        obtain ⟨nl, hnl⟩ : ∃ nl, (Ad.opts t).length = nl := ⟨_, rfl⟩
        rw [hnl] at C3 O2 ⊢
        clear o2 b2 hat C1 T1 B1 S1 hnl
        go_wp2_with fail
        refine C3.out.mono ?_
        rintro e w3 ⟨rfl, b3⟩
        have bz := below_one w3 (.cells (acells Ad.z).toArray 35)
        have z3 := heap_alloc_new w3 (.cells (acells Ad.z).toArray 35)
        have hs3 := (Below.chain B2.out b3).size
        have bw : Below w3.heap.size w3 ((w3.alloc (.cells (acells Ad.z).toArray 35)).setRow w3.heap.size (acells s).toArray) := below_setRow bz (Nat.le_refl _) _
        have A4 : Hid (TmAt ((w3.alloc (.cells (acells Ad.z).toArray 35)).setRow w3.heap.size (acells s).toArray) w3.heap.size s) := setRow_heap _ _ _ _ _ _ z3
        have T4 := Lib.hid ((T2.out.next b3).next bw)
        have B4 := Lib.hid (Below.chain (Below.chain B2.out b3) bw)
        have O4 := Lib.hid ((O2.out.next b3).next bw)
        have Z3 := Lib.hid z3
        clear bz z3 b3 bw C3 T2 B2 O2 hs3
        go_wp2_with (first
          | (refine wpList_store_ad rfl _ _ rfl w3.heap.size s _ rfl rfl Z3.out rfl ?_; show wpList _ _ _ _ _ ((w3.alloc (.cells (acells Ad.z).toArray 35)).setRow w3.heap.size (acells s).toArray); generalize (w3.alloc (.cells (acells Ad.z).toArray 35)).setRow w3.heap.size (acells s).toArray = W4 at A4 T4 B4 O4 ⊢)
          | (refine wpList_value (by rfl) (run_load_arr (.tmp 7) rfl w3.heap.size 0 rfl (acells s) _ Try.underlying35 rfl infoAd (range_block A4.out)) ?_)
          | (refine wpList_value (by rfl) (run_load_arr (.tmp 3) rfl w.heap.size 0 rfl (acells t) _ Try.underlying35 rfl infoAd (range_block T4.out)) ?_)
          | (refine wpList_value (by rfl) (run_neq_ad (.tmp 26) (.tmp 27) rfl s t rfl rfl _) ?_; rw [HD.out]))
        go_ret2
        exact ⟨_, rfl, O4.out, B4.out⟩
      · rw [show Ad.put 32801 t = ([], false) from if_neg (fun e => hto (hs.symm.trans e.2.2))]
        have HD := Lib.hid (decide_eq_false hto)
        clear hok hto hs
        have T1 : Hid (TmAt (w.alloc (.cells (acells t).toArray 35)) w.heap.size t) := heap_alloc_new w _
        have B1 := Lib.hid (below_one w (.cells (acells t).toArray 35))
        have S1 : Hid ((w.alloc (.cells (acells t).toArray 35)).heap.size = w.heap.size + 1) := by show _ = _; simp
        have C1 := Lib.hid (options_any t (w.alloc (.cells (acells t).toArray 35)))
        go_enter Try.func17, Try.ntmps17
        go_wp2_with (refine wpList_load_row rfl 35 (.tmp 3) rfl w.heap.size rfl 35 (acells t).toArray (0, 0) _ T1.out Try.underlying35 rfl infoAd ?_)
        refine C1.out.mono ?_
        rintro e w2 ⟨v, rfl, o2, b2⟩
        obtain ⟨a, c, rfl, hat⟩ := o2.at
        have C3 := Lib.hid (read_any 32801 a (Ad.opts t).length c (Ad.opts t) w2 rfl (by have := Ad.opts_le t; omega) (opts_wf t) hat)
        rw [HA.out] at C3
        have T2 := Lib.hid (T1.out.next b2)
        have B2 := Lib.hid (Below.chain B1.out b2)
        have O2 := Lib.hid (o2.lower (Nat.le_trans (Nat.le_succ _) (Nat.le_of_eq S1.out.symm)))
        obtain ⟨nl, hnl⟩ : ∃ nl, (Ad.opts t).length = nl := ⟨_, rfl⟩
        rw [hnl] at C3 O2 ⊢
        clear o2 b2 hat C1 T1 B1 S1 hnl
        go_wp2_with fail
        refine C3.out.mono ?_
        rintro e w3 ⟨rfl, b3⟩
        have bz := below_one w3 (.cells (acells Ad.z).toArray 35)
        have z3 := heap_alloc_new w3 (.cells (acells Ad.z).toArray 35)
        have hs3 := (Below.chain B2.out b3).size
        have bw : Below w3.heap.size w3 ((w3.alloc (.cells (acells Ad.z).toArray 35)).setRow w3.heap.size (acells s).toArray) := below_setRow bz (Nat.le_refl _) _
        have A4 : Hid (TmAt ((w3.alloc (.cells (acells Ad.z).toArray 35)).setRow w3.heap.size (acells s).toArray) w3.heap.size s) := setRow_heap _ _ _ _ _ _ z3
        have T4 := Lib.hid ((T2.out.next b3).next bw)
        have B4 := Lib.hid (Below.chain (Below.chain B2.out b3) bw)
        have O4 := Lib.hid ((O2.out.next b3).next bw)
        have Z3 := Lib.hid z3
        clear bz z3 b3 bw C3 T2 B2 O2 hs3
        go_wp2_with (first
          | (refine wpList_store_ad rfl _ _ rfl w3.heap.size s _ rfl rfl Z3.out rfl ?_; show wpList _ _ _ _ _ ((w3.alloc (.cells (acells Ad.z).toArray 35)).setRow w3.heap.size (acells s).toArray); generalize (w3.alloc (.cells (acells Ad.z).toArray 35)).setRow w3.heap.size (acells s).toArray = W4 at A4 T4 B4 O4 ⊢)
          | (refine wpList_value (by rfl) (run_load_arr (.tmp 7) rfl w3.heap.size 0 rfl (acells s) _ Try.underlying35 rfl infoAd (range_block A4.out)) ?_)
          | (refine wpList_value (by rfl) (run_load_arr (.tmp 3) rfl w.heap.size 0 rfl (acells t) _ Try.underlying35 rfl infoAd (range_block T4.out)) ?_)
          | (refine wpList_value (by rfl) (run_neq_ad (.tmp 26) (.tmp 27) rfl s t rfl rfl _) ?_; rw [HD.out]))
        go_ret2
        exact ⟨_, rfl, opts_none _ _, B4.out⟩
    · have HA := Lib.hid (Ad.read_no 32801 hok)
      rw [show Ad.put 32801 t = ([], false) from if_neg (fun e => hok e.2.1)]
      have HD : Hid (decide (Ad.z = Ad.z) = true) := decide_eq_true rfl
      clear hok
      have T1 : Hid (TmAt (w.alloc (.cells (acells t).toArray 35)) w.heap.size t) := heap_alloc_new w _
      have B1 := Lib.hid (below_one w (.cells (acells t).toArray 35))
      have S1 : Hid ((w.alloc (.cells (acells t).toArray 35)).heap.size = w.heap.size + 1) := by show _ = _; simp
      have C1 := Lib.hid (options_any t (w.alloc (.cells (acells t).toArray 35)))
      go_enter Try.func17, Try.ntmps17
      go_wp2_with (refine wpList_load_row rfl 35 (.tmp 3) rfl w.heap.size rfl 35 (acells t).toArray (0, 0) _ T1.out Try.underlying35 rfl infoAd ?_)
      refine C1.out.mono ?_
      rintro e w2 ⟨v, rfl, o2, b2⟩
      obtain ⟨a, c, rfl, hat⟩ := o2.at
      have C3 := Lib.hid (read_any 32801 a (Ad.opts t).length c (Ad.opts t) w2 rfl (by have := Ad.opts_le t; omega) (opts_wf t) hat)
      rw [HA.out] at C3
      have T2 := Lib.hid (T1.out.next b2)
      have B2 := Lib.hid (Below.chain B1.out b2)
      have O2 := Lib.hid (o2.lower (Nat.le_trans (Nat.le_succ _) (Nat.le_of_eq S1.out.symm)))
      obtain ⟨nl, hnl⟩ : ∃ nl, (Ad.opts t).length = nl := ⟨_, rfl⟩
      rw [hnl] at C3 O2 ⊢
      clear o2 b2 hat C1 T1 B1 S1 hnl
      go_wp2_with fail
      refine C3.out.mono ?_
      rintro e w3 ⟨rfl, b3⟩
      have bz := below_one w3 (.cells (acells Ad.z).toArray 35)
      have z3 := heap_alloc_new w3 (.cells (acells Ad.z).toArray 35)
      have hs3 := (Below.chain B2.out b3).size
      have bw : Below w3.heap.size w3 ((w3.alloc (.cells (acells Ad.z).toArray 35)).setRow w3.heap.size (acells Ad.z).toArray) := below_setRow bz (Nat.le_refl _) _
      have A4 : Hid (TmAt ((w3.alloc (.cells (acells Ad.z).toArray 35)).setRow w3.heap.size (acells Ad.z).toArray) w3.heap.size Ad.z) := setRow_heap _ _ _ _ _ _ z3
      have T4 := Lib.hid ((T2.out.next b3).next bw)
      have B4 := Lib.hid (Below.chain (Below.chain B2.out b3) bw)
      have O4 := Lib.hid ((O2.out.next b3).next bw)
      have Z3 := Lib.hid z3
      clear bz z3 b3 bw C3 T2 B2 O2 hs3
      go_wp2_with (first
        | (refine wpList_store_ad rfl _ _ rfl w3.heap.size Ad.z _ rfl rfl Z3.out rfl ?_; show wpList _ _ _ _ _ ((w3.alloc (.cells (acells Ad.z).toArray 35)).setRow w3.heap.size (acells Ad.z).toArray); generalize (w3.alloc (.cells (acells Ad.z).toArray 35)).setRow w3.heap.size (acells Ad.z).toArray = W4 at A4 T4 B4 O4 ⊢)
        | (refine wpList_value (by rfl) (run_load_arr (.tmp 7) rfl w3.heap.size 0 rfl (acells Ad.z) _ Try.underlying35 rfl infoAd (range_block A4.out)) ?_)
        | (refine wpList_value (by rfl) (run_load_arr (.tmp 3) rfl w.heap.size 0 rfl (acells t) _ Try.underlying35 rfl infoAd (range_block T4.out)) ?_)
        | (refine wpList_value (by rfl) (run_neq_ad (.tmp 26) (.tmp 27) rfl Ad.z t rfl rfl _) ?_; rw [HD.out]))
      go_ret2
      exact ⟨_, rfl, opts_none _ _, B4.out⟩
  · by_cases h6 : P = 32855
    · subst h6
      clear h4
      by_cases hok : Ad.okl 32855 (Ad.opts t)
      · have HA := Lib.hid (Ad.read_yes 32855 hok)
        obtain ⟨s, hs⟩ : ∃ s, Ad.told (Ad.opts t) = s := ⟨_, rfl⟩
        rw [hs] at HA
        by_cases hto : s = t
        · rw [show Ad.put 32855 t = (Ad.opts t, true) from if_pos ⟨.inr rfl, hok, hs.trans hto⟩]
          have HD := Lib.hid (decide_eq_true hto)
          clear hok hto hs
          have T1 : Hid (TmAt (w.alloc (.cells (acells t).toArray 35)) w.heap.size t) := heap_alloc_new w _
          have B1 := Lib.hid (below_one w (.cells (acells t).toArray 35))
          have S1 : Hid ((w.alloc (.cells (acells t).toArray 35)).heap.size = w.heap.size + 1) := by show _ = _; simp
          have C1 := Lib.hid (options_any t (w.alloc (.cells (acells t).toArray 35)))
          go_enter Try.func17, Try.ntmps17
          go_wp2_with (refine wpList_load_row rfl 35 (.tmp 3) rfl w.heap.size rfl 35 (acells t).toArray (0, 0) _ T1.out Try.underlying35 rfl infoAd ?_)
          refine C1.out.mono ?_
          rintro e w2 ⟨v, rfl, o2, b2⟩
          obtain ⟨a, c, rfl, hat⟩ := o2.at
          have C3 := Lib.hid (read_any 32855 a (Ad.opts t).length c (Ad.opts t) w2 rfl (by have := Ad.opts_le t; omega) (opts_wf t) hat)
          rw [HA.out] at C3
          have T2 := Lib.hid (T1.out.next b2)
          have B2 := Lib.hid (Below.chain B1.out b2)
          have O2 := Lib.hid (o2.lower (Nat.le_trans (Nat.le_succ _) (Nat.le_of_eq S1.out.symm)))
          obtain ⟨nl, hnl⟩ : ∃ nl, (Ad.opts t).length = nl := ⟨_, rfl⟩
          rw [hnl] at C3 O2 ⊢
          clear o2 b2 hat C1 T1 B1 S1 hnl
          go_wp2_with fail
          refine C3.out.mono ?_
          rintro e w3 ⟨rfl, b3⟩
          have bz := below_one w3 (.cells (acells Ad.z).toArray 35)
          have z3 := heap_alloc_new w3 (.cells (acells Ad.z).toArray 35)
          have hs3 := (Below.chain B2.out b3).size
          have bw : Below w3.heap.size w3 ((w3.alloc (.cells (acells Ad.z).toArray 35)).setRow w3.heap.size (acells s).toArray) := below_setRow bz (Nat.le_refl _) _
          have A4 : Hid (TmAt ((w3.alloc (.cells (acells Ad.z).toArray 35)).setRow w3.heap.size (acells s).toArray) w3.heap.size s) := setRow_heap _ _ _ _ _ _ z3
          have T4 := Lib.hid ((T2.out.next b3).next bw)
          have B4 := Lib.hid (Below.chain (Below.chain B2.out b3) bw)
          have O4 := Lib.hid ((O2.out.next b3).next bw)
          have Z3 := Lib.hid z3
          clear bz z3 b3 bw C3 T2 B2 O2 hs3
          go_wp2_with (first
            | (refine wpList_store_ad rfl _ _ rfl w3.heap.size s _ rfl rfl Z3.out rfl ?_; show wpList _ _ _ _ _ ((w3.alloc (.cells (acells Ad.z).toArray 35)).setRow w3.heap.size (acells s).toArray); generalize (w3.alloc (.cells (acells Ad.z).toArray 35)).setRow w3.heap.size (acells s).toArray = W4 at A4 T4 B4 O4 ⊢)
            | (refine wpList_value (by rfl) (run_load_arr (.tmp 7) rfl w3.heap.size 0 rfl (acells s) _ Try.underlying35 rfl infoAd (range_block A4.out)) ?_)
            | (refine wpList_value (by rfl) (run_load_arr (.tmp 3) rfl w.heap.size 0 rfl (acells t) _ Try.underlying35 rfl infoAd (range_block T4.out)) ?_)
            | (refine wpList_value (by rfl) (run_neq_ad (.tmp 26) (.tmp 27) rfl s t rfl rfl _) ?_; rw [HD.out]))
          go_ret2
          exact ⟨_, rfl, O4.out, B4.out⟩
        · rw [show Ad.put 32855 t = ([], false) from if_neg (fun e => hto (hs.symm.trans e.2.2))]
          have HD := Lib.hid (decide_eq_false hto)
          clear hok hto hs
          have T1 : Hid (TmAt (w.alloc (.cells (acells t).toArray 35)) w.heap.size t) := heap_alloc_new w _
          have B1 := Lib.hid (below_one w (.cells (acells t).toArray 35))
          have S1 : Hid ((w.alloc (.cells (acells t).toArray 35)).heap.size = w.heap.size + 1) := by show _ = _; simp
          have C1 := Lib.hid (options_any t (w.alloc (.cells (acells t).toArray 35)))
          go_enter Try.func17, Try.ntmps17
          go_wp2_with (refine wpList_load_row rfl 35 (.tmp 3) rfl w.heap.size rfl 35 (acells t).toArray (0, 0) _ T1.out Try.underlying35 rfl infoAd ?_)
          refine C1.out.mono ?_
          rintro e w2 ⟨v, rfl, o2, b2⟩
          obtain ⟨a, c, rfl, hat⟩ := o2.at
          have C3 := Lib.hid (read_any 32855 a (Ad.opts t).length c (Ad.opts t) w2 rfl (by have := Ad.opts_le t; omega) (opts_wf t) hat)
          rw [HA.out] at C3
          have T2 := Lib.hid (T1.out.next b2)
          have B2 := Lib.hid (Below.chain B1.out b2)
          have O2 := Lib.hid (o2.lower (Nat.le_trans (Nat.le_succ _) (Nat.le_of_eq S1.out.symm)))
          obtain ⟨nl, hnl⟩ : ∃ nl, (Ad.opts t).length = nl := ⟨_, rfl⟩
          rw [hnl] at C3 O2 ⊢
          clear o2 b2 hat C1 T1 B1 S1 hnl
          go_wp2_with fail
          refine C3.out.mono ?_
          rintro e w3 ⟨rfl, b3⟩
          have bz := below_one w3 (.cells (acells Ad.z).toArray 35)
          have z3 := heap_alloc_new w3 (.cells (acells Ad.z).toArray 35)
          have hs3 := (Below.chain B2.out b3).size
          have bw : Below w3.heap.size w3 ((w3.alloc (.cells (acells Ad.z).toArray 35)).setRow w3.heap.size (acells s).toArray) := below_setRow bz (Nat.le_refl _) _
          have A4 : Hid (TmAt ((w3.alloc (.cells (acells Ad.z).toArray 35)).setRow w3.heap.size (acells s).toArray) w3.heap.size s) := setRow_heap _ _ _ _ _ _ z3
          have T4 := Lib.hid ((T2.out.next b3).next bw)
          have B4 := Lib.hid (Below.chain (Below.chain B2.out b3) bw)
          have O4 := Lib.hid ((O2.out.next b3).next bw)
          have Z3 := Lib.hid z3
          clear bz z3 b3 bw C3 T2 B2 O2 hs3
          go_wp2_with (first
            | (refine wpList_store_ad rfl _ _ rfl w3.heap.size s _ rfl rfl Z3.out rfl ?_; show wpList _ _ _ _ _ ((w3.alloc (.cells (acells Ad.z).toArray 35)).setRow w3.heap.size (acells s).toArray); generalize (w3.alloc (.cells (acells Ad.z).toArray 35)).setRow w3.heap.size (acells s).toArray = W4 at A4 T4 B4 O4 ⊢)
            | (refine wpList_value (by rfl) (run_load_arr (.tmp 7) rfl w3.heap.size 0 rfl (acells s) _ Try.underlying35 rfl infoAd (range_block A4.out)) ?_)
            | (refine wpList_value (by rfl) (run_load_arr (.tmp 3) rfl w.heap.size 0 rfl (acells t) _ Try.underlying35 rfl infoAd (range_block T4.out)) ?_)
            | (refine wpList_value (by rfl) (run_neq_ad (.tmp 26) (.tmp 27) rfl s t rfl rfl _) ?_; rw [HD.out]))
          go_ret2
          exact ⟨_, rfl, opts_none _ _, B4.out⟩
      · have HA := Lib.hid (Ad.read_no 32855 hok)
        rw [show Ad.put 32855 t = ([], false) from if_neg (fun e => hok e.2.1)]
        have HD : Hid (decide (Ad.z = Ad.z) = true) := decide_eq_true rfl
        clear hok
        have T1 : Hid (TmAt (w.alloc (.cells (acells t).toArray 35)) w.heap.size t) := heap_alloc_new w _
        have B1 := Lib.hid (below_one w (.cells (acells t).toArray 35))
        have S1 : Hid ((w.alloc (.cells (acells t).toArray 35)).heap.size = w.heap.size + 1) := by show _ = _; simp
        have C1 := Lib.hid (options_any t (w.alloc (.cells (acells t).toArray 35)))
        go_enter Try.func17, Try.ntmps17
        go_wp2_with (refine wpList_load_row rfl 35 (.tmp 3) rfl w.heap.size rfl 35 (acells t).toArray (0, 0) _ T1.out Try.underlying35 rfl infoAd ?_)
        refine C1.out.mono ?_
        rintro e w2 ⟨v, rfl, o2, b2⟩
        obtain ⟨a, c, rfl, hat⟩ := o2.at
        have C3 := Lib.hid (read_any 32855 a (Ad.opts t).length c (Ad.opts t) w2 rfl (by have := Ad.opts_le t; omega) (opts_wf t) hat)
        rw [HA.out] at C3
        have T2 := Lib.hid (T1.out.next b2)
        have B2 := Lib.hid (Below.chain B1.out b2)
        have O2 := Lib.hid (o2.lower (Nat.le_trans (Nat.le_succ _) (Nat.le_of_eq S1.out.symm)))
        obtain ⟨nl, hnl⟩ : ∃ nl, (Ad.opts t).length = nl := ⟨_, rfl⟩
        rw [hnl] at C3 O2 ⊢
        clear o2 b2 hat C1 T1 B1 S1 hnl
        go_wp2_with fail
        refine C3.out.mono ?_
        rintro e w3 ⟨rfl, b3⟩
        have bz := below_one w3 (.cells (acells Ad.z).toArray 35)
        have z3 := heap_alloc_new w3 (.cells (acells Ad.z).toArray 35)
        have hs3 := (Below.chain B2.out b3).size
        have bw : Below w3.heap.size w3 ((w3.alloc (.cells (acells Ad.z).toArray 35)).setRow w3.heap.size (acells Ad.z).toArray) := below_setRow bz (Nat.le_refl _) _
        have A4 : Hid (TmAt ((w3.alloc (.cells (acells Ad.z).toArray 35)).setRow w3.heap.size (acells Ad.z).toArray) w3.heap.size Ad.z) := setRow_heap _ _ _ _ _ _ z3
        have T4 := Lib.hid ((T2.out.next b3).next bw)
        have B4 := Lib.hid (Below.chain (Below.chain B2.out b3) bw)
        have O4 := Lib.hid ((O2.out.next b3).next bw)
        have Z3 := Lib.hid z3
        clear bz z3 b3 bw C3 T2 B2 O2 hs3
        go_wp2_with (first
          | (refine wpList_store_ad rfl _ _ rfl w3.heap.size Ad.z _ rfl rfl Z3.out rfl ?_; show wpList _ _ _ _ _ ((w3.alloc (.cells (acells Ad.z).toArray 35)).setRow w3.heap.size (acells Ad.z).toArray); generalize (w3.alloc (.cells (acells Ad.z).toArray 35)).setRow w3.heap.size (acells Ad.z).toArray = W4 at A4 T4 B4 O4 ⊢)
          | (refine wpList_value (by rfl) (run_load_arr (.tmp 7) rfl w3.heap.size 0 rfl (acells Ad.z) _ Try.underlying35 rfl infoAd (range_block A4.out)) ?_)
          | (refine wpList_value (by rfl) (run_load_arr (.tmp 3) rfl w.heap.size 0 rfl (acells t) _ Try.underlying35 rfl infoAd (range_block T4.out)) ?_)
          | (refine wpList_value (by rfl) (run_neq_ad (.tmp 26) (.tmp 27) rfl Ad.z t rfl rfl _) ?_; rw [HD.out]))
        go_ret2
        exact ⟨_, rfl, opts_none _ _, B4.out⟩
    · rw [show Ad.put P t = ([], false) from if_neg (fun e => by rcases e.1 with e | e <;> contradiction)]
      have e1 : (P != 32801) = true := by simpa using h4
      have e2 : (P != 32855) = true := by simpa using h6
      have B1 := Lib.hid (below_one w (.cells (acells t).toArray 35))
      clear h4 h6
      go_enter Try.func17, Try.ntmps17
      go_wp2
      go_ret2
      exact ⟨_, rfl, opts_none _ _, B1.out⟩
end Go.Proofs.Ytacnlancncmpmaa
