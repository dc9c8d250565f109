/- Contract of the document's All. -/
import Derived.Test.YthmljgpnkealaaaKb
namespace Go.Proofs.Ythmljgpnkealaaa
open Go.RowKit
namespace Fr
theorem btw_short (xs : List UInt8) : ∀ i, ∀ b ∈ (btw xs i).1, b.length ≤ xs.length := by
  intro i
  induction i with
  | zero => intro b hb; simp [btw] at hb
  | succ i ih =>
    intro b hb
    by_cases h6 : (xs[i]?.map UInt8.toNat) = some 126
    · simp only [btw, h6, if_true] at hb
      split at hb
      · rcases List.mem_append.1 hb with hb | hb
        · exact ih b hb
        · rw [List.mem_singleton.1 hb]
          simp
          omega
      · exact ih b hb
    · simp only [btw, h6, if_false] at hb
      exact ih b hb
theorem judge_kinds (wide : Bool) (A : List UInt8 × Bool) : judge wide A = 0 ∨ judge wide A = 1 ∨ judge wide A = 2 ∨ judge wide A = 3 ∨ judge wide A = 4 ∨ judge wide A = 5 := by
  unfold judge
  repeat' split
  all_goals simp
theorem judge_body (wide : Bool) (A : List UInt8 × Bool) (h : judge wide A = 1) : bodyOf wide A ≠ [] := by
  rw [body_good wide A h]
  have hl : ¬ A.1.length < Fc.size wide + 2 := by
    intro hl
    unfold judge at h
    split at h
    · omega
    · split at h
      · omega
      · omega
  intro e
  have := congrArg List.length e
  rw [List.length_take] at this
  simp at this
  omega
end Fr
theorem run_store_tally {w : World} {o : Oper} {a : Act} (x y : Operand) (ho : o.op = .store 40 x y) (R : Nat) (t : Fr.Tal) (cur : Array Value)
    (hx : a.eval x = .pointer (some ⟨R, 0, none⟩)) (hy : a.eval y = .agg (tcells t).toArray) (hR : w.heap[R]? = some (.cells cur 40 (0, 0))) (hcur : cur.size = 5) :
    (execOp a.eval o).run Try.prog w = .ok .skip (w.setRow R (tcells t).toArray) := by
  have h := run_storeVar_row (P := Try.prog) w R 40 40 cur (tcells t).toArray hR info40 hcur (tcells_one t)
  unfold execOp
  simp only [ho, hx, hy, Instr.storeAt, Instr.sureAddr, Sem.run_bind, Sem.run_pure, Result.andThen_ok, h]
theorem tal_cell {w : World} {T : Nat} {t : Fr.Tal} (h : w.heap[T]? = some (.cells (tcells t).toArray 40 (0, 0))) (i : Nat) (u : Value) (hu : (tcells t)[i]? = some u) : w.cell? ⟨T, i, none⟩ = some u ∧ w.frozen? ⟨T, i, none⟩ = false := by
  refine ⟨?_, frozen_of_row w T i _ 40 h⟩
  rw [cell_of_row _ _ _ _ _ _ h]; simpa using hu
theorem tal_set {w : World} {T : Nat} {t : Fr.Tal} (h : w.heap[T]? = some (.cells (tcells t).toArray 40 (0, 0))) (i k : Nat) (u : Value) (heq : (tcells t).toArray.setIfInBounds i u = (tcells (Fr.count t k)).toArray) : (w.setCell ⟨T, i, none⟩ u).heap[T]? = some (.cells (tcells (Fr.count t k)).toArray 40 (0, 0)) := by
  rw [heap_setCell_same _ _ _ _ _ _ h, heq]
/-- The state of the document's All. -/
structure RAll (wr w2 : World) (T B : Nat) (v : Value) (L : List (List UInt8)) (t : Fr.Tal) : Prop where
  lst : Lst wr B (fun j => B ≤ j) v L
  tal : wr.heap[T]? = some (.cells (tcells t).toArray 40 (0, 0))
  fed : Fed w2 wr T (.slice none 0 0) (.slice none 0 0)
theorem RAll.next {wr w' w2 : World} {T B : Nat} {v : Value} {L : List (List UInt8)} {t : Fr.Tal} (h : RAll wr w2 T B v L t) (b : Below wr.heap.size wr w') : RAll w' w2 T B v L t :=
  ⟨h.lst.next b, by rw [b.block T (lt_of_block h.tal)]; exact h.tal, h.fed.trans (fed_below _ _ b)⟩
theorem RAll.count {wr w2 : World} {T B : Nat} {v : Value} {L : List (List UInt8)} {t : Fr.Tal} (h : RAll wr w2 T B v L t) (hT : T < B) (i k : Nat) (u : Value) (heq : (tcells t).toArray.setIfInBounds i u = (tcells (Fr.count t k)).toArray) : RAll (wr.setCell ⟨T, i, none⟩ u) w2 T B v L (Fr.count t k) :=
  ⟨h.lst.fed hT (fun j hj => by omega) (fed_cell _ _ _ _ _), tal_set h.tal i k u heq, h.fed.trans (fed_cell _ _ _ _ _)⟩

set_option maxRecDepth 10000 in
set_option maxHeartbeats 4000000 in
theorem refAll_any (m : Nat) (wide : Bool) (a : Option Addr) (n cap : Nat) (xs : List UInt8) (w : World) (hn : xs.length = n) (hm : m < 4294967296) (hl : n ≤ 3000) (hr : RowAt w a cap xs) :
    Calls Try.prog 19 #[.slice a n cap, .int .u32 (m : Int), .bool wide] w fun e w' => ∃ t, AllAt w w' e (Fr.all m wide Fr.init xs) t := by
  have hab := Fr.all_btw m wide xs
  rw [hn] at hab
  have hbs := Fr.btw_short xs n
  rw [hn] at hbs
  have hbl := Fr.btw_len xs n
  rw [hab]
  have c27 := fun (W : World) (h : RowAt W a cap xs) (hE : w.heap.size ≤ W.heap.size) => refBetween_any a n cap xs W w.heap.size hn hl h hr.lt hE
  generalize (Fr.btw xs n).1 = F at c27 hbs hbl ⊢
  have C27 := Lib.hid c27
  have Hr := Lib.hid hr
  have Hbs := Lib.hid hbs
  clear hab hn hr c27 hbs
  go_enter Try.func19, Try.ntmps19
  go_wp2_with fail
  obtain ⟨W0, hW0⟩ : ∃ W0, W0 = (w.alloc (.cells (tcells Fr.zero).toArray 40)).alloc (.cells (tcells Fr.zero).toArray 40) := ⟨_, rfl⟩
  have hsz0 : W0.heap.size = w.heap.size + 2 := by rw [hW0]; simp
  have b00 : Below w.heap.size w W0 := by rw [hW0]; exact ((Below.refl _ _).alloc (Nat.le_refl _) _).alloc (by simp) _
  have hR0 : W0.heap[w.heap.size]? = some (.cells (tcells Fr.zero).toArray 40 (0, 0)) := by rw [hW0, Below.heap_alloc _ _ _ (by simp)]; exact heap_alloc_new w _
  have hT0 : W0.heap[w.heap.size + 1]? = some (.cells (tcells Fr.zero).toArray 40 (0, 0)) := by
    have := heap_alloc_new (w.alloc (.cells (tcells Fr.zero).toArray 40)) (.cells (tcells Fr.zero).toArray 40)
    rw [hW0]; simpa using this
  refine Calls.mono (R := fun e w' => ∃ v, e = .returned v ∧ Lst w' W0.heap.size (fun k => k < w.heap.size) v F ∧ Below W0.heap.size W0 w') ?_ ?_
  · have := C27.out W0 (Hr.out.next b00) b00.size
    rw [hW0] at this ⊢
    exact this
  rintro e w2 ⟨vF, rfl, lF, b2⟩
  have hR2 : w2.heap[w.heap.size]? = some (.cells (tcells Fr.zero).toArray 40 (0, 0)) := by rw [b2.block _ (by omega)]; exact hR0
  have hT2 : w2.heap[w.heap.size + 1]? = some (.cells (tcells Fr.zero).toArray 40 (0, 0)) := by rw [b2.block _ (by omega)]; exact hT0
  have b02 : Below w.heap.size w w2 := b00.trans (b2.mono b00.size)
  have hs2 := b2.size
  rw [hsz0] at lF hs2
  obtain ⟨aF, cF, rfl⟩ := lst_slice lF
  obtain ⟨nf, hnf⟩ : ∃ nf, F.length = nf := ⟨_, rfl⟩
  rw [hnf]
  have Hnf := Lib.hid hnf
  have hnf3 : nf ≤ 3000 := by omega
  have LF := Lib.hid lF
  have HR2 := Lib.hid hR2
  have HT2 := Lib.hid hT2
  have B02 := Lib.hid b02
  clear hW0 hsz0 b00 hR0 hT0 C27 b2 lF hR2 hT2 b02 Hr hbl hnf
  obtain ⟨T, hT⟩ : ∃ T, T = w.heap.size + 1 := ⟨_, rfl⟩
  rw [← hT] at HT2 ⊢
  have hT' : T < w2.heap.size := by omega
  have HTT := Lib.hid hT
  clear hT
  go_wp2_with fail
  go_loopw [8, 11] (fun v i wr => ∃ (k : Nat) (t : Fr.Tal), k ≤ nf ∧ i = .int .i64 (k : Int) ∧ t.le k ∧ RAll wr w2 T w2.heap.size v (Fr.bodies m wide (F.take k)) t) (fun _ i _ => nf - (intOf i).toNat)
  case atStart => exact ⟨0, Fr.zero, Nat.zero_le _, rfl, Fr.zero_le _, ⟨lst_none _ _ _, HT2.out, Fed.refl _ _ _⟩⟩
  case round =>
    obtain ⟨k, t, hk, rfl, hle, hA⟩ := hrel
    by_cases hlt : (k : Int) < (nf : Int)
    · have hk' : k < F.length := by rw [Hnf.out]; omega
      obtain ⟨pF, cF', heF, paF⟩ := (LF.out.fed (T := T) (by have := HTT.out; omega) (fun j hj => by have := HTT.out; omega) hA.fed).parts
      simp only [Value.slice.injEq, true_and] at heF
      obtain ⟨rfl, rfl⟩ := heF
      obtain ⟨b, off, p, c, rfl, hcell, hrow⟩ := PartsAt.at paF k hk'
      have hst := Fr.bodies_take m wide F k hk'
      have hxl := Hbs.out _ (List.getElem_mem hk')
      have hbl := Fr.bodies_len m wide (F.take k)
      rw [List.length_take] at hbl
      obtain ⟨x, hx⟩ : ∃ x, x = F[k] := ⟨_, rfl⟩
      rw [← hx] at hcell hrow hst hxl
      clear hx hk' paF
      obtain ⟨q, hq⟩ : ∃ q, x.length = q := ⟨_, rfl⟩
      rw [hq] at hcell hxl
      have hju := refJudge_any m wide p q c x wr hq hm (by omega) hrow
      have hjk := Fr.judge_kinds wide (St.ans m x)
      have hjb := Fr.judge_body wide (St.ans m x)
      have hjn := Fr.body_not wide (St.ans m x)
      generalize Fr.judge wide (St.ans m x) = kd at hju hjk hjb hjn
      generalize Fr.bodyOf wide (St.ans m x) = body at hju hst hjb hjn
      generalize Fr.bodies m wide (F.take k) = L at hA hst hbl
      obtain ⟨av, cv, rfl⟩ := lst_slice hA.lst
      have HA := Lib.hid hA
      have Hle := Lib.hid hle
      have Hst := Lib.hid hst
      obtain ⟨l0, l1, l2, l3, l4⟩ := hle
      have i0 : (t.good : Int) ≤ 3000 := by omega
      have i1 : (t.aborted : Int) ≤ 3000 := by omega
      have i2 : (t.short : Int) ≤ 3000 := by omega
      have i3 : (t.long : Int) ≤ 3000 := by omega
      have i4 : (t.wrong : Int) ≤ 3000 := by omega
      have hLl : L.length + 1 ≤ 1000000 := by omega
      have Hju := Lib.hid hju
      have hwrs := hA.fed.size
      clear hA hst hju hrow l0 l1 l2 l3 l4 hbl hq
      go_wp2_with fail
      refine Hju.out.mono ?_
      rintro e w3 ⟨p3, c3, rfl, r3, off3, b3⟩
      have hA3 := Lib.hid (HA.out.next b3)
      rcases hjk with rfl | rfl | rfl | rfl | rfl | rfl
      · have hb0 : body = [] := hjn (by decide)
        subst hb0
        rw [Fr.outs_nil, List.append_nil] at Hst
        clear Hju HA hjb hjn r3 off3 hcell
        go_wp2
        go_roundw
        case rel => exact ⟨k + 1, t, by omega, by go_num, Hle.out.mono (by omega), by rw [Hst.out]; exact hA3.out⟩
        case measure => simp [intOf]; omega
      · have hb1 := hjb rfl
        rw [Fr.outs_some body hb1] at Hst
        obtain ⟨z, hz⟩ : ∃ z, body.length = z := ⟨_, rfl⟩
        rw [hz]
        have hvl := HA.out.lst.lt
        have hit := Lib.hid (litems_one (E := fun j => w2.heap.size ≤ j) (v := .slice av L.length cv) hz r3 (fun ad e => ⟨(off3 ad e).2, fun e2 => by have := (hvl _ e2).2; have := (off3 ad e).1; omega, by have := (off3 ad e).1; show w2.heap.size ≤ ad.block; omega⟩))
        have hs3 := b3.size
        clear Hju HA hjb hjn r3 off3 hcell hb1 hz
        go_wp2_with (at_builtin; refine wpList_append_lst rfl (.tmp 35) (.tmp 37) rfl w2.heap.size (fun j => w2.heap.size ≤ j) (.slice av L.length cv) _ L [body] rfl rfl (hA3.out.lst.next ((Below.refl _ _).alloc (Nat.le_refl _) _)) hit.out (by simp; omega) hLl ?_; intro v4 w4 o4 g4 b4; have hA4 := Lib.hid (RAll.mk (w2 := w2) (T := T) o4 (t := t) (by rw [g4.block T (by simp; omega) (fun e => by have := b4 T e.symm; omega), Below.heap_alloc _ _ _ (by omega)]; exact hA3.out.tal) ((hA3.out.fed.trans (fed_below T (.slice none 0 0) ((Below.refl _ _).alloc (Nat.le_refl _) (.cells #[.slice p3 z c3] 26)))).grown g4 b4)); have t0 := (tal_cell hA4.out.tal 0 _ rfl).1; have f0 := (tal_cell hA4.out.tal 0 _ rfl).2; clear o4 g4 b4)
        go_roundw
        case rel => exact ⟨k + 1, Fr.count t 1, by omega, by go_num, Fr.count_le _ _ _ Hle.out, by rw [Hst.out]; exact hA4.out.count hT' 0 1 _ rfl⟩
        case measure => simp [intOf]; omega
      · have hb0 : body = [] := hjn (by decide)
        subst hb0
        rw [Fr.outs_nil, List.append_nil] at Hst
        have t1 := (tal_cell hA3.out.tal 1 _ rfl).1
        have f1 := (tal_cell hA3.out.tal 1 _ rfl).2
        clear Hju HA hjb hjn r3 off3 hcell
        go_wp2
        go_roundw
        case rel => exact ⟨k + 1, Fr.count t 2, by omega, by go_num, Fr.count_le _ _ _ Hle.out, by rw [Hst.out]; exact hA3.out.count hT' 1 2 _ rfl⟩
        case measure => simp [intOf]; omega
      · have hb0 : body = [] := hjn (by decide)
        subst hb0
        rw [Fr.outs_nil, List.append_nil] at Hst
        have t1 := (tal_cell hA3.out.tal 2 _ rfl).1
        have f1 := (tal_cell hA3.out.tal 2 _ rfl).2
        clear Hju HA hjb hjn r3 off3 hcell
        go_wp2
        go_roundw
        case rel => exact ⟨k + 1, Fr.count t 3, by omega, by go_num, Fr.count_le _ _ _ Hle.out, by rw [Hst.out]; exact hA3.out.count hT' 2 3 _ rfl⟩
        case measure => simp [intOf]; omega
      · have hb0 : body = [] := hjn (by decide)
        subst hb0
        rw [Fr.outs_nil, List.append_nil] at Hst
        have t1 := (tal_cell hA3.out.tal 3 _ rfl).1
        have f1 := (tal_cell hA3.out.tal 3 _ rfl).2
        clear Hju HA hjb hjn r3 off3 hcell
        go_wp2
        go_roundw
        case rel => exact ⟨k + 1, Fr.count t 4, by omega, by go_num, Fr.count_le _ _ _ Hle.out, by rw [Hst.out]; exact hA3.out.count hT' 3 4 _ rfl⟩
        case measure => simp [intOf]; omega
      · have hb0 : body = [] := hjn (by decide)
        subst hb0
        rw [Fr.outs_nil, List.append_nil] at Hst
        have t1 := (tal_cell hA3.out.tal 4 _ rfl).1
        have f1 := (tal_cell hA3.out.tal 4 _ rfl).2
        clear Hju HA hjb hjn r3 off3 hcell
        go_wp2
        go_roundw
        case rel => exact ⟨k + 1, Fr.count t 5, by omega, by go_num, Fr.count_le _ _ _ Hle.out, by rw [Hst.out]; exact hA3.out.count hT' 4 5 _ rfl⟩
        case measure => simp [intOf]; omega
    · have hks : F.take k = F := List.take_of_length_le (by rw [Hnf.out]; omega)
      rw [hks] at hA
      obtain ⟨av, cv, rfl⟩ := lst_slice hA.lst
      have hS : wr.drew.heap[T]? = some (.cells (tcells t).toArray 40 (0, 0)) ∧ wr.drew.heap[w.heap.size]? = some (.cells (tcells Fr.zero).toArray 40 (0, 0)) := ⟨hA.tal, by
        show wr.heap[w.heap.size]? = _
        rw [(hA.fed.away _ (by omega) (by have := HTT.out; omega) (by simp [Value.ownBlock])).1]; exact HR2.out⟩
      have hls : Lst wr.drew w2.heap.size (fun j => w2.heap.size ≤ j) (.slice av (Fr.bodies m wide F).length cv) (Fr.bodies m wide F) := hA.lst.next (Below.refl _ _).drew
      have hbl : Below w.heap.size w wr.drew := (hA.fed.below B02.out (by have := HTT.out; omega) (fun k e => by cases e)).drew
      have HA := Lib.hid hA
      clear hA hks Hbs LF HR2 HT2 B02 HA
      go_wp2_with fail
      refine held_start (S := fun W => W.heap[T]? = some (.cells (tcells t).toArray 40 (0, 0))) 4 (by kernel_rfl) rfl ?_
      generalize wr.drew = w4 at hS hls hbl ⊢
      have hS1 := hS.1
      refine held_take 0 (v := ?_) rfl (by kernel_rfl) (by kernel_rfl) (by kernel_rfl) (fun _ _ _ h => h) (by assumption) (by rfl) ?_ ?_
      rotate_left
      · (intro W hW; go_simp; try with_reducible rfl)
      simp only [Act.put, List.setIfInBounds_toArray, List.set_cons_zero, List.set_cons_succ]
      refine held_take 1 (v := ?_) rfl (by kernel_rfl) (by kernel_rfl) (by kernel_rfl) (fun _ _ _ h => h) (by assumption) (by rfl) ?_ ?_
      rotate_left
      · (intro W hW; (have t0 := (tal_cell hW 0 _ rfl).1); (have t1 := (tal_cell hW 1 _ rfl).1); (have t2 := (tal_cell hW 2 _ rfl).1); (have t3 := (tal_cell hW 3 _ rfl).1); (have t4 := (tal_cell hW 4 _ rfl).1); clear hW; go_simp; try with_reducible rfl)
      simp only [Act.put, List.setIfInBounds_toArray, List.set_cons_zero, List.set_cons_succ]
      refine held_take 2 (v := ?_) rfl (by kernel_rfl) (by kernel_rfl) (by kernel_rfl) (fun _ _ _ h => h) (by assumption) (by rfl) ?_ ?_
      rotate_left
      · (intro W hW; go_simp; try with_reducible rfl)
      simp only [Act.put, List.setIfInBounds_toArray, List.set_cons_zero, List.set_cons_succ]
      have hrow : (w4.setRow w.heap.size (tcells t).toArray).heap[w.heap.size]? = some (.cells (tcells t).toArray 40 (0, 0)) := setRow_heap _ _ _ _ _ _ hS.2
      refine held_alone 3 (w' := w4.setRow w.heap.size (tcells t).toArray) rfl (by kernel_rfl) (by rfl) (run_store_tally (.tmp 7) (.tmp 68) rfl w.heap.size t _ rfl rfl hS.2 rfl) (by rw [setRow_other _ _ _ _ (by have := HTT.out; omega)]; exact hS.1) ?_
      simp only [Act.put]
      refine held_done (by kernel_rfl) ?_
      have hl5 := hls.fed (T := w.heap.size) (by omega) (fun j hj => by omega) (fed_row w4 w.heap.size (.slice none 0 0) (tcells t).toArray)
      have hb5 := below_setRow hbl (Nat.le_refl w.heap.size) (tcells t).toArray
      obtain ⟨p5, c5, he5, pa5⟩ := hl5.parts
      simp only [Value.slice.injEq, true_and] at he5
      obtain ⟨rfl, rfl⟩ := he5
      go_wp2
      refine bodyPost_ret (v := .tuple #[.slice av (Fr.bodies m wide F).length cv, .agg (tcells t).toArray]) ?_ rfl ⟨t, av, cv, rfl, pa5, hb5⟩
      exact results_tmp_cell Try.results19 _ _ w.heap.size 40 _ _ _ rfl hrow Try.underlying40 rfl info40
end Go.Proofs.Ythmljgpnkealaaa
