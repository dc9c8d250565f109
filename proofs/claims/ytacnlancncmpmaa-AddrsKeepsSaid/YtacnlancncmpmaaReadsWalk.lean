/- The law of Read. -/
import Derived.Test.YtacnlancncmpmaaTw
namespace Go.Proofs.Ytacnlancncmpmaa
open Go.RowKit Go.Maps S2 S12

theorem few_small {L : List Ot.O} (h : Ot.few L = true) : L.length ≤ 50 ∧ ∀ x ∈ L, x.data.length ≤ 300000 := by
  obtain ⟨h1, h2⟩ := Ot.few_of L h
  exact ⟨h1, fun x hx => Nat.le_trans (h2 x hx) (by omega)⟩
theorem run_eql_same {o : Oper} {a : Act} (x y : Operand) (ho : o.op = .binOp .eql 35 x y 35) (s : Ad.T) (hx : a.eval x = .agg (acells s).toArray) (hy : a.eval y = .agg (acells s).toArray) (W : World) :
    (execOp a.eval o).run Try.prog W = .ok (.value (.bool true)) W := by
  rw [run_eql_ad x y ho s s hx hy W, decide_eq_true rfl]
theorem run_neq_same {o : Oper} {a : Act} (x y : Operand) (ho : o.op = .binOp .neq 35 x y 35) (s : Ad.T) (hx : a.eval x = .agg (acells s).toArray) (hy : a.eval y = .agg (acells s).toArray) (W : World) :
    (execOp a.eval o).run Try.prog W = .ok (.value (.bool false)) W := by
  rw [run_neq_ad x y ho s s hx hy W, decide_eq_true rfl]; rfl
set_option maxRecDepth 100000 in
set_option maxHeartbeats 2000000 in
theorem reads_walk (P : Int) (a : Option Addr) (n cap : Nat) (L : List Ot.O) (w : World) (hL : L.length = n) (hc : n ≤ cap) (hw : ∀ x ∈ L, (Lit.int .i64 x.ty).wf = true) (h : OptsAt w a L) :
    Calls Try.prog 4 #[.int .i64 P, .slice a n cap] w fun e w' => e = .returned (.bool true) ∧ Below w.heap.size w w' := by
  have H := Lib.hid h
  have HL := Lib.hid hL
  have HW := Lib.hid hw
  clear h hL hw
  by_cases hf : Ot.few L = true
  · obtain ⟨hn, hd⟩ := few_small hf
    have hn2 : n ≤ 50 := by have := HL.out; omega
    have HF := Lib.hid hf
    have HD := Lib.hid hd
    clear hf hn hd
    go_enter Try.func4, Try.ntmps4
    go_wp2_with fail
    refine (awake_any _).mono ?_
    rintro e w1 ⟨rfl, b1⟩
    have B1 := Lib.hid b1
    clear b1
    go_wp2_with fail
    refine (few_any a n cap L w1 HL.out (H.out.next B1.out)).mono ?_
    rintro e w2 ⟨rfl, h2⟩; rw [h2]; clear h2
    rw [HF.out]
    obtain ⟨A, hA⟩ : ∃ A, Ad.read P L = A := ⟨_, rfl⟩
    have C1 := Lib.hid (read_any P a n cap L w1 HL.out (by omega) HW.out (H.out.next B1.out))
    have C2 := Lib.hid (fun W (hB : Below w.heap.size w W) => refRead_any P a n cap L W HL.out (by omega) hc (H.out.next hB))
    rw [hA] at C1 C2
    clear hA H HL HD HW HF
    go_wp2_with fail
    refine C1.out.mono ?_
    rintro e w3 ⟨rfl, b3⟩
    have B3 := Lib.hid (Below.chain B1.out b3)
    have bz := below_one w3 (.cells (acells Ad.z).toArray 35)
    have GZ := Lib.hid (heap_alloc_new w3 (.cells (acells Ad.z).toArray 35))
    have hs3 := B3.out.size
    have T4 : Hid (TmAt ((w3.alloc (.cells (acells Ad.z).toArray 35)).setRow w3.heap.size (acells A.1).toArray) w3.heap.size A.1) := setRow_heap _ _ _ _ _ _ GZ.out
    have B4 := Lib.hid (below_setRow (Below.chain B3.out bz) hs3 (acells A.1).toArray)
    clear bz b3 B1 B3 C1
    go_wp2_with (refine wpList_store_ad rfl _ _ rfl w3.heap.size A.1 _ rfl rfl GZ.out rfl ?_; show wpList _ _ _ _ _ ((w3.alloc (.cells (acells Ad.z).toArray 35)).setRow w3.heap.size (acells A.1).toArray); generalize (w3.alloc (.cells (acells Ad.z).toArray 35)).setRow w3.heap.size (acells A.1).toArray = W4 at T4 B4 ⊢)
    generalize w3.heap.size = g at *
    clear GZ
    refine (C2.out W4 B4.out).mono ?_
    rintro e w5 ⟨rfl, b5⟩
    have B5 := Lib.hid (Below.chain B4.out b5)
    have T5 := Lib.hid (T4.out.next b5)
    have bz := below_one w5 (.cells (acells Ad.z).toArray 35)
    have GZ := Lib.hid (heap_alloc_new w5 (.cells (acells Ad.z).toArray 35))
    have hs5 := B5.out.size
    have U6 : Hid (TmAt ((w5.alloc (.cells (acells Ad.z).toArray 35)).setRow w5.heap.size (acells A.1).toArray) w5.heap.size A.1) := setRow_heap _ _ _ _ _ _ GZ.out
    have T6 := Lib.hid (T5.out.next (below_setRow bz (Nat.le_refl _) (acells A.1).toArray))
    have B6 := Lib.hid (below_setRow (Below.chain B5.out bz) hs5 (acells A.1).toArray)
    clear bz b5 B4 B5 T4 T5 C2
    go_wp2_with (first
      | (refine wpList_store_ad rfl _ _ rfl w5.heap.size A.1 _ rfl rfl GZ.out rfl ?_; show wpList _ _ _ _ _ ((w5.alloc (.cells (acells Ad.z).toArray 35)).setRow w5.heap.size (acells A.1).toArray); generalize (w5.alloc (.cells (acells Ad.z).toArray 35)).setRow w5.heap.size (acells A.1).toArray = W6 at T6 U6 B6 ⊢)
      | (refine wpList_value (by rfl) (run_load_arr (.tmp 5) rfl g 0 rfl (acells A.1) _ Try.underlying35 rfl infoAd (range_block T6.out)) ?_)
      | (refine wpList_value (by rfl) (run_load_arr (.tmp 7) rfl w5.heap.size 0 rfl (acells A.1) _ Try.underlying35 rfl infoAd (range_block U6.out)) ?_)
      | (refine wpList_value (by rfl) (run_eql_same (.tmp 29) (.tmp 30) rfl A.1 rfl rfl _) ?_))
    go_ret
    exact ⟨rfl, B6.out⟩
  · rw [Bool.not_eq_true] at hf
    have HF := Lib.hid hf
    clear hf
    go_enter Try.func4, Try.ntmps4
    go_wp2_with fail
    refine (awake_any _).mono ?_
    rintro e w1 ⟨rfl, b1⟩
    have B1 := Lib.hid b1
    clear b1
    go_wp2_with fail
    refine (few_any a n cap L w1 HL.out (H.out.next B1.out)).mono ?_
    rintro e w2 ⟨rfl, h2⟩; rw [h2]; clear h2
    rw [HF.out]
    go_wp2_with fail
    refine (awake_any _).mono ?_
    rintro e w3 ⟨rfl, b3⟩
    have B3 := Lib.hid (Below.chain B1.out b3)
    clear b3 B1
    go_wp2
    go_ret
    exact ⟨rfl, B3.out⟩
end Go.Proofs.Ytacnlancncmpmaa
