/- Contracts of the document's four and May. -/
import Derived.Test.YtacnlancncmpmaaTo
namespace Go.Proofs.Ytacnlancncmpmaa
open Go.RowKit Go.Maps S2 S12

theorem run_storeVar_eight (w : World) (g k : Nat) (t s : Ad.T) (v : Ad.B8) (hT : TmAt w g t) (hk : k + 8 ≤ 37) (e : (acells t).take k ++ cells8 v ++ (acells t).drop (k + 8) = acells s) :
    (storeVar 33 ⟨g, k, none⟩ (.agg (cells8 v).toArray)).run Try.prog w = .ok () (w.setRow g (acells s).toArray) := by
  have := run_storeCells_at Try.prog g k 35 (cells8 v) 0 (acells t).toArray w hT (by show k + 0 + 8 ≤ 37; omega) (fun u hu => by have := Array.all_eq_true_iff_forall_mem.1 (cells8_one v) u; simpa using this (by simpa using hu))
  have hi := info8
  have e2 : (cells8 v).length = 8 := rfl
  simp only [Nat.add_zero, e2, e] at this
  cases hq : Try.prog.info? 33 with
  | none => simp [hq] at hi
  | some i =>
    have hs : (cells8 v).length = i.size := by simp [hq] at hi; omega
    simp [storeVar, sizeOf, typeInfo, hq, Value.cells, hs, this]
theorem wpList_store_eight {w : World} {ops : Array Oper} {rest : List Oper} {o : Oper} {a : Act} {Q : Exit → Act → World → Prop} (hgd : o.guard = none) (x y : Operand) (ho : o.op = .store 33 x y) (g k : Nat) (t s : Ad.T) (v : Ad.B8)
    (hx : a.eval x = .pointer (some ⟨g, k, none⟩)) (hy : a.eval y = .agg (cells8 v).toArray) (hT : TmAt w g t) (hk : k + 8 ≤ 37) (e : (acells t).take k ++ cells8 v ++ (acells t).drop (k + 8) = acells s)
    (h : ∀ w', Hid (TmAt w' g s) → w.grownBy w' (some g) → wpList Try.prog ops Q rest (a.put o.dst undef) w') : wpList Try.prog ops Q (o :: rest) a w := by
  refine wpList_plain hgd fun K hK => ?_
  unfold Oper.wp execOp
  simp only [ho, hx, hy, Instr.storeAt, Instr.sureAddr, Sem.run_bind, Sem.run_pure, Result.andThen_ok, run_storeVar_eight w g k t s v hT hk e]
  exact hK _ _ (h _ (setRow_heap _ _ _ _ _ _ hT) (grown_setRow _ _ _))
theorem run_build_arr {T : TypeId} {o : Oper} {a : Act} (ho : o.op = .build T #[]) (cs : Array Value) (hf : Try.prog.built T [] = some cs) (W : World) : (execOp a.eval o).run Try.prog W = .ok (.value (.agg cs)) W := by
  unfold execOp
  simp only [ho, Sem.run_bind, List.map_toArray, List.map_nil, run_build W T #[] cs hf, Result.andThen_ok]
  rfl
theorem run_eql_ad {o : Oper} {a : Act} (x y : Operand) (ho : o.op = .binOp .eql 35 x y 35) (s t : Ad.T) (hx : a.eval x = .agg (acells s).toArray) (hy : a.eval y = .agg (acells t).toArray) (W : World) :
    (execOp a.eval o).run Try.prog W = .ok (.value (.bool (decide (s = t)))) W := by
  unfold execOp
  simp only [ho, hx, hy, Sem.run_bind, run_eqGuard_agg W .eql 35 x y _ _ guardAd, run_eql_struct, eq_ad, Result.andThen_ok, Sem.run_pure]
theorem run_neq_ad {o : Oper} {a : Act} (x y : Operand) (ho : o.op = .binOp .neq 35 x y 35) (s t : Ad.T) (hx : a.eval x = .agg (acells s).toArray) (hy : a.eval y = .agg (acells t).toArray) (W : World) :
    (execOp a.eval o).run Try.prog W = .ok (.value (.bool (!decide (s = t)))) W := by
  unfold execOp
  simp only [ho, hx, hy, Sem.run_bind, run_eqGuard_agg W .neq 35 x y _ _ guardAd, run_neq_struct, eq_ad, Result.andThen_ok, Sem.run_pure]
theorem built_ad : Try.prog.built 35 [] = some (acells Ad.z).toArray := by kernel_rfl
theorem built_8 : Try.prog.built 33 [] = some (cells8 Ad.o8).toArray := by kernel_rfl
theorem built_4 : Try.prog.built 30 [] = some (cells4 Ad.o4).toArray := by kernel_rfl
set_option maxRecDepth 100000 in
theorem four_any (x : Ad.B4) (w : World) :
    Calls Try.prog 29 #[.agg (cells4 x).toArray] w fun e w' => ∃ v, e = .returned v ∧ w'.ownsRow w.heap.size 5 1 v 4 (Lib.byteCells x.list) ∧ Below w.heap.size w w' := by
  have b1 := Below.chain (below_one w (.cells (cells4 x).toArray 30)) (below_one (w.alloc (.cells (cells4 x).toArray 30)) (.cells (cells4 x).toArray 5))
  have g1 := heap_alloc2_new w (.cells (cells4 x).toArray 30) (.cells (cells4 x).toArray 5)
  have O1 := Lib.hid (row_built (B := w.heap.size) (n := 4) x.list rfl g1 (by omega) (by decide))
  have B1 := Lib.hid b1
  clear b1 g1
  simp only [cells4] at O1 B1 ⊢
  go_enter Try.func29, Try.ntmps29
  go_wp2
  go_ret
  exact ⟨_, rfl, O1.out, B1.out⟩
end Go.Proofs.Ytacnlancncmpmaa
