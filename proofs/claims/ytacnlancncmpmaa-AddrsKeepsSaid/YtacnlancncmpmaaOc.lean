/- Contracts of next and Read. -/
import Derived.Test.YtacnlancncmpmaaOb
import Derived.Test.YtacnlancncmpmaaBb
namespace Go.Proofs.Ytacnlancncmpmaa.S12
open Go.RowKit

theorem run_store_opt {w : World} {o : Oper} {a : Act} (x y : Operand) (ho : o.op = .store 24 x y) (R : Nat) (r : Ot.O) (p : Option Addr) (n c : Nat) (cur : Array Value)
    (hx : a.eval x = .pointer (some ⟨R, 0, none⟩)) (hy : a.eval y = .agg (ocells r (.slice p n c)).toArray) (hR : w.heap[R]? = some (.cells cur 24 (0, 0))) (hcur : cur.size = 2) :
    (execOp a.eval o).run Try.prog w = .ok .skip (w.setRow R (ocells r (.slice p n c)).toArray) := by
  have h := run_storeVar_row (P := Try.prog) w R 24 24 cur (ocells r (.slice p n c)).toArray hR infoOpt hcur (ocells_one r p n c)
  unfold execOp
  simp only [ho, hx, hy, Instr.storeAt, Instr.sureAddr, Sem.run_bind, Sem.run_pure, Result.andThen_ok, h]
/-- The first two bytes, in memory. -/
theorem two_cells {w : World} {b off c : Nat} {xs : List UInt8} (h : RowAt w (some ⟨b, off, none⟩) c xs) (h2 : ¬ xs.length < 2) : w.cell? ⟨b, off, none⟩ = some (.int .u8 (Ot.ty0 xs : Nat)) ∧ w.cell? ⟨b, off + 1, none⟩ = some (.int .u8 (Ot.sz xs : Nat)) := by
  obtain ⟨x, y, l, rfl, e1, e2⟩ := Ot.two_of xs h2
  have h0 := h.cell _ rfl 0 (.int .u8 (Ot.ty0 (x :: y :: l) : Nat)) (by simp [Lib.byteCells, e1])
  have h1 := h.cell _ rfl 1 (.int .u8 (Ot.sz (x :: y :: l) : Nat)) (by simp [Lib.byteCells, e2])
  rw [Go.WideShapes.add_plain] at h0 h1
  exact ⟨by rw [← Nat.add_zero off]; exact h0, h1⟩

end Go.Proofs.Ytacnlancncmpmaa.S12
