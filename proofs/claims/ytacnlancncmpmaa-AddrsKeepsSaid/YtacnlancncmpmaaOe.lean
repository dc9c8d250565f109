/- Contracts of slices.EqualFunc (with alike) and Same; the document's Same. -/
import Derived.Test.YtacnlancncmpmaaOc
namespace Go.Proofs.Ytacnlancncmpmaa.S12
open Go.RowKit

theorem Ot.eq_step {L M : List Ot.O} {k : Nat} (h1 : k < L.length) (h2 : k < M.length) (h : L.take k = M.take k) (e : L[k] = M[k]) : L.take (k + 1) = M.take (k + 1) := by
  rw [List.take_succ_eq_append_getElem h1, List.take_succ_eq_append_getElem h2, h, e]
theorem Ot.ne_at {L M : List Ot.O} {k : Nat} (h1 : k < L.length) (h2 : k < M.length) (h : L[k] ≠ M[k]) : L ≠ M := fun e => h (by subst e; rfl)
theorem Ot.ne_len {L M : List Ot.O} (h : L.length ≠ M.length) : L ≠ M := fun e => h (by rw [e])


end Go.Proofs.Ytacnlancncmpmaa.S12
