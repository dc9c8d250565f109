/- Contracts of the document's Few, Wrong, Find, Same, Twice. -/
import Derived.Test.YtbpkhjjabnboaaaOe
namespace Go.Proofs.Ytbpkhjjabnboaaa.S12
open Go.RowKit

theorem run_load_mid {o : Oper} {a : Act} {W : World} (y : Operand) (ho : o.op = .load 65 y) (b k : Nat) (hx : a.eval y = .pointer (some ⟨b, k, none⟩)) (x : Ot.O) (p : Option Addr) (n c : Nat) (h : W.rangeAt b k (ocells x (.slice p n c))) :
    (execOp a.eval o).run Try.prog W = .ok (.value (.agg (ocells x (.slice p n c)).toArray)) W := by
  unfold execOp
  simp only [ho, hx, Instr.loadAt, Instr.sureAddr, Sem.run_bind, Sem.run_pure, Result.andThen_ok, run_loadVar_mid W b k 65 _ _ h Try.underlying65 rfl (infoOptN _ _)]
theorem range_next {w w' : World} {b k : Nat} {cs : List Value} (h : w.rangeAt b k cs) (hl : b < w.heap.size) (hb : Below w.heap.size w w') : w'.rangeAt b k cs := by
  intro j v hv
  rw [hb.cell (p := ⟨b, k + j, none⟩) hl]
  exact h j v hv

theorem Ot.few_step {L : List Ot.O} {k : Nat} (h : k < L.length) (hp : ∀ x ∈ L.take k, x.data.length ≤ 1000) (hk : L[k].data.length ≤ 1000) : ∀ x ∈ L.take (k + 1), x.data.length ≤ 1000 := by
  intro x hx
  rw [List.take_succ_eq_append_getElem h] at hx
  simp only [List.mem_append, List.mem_singleton] at hx
  rcases hx with hx | rfl
  · exact hp x hx
  · exact hk
theorem Ot.few_bad {L : List Ot.O} {k : Nat} (h : k < L.length) (hk : 1000 < L[k].data.length) : Ot.few L = false := by
  cases hf : Ot.few L with
  | false => rfl
  | true => have := (Ot.few_of L hf).2 _ (List.getElem_mem h); omega
theorem Ot.few_end {L : List Ot.O} {k : Nat} (hk : L.length ≤ k ∨ 50 < L.length) (hp : ∀ x ∈ L.take k, x.data.length ≤ 1000) : Ot.few L = decide (L.length ≤ 50) := by
  unfold Ot.few
  by_cases h : L.length ≤ 50
  · rw [List.take_of_length_le (by omega)] at hp
    have : L.all (fun x => decide (x.data.length ≤ 1000)) = true := by
      rw [List.all_eq_true]; intro x hx; exact decide_eq_true (hp x hx)
    rw [this, Bool.and_true]
  · rw [decide_eq_false h, Bool.false_and]

/-- The first place of a Type, or that there is none. -/
def PlaceIs (L : List Ot.O) (t v : Int) : Prop := (v = -1 ∧ ∀ x ∈ L, x.ty ≠ t) ∨ ∃ k, ∃ h : k < L.length, v = (k : Int) ∧ L[k].ty = t ∧ ∀ x ∈ L.take k, x.ty ≠ t
end Go.Proofs.Ytbpkhjjabnboaaa.S12
