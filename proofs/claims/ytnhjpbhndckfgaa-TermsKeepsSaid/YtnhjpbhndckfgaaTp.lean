/- == of terms; contracts of the document's May and Put. -/
import Derived.Test.YtnhjpbhndckfgaaTo
namespace Go.Proofs.Ytnhjpbhndckfgaa
open Go.RowKit Go.Maps S2 S12

theorem eq_terms (a b : Tm.T) (w : World) : (Op.equalIn 10000 32 (.agg (tcells a).toArray) (.agg (tcells b).toArray)).run Try.prog w = .ok (decide (a = b)) w := by
  simp only [tcells]
  go_simp
  by_cases h : a = b
  · subst h; simp
  · rw [decide_eq_false h]
    repeat' split
    all_goals first | rfl | (exfalso; refine h (Tm.T.ext' ?_ ?_ ?_ ?_ ?_ ?_ ?_ ?_ ?_ ?_) <;> first | assumption | omega)
theorem Tm.may_eq (t : Tm.T) : Tm.may t = (decide (0 ≤ t.mru) && decide (t.mru ≤ 65535) && (decide (t.login = 0) || decide (t.login = 49187) || decide (t.login = 49699)) && (t.hasMagic == decide (t.magic ≠ 0)) && (t.hasMru || decide (t.mru = 0)) && (t.hasAccm || decide (t.accm = 0))) := by
  unfold Tm.may
  by_cases h1 : t.mru < 0 ∨ 65535 < t.mru ∨ t.login ≠ 0 ∧ t.login ≠ 49187 ∧ t.login ≠ 49699
  · rw [if_pos h1]
    rcases h1 with h | h | ⟨h2, h3, h4⟩
    · rw [decide_eq_false (by omega : ¬ 0 ≤ t.mru)]; simp
    · rw [decide_eq_false (by omega : ¬ t.mru ≤ 65535)]; simp
    · rw [decide_eq_false h2, decide_eq_false h3, decide_eq_false h4]; simp
  · rw [if_neg h1, decide_eq_true (by omega : 0 ≤ t.mru), decide_eq_true (by omega : t.mru ≤ 65535)]
    have h5 : (decide (t.login = 0) || decide (t.login = 49187) || decide (t.login = 49699)) = true := by
      simp only [Bool.or_eq_true, decide_eq_true_eq]; omega
    rw [h5]
    cases t.hasMagic <;> cases t.hasMru <;> cases t.hasAccm <;> by_cases e1 : t.magic = 0 <;> by_cases e2 : t.mru = 0 <;> by_cases e3 : t.accm = 0 <;> simp [e1, e2, e3]
set_option maxRecDepth 100000 in
set_option maxHeartbeats 1000000 in
theorem may_any (t : Tm.T) (w : World) :
    Calls Try.prog 20 #[.agg (tcells t).toArray] w fun e w' => e = .returned (.bool (Tm.may t)) ∧ Below w.heap.size w w' := by
  have BB := Lib.hid (below_one w (.cells (tcells t).toArray 32))
  simp only [tcells] at BB ⊢
  have HZ : Hid ((!((t.accm : Int) != 0)) = decide (t.accm = 0)) := by
    show _ = _
    by_cases e : t.accm = 0 <;> simp [e]
  go_enter Try.func20, Try.ntmps20
  go_wp2
  all_goals go_ret
  all_goals refine ⟨?_, below_one w _⟩
  all_goals refine congrArg (fun b => Ending.returned (Value.bool b)) ?_
  all_goals rw [Tm.may_eq]
  all_goals clear BB
  all_goals first
    | (rw [HZ.out]; clear HZ; simp [*]; done)
    | (clear HZ; simp [*]; done)
    | (clear HZ; simp_all; done)
    | (clear HZ; simp_all; omega)
    | (clear HZ; simp [*]; omega)
    | (rw [HZ.out]; clear HZ; simp_all; done)
    | (rw [HZ.out]; clear HZ; simp_all; omega)

/-- What Put tells. -/
def TermPutRes (w w' : World) (e : Ending) (A : List Ot.O × Bool) : Prop := ∃ v, e = .returned (.tuple #[v, .bool A.2]) ∧ Opts w' w.heap.size v A.1 ∧ Below w.heap.size w w'
theorem opts_small (t : Tm.T) : ∀ x ∈ Tm.opts t, x.data.length ≤ 300000 ∧ (Lit.int .i64 x.ty).wf = true := by
  intro x hx
  simp only [Tm.opts, List.mem_append, Tm.mem_pick] at hx
  rcases hx with (((((⟨_, rfl⟩ | ⟨_, rfl⟩) | ⟨_, rfl⟩) | ⟨_, rfl⟩) | ⟨_, rfl⟩) | ⟨_, rfl⟩) | ⟨_, rfl⟩
  · refine ⟨?_, rfl⟩
    show (Tm.mruD t.mru).length ≤ _
    unfold Tm.mruD
    split
    · rw [Oc.put_length]; omega
    · simp
  · exact ⟨by show (Oc.put t.accm 4 true).length ≤ _; rw [Oc.put_length]; omega, rfl⟩
  · refine ⟨?_, rfl⟩
    show (Tm.loginD t.login).length ≤ _
    unfold Tm.loginD
    repeat' split
    all_goals simp
  · exact ⟨by simp, rfl⟩
  · exact ⟨by show (Oc.put t.magic 4 true).length ≤ _; rw [Oc.put_length]; omega, rfl⟩
  · exact ⟨by simp, rfl⟩
  · exact ⟨by simp, rfl⟩
end Go.Proofs.Ytnhjpbhndckfgaa
