/- Contract of the document's May. -/
import Derived.Test.YtbmlacmpiaklpaaDoorDp
namespace Go.Proofs.YtbmlacmpiaklpaaDoor
open Go.RowKit

set_option maxHeartbeats 1000000 in
theorem refMay_any (x : Dm.Nt) (p : Option Addr) (c : Nat) (w : World) (h32 : x.n < 4294967296) :
    Calls Tryd.prog 23 #[.agg (ncells x (.slice p x.data.length c)).toArray] w fun e w' => e = .returned (.bool (Dm.may x (Dm.form x.kind))) ∧ Below w.heap.size w w' := by
  obtain ⟨k, n, d⟩ := x
  simp only [ncells] at h32 ⊢
  obtain ⟨m, hm⟩ : ∃ m, d.length = m := ⟨_, rfl⟩
  have hd : d = [] ↔ m = 0 := by rw [← hm]; simp
  by_cases k1 : k = 1
  · subst k1
    rw [hm]
    by_cases hn : n = 0
    · have hn1 : (n : Int) = 0 := by omega
      go_enter Tryd.func23, Tryd.ntmps23
      go_wp2
      go_ret
      exact ⟨by simp [Dm.may, Dm.form, hn], below_one w _⟩
    · have hn1 : ((n : Int) == 0) = false := by simp; omega
      go_enter Tryd.func23, Tryd.ntmps23
      go_wp2
      go_ret
      exact ⟨by simp [Dm.may, Dm.form, hn], below_one w _⟩
  by_cases k2 : k = 2
  · subst k2
    rw [hm]
    by_cases hn : n = 0
    · have hn1 : (n : Int) = 0 := by omega
      go_enter Tryd.func23, Tryd.ntmps23
      go_wp2
      go_ret
      exact ⟨by simp [Dm.may, Dm.form, hn], below_one w _⟩
    · have hn1 : ((n : Int) == 0) = false := by simp; omega
      go_enter Tryd.func23, Tryd.ntmps23
      go_wp2
      go_ret
      exact ⟨by simp [Dm.may, Dm.form, hn], below_one w _⟩
  rw [hm]
  have i1 : (k == 1) = false := by simp; omega
  have i2 : (k == 2) = false := by simp; omega
  by_cases hm0 : 0 < m
  · have hm1 : (0 : Int) < (m : Int) := by omega
    have hm2 : ¬ m = 0 := by omega
    have hf : (Dm.form k).data = false := by
      cases h : (Dm.form k).data
      · rfl
      · have := (Dm.form_data k).1 h; omega
    go_enter Tryd.func23, Tryd.ntmps23
    go_wp2
    go_ret
    exact ⟨by simp [Dm.may, hf, hm, hm2], below_one w _⟩
  have hm1 : ¬ (0 : Int) < (m : Int) := by omega
  have hm3 : m = 0 := by omega
  by_cases k3 : k = 3
  · subst k3
    by_cases hn : n = 0
    · have hn1 : (n : Int) = 0 := by omega
      go_enter Tryd.func23, Tryd.ntmps23
      go_wp2
      go_ret
      exact ⟨by simp [Dm.may, Dm.form, hd, hm3], below_one w _⟩
    · have hn1 : ((n : Int) == 0) = false := by simp; omega
      go_enter Tryd.func23, Tryd.ntmps23
      go_wp2
      go_ret
      exact ⟨by simp [Dm.may, Dm.form, hn, hd, hm3], below_one w _⟩
  by_cases k4 : k = 4
  · subst k4
    by_cases hn : n = 0
    · have hn1 : (n : Int) = 0 := by omega
      go_enter Tryd.func23, Tryd.ntmps23
      go_wp2
      go_ret
      exact ⟨by simp [Dm.may, Dm.form, hd, hm3], below_one w _⟩
    · have hn1 : ((n : Int) == 0) = false := by simp; omega
      go_enter Tryd.func23, Tryd.ntmps23
      go_wp2
      go_ret
      exact ⟨by simp [Dm.may, Dm.form, hn, hd, hm3], below_one w _⟩
  have i3 : (k == 3) = false := by simp; omega
  have i4 : (k == 4) = false := by simp; omega
  have h33 : n ≤ 4294967295 := by omega
  by_cases k5 : k = 5
  · subst k5
    go_enter Tryd.func23, Tryd.ntmps23
    go_wp2
    go_ret
    exact ⟨by simp [Dm.may, Dm.form, h33, hd, hm3], below_one w _⟩
  by_cases k7 : k = 7
  · subst k7
    go_enter Tryd.func23, Tryd.ntmps23
    go_wp2
    go_ret
    exact ⟨by simp [Dm.may, Dm.form, h33, hd, hm3], below_one w _⟩
  have i5 : (k == 5) = false := by simp; omega
  have i7 : (k == 7) = false := by simp; omega
  by_cases k6 : k = 6
  · subst k6
    by_cases hn : n < 256
    · have hn1 : (n : Int) < 256 := by omega
      have hn2 : n ≤ 255 := by omega
      go_enter Tryd.func23, Tryd.ntmps23
      go_wp2
      go_ret
      exact ⟨by simp [Dm.may, Dm.form, hn2, hd, hm3], below_one w _⟩
    · have hn1 : ¬ (n : Int) < 256 := by omega
      have hn2 : ¬ n ≤ 255 := by omega
      go_enter Tryd.func23, Tryd.ntmps23
      go_wp2
      go_ret
      exact ⟨by simp [Dm.may, Dm.form, hn2, hd, hm3], below_one w _⟩
  have i6 : (k == 6) = false := by simp; omega
  have hf : (Dm.form k).known = false := by
    cases h : (Dm.form k).known
    · rfl
    · have := (Dm.form_known k).1 h; omega
  go_enter Tryd.func23, Tryd.ntmps23
  go_wp2
  go_ret
  exact ⟨by simp [Dm.may, hf], below_one w _⟩
end Go.Proofs.YtbmlacmpiaklpaaDoor
