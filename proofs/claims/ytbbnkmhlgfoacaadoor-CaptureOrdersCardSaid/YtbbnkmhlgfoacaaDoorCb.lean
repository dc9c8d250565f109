/- Contracts of capture's small functions. -/
import Derived.Test.YtbbnkmhlgfoacaaDoorCa
namespace Go.Proofs.YtbbnkmhlgfoacaaDoor
open Go.RowKit
open S10

theorem isRead_any (k : Nat) (w : World) : Calls Tryd.prog 39 #[.int .u32 (k : Int)] w fun e w' => e = .returned (.bool (Cp.isLink k)) ∧ w' = w := by
  unfold Cp.isLink
  by_cases h1 : k = 9
  · subst h1
    go_enter Tryd.func39, Tryd.ntmps39
    go_wp2
    go_ret
    exact ⟨rfl, rfl⟩
  · have e1 : ((k : Int) == 9) = false := by simp; omega
    have f1 : (k == 9) = false := by simp [h1]
    by_cases h2 : k = 50
    · subst h2
      go_enter Tryd.func39, Tryd.ntmps39
      go_wp2
      go_ret
      exact ⟨rfl, rfl⟩
    · have e2 : ((k : Int) == 50) = false := by simp; omega
      have f2 : (k == 50) = false := by simp [h2]
      have e3 : ((k : Int) == 204) = (k == 204) := by rw [Bool.eq_iff_iff]; simp only [beq_iff_eq]; omega
      rw [f1, f2]
      generalize (k == 204) = b at *
      go_enter Tryd.func39, Tryd.ntmps39
      go_wp2
      go_ret
      exact ⟨by simp, rfl⟩
theorem markOf_any (x : Cp.It) (w : World) : Calls Tryd.prog 30 #[.int .i64 x.dir] w fun e w' => e = .returned (.int .u8 ((Cp.markOf x).toNat : Int)) ∧ w' = w := by
  unfold Cp.markOf
  generalize x.dir = d
  by_cases h : d = 1
  · subst h
    go_enter Tryd.func30, Tryd.ntmps30
    go_wp2
    go_ret
    exact ⟨rfl, rfl⟩
  · have e1 : (d == 1) = false := by simp [h]
    rw [if_neg h]
    go_enter Tryd.func30, Tryd.ntmps30
    go_wp2
    go_ret
    exact ⟨rfl, rfl⟩
theorem kindOf_any (x : Cp.It) (w : World) : Calls Tryd.prog 36 #[.int .i64 x.dir] w fun e w' => e = .returned (.int .i64 (Cp.kind x)) ∧ w' = w := by
  unfold Cp.kind
  generalize x.dir = d
  by_cases h : d = 1
  · subst h
    go_enter Tryd.func36, Tryd.ntmps36
    go_wp2
    go_ret
    exact ⟨rfl, rfl⟩
  · have e1 : (d == 1) = false := by simp [h]
    rw [if_neg h]
    go_enter Tryd.func36, Tryd.ntmps36
    go_wp2
    go_ret
    exact ⟨rfl, rfl⟩
def mapAt (d : Int) (c : Cp.Cf) : Nat := if d = 1 then c.accm else 0
theorem mapOf_any (d : Int) (x : Xc) (w : World) : Calls Tryd.prog 34 #[.int .i64 d, .agg (ccells x).toArray] w fun e w' => e = .returned (.int .u32 (mapAt d x.c : Int)) ∧ Below w.heap.size w w' := by
  obtain ⟨n0, n1, n2, n3, s1, s2, ⟨cd, m, wd⟩⟩ := x
  simp only [ccells, mapAt]
  by_cases h : d = 1
  · subst h
    go_enter Tryd.func34, Tryd.ntmps34
    go_wp2
    go_ret
    exact ⟨rfl, below_one w _⟩
  · have e1 : (d == 1) = false := by simp [h]
    rw [if_neg h]
    go_enter Tryd.func34, Tryd.ntmps34
    go_wp2
    go_ret
    exact ⟨rfl, below_one w _⟩
theorem capMay_any (x : Cp.It) (p : Option Addr) (c : Nat) (w : World) (hm : x.data.length ≤ 1000000000) : Calls Tryd.prog 15 #[.agg (icells x (.slice p x.data.length c)).toArray] w fun e w' => e = .returned (.bool (Cp.may x)) ∧ Below w.heap.size w w' := by
  obtain ⟨d, q, xs⟩ := x
  simp only [icells, Cp.may] at hm ⊢
  generalize xs.length = n at *
  have hmay := fun W => S8.may_any q W
  have hw : ∀ o, Below w.heap.size w (w.alloc o) := fun o => below_one w o
  by_cases hd : d = 1 ∨ d = 2
  · have e0 : (d == 1 || d == 2) = true := by simpa using hd
    rw [e0]
    cases hb : S8.Hd.may q with
    | false =>
      rw [hb] at hmay
      rcases hd with rfl | rfl
      · go_enter Tryd.func15, Tryd.ntmps15
        go_wp2_with (first | (go_at_call 29; refine (hmay _).mono ?_; rintro e w1 ⟨rfl, h⟩; rw [h]; clear h))
        go_ret
        exact ⟨by simp, hw _⟩
      · go_enter Tryd.func15, Tryd.ntmps15
        go_wp2_with (first | (go_at_call 29; refine (hmay _).mono ?_; rintro e w1 ⟨rfl, h⟩; rw [h]; clear h))
        go_ret
        exact ⟨by simp, hw _⟩
    | true =>
      rw [hb] at hmay
      have e3 : decide ((n : Int) ≤ 65531) = decide (n ≤ 65531) := by rw [decide_eq_decide]; omega
      generalize decide (n ≤ 65531) = b at *
      rcases hd with rfl | rfl
      · go_enter Tryd.func15, Tryd.ntmps15
        go_wp2_with (first | (go_at_call 29; refine (hmay _).mono ?_; rintro e w1 ⟨rfl, h⟩; rw [h]; clear h))
        go_ret
        exact ⟨by simp, hw _⟩
      · go_enter Tryd.func15, Tryd.ntmps15
        go_wp2_with (first | (go_at_call 29; refine (hmay _).mono ?_; rintro e w1 ⟨rfl, h⟩; rw [h]; clear h))
        go_ret
        exact ⟨by simp, hw _⟩
  · have h1 : ¬ d = 1 := fun e => hd (.inl e)
    have h2 : ¬ d = 2 := fun e => hd (.inr e)
    have e1 : (d == 1) = false := by simp [h1]
    have e2 : (d == 2) = false := by simp [h2]
    rw [e1, e2]
    go_enter Tryd.func15, Tryd.ntmps15
    go_wp2
    go_ret
    exact ⟨by simp, hw _⟩
theorem name1_any (w : World) : Calls Tryd.prog 121 #[.agg #[]] w fun e w' => e = .returned (.int .i64 1) ∧ Below w.heap.size w w' := by
  go_enter Tryd.func121, Tryd.ntmps121
  go_wp2
  go_ret
  exact ⟨rfl, below_one w _⟩
theorem name2_any (w : World) : Calls Tryd.prog 122 #[.agg #[]] w fun e w' => e = .returned (.int .i64 2) ∧ Below w.heap.size w w' := by
  go_enter Tryd.func122, Tryd.ntmps122
  go_wp2
  go_ret
  exact ⟨rfl, below_one w _⟩
theorem invoke1 (x : Value) (w : World) : (invoke (.fn (.method "umpire/capture.name") #[]) #[.iface 62 x]).run Tryd.prog w = .ok (.enter 121 #[x]) w := by kernel_rfl
theorem invoke2 (x : Value) (w : World) : (invoke (.fn (.method "umpire/capture.name") #[]) #[.iface 64 x]).run Tryd.prog w = .ok (.enter 122 #[x]) w := by kernel_rfl
end Go.Proofs.YtbbnkmhlgfoacaaDoor
