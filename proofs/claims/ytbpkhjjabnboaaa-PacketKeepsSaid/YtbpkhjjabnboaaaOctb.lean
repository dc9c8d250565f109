/- Contract of octet's Behind, at a place within (NS=S2, behind Oct). -/
import Derived.Test.YtbpkhjjabnboaaaOct
namespace Go.Proofs.Ytbpkhjjabnboaaa.S2
open Go.RowKit

set_option maxHeartbeats 1000000 in
theorem behind_in (a : Option Addr) (cap : Nat) (xs : List UInt8) (l : Nat) (w : World) (hm : xs.length ≤ 300000) (h : RowAt w a cap xs) (hl : l ≤ xs.length) :
    Calls Try.prog 36 #[.slice a xs.length cap, .int .i64 (l : Int)] w fun e w' => ∃ v, e = .returned v ∧ w'.ownsRow w.heap.size 5 1 v (xs.drop l).length (Lib.byteCells (xs.drop l)) ∧ Below w.heap.size w w' := by
  have hle := h.le
  have hcut := h.cut l xs.length hl (Nat.le_refl _)
  rw [List.take_length] at hcut
  have hyl : (xs.drop l).length = xs.length - l := by simp
  obtain ⟨ys, hy⟩ : ∃ ys, ys = xs.drop l := ⟨_, rfl⟩
  rw [← hy] at hcut hyl ⊢
  clear hy
  have hfl : [ys].flatten = ys := by simp
  have HF := Lib.hid hfl
  clear hfl
  by_cases hcl : cap = l
  · rw [if_pos hcl, hcl, Nat.sub_self] at hcut
    have hxl : xs.length = l := by omega
    have hyl0 : ys.length = 0 := by omega
    have Hyl := Lib.hid hyl0
    have hcx : cap = xs.length := by omega
    have Hcut := Lib.hid hcut
    clear hcut h hyl0 hyl hcl
    subst hcx
    subst hxl
    go_enter Try.func36, Try.ntmps36
    go_wp2_with (go_at_call 23; refine (join_at _ 1 1 [ys] ys _ rfl HF.out (by simp) (by have := Hyl.out; omega) (parts_one Hyl.out Hcut.out)).mono ?_; rintro e w' ⟨v, rfl, o1, b1⟩)
    go_ret
    exact ⟨v, rfl, ownsRow_lower o1 (by simp), below_alloc b1⟩
  · rw [if_neg hcl] at hcut
    have Hcut := Lib.hid hcut
    have Hyl := Lib.hid hyl
    clear hcut h hyl
    have i1 : ¬ (xs.length : Int) < (l : Int) := by omega
    go_enter Try.func36, Try.ntmps36
    go_wp2_with (go_at_call 23; refine (join_at _ 1 1 [ys] ys _ rfl HF.out (by simp) (by have := Hyl.out; omega) (parts_one Hyl.out Hcut.out)).mono ?_; rintro e w' ⟨v, rfl, o1, b1⟩)
    go_ret
    exact ⟨v, rfl, ownsRow_lower o1 (by simp), below_alloc b1⟩
end Go.Proofs.Ytbpkhjjabnboaaa.S2
