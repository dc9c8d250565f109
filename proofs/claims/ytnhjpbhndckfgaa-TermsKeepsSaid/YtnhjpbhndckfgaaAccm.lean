/- Contracts of accm's calls and of the document's. -/
import Derived.Test.YtnhjpbhndckfgaaBa
import Derived.Test.YtnhjpbhndckfgaaBb
import Derived.Test.YtnhjpbhndckfgaaOct
import Derived.Test.YtnhjpbhndckfgaaPlainac
namespace Go.Proofs.Ytnhjpbhndckfgaa.S5
open Go.RowKit
open S2

theorem ret_u32 {a b : Int} (h : a = b) : Ending.returned (.int .u32 a) = .returned (.int .u32 b) := by rw [h]
theorem put_own (m : Nat) (w : World) (hm : m < 4294967296) :
    Calls Try.prog 48 #[.int .u32 (m : Int)] w fun e w' => ∃ v, e = .returned v ∧ w'.ownsRow w.heap.size 5 1 v 4 (Lib.byteCells (Oc.put m 4 true)) ∧ Below w.heap.size w w' := by
  go_enter Try.func48, Try.ntmps48
  go_wp2_with fail
  refine (put_fits m 4 true _ (by omega) (by omega) (by omega)).mono ?_
  rintro e w1 ⟨v, rfl, o1, b1⟩
  go_wp2
  go_ret
  exact ⟨v, rfl, o1, b1⟩
theorem put_row (m : Nat) (w : World) (hm : m < 4294967296) :
    Calls Try.prog 48 #[.int .u32 (m : Int)] w fun e w' => ∃ a c, e = .returned (.slice a 4 c) ∧ RowAt w' a c (Oc.put m 4 true) ∧ Below w.heap.size w w' := by
  refine (put_own m w hm).mono ?_
  rintro e w' ⟨v, rfl, o, b⟩
  obtain ⟨a, c, rfl, r⟩ := rowAt_own (Oc.put_length _ _ _) o
  exact ⟨a, c, rfl, r, b⟩

theorem get_four (a : Option Addr) (cap : Nat) (xs : List UInt8) (w : World) (hn : xs.length = 4) (h : RowAt w a cap xs) :
    Calls Try.prog 50 #[.slice a 4 cap] w fun e w' => e = .returned (.tuple #[.int .u32 (Oc.get xs true : Nat), .bool true]) ∧ w' = w := by
  have hl := Oc.get_lt xs true
  rw [hn] at hl
  have h22 := S2.get_at a cap xs true w (by omega) (by omega) h.bytes
  rw [hn] at h22
  generalize Oc.get xs true = g at hl h22 ⊢
  go_enter Try.func50, Try.ntmps50
  go_wp2_with fail
  refine h22.mono ?_
  rintro e w1 ⟨rfl, rfl⟩
  have hg : (g : Int) % 4294967296 = (g : Int) := by omega
  go_wp2
  go_ret2
  exact ⟨rfl, rfl⟩
theorem get_not (a : Option Addr) (n cap : Nat) (w : World) (hn : n ≠ 4) :
    Calls Try.prog 50 #[.slice a n cap] w fun e w' => e = .returned (.tuple #[.int .u32 0, .bool false]) ∧ w' = w := by
  have hn' : ¬ (n : Int) = 4 := by omega
  go_enter Try.func50, Try.ntmps50
  go_wp2
  go_ret2
  exact ⟨rfl, rfl⟩
namespace Ac
/-- The map whose bytes these are. -/
def got (xs : List UInt8) : Nat := if xs.length = 4 then Oc.get xs true else 0
theorem got_lt (xs : List UInt8) : got xs < 4294967296 := by
  unfold got
  split
  · have := Oc.get_lt xs true
    rw [‹xs.length = 4›] at this
    omega
  · omega
end Ac
theorem get_row (a : Option Addr) (n cap : Nat) (xs : List UInt8) (w : World) (hn : xs.length = n) (h : RowAt w a cap xs) :
    Calls Try.prog 50 #[.slice a n cap] w fun e w' => e = .returned (.tuple #[.int .u32 (Ac.got xs : Nat), .bool (decide (n = 4))]) ∧ w' = w := by
  by_cases h4 : n = 4
  · subst h4
    unfold Ac.got
    rw [if_pos hn]
    exact get_four a cap xs w hn h
  · unfold Ac.got
    rw [if_neg (by rw [hn]; exact h4), decide_eq_false h4]
    exact get_not a n cap w h4
end Go.Proofs.Ytnhjpbhndckfgaa.S5
