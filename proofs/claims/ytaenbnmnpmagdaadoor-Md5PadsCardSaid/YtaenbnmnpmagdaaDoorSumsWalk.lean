/- The walk of Md5Sums. -/
import Derived.Test.YtaenbnmnpmagdaaDoorRc
import Derived.Test.YtaenbnmnpmagdaaDoorPartsWalk
namespace Go.Proofs.YtaenbnmnpmagdaaDoor
open Go.RowKit

theorem ref_sum (xs : List UInt8) (D : Array Value) (hD : D = (Lib.byteCells (Md.sum xs)).toArray) (h2 : xs.length ≤ 10000) :
    ∀ W a c n, xs.length = n → RowAt W a c xs → Trig W → Calls Tryd.prog 9 #[.slice a n c] W fun e w' => e = .returned (.agg D) ∧ Below W.heap.size W w' := fun W a c n hn hr ht => by
  rw [hD]; exact refSum_at a c n xs W hn (by omega) hr ht

set_option maxHeartbeats 2000000 in
theorem sums_main (a : Option Addr) (cap : Nat) (xs : List UInt8) (w : World) (hl : xs.length ≤ 2000) (h : RowAt w a cap xs) (ht : Tabs w) (hg : Trig w) :
    Calls Tryd.prog 3 #[.slice a xs.length cap] w fun e w' => e = .returned (.bool true) ∧ Below w.heap.size w w' := by
  have HR := Lib.hid h
  have HT := Lib.hid ht
  have HG := Lib.hid hg
  clear h ht hg
  have hg : ¬ 2000 < (xs.length : Int) := by omega
  obtain ⟨D, hD⟩ : ∃ D, D = (Lib.byteCells (Md.sum xs)).toArray := ⟨_, rfl⟩
  have S1 := Lib.hid (sum_parts xs [xs] 1 D hD (by simp) rfl (by omega) (by omega))
  have S2 := Lib.hid (ref_sum xs D hD (by omega))
  have heq : ∀ w, (Op.equalIn 10000 24 (.agg D) (.agg D)).run Tryd.prog w = .ok true w := fun w => by rw [hD]; exact eql_digest _ (sum_length _) w
  have hgu := guard24
  clear hD
  go_enter Tryd.func3, Tryd.ntmps3
  go_wp2_with fail
  refine (awake_any _ HT.out).mono ?_
  rintro e w1 ⟨rfl, b1⟩
  have HP := Lib.hid (parts_one rfl (HR.out.next b1))
  have b2 : Below w1.heap.size w1 (w1.alloc (.cells #[.slice a xs.length cap] 22)) := (Below.refl _ _).alloc (Nat.le_refl _) _
  have HB2 := Lib.hid (Below.chain b1 b2)
  go_wp2_with fail
  refine (S1.out _ _ HP.out (HT.out.next HB2.out)).mono ?_
  rintro e w3 ⟨rfl, b3⟩
  have HB3 := Lib.hid (Below.chain HB2.out b3)
  go_wp2_with fail
  refine (S2.out _ _ _ _ rfl (HR.out.next HB3.out) (HG.out.next HB3.out)).mono ?_
  rintro e w4 ⟨rfl, b4⟩
  go_wp2
  go_ret
  exact ⟨rfl, Below.chain HB3.out b4⟩
set_option maxHeartbeats 1000000 in
theorem sums_long (a : Option Addr) (cap : Nat) (xs : List UInt8) (w : World) (hl : 2000 < xs.length) (ht : Tabs w) :
    Calls Tryd.prog 3 #[.slice a xs.length cap] w fun e w' => e = .returned (.bool true) ∧ Below w.heap.size w w' := by
  have HT := Lib.hid ht
  clear ht
  have hg : 2000 < (xs.length : Int) := by omega
  go_enter Tryd.func3, Tryd.ntmps3
  go_wp2_with fail
  refine (awake_any _ HT.out).mono ?_
  rintro e w1 ⟨rfl, b1⟩
  go_wp2_with fail
  refine (awake_any _ (HT.out.next b1)).mono ?_
  rintro e w2 ⟨rfl, b2⟩
  go_wp2
  go_ret
  exact ⟨rfl, Below.chain b1 b2⟩
theorem sums_walk (a : Option Addr) (cap n : Nat) (xs : List UInt8) (w : World) (hn : xs.length = n) (h : RowAt w a cap xs) (ht : Tabs w) (hg : Trig w) :
    Calls Tryd.prog 3 #[.slice a n cap] w fun e w' => e = .returned (.bool true) ∧ Below w.heap.size w w' := by
  subst hn
  by_cases hl : xs.length ≤ 2000
  · exact sums_main a cap xs w hl h ht hg
  · exact sums_long a cap xs w (by omega) ht
end Go.Proofs.YtaenbnmnpmagdaaDoor
