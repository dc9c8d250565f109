/- DigitsBack: the walk, at every input. -/
import Derived.Test.YtiiaahhdlgoklaaDoorBackWalk
namespace Go.Proofs.YtiiaahhdlgoklaaDoor
open Go.RowKit Go.Sort

set_option maxHeartbeats 1000000 in
set_option maxRecDepth 100000 in
theorem back_walk (n m : Nat) (a : Option Addr) (cap : Nat) (xs : List UInt8) (s : ByteArray) (w : World) (hn : n < 18446744073709551616) (hm : m < 18446744073709551616) (_hl : xs.length ≤ maxLen) (_hs : s.size ≤ maxLen) (hx : BytesAt w a xs) (ht : Tabs w) :
    Calls Tryd.prog 5 #[.int .u64 (n : Int), .int .u64 (m : Int), .slice a xs.length cap, .string s] w fun e w' => e = .returned (.bool true) ∧ Below w.heap.size w w' := by
  unfold maxLen at _hl _hs
  by_cases hg : (2000 : Int) < (xs.length : Int)
  · have HT := Lib.hid ht
    clear ht hx
    go_enter Tryd.func5, Tryd.ntmps5
    go_wp2_with fail
    refine (awake_any _ HT.out).mono ?_
    rintro e w1 ⟨rfl, b1⟩
    go_wp2_with fail
    refine (awake_any _ (HT.out.next b1)).mono ?_
    rintro e w2 ⟨rfl, b2⟩
    go_wp2_with fail
    go_ret
    exact ⟨rfl, Below.chain b1 b2⟩
  · by_cases hg2 : (2000 : Int) < (s.size : Int)
    · have HT := Lib.hid ht
      clear ht hx
      go_enter Tryd.func5, Tryd.ntmps5
      go_wp2_with fail
      refine (awake_any _ HT.out).mono ?_
      rintro e w1 ⟨rfl, b1⟩
      go_wp2_with fail
      refine (awake_any _ (HT.out.next b1)).mono ?_
      rintro e w2 ⟨rfl, b2⟩
      go_wp2_with fail
      go_ret
      exact ⟨rfl, Below.chain b1 b2⟩
    · exact back_main n m a cap xs s w hn hm hg hg2 hx ht
end Go.Proofs.YtiiaahhdlgoklaaDoor
