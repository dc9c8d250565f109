/- FcsOf: the walk. -/
import Derived.Test.YtdpgefnnenlehaaWh
namespace Go.Proofs.Ytdpgefnnenlehaa
open Go.RowKit

set_option maxRecDepth 10000 in
set_option maxHeartbeats 1000000 in
theorem of_long (reg : Nat) (a : Option Addr) (cap n : Nat) (wide : Bool) (w : World) (hg : (2000 : Int) < (n : Int)) :
    Calls Try.prog 3 #[.int .u32 (reg : Int), .slice a n cap, .bool wide] w fun e w' => e = .returned (.bool true) ∧ Below w.heap.size w w' := by
  go_enter Try.func3, Try.ntmps3
  go_wp2_with fail
  refine (awake_any _).mono ?_
  rintro e w1 ⟨rfl, b1⟩
  go_wp2_with fail
  refine (awake_any _).mono ?_
  rintro e w2 ⟨rfl, b2⟩
  go_wp2
  go_ret
  exact ⟨rfl, Below.chain b1 b2⟩

set_option maxRecDepth 10000 in
set_option maxHeartbeats 1000000 in
theorem of_short (reg : Nat) (a : Option Addr) (cap : Nat) (xs : List UInt8) (n : Nat) (wide : Bool) (w : World) (hreg : reg < 4294967296) (hn : xs.length = n) (h : RowAt w a cap xs) (hg : ¬ (2000 : Int) < (n : Int)) :
    Calls Try.prog 3 #[.int .u32 (reg : Int), .slice a n cap, .bool wide] w fun e w' => e = .returned (.bool true) ∧ Below w.heap.size w w' := by
  go_enter Try.func3, Try.ntmps3
  go_wp2_with fail
  refine (awake_any _).mono ?_
  rintro e w1 ⟨rfl, b1⟩
  replace h := h.next b1
  go_wp2_with fail
  refine (more_any reg a n cap xs wide w1 hn hreg (by omega) h).mono ?_
  rintro e w2 ⟨rfl, b2⟩
  replace h := h.next b2
  replace b1 := Below.chain b1 b2
  clear b2
  go_wp2_with fail
  refine (refMore_any reg a n cap xs wide w2 hn hreg (by omega) h).mono ?_
  rintro e w3 ⟨rfl, rfl⟩
  go_wp2_with fail
  refine (of_any a n cap xs wide w3 hn (by omega) h).mono ?_
  rintro e w4 ⟨rfl, b2⟩
  replace h := h.next b2
  replace b1 := Below.chain b1 b2
  clear b2
  go_wp2_with fail
  refine (refOf_any a n cap xs wide w4 hn (by omega) h).mono ?_
  rintro e w5 ⟨rfl, rfl⟩
  go_wp2_with fail
  refine (size_any wide _).mono ?_
  rintro e w6 ⟨rfl, rfl⟩
  go_wp2_with fail
  refine (refSize_any wide _).mono ?_
  rintro e w7 ⟨rfl, rfl⟩
  go_wp2
  go_ret
  exact ⟨rfl, b1⟩

theorem of_walk (reg : Nat) (a : Option Addr) (cap : Nat) (xs : List UInt8) (wide : Bool) (w : World) (hreg : reg < 4294967296) (h : RowAt w a cap xs) :
    Calls Try.prog 3 #[.int .u32 (reg : Int), .slice a xs.length cap, .bool wide] w fun e w' => e = .returned (.bool true) ∧ Below w.heap.size w w' := by
  by_cases hg : (2000 : Int) < (xs.length : Int)
  · exact of_long reg a cap xs.length wide w hg
  · exact of_short reg a cap xs xs.length wide w hreg rfl h hg
end Go.Proofs.Ytdpgefnnenlehaa
