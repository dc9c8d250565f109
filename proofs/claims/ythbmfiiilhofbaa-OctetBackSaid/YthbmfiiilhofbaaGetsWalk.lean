/- OctetGets: the walk. -/
import Derived.Test.YthbmfiiilhofbaaWe
namespace Go.Proofs.Ythbmfiiilhofbaa
open Go.RowKit

theorem refGet_at (a : Option Addr) (cap : Nat) (xs : List UInt8) (big : Bool) (w : World) (h1 : 1 ≤ xs.length) (h8 : xs.length ≤ 8) (h : BytesAt w a xs) :
    Calls Try.prog 15 #[.slice a xs.length cap, .bool big] w fun e w' => e = .returned (.int .u64 (Oc.get xs big : Nat)) ∧ w' = w := by
  rcases h with rfl | ⟨b, off, rfl, hb, hc⟩
  · simp at h1
  · exact refGet_some b off cap xs big w h8 hc

set_option maxHeartbeats 2000000 in
set_option maxRecDepth 100000 in
theorem gets_walk (a : Option Addr) (cap : Nat) (xs : List UInt8) (big : Bool) (w : World) (h : RowAt w a cap xs) :
    Calls Try.prog 4 #[.slice a xs.length cap, .bool big] w fun e w' => e = .returned (.bool true) ∧ Below w.heap.size w w' := by
  have hle := h.le
  have hmx := h.max
  unfold maxLen at hmx
  have H := Lib.hid h
  clear h
  by_cases hg : (1000 : Int) < (xs.length : Int)
  · go_enter Try.func4, Try.ntmps4
    go_wp2_with fail
    refine (awake_any _).mono ?_
    rintro e w1 ⟨rfl, b1⟩
    go_wp2_with fail
    refine (awake_any _).mono ?_
    rintro e w2 ⟨rfl, b2⟩
    go_wp2_with fail
    go_ret
    exact ⟨rfl, Below.chain b1 b2⟩
  · by_cases hs : (xs.length : Int) < 1
    · go_enter Try.func4, Try.ntmps4
      go_wp2_with fail
      refine (awake_any _).mono ?_
      rintro e w1 ⟨rfl, b1⟩
      go_wp2_with fail
      refine (get_few a xs.length cap big _ (by omega)).mono ?_
      rintro e w2 ⟨rfl, rfl⟩
      go_wp2_with fail
      go_ret
      exact ⟨rfl, b1⟩
    · by_cases h8 : 8 < (xs.length : Int)
      · go_enter Try.func4, Try.ntmps4
        go_wp2_with fail
        refine (awake_any _).mono ?_
        rintro e w1 ⟨rfl, b1⟩
        go_wp2_with fail
        refine (get_few a xs.length cap big _ (by omega)).mono ?_
        rintro e w2 ⟨rfl, rfl⟩
        go_wp2_with fail
        go_ret
        exact ⟨rfl, b1⟩
      · go_enter Try.func4, Try.ntmps4
        go_wp2_with fail
        refine (awake_any _).mono ?_
        rintro e w1 ⟨rfl, b1⟩
        go_wp2_with fail
        refine (get_at a cap xs big _ (by omega) (by omega) (H.out.next b1).bytes).mono ?_
        rintro e w2 ⟨rfl, rfl⟩
        go_wp2_with fail
        refine (refGet_at a cap xs big _ (by omega) (by omega) (H.out.next b1).bytes).mono ?_
        rintro e w3 ⟨rfl, rfl⟩
        go_wp2_with fail
        go_ret
        exact ⟨rfl, b1⟩
end Go.Proofs.Ythbmfiiilhofbaa
