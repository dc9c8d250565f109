/- Contract of the document's Same (of two lists that are alike). -/
import Derived.Test.YtbbnkmhlgfoacaaDoorCa
namespace Go.Proofs.YtbbnkmhlgfoacaaDoor
open Go.RowKit
open S10

set_option maxRecDepth 100000 in
set_option maxHeartbeats 4000000 in
theorem itsame_any (a b : Option Addr) (ca cb n : Nat) (L : List Cp.It) (w : World) (hL : L.length = n) (hn : n ≤ 1000000) (ha : ItsAt w a L) (hb : ItsAt w b L) :
    Calls Tryd.prog 10 #[.slice a n ca, .slice b n cb] w fun e w' => e = .returned (.bool true) ∧ Below w.heap.size w w' := by
  have HL := Lib.hid hL
  have Ha := Lib.hid ha
  have Hb := Lib.hid hb
  clear hL ha hb
  go_enter Tryd.func10, Tryd.ntmps10
  go_wp2
  go_loopw [5] (fun i wr => ∃ k : Nat, k ≤ n ∧ i = .int .i64 (k : Int) ∧ Below w.heap.size w wr) (fun i _ => n - (intOf i).toNat)
  case atStart => exact ⟨0, Nat.zero_le _, rfl, Below.refl _ _⟩
  case round =>
    obtain ⟨k, hk, rfl, hbw⟩ := hrel
    by_cases hlt : (k : Int) < (n : Int)
    · have hkL : k < L.length := by rw [HL.out]; omega
      obtain ⟨b1, o1, p1, c1, rfl, r1, _⟩ := ItsAt.at (Ha.out.next hbw) k hkL
      obtain ⟨b2, o2, p2, c2, rfl, r2, _⟩ := ItsAt.at (Hb.out.next hbw) k hkL
      generalize L[k] = r at *
      have k1 := fun m => conv_row rfl (keeps_drewN r1.row m)
      have k2 := fun m => conv_row rfl (keeps_drewN r2.row m)
      have x1 := r1.dir
      have x2 := r1.proto
      have x3 := r1.data
      have y1 := r2.dir
      have y2 := r2.proto
      have y3 := r2.data
      have HBW := Lib.hid hbw
      clear hkL r1 r2 hbw
      go_wp2_with fail
      go_quiet (fail)
      go_wp2
      go_roundw
      case rel => exact ⟨k + 1, by omega, by go_num, keeps_below HBW.out _⟩
      case measure => simp [intOf]; omega
    · go_wp2
      go_ret
      exact ⟨rfl, hbw⟩
end Go.Proofs.YtbbnkmhlgfoacaaDoor
