/- Contracts of the document's Same (of two lists that are alike) and Few. -/
import Derived.Test.YtfkjjolohphaoaaRr
namespace Go.Proofs.Ytfkjjolohphaoaa
open Go.RowKit

theorem RecsAt.at {w : World} {a : Option Addr} {L : List Pc.Rcd} (h : RecsAt w a L) (k : Nat) (hk : k < L.length) : ∃ b off p c, a = some ⟨b, off, none⟩ ∧ RecAt w b (off + k * 4) L[k] p c := by
  rcases h with h | ⟨b, off, rfl, _, h⟩
  · rw [h] at hk; simp at hk
  · obtain ⟨p, c, h2⟩ := h k hk
    exact ⟨b, off, p, c, rfl, h2⟩

set_option maxRecDepth 100000 in
set_option maxHeartbeats 4000000 in
theorem same_any (a b : Option Addr) (ca cb n : Nat) (L : List Pc.Rcd) (w : World) (hL : L.length = n) (hn : n ≤ 1000000) (ha : RecsAt w a L) (hb : RecsAt w b L) :
    Calls Try.prog 17 #[.slice a n ca, .slice b n cb] w fun e w' => e = .returned (.bool true) ∧ Below w.heap.size w w' := by
  have HL := Lib.hid hL
  have Ha := Lib.hid ha
  have Hb := Lib.hid hb
  clear hL ha hb
  go_enter Try.func17, Try.ntmps17
  go_wp2
  go_loopw [5] (fun i wr => ∃ k : Nat, k ≤ n ∧ i = .int .i64 (k : Int) ∧ Below w.heap.size w wr) (fun i _ => n - (intOf i).toNat)
  case atStart => exact ⟨0, Nat.zero_le _, rfl, Below.refl _ _⟩
  case round =>
    obtain ⟨k, hk, rfl, hbw⟩ := hrel
    by_cases hlt : (k : Int) < (n : Int)
    · have hkL : k < L.length := by rw [HL.out]; omega
      obtain ⟨b1, o1, p1, c1, rfl, r1⟩ := RecsAt.at (Ha.out.next hbw) k hkL
      obtain ⟨b2, o2, p2, c2, rfl, r2⟩ := RecsAt.at (Hb.out.next hbw) k hkL
      generalize L[k] = r at *
      have k1 := fun m => conv_row rfl (keeps_drewN r1.row m)
      have k2 := fun m => conv_row rfl (keeps_drewN r2.row m)
      have x1 := r1.sec
      have x2 := r1.frac
      have x3 := r1.len
      have x4 := r1.data
      have y1 := r2.sec
      have y2 := r2.frac
      have y3 := r2.len
      have y4 := r2.data
      have HBW := Lib.hid hbw
      clear hkL r1 r2 hbw
      go_wp2_with fail
      go_quiet (fail)
      go_wp2
      go_roundw
      case rel => exact ⟨k + 1, by omega, by go_num, keeps_below HBW.out _⟩
      case measure => simp [intOf]; omega
    · go_wp2
      go_ret
      exact ⟨rfl, hbw⟩
end Go.Proofs.Ytfkjjolohphaoaa
