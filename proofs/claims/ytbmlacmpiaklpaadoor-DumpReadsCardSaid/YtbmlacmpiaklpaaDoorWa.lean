/- Contracts of octet's Fits, place and Get. -/
import Derived.Test.YtbmlacmpiaklpaaDoorChecked
import Derived.Test.YtbmlacmpiaklpaaDoorPlain
import Derived.WalkKit
import Derived.WalkSpells
import Derived.WalkLawsBesides
import Derived.Lib.OthersKept
import Derived.Lib.Hide
import Derived.BigQuiet
import Derived.Deep.QuietTactic
namespace Go.Proofs.YtbmlacmpiaklpaaDoor
open Go.RowKit

theorem ret_bool {a b : Bool} (h : a = b) : Ending.returned (.bool a) = .returned (.bool b) := by rw [h]
theorem ret_int {k : IntKind} {a b : Int} (h : a = b) : Ending.returned (.int k a) = .returned (.int k b) := by rw [h]
theorem ret_u64b {a b : Int} {c d : Bool} (h : a = b) (g : c = d) : Ending.returned (.tuple #[.int .u64 a, .bool c]) = .returned (.tuple #[.int .u64 b, .bool d]) := by rw [h, g]

/-- The bytes that a slice holds. -/
def BytesAt (w : World) (a : Option Addr) (xs : List UInt8) : Prop :=
  xs = [] ∨ ∃ b off, a = some ⟨b, off, none⟩ ∧ b < w.heap.size ∧ ∀ j (h : j < xs.length), w.cell? ⟨b, off + j, none⟩ = some (.int .u8 (xs[j].toNat : Int))
theorem BytesAt.below {w w' : World} {B : Nat} {a : Option Addr} {xs : List UInt8} (h : BytesAt w a xs) (hb : Below B w w') (hB : ∀ b off, a = some ⟨b, off, none⟩ → b < w.heap.size → b < B) : BytesAt w' a xs := by
  rcases h with rfl | ⟨b, off, rfl, h1, h2⟩
  · exact .inl rfl
  · exact .inr ⟨b, off, rfl, Nat.lt_of_lt_of_le h1 hb.size, fun j hj => by rw [hb.cell (p := ⟨b, off + j, none⟩) (hB b off rfl h1)]; exact h2 j hj⟩
theorem BytesAt.next {w w' : World} {a : Option Addr} {xs : List UInt8} (h : BytesAt w a xs) (hb : Below w.heap.size w w') : BytesAt w' a xs := h.below hb fun _ _ _ h => h
theorem Below.chain {a b c : World} (h : Below a.heap.size a b) (k : Below b.heap.size b c) : Below a.heap.size a c := h.trans (k.mono h.size)

theorem fits_any (n : Nat) (size : Int) (w : World) :
    Calls Tryd.prog 27 #[.int .u64 (n : Int), .int .i64 size] w fun e w' => e = .returned (.bool (Oc.fits n size)) ∧ w' = w := by
  by_cases h1 : 1 ≤ size
  · by_cases h2 : size ≤ 8
    · obtain ⟨s, rfl⟩ := Int.eq_ofNat_of_zero_le (by omega : 0 ≤ size)
      go_enter Tryd.func27, Tryd.ntmps27
      go_wp2
      go_ret
      refine ⟨ret_bool ?_, rfl⟩
      rw [Oc.fits_in n s (by omega) (by omega), Oc.shr_test]
    · go_enter Tryd.func27, Tryd.ntmps27
      go_wp2
      go_ret
      exact ⟨ret_bool (by simp [Oc.fits]; omega), rfl⟩
  · go_enter Tryd.func27, Tryd.ntmps27
    go_wp2
    go_ret
    exact ⟨ret_bool (by simp [Oc.fits]; omega), rfl⟩

theorem place_any (i size : Nat) (big : Bool) (w : World) (h : i < size) (hs : size ≤ 1000) :
    Calls Tryd.prog 31 #[.int .i64 (i : Int), .int .i64 (size : Int), .bool big] w fun e w' => e = .returned (.int .i64 (Oc.at' i size big : Nat)) ∧ w' = w := by
  have i1 : (i : Int) < (size : Int) := by omega
  have i2 : (size : Int) ≤ 1000 := by omega
  cases big
  · go_enter Tryd.func31, Tryd.ntmps31
    go_wp2
    go_ret
    exact ⟨rfl, rfl⟩
  · go_enter Tryd.func31, Tryd.ntmps31
    go_wp2
    go_ret
    exact ⟨ret_int (by unfold Oc.at'; rw [if_pos rfl]; omega), rfl⟩

theorem get_few (a : Option Addr) (len cap : Nat) (big : Bool) (w : World) (h : len < 1 ∨ 8 < len) :
    Calls Tryd.prog 26 #[.slice a len cap, .bool big] w fun e w' => e = .returned (.tuple #[.int .u64 0, .bool false]) ∧ w' = w := by
  rcases h with h | h
  · have i1 : (len : Int) < 1 := by omega
    go_enter Tryd.func26, Tryd.ntmps26
    go_wp2
    go_ret2
    exact ⟨rfl, rfl⟩
  · have i1 : ¬ (len : Int) < 1 := by omega
    have i2 : 8 < (len : Int) := by omega
    go_enter Tryd.func26, Tryd.ntmps26
    go_wp2
    go_ret2
    exact ⟨rfl, rfl⟩

set_option maxHeartbeats 1000000 in
theorem get_some (b off cap : Nat) (xs : List UInt8) (big : Bool) (w : World) (h1 : 1 ≤ xs.length) (h8 : xs.length ≤ 8) (hc : ∀ j (h : j < xs.length), w.cell? ⟨b, off + j, none⟩ = some (.int .u8 (xs[j].toNat : Int))) :
    Calls Tryd.prog 26 #[.slice (some ⟨b, off, none⟩) xs.length cap, .bool big] w fun e w' => e = .returned (.tuple #[.int .u64 (Oc.get xs big : Nat), .bool true]) ∧ w' = w := by
  have Hc := Lib.hid hc
  clear hc
  have i1 : ¬ (xs.length : Int) < 1 := by omega
  have i2 : ¬ 8 < (xs.length : Int) := by omega
  go_enter Tryd.func26, Tryd.ntmps26
  go_wp2
  go_loop [7, 18] (fun n i => ∃ k : Nat, k ≤ xs.length ∧ i = .int .i64 (k : Int) ∧ n = .int .u64 (Oc.val ((Oc.turn big xs).take k) : Nat)) (fun _ i => xs.length - (intOf i).toNat)
  case atStart => exact ⟨0, Nat.zero_le _, rfl, rfl⟩
  case round =>
    obtain ⟨k, hk, rfl, rfl⟩ := hrel
    by_cases hlt : (k : Int) < (xs.length : Int)
    · have hk' : k < xs.length := by omega
      have hat := Oc.at_lt k xs.length big hk'
      have hat' : ((Oc.at' k xs.length big : Nat) : Int) < (xs.length : Int) := by omega
      have hcell := Hc.out (Oc.at' k xs.length big) hat
      obtain ⟨x, hx⟩ : ∃ x, x = xs[Oc.at' k xs.length big] := ⟨_, rfl⟩
      rw [← hx] at hcell
      have hvl : Oc.val ((Oc.turn big xs).take k) < 256 ^ k := by
        have := Oc.val_lt ((Oc.turn big xs).take k)
        rw [List.length_take, Oc.turn_length, Nat.min_eq_left hk] at this
        exact this
      have hor := Oc.or_join (Oc.val ((Oc.turn big xs).take k)) x k (by omega) hvl
      have hst : Oc.val ((Oc.turn big xs).take k) + x.toNat * 256 ^ k = Oc.val ((Oc.turn big xs).take (k + 1)) := by
        have e : (Oc.turn big xs).take (k + 1) = (Oc.turn big xs).take k ++ [x] := by
          rw [List.take_add_one, Oc.turn_get big xs k hk', List.getElem?_eq_getElem hat, ← hx]; rfl
        rw [e, Oc.val_snoc, List.length_take, Oc.turn_length, Nat.min_eq_left hk]
      have Hst := Lib.hid hst
      clear hst hx hvl
      go_wp2_with (go_at_call 31; refine (place_any k xs.length big _ hk' (by omega)).mono ?_; rintro e w' ⟨rfl, rfl⟩)
      go_round
      case rel => exact ⟨k + 1, by omega, by go_num, by rw [← Hst.out, Oc.shl2 x k (by omega), hor]⟩
      case measure => simp [intOf]; omega
    · go_wp2
      go_ret2
      exact ⟨ret_u64b (by rw [List.take_of_length_le (by rw [Oc.turn_length]; omega)]; rfl) rfl, rfl⟩

theorem get_at (a : Option Addr) (cap : Nat) (xs : List UInt8) (big : Bool) (w : World) (h1 : 1 ≤ xs.length) (h8 : xs.length ≤ 8) (h : BytesAt w a xs) :
    Calls Tryd.prog 26 #[.slice a xs.length cap, .bool big] w fun e w' => e = .returned (.tuple #[.int .u64 (Oc.get xs big : Nat), .bool true]) ∧ w' = w := by
  rcases h with rfl | ⟨b, off, rfl, hb, hc⟩
  · simp at h1
  · exact get_some b off cap xs big w h1 h8 hc

end Go.Proofs.YtbmlacmpiaklpaaDoor
