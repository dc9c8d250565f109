/- Contracts of bit, Has, Apart, With, List, Put and Get. -/
import Derived.Test.YtcbgpolfnaopcaaWc
import Derived.Test.YtcbgpolfnaopcaaPlainb
namespace Go.Proofs.Ytcbgpolfnaopcaa
open Go.RowKit

theorem ret_u32 {a b : Int} (h : a = b) : Ending.returned (.int .u32 a) = .returned (.int .u32 b) := by rw [h]
theorem bit_any (c : Nat) (w : World) : Calls Try.prog 21 #[.int .u8 (c : Int)] w fun e w' => e = .returned (.int .u32 (Ac.bit c : Nat)) ∧ w' = w := by
  go_enter Try.func21, Try.ntmps21
  go_wp2
  go_ret
  exact ⟨ret_u32 (Ac.bit_int c), rfl⟩
theorem has_any (m c : Nat) (w : World) (hm : m < 4294967296) : Calls Try.prog 9 #[.int .u32 (m : Int), .int .u8 (c : Int)] w fun e w' => e = .returned (.bool (Ac.has m c)) ∧ w' = w := by
  go_enter Try.func9, Try.ntmps9
  go_wp2_with (go_at_call 21; refine (bit_any c _).mono ?_; rintro e w' ⟨rfl, rfl⟩)
  go_ret
  exact ⟨ret_bool (Ac.and_int m c hm), rfl⟩
theorem apart_any (m c : Nat) (w : World) (hm : m < 4294967296) : Calls Try.prog 11 #[.int .u32 (m : Int), .int .u8 (c : Int)] w fun e w' => e = .returned (.bool (Ac.apart m c)) ∧ w' = w := by
  by_cases h1 : c = 125
  · subst h1
    go_enter Try.func11, Try.ntmps11
    go_wp2
    go_ret
    exact ⟨rfl, rfl⟩
  · by_cases h2 : c = 126
    · subst h2
      go_enter Try.func11, Try.ntmps11
      go_wp2
      go_ret
      exact ⟨rfl, rfl⟩
    · have i1 : ¬ (c : Int) = 125 := by omega
      have i2 : ¬ (c : Int) = 126 := by omega
      have e : Ac.apart m c = Ac.has m c := by simp [Ac.apart, h1, h2]
      rw [e]
      clear h1 h2 e
      go_enter Try.func11, Try.ntmps11
      go_wp2_with (go_at_call 9; refine (has_any m c _ hm).mono ?_; rintro e w' ⟨rfl, rfl⟩)
      go_ret
      exact ⟨ret_bool (by simp [i1, i2]), rfl⟩

set_option maxHeartbeats 1000000 in
theorem with_some (m b off cap : Nat) (xs : List UInt8) (w : World) (hm : m < 4294967296) (hn : xs.length ≤ 1000000) (hc : ∀ j (h : j < xs.length), w.cell? ⟨b, off + j, none⟩ = some (.int .u8 (xs[j].toNat : Int))) :
    Calls Try.prog 13 #[.int .u32 (m : Int), .slice (some ⟨b, off, none⟩) xs.length cap] w fun e w' => e = .returned (.int .u32 (Ac.withs m xs : Nat)) ∧ w' = w := by
  have Hc := Lib.hid hc
  clear hc
  go_enter Try.func13, Try.ntmps13
  go_wp2
  go_loop [0, 9] (fun v i => ∃ k : Nat, k ≤ xs.length ∧ i = .int .i64 (k : Int) ∧ v = .int .u32 (Ac.withs m (xs.take k) : Nat)) (fun _ i => xs.length - (intOf i).toNat)
  case atStart => exact ⟨0, Nat.zero_le _, rfl, rfl⟩
  case round =>
    obtain ⟨k, hk, rfl, rfl⟩ := hrel
    by_cases hlt : (k : Int) < (xs.length : Int)
    · have hk' : k < xs.length := by omega
      have hcell := Hc.out k hk'
      have hst : Ac.withs m (xs.take (k + 1)) = Ac.withs m (xs.take k) ||| Ac.bit (xs[k]).toNat := by
        rw [List.take_add_one, List.getElem?_eq_getElem hk', Option.toList_some, Ac.withs_snoc]
      have hl := Ac.withs_lt (xs.take k) m hm
      obtain ⟨x, hx⟩ : ∃ x, x = xs[k] := ⟨_, rfl⟩
      rw [← hx] at hcell hst
      clear hx
      obtain ⟨q, hq⟩ : ∃ q, q = Ac.withs m (xs.take k) := ⟨_, rfl⟩
      rw [← hq] at hl hst ⊢
      clear hq
      have hor := Ac.or32 q (Ac.bit x.toNat) hl (Ac.bit_lt _)
      rw [← hst] at hor
      clear hst
      go_wp2_with (go_at_call 21; refine (bit_any x.toNat _).mono ?_; rintro e w' ⟨rfl, rfl⟩)
      go_round
      case rel => exact ⟨k + 1, by omega, by go_num, rfl⟩
      case measure => simp [intOf]; omega
    · go_wp2
      go_ret
      exact ⟨ret_u32 (by rw [List.take_of_length_le (by omega)]), rfl⟩
theorem with_none (m : Nat) (a : Option Addr) (cap : Nat) (w : World) :
    Calls Try.prog 13 #[.int .u32 (m : Int), .slice a 0 cap] w fun e w' => e = .returned (.int .u32 (m : Int)) ∧ w' = w := by
  go_enter Try.func13, Try.ntmps13
  go_wp2
  go_loop [0, 9] (fun v i => i = .int .i64 0 ∧ v = .int .u32 (m : Int)) (fun _ _ => 0)
  case atStart => exact ⟨rfl, rfl⟩
  case round =>
    obtain ⟨rfl, rfl⟩ := hrel
    go_wp2
    go_ret
    exact ⟨rfl, rfl⟩
theorem with_any (m : Nat) (a : Option Addr) (n cap : Nat) (xs : List UInt8) (w : World) (hn : xs.length = n) (hm : m < 4294967296) (hl : n ≤ 1000000) (h : RowAt w a cap xs) :
    Calls Try.prog 13 #[.int .u32 (m : Int), .slice a n cap] w fun e w' => e = .returned (.int .u32 (Ac.withs m xs : Nat)) ∧ w' = w := by
  subst hn
  rcases h.bytes with rfl | ⟨b, off, rfl, hb, hc⟩
  · exact with_none m a cap w
  · exact with_some m b off cap xs w hm hl hc

set_option maxHeartbeats 1000000 in
theorem list_any (m : Nat) (w : World) (hm : m < 4294967296) :
    Calls Try.prog 15 #[.int .u32 (m : Int)] w fun e w' => ∃ v, e = .returned v ∧ w'.ownsRow w.heap.size 5 1 v (Ac.list m 32).length (Lib.byteCells (Ac.list m 32)) ∧ Below w.heap.size w w' := by
  obtain ⟨i0, hi, hz0, hz1, hz2⟩ := info_parts info5
  go_enter Try.func15, Try.ntmps15
  go_wp2
  go_loopw [3, 6] (fun v i wr => ∃ k : Nat, k ≤ 32 ∧ i = .int .i64 (k : Int) ∧ wr.ownsRow w.heap.size 5 1 v (Ac.list m k).length (Lib.byteCells (Ac.list m k)) ∧ Below w.heap.size w wr) (fun _ i _ => 32 - (intOf i).toNat)
  case atStart => exact ⟨0, Nat.zero_le _, rfl, World.ownsRow_nil _ _ _ _, Below.refl _ _⟩
  case round =>
    obtain ⟨k, hk, rfl, hown, hbw⟩ := hrel
    by_cases hlt : (k : Int) < 32
    · have hk8 : (k : Int) % 256 = (k : Int) := by omega
      have hll := Ac.list_length m k
      cases hh : Ac.has m k with
      | true =>
        have hst := Ac.list_in m k hh
        have hkn : (k.toUInt8).toNat = k := by simp [Nat.toUInt8]; omega
        obtain ⟨L, hL⟩ : ∃ L, L = Ac.list m k := ⟨_, rfl⟩
        rw [← hL] at hown hst hll
        have Hst := Lib.hid hst
        clear hst hL
        go_wp2_with (first | (go_at_call 9; refine (has_any m k _ hm).mono ?_; rintro e w' ⟨rfl, rfl⟩) | (at_builtin; refine wpList_append_own _ rfl _ _ 25 rfl w.heap.size 5 i0 (.int .u8 0) 1 1 Try.underlying25 hi hz0 hz1 hz2 rfl (by decide) _ _ _ rfl (hown.alloc _) ⟨w'.heap.size, 0, none⟩ 1 1 [.int .u8 (k : Int)] rfl rfl (cell_one_new _ _ _) (fun u hu => by simp at hu; subst hu; rfl) (by unfold maxLen; omega) (by omega) (by have := hbw.size; simp; omega) ?_; intro v2 w2 hown2 hgr2 _))
        have hbw2 : Below w.heap.size w w2 := Below.grown (hbw.alloc hbw.size _) hgr2 (by have := hbw.size; simp; omega) (fun j hj => (hown.lt j hj).1)
        go_roundw
        case rel => exact ⟨k + 1, by omega, by go_num, by rw [Hst.out, Lib.byteCells_append, List.length_append, List.length_singleton]; simpa [Lib.byteCells, hkn] using hown2, hbw2⟩
        case measure => simp [intOf]; omega
      | false =>
        rw [← Ac.list_out m k hh] at hown
        go_wp2_with (go_at_call 9; refine (has_any m k _ hm).mono ?_; rintro e w' ⟨rfl, rfl⟩)
        go_roundw
        case rel => exact ⟨k + 1, by omega, by go_num, hown, hbw⟩
        case measure => simp [intOf]; omega
    · have hks : k = 32 := by omega
      subst hks
      go_wp2
      go_ret
      exact ⟨_, rfl, hown, hbw⟩

theorem list_row (m : Nat) (w : World) (hm : m < 4294967296) :
    Calls Try.prog 15 #[.int .u32 (m : Int)] w fun e w' => ∃ a c, e = .returned (.slice a (Ac.list m 32).length c) ∧ RowAt w' a c (Ac.list m 32) ∧ Below w.heap.size w w' := by
  refine (list_any m w hm).mono ?_
  rintro e w' ⟨v, rfl, o, b⟩
  obtain ⟨a, c, rfl, r⟩ := rowAt_own rfl o
  exact ⟨a, c, rfl, r, b⟩

theorem put_own (m : Nat) (w : World) (hm : m < 4294967296) :
    Calls Try.prog 19 #[.int .u32 (m : Int)] w fun e w' => ∃ v, e = .returned v ∧ w'.ownsRow w.heap.size 5 1 v 4 (Lib.byteCells (Oc.put m 4 true)) ∧ Below w.heap.size w w' := by
  go_enter Try.func19, Try.ntmps19
  go_wp2_with fail
  refine (put_fits m 4 true _ (by omega) (by omega) (by omega)).mono ?_
  rintro e w1 ⟨v, rfl, o1, b1⟩
  go_wp2
  go_ret
  exact ⟨v, rfl, o1, b1⟩
theorem put_row (m : Nat) (w : World) (hm : m < 4294967296) :
    Calls Try.prog 19 #[.int .u32 (m : Int)] w fun e w' => ∃ a c, e = .returned (.slice a 4 c) ∧ RowAt w' a c (Oc.put m 4 true) ∧ Below w.heap.size w w' := by
  refine (put_own m w hm).mono ?_
  rintro e w' ⟨v, rfl, o, b⟩
  obtain ⟨a, c, rfl, r⟩ := rowAt_own (Oc.put_length _ _ _) o
  exact ⟨a, c, rfl, r, b⟩

theorem get_four (a : Option Addr) (cap : Nat) (xs : List UInt8) (w : World) (hn : xs.length = 4) (h : RowAt w a cap xs) :
    Calls Try.prog 17 #[.slice a 4 cap] w fun e w' => e = .returned (.tuple #[.int .u32 (Oc.get xs true : Nat), .bool true]) ∧ w' = w := by
  have hl := Oc.get_lt xs true
  rw [hn] at hl
  have h22 := get_at a cap xs true w (by omega) (by omega) h.bytes
  rw [hn] at h22
  generalize Oc.get xs true = g at hl h22 ⊢
  go_enter Try.func17, Try.ntmps17
  go_wp2_with fail
  refine h22.mono ?_
  rintro e w1 ⟨rfl, rfl⟩
  have hg : (g : Int) % 4294967296 = (g : Int) := by omega
  go_wp2
  go_ret2
  exact ⟨rfl, rfl⟩
theorem get_not (a : Option Addr) (n cap : Nat) (w : World) (hn : n ≠ 4) :
    Calls Try.prog 17 #[.slice a n cap] w fun e w' => e = .returned (.tuple #[.int .u32 0, .bool false]) ∧ w' = w := by
  have hn' : ¬ (n : Int) = 4 := by omega
  go_enter Try.func17, Try.ntmps17
  go_wp2
  go_ret2
  exact ⟨rfl, rfl⟩
namespace Ac
/-- The map whose bytes these are. -/
def got (xs : List UInt8) : Nat := if xs.length = 4 then Oc.get xs true else 0
theorem got_lt (xs : List UInt8) : got xs < 4294967296 := by
  unfold got
  split
  · have := Oc.get_lt xs true
    rw [‹xs.length = 4›] at this
    omega
  · omega
end Ac
theorem get_row (a : Option Addr) (n cap : Nat) (xs : List UInt8) (w : World) (hn : xs.length = n) (h : RowAt w a cap xs) :
    Calls Try.prog 17 #[.slice a n cap] w fun e w' => e = .returned (.tuple #[.int .u32 (Ac.got xs : Nat), .bool (decide (n = 4))]) ∧ w' = w := by
  by_cases h4 : n = 4
  · subst h4
    unfold Ac.got
    rw [if_pos hn]
    exact get_four a cap xs w hn h
  · unfold Ac.got
    rw [if_neg (by rw [hn]; exact h4), decide_eq_false h4]
    exact get_not a n cap w h4
end Go.Proofs.Ytcbgpolfnaopcaa
