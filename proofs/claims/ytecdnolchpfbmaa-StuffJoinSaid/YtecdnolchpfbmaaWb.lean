/- Contracts of bit, Has, Apart and List, and of the document's Has and Apart. -/
import Derived.Test.YtecdnolchpfbmaaWa
namespace Go.Proofs.Ytecdnolchpfbmaa
open Go.RowKit

theorem bit_any (c : Nat) (w : World) : Calls Try.prog 17 #[.int .u8 (c : Int)] w fun e w' => e = .returned (.int .u32 (Ac.bit c : Nat)) ∧ w' = w := by
  go_enter Try.func17, Try.ntmps17
  go_wp2
  go_ret
  exact ⟨ret_u32 (Ac.bit_int c), rfl⟩
theorem has_any (m c : Nat) (w : World) (hm : m < 4294967296) : Calls Try.prog 11 #[.int .u32 (m : Int), .int .u8 (c : Int)] w fun e w' => e = .returned (.bool (Ac.has m c)) ∧ w' = w := by
  go_enter Try.func11, Try.ntmps11
  go_wp2_with (go_at_call 17; refine (bit_any c _).mono ?_; rintro e w' ⟨rfl, rfl⟩)
  go_ret
  exact ⟨ret_bool (Ac.and_int m c hm), rfl⟩
theorem apart_any (m c : Nat) (w : World) (hm : m < 4294967296) : Calls Try.prog 21 #[.int .u32 (m : Int), .int .u8 (c : Int)] w fun e w' => e = .returned (.bool (Ac.apart m c)) ∧ w' = w := by
  by_cases h1 : c = 125
  · subst h1
    go_enter Try.func21, Try.ntmps21
    go_wp2
    go_ret
    exact ⟨rfl, rfl⟩
  · by_cases h2 : c = 126
    · subst h2
      go_enter Try.func21, Try.ntmps21
      go_wp2
      go_ret
      exact ⟨rfl, rfl⟩
    · have i1 : ¬ (c : Int) = 125 := by omega
      have i2 : ¬ (c : Int) = 126 := by omega
      have e : Ac.apart m c = Ac.has m c := by simp [Ac.apart, h1, h2]
      rw [e]
      clear h1 h2 e
      go_enter Try.func21, Try.ntmps21
      go_wp2_with (go_at_call 11; refine (has_any m c _ hm).mono ?_; rintro e w' ⟨rfl, rfl⟩)
      go_ret
      exact ⟨ret_bool (by simp [i1, i2]), rfl⟩

set_option maxHeartbeats 1000000 in
theorem list_any (m : Nat) (w : World) (hm : m < 4294967296) :
    Calls Try.prog 13 #[.int .u32 (m : Int)] w fun e w' => ∃ v, e = .returned v ∧ w'.ownsRow w.heap.size 5 1 v (Ac.list m 32).length (Lib.byteCells (Ac.list m 32)) ∧ Below w.heap.size w w' := by
  obtain ⟨i0, hi, hz0, hz1, hz2⟩ := info_parts info5
  go_enter Try.func13, Try.ntmps13
  go_wp2
  go_loopw [3, 6] (fun v i wr => ∃ k : Nat, k ≤ 32 ∧ i = .int .i64 (k : Int) ∧ wr.ownsRow w.heap.size 5 1 v (Ac.list m k).length (Lib.byteCells (Ac.list m k)) ∧ Below w.heap.size w wr) (fun _ i _ => 32 - (intOf i).toNat)
  case atStart => exact ⟨0, Nat.zero_le _, rfl, World.ownsRow_nil _ _ _ _, Below.refl _ _⟩
  case round =>
    obtain ⟨k, hk, rfl, hown, hbw⟩ := hrel
    by_cases hlt : (k : Int) < 32
    · have hk8 : (k : Int) % 256 = (k : Int) := by omega
      have hll := Ac.list_length m k
      cases hh : Ac.has m k with
      | true =>
        have hst := Ac.list_in m k hh
        have hkn : (k.toUInt8).toNat = k := by simp [Nat.toUInt8]; omega
        obtain ⟨L, hL⟩ : ∃ L, L = Ac.list m k := ⟨_, rfl⟩
        rw [← hL] at hown hst hll
        have Hst := Lib.hid hst
        clear hst hL
        go_wp2_with (first | (go_at_call 11; refine (has_any m k _ hm).mono ?_; rintro e w' ⟨rfl, rfl⟩) | (at_builtin; refine wpList_append_own _ rfl _ _ 22 rfl w.heap.size 5 i0 (.int .u8 0) 1 1 Try.underlying22 hi hz0 hz1 hz2 rfl (by decide) _ _ _ rfl (hown.alloc _) ⟨w'.heap.size, 0, none⟩ 1 1 [.int .u8 (k : Int)] rfl rfl (cell_one_new _ _ _) (fun u hu => by simp at hu; subst hu; rfl) (by unfold maxLen; omega) (by omega) (by have := hbw.size; simp; omega) ?_; intro v2 w2 hown2 hgr2 _))
        have hbw2 : Below w.heap.size w w2 := Below.grown (hbw.alloc hbw.size _) hgr2 (by have := hbw.size; simp; omega) (fun j hj => (hown.lt j hj).1)
        go_roundw
        case rel => exact ⟨k + 1, by omega, by go_num, by rw [Hst.out, Lib.byteCells_append, List.length_append, List.length_singleton]; simpa [Lib.byteCells, hkn] using hown2, hbw2⟩
        case measure => simp [intOf]; omega
      | false =>
        rw [← Ac.list_out m k hh] at hown
        go_wp2_with (go_at_call 11; refine (has_any m k _ hm).mono ?_; rintro e w' ⟨rfl, rfl⟩)
        go_roundw
        case rel => exact ⟨k + 1, by omega, by go_num, hown, hbw⟩
        case measure => simp [intOf]; omega
    · have hks : k = 32 := by omega
      subst hks
      go_wp2
      go_ret
      exact ⟨_, rfl, hown, hbw⟩

theorem list_row (m : Nat) (w : World) (hm : m < 4294967296) :
    Calls Try.prog 13 #[.int .u32 (m : Int)] w fun e w' => ∃ a c, e = .returned (.slice a (Ac.list m 32).length c) ∧ RowAt w' a c (Ac.list m 32) ∧ Below w.heap.size w w' := by
  refine (list_any m w hm).mono ?_
  rintro e w' ⟨v, rfl, o, b⟩
  obtain ⟨a, c, rfl, r⟩ := rowAt_own rfl o
  exact ⟨a, c, rfl, r, b⟩

theorem refHas_high (m c : Nat) (w : World) (hc : 31 < c) : Calls Try.prog 20 #[.int .u32 (m : Int), .int .u8 (c : Int)] w fun e w' => e = .returned (.bool false) ∧ w' = w := by
  have hc' : 31 < (c : Int) := by omega
  go_enter Try.func20, Try.ntmps20
  go_wp2
  go_ret
  exact ⟨rfl, rfl⟩
theorem refHas_low (m c : Nat) (w : World) (hm : m < 4294967296) (hc : ¬ 31 < c) : Calls Try.prog 20 #[.int .u32 (m : Int), .int .u8 (c : Int)] w fun e w' => e = .returned (.bool (Ac.has m c)) ∧ w' = w := by
  have hc' : ¬ 31 < (c : Int) := by omega
  go_enter Try.func20, Try.ntmps20
  go_wp2
  go_loop [0, 5] (fun v i => ∃ k : Nat, k ≤ c ∧ i = .int .u8 (k : Int) ∧ v = .int .u32 (m / 2 ^ k : Nat)) (fun _ i => c - (intOf i).toNat)
  case atStart => exact ⟨0, Nat.zero_le _, rfl, by simp⟩
  case round =>
    obtain ⟨k, hk, rfl, rfl⟩ := hrel
    have hle : m / 2 ^ k ≤ m := Nat.div_le_self _ _
    obtain ⟨q, hq⟩ : ∃ q, q = m / 2 ^ k := ⟨_, rfl⟩
    rw [← hq] at hle ⊢
    have Hq := Lib.hid hq
    clear hq
    by_cases hlt : (k : Int) < (c : Int)
    · go_wp2
      go_round
      case rel => exact ⟨k + 1, by omega, by go_num, by rw [Nat.pow_succ, ← Nat.div_div_eq_div_mul, ← Hq.out]; simp⟩
      case measure => simp [intOf]; omega
    · have hks : k = c := by omega
      subst hks
      go_wp2
      go_ret
      refine ⟨ret_bool ?_, rfl⟩
      rw [Ac.has_div, ← Hq.out, Bool.eq_iff_iff]
      simp
      omega
theorem refHas_any (m c : Nat) (w : World) (hm : m < 4294967296) : Calls Try.prog 20 #[.int .u32 (m : Int), .int .u8 (c : Int)] w fun e w' => e = .returned (.bool (Ac.has m c)) ∧ w' = w := by
  by_cases hc : 31 < c
  · rw [Ac.has_high m c hm (by omega)]
    exact refHas_high m c w hc
  · exact refHas_low m c w hm hc
theorem refApart_any (m c : Nat) (w : World) (hm : m < 4294967296) : Calls Try.prog 15 #[.int .u32 (m : Int), .int .u8 (c : Int)] w fun e w' => e = .returned (.bool (Ac.apart m c)) ∧ w' = w := by
  by_cases h1 : c = 125
  · subst h1
    go_enter Try.func15, Try.ntmps15
    go_wp2
    go_ret
    exact ⟨rfl, rfl⟩
  · by_cases h2 : c = 126
    · subst h2
      go_enter Try.func15, Try.ntmps15
      go_wp2
      go_ret
      exact ⟨rfl, rfl⟩
    · have i1 : ¬ (c : Int) = 125 := by omega
      have i2 : ¬ (c : Int) = 126 := by omega
      have e : Ac.apart m c = Ac.has m c := by simp [Ac.apart, h1, h2]
      rw [e]
      clear h1 h2 e
      go_enter Try.func15, Try.ntmps15
      go_wp2_with (go_at_call 20; refine (refHas_any m c _ hm).mono ?_; rintro e w' ⟨rfl, rfl⟩)
      go_ret
      exact ⟨ret_bool (by simp [i1, i2]), rfl⟩

end Go.Proofs.Ytecdnolchpfbmaa
