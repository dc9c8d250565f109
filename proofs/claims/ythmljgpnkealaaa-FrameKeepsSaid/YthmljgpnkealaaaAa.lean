/- Contracts of bit, Has, Apart and List, and of the document's Has and Apart. -/
import Derived.Test.YthmljgpnkealaaaRe
import Derived.Test.YthmljgpnkealaaaPlaina
namespace Go.Proofs.Ythmljgpnkealaaa
open Go.RowKit

theorem bit_any (c : Nat) (w : World) : Calls Try.prog 58 #[.int .u8 (c : Int)] w fun e w' => e = .returned (.int .u32 (Ac.bit c : Nat)) ∧ w' = w := by
  go_enter Try.func58, Try.ntmps58
  go_wp2
  go_ret
  exact ⟨ret_u32 (Ac.bit_int c), rfl⟩
theorem has_any (m c : Nat) (w : World) (hm : m < 4294967296) : Calls Try.prog 52 #[.int .u32 (m : Int), .int .u8 (c : Int)] w fun e w' => e = .returned (.bool (Ac.has m c)) ∧ w' = w := by
  go_enter Try.func52, Try.ntmps52
  go_wp2_with (go_at_call 58; refine (bit_any c _).mono ?_; rintro e w' ⟨rfl, rfl⟩)
  go_ret
  exact ⟨ret_bool (Ac.and_int m c hm), rfl⟩
theorem apart_any (m c : Nat) (w : World) (hm : m < 4294967296) : Calls Try.prog 41 #[.int .u32 (m : Int), .int .u8 (c : Int)] w fun e w' => e = .returned (.bool (Ac.apart m c)) ∧ w' = w := by
  by_cases h1 : c = 125
  · subst h1
    go_enter Try.func41, Try.ntmps41
    go_wp2
    go_ret
    exact ⟨rfl, rfl⟩
  · by_cases h2 : c = 126
    · subst h2
      go_enter Try.func41, Try.ntmps41
      go_wp2
      go_ret
      exact ⟨rfl, rfl⟩
    · have i1 : ¬ (c : Int) = 125 := by omega
      have i2 : ¬ (c : Int) = 126 := by omega
      have e : Ac.apart m c = Ac.has m c := by simp [Ac.apart, h1, h2]
      rw [e]
      clear h1 h2 e
      go_enter Try.func41, Try.ntmps41
      go_wp2_with (go_at_call 52; refine (has_any m c _ hm).mono ?_; rintro e w' ⟨rfl, rfl⟩)
      go_ret
      exact ⟨ret_bool (by simp [i1, i2]), rfl⟩

theorem refHas_high (m c : Nat) (w : World) (hc : 31 < c) : Calls Try.prog 45 #[.int .u32 (m : Int), .int .u8 (c : Int)] w fun e w' => e = .returned (.bool false) ∧ w' = w := by
  have hc' : 31 < (c : Int) := by omega
  go_enter Try.func45, Try.ntmps45
  go_wp2
  go_ret
  exact ⟨rfl, rfl⟩
theorem refHas_low (m c : Nat) (w : World) (hm : m < 4294967296) (hc : ¬ 31 < c) : Calls Try.prog 45 #[.int .u32 (m : Int), .int .u8 (c : Int)] w fun e w' => e = .returned (.bool (Ac.has m c)) ∧ w' = w := by
  have hc' : ¬ 31 < (c : Int) := by omega
  go_enter Try.func45, Try.ntmps45
  go_wp2
  go_loop [0, 5] (fun v i => ∃ k : Nat, k ≤ c ∧ i = .int .u8 (k : Int) ∧ v = .int .u32 (m / 2 ^ k : Nat)) (fun _ i => c - (intOf i).toNat)
  case atStart => exact ⟨0, Nat.zero_le _, rfl, by simp⟩
  case round =>
    obtain ⟨k, hk, rfl, rfl⟩ := hrel
    have hle : m / 2 ^ k ≤ m := Nat.div_le_self _ _
    obtain ⟨q, hq⟩ : ∃ q, q = m / 2 ^ k := ⟨_, rfl⟩
    rw [← hq] at hle ⊢
    have Hq := Lib.hid hq
    clear hq
    by_cases hlt : (k : Int) < (c : Int)
    · go_wp2
      go_round
      case rel => exact ⟨k + 1, by omega, by go_num, by rw [Nat.pow_succ, ← Nat.div_div_eq_div_mul, ← Hq.out]; simp⟩
      case measure => simp [intOf]; omega
    · have hks : k = c := by omega
      subst hks
      go_wp2
      go_ret
      refine ⟨ret_bool ?_, rfl⟩
      rw [Ac.has_div, ← Hq.out, Bool.eq_iff_iff]
      simp
      omega
theorem refHas_any (m c : Nat) (w : World) (hm : m < 4294967296) : Calls Try.prog 45 #[.int .u32 (m : Int), .int .u8 (c : Int)] w fun e w' => e = .returned (.bool (Ac.has m c)) ∧ w' = w := by
  by_cases hc : 31 < c
  · rw [Ac.has_high m c hm (by omega)]
    exact refHas_high m c w hc
  · exact refHas_low m c w hm hc
theorem refApart_any (m c : Nat) (w : World) (hm : m < 4294967296) : Calls Try.prog 33 #[.int .u32 (m : Int), .int .u8 (c : Int)] w fun e w' => e = .returned (.bool (Ac.apart m c)) ∧ w' = w := by
  by_cases h1 : c = 125
  · subst h1
    go_enter Try.func33, Try.ntmps33
    go_wp2
    go_ret
    exact ⟨rfl, rfl⟩
  · by_cases h2 : c = 126
    · subst h2
      go_enter Try.func33, Try.ntmps33
      go_wp2
      go_ret
      exact ⟨rfl, rfl⟩
    · have i1 : ¬ (c : Int) = 125 := by omega
      have i2 : ¬ (c : Int) = 126 := by omega
      have e : Ac.apart m c = Ac.has m c := by simp [Ac.apart, h1, h2]
      rw [e]
      clear h1 h2 e
      go_enter Try.func33, Try.ntmps33
      go_wp2_with (go_at_call 45; refine (refHas_any m c _ hm).mono ?_; rintro e w' ⟨rfl, rfl⟩)
      go_ret
      exact ⟨ret_bool (by simp [i1, i2]), rfl⟩

end Go.Proofs.Ythmljgpnkealaaa
