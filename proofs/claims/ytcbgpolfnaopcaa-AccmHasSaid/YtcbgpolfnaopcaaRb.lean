/- Contract of the document's With. -/
import Derived.Test.YtcbgpolfnaopcaaRa
namespace Go.Proofs.Ytcbgpolfnaopcaa
open Go.RowKit

set_option maxHeartbeats 2000000 in
theorem refWith_some (m b off cap : Nat) (xs : List UInt8) (w : World) (hm : m < 4294967296) (hn : xs.length ≤ 1000000) (hc : ∀ j (h : j < xs.length), w.cell? ⟨b, off + j, none⟩ = some (.int .u8 (xs[j].toNat : Int))) :
    Calls Try.prog 14 #[.int .u32 (m : Int), .slice (some ⟨b, off, none⟩) xs.length cap] w fun e w' => e = .returned (.int .u32 (Ac.withs m xs : Nat)) ∧ w' = w := by
  have Hc := Lib.hid hc
  clear hc
  go_enter Try.func14, Try.ntmps14
  go_wp2
  go_loop [0, 5] (fun v i => ∃ k : Nat, k ≤ xs.length ∧ i = .int .i64 (k : Int) ∧ v = .int .u32 (Ac.withs m (xs.take k) : Nat)) (fun _ i => xs.length - (intOf i).toNat)
  case atStart => exact ⟨0, Nat.zero_le _, rfl, rfl⟩
  case round =>
    obtain ⟨k, hk, rfl, rfl⟩ := hrel
    by_cases hlt : (k : Int) < (xs.length : Int)
    · have hk' : k < xs.length := by omega
      have hcell := Hc.out k hk'
      have hst : Ac.withs m (xs.take (k + 1)) = Ac.withs m (xs.take k) ||| Ac.bit (xs[k]).toNat := by
        rw [List.take_add_one, List.getElem?_eq_getElem hk', Option.toList_some, Ac.withs_snoc]
      have hl := Ac.withs_lt (xs.take k) m hm
      have hl2 := Ac.withs_lt (xs.take (k + 1)) m hm
      obtain ⟨x, hx⟩ : ∃ x, x = (xs[k]).toNat := ⟨_, rfl⟩
      rw [← hx] at hcell hst
      clear hx
      obtain ⟨q, hq⟩ : ∃ q, q = Ac.withs m (xs.take k) := ⟨_, rfl⟩
      rw [← hq] at hl hst ⊢
      clear hq
      by_cases h32 : (x : Int) < 32
      · cases hh : Ac.has q x with
        | true =>
          rw [Ac.or_eq q x hh] at hst
          rw [hst] at hl2
          have Hst := Lib.hid hst
          clear hst
          go_wp2_with (go_at_call 10; refine (refHas_any q x _ hl).mono ?_; rintro e w' ⟨rfl, rfl⟩)
          go_round
          case rel => exact ⟨k + 1, by omega, by go_num, by rw [Hst.out]⟩
          case measure => simp [intOf]; omega
        | false =>
          rw [Ac.or_add q x hl (by omega) hh] at hst
          rw [hst] at hl2
          have Hst := Lib.hid hst
          clear hst
          go_wp2_with (go_at_call 10; refine (refHas_any q x _ hl).mono ?_; rintro e w' ⟨rfl, rfl⟩)
          go_loop [6, 7] (fun v i => ∃ j : Nat, j ≤ x ∧ i = .int .u8 (j : Int) ∧ v = .int .u32 (2 ^ j : Nat)) (fun _ i => x - (intOf i).toNat)
          case atStart => exact ⟨0, Nat.zero_le _, rfl, rfl⟩
          case round =>
            obtain ⟨j, hj, rfl, rfl⟩ := hrel
            by_cases hjx : (j : Int) < (x : Int)
            · have hp : 2 ^ (j + 1) ≤ 2 ^ x := Nat.pow_le_pow_right (by omega) (by omega)
              have hps : 2 ^ (j + 1) = 2 ^ j * 2 := Nat.pow_succ ..
              generalize 2 ^ x = X at hl2 hp Hst
              obtain ⟨p, hpj⟩ : ∃ p, p = 2 ^ j := ⟨_, rfl⟩
              rw [← hpj] at hps ⊢
              have Hps := Lib.hid hps
              rw [hps] at hp
              clear hps hpj
              go_wp2
              go_round
              case rel => exact ⟨j + 1, by omega, by go_num, by rw [Hps.out]; simp⟩
              case measure => simp [intOf]; omega
            · have hjs : j = x := by omega
              subst hjs
              obtain ⟨p, hpj⟩ : ∃ p, p = 2 ^ j := ⟨_, rfl⟩
              rw [← hpj] at hl2 Hst ⊢
              clear hpj
              go_wp2
              go_round
              case rel => exact ⟨k + 1, by omega, by go_num, by rw [Hst.out]; simp⟩
              case measure => simp [intOf]; omega
      · rw [Ac.or_high q x (by omega)] at hst
        rw [hst] at hl2
        have Hst := Lib.hid hst
        clear hst
        go_wp2
        go_round
        case rel => exact ⟨k + 1, by omega, by go_num, by rw [Hst.out]⟩
        case measure => simp [intOf]; omega
    · go_wp2
      go_ret
      exact ⟨ret_u32 (by rw [List.take_of_length_le (by omega)]), rfl⟩
theorem refWith_none (m : Nat) (a : Option Addr) (cap : Nat) (w : World) :
    Calls Try.prog 14 #[.int .u32 (m : Int), .slice a 0 cap] w fun e w' => e = .returned (.int .u32 (m : Int)) ∧ w' = w := by
  go_enter Try.func14, Try.ntmps14
  go_wp2
  go_loop [0, 5] (fun v i => i = .int .i64 0 ∧ v = .int .u32 (m : Int)) (fun _ _ => 0)
  case atStart => exact ⟨rfl, rfl⟩
  case round =>
    obtain ⟨rfl, rfl⟩ := hrel
    go_wp2
    go_ret
    exact ⟨rfl, rfl⟩
theorem refWith_any (m : Nat) (a : Option Addr) (n cap : Nat) (xs : List UInt8) (w : World) (hn : xs.length = n) (hm : m < 4294967296) (hl : n ≤ 1000000) (h : RowAt w a cap xs) :
    Calls Try.prog 14 #[.int .u32 (m : Int), .slice a n cap] w fun e w' => e = .returned (.int .u32 (Ac.withs m xs : Nat)) ∧ w' = w := by
  subst hn
  rcases h.bytes with rfl | ⟨b, off, rfl, hb, hc⟩
  · exact refWith_none m a cap w
  · exact refWith_some m b off cap xs w hm hl hc
end Go.Proofs.Ytcbgpolfnaopcaa
