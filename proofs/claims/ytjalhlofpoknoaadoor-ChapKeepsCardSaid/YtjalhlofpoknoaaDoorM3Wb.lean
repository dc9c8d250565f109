/- Contracts of bits.RotateLeft32, mix and the document's turn. -/
import Derived.Test.YtjalhlofpoknoaaDoorM3Wa
namespace Go.Proofs.YtjalhlofpoknoaaDoor.S3
open Go.RowKit

theorem ret_u32 {a b : Int} (h : a = b) : Ending.returned (.int .u32 a) = .returned (.int .u32 b) := by rw [h]
theorem ret_mix {a b c d : Int} (h : a = b) (g : c = d) : Ending.returned (.tuple #[.int .u32 a, .int .i64 c]) = .returned (.tuple #[.int .u32 b, .int .i64 d]) := by rw [h, g]

theorem rotl_any (x n : Nat) (w : World) (hx : x < 4294967296) (h0 : 0 < n) (hn : n < 32) :
    Calls Tryd.prog 34 #[.int .u32 (x : Int), .int .i64 (n : Int)] w fun e w' => e = .returned (.int .u32 (Md.rot x n : Nat)) ∧ w' = w := by
  have i1 : (n : Int) < 32 := by omega
  have i0 : (0 : Int) < (n : Int) := by omega
  have hand := Md.and31 n hn
  have hr := Md.rot_or x n hx h0 hn
  have Hr := Lib.hid hr
  clear hr
  go_enter Tryd.func34, Tryd.ntmps34
  go_wp2
  go_ret
  refine ⟨ret_u32 ?_, rfl⟩
  rw [← Hr.out]; simp

theorem mix0 (i b c d : Nat) (w : World) (hi : i < 16) (hb : b < 4294967296) (hc : c < 4294967296) (hd : d < 4294967296) :
    Calls Tryd.prog 33 #[.int .i64 (i : Int), .int .u32 (b : Int), .int .u32 (c : Int), .int .u32 (d : Int)] w fun e w' => e = .returned (.tuple #[.int .u32 (Md.F i b c d : Nat), .int .i64 (Md.K i : Nat)]) ∧ w' = w := by
  have i1 : (i : Int) / 16 = 0 := by omega
  have hs : IntKind.u32.signed = false := rfl
  go_enter Tryd.func33, Tryd.ntmps33
  go_wp2
  go_ret2
  refine ⟨ret_mix ?_ ?_, rfl⟩
  · rw [Md.not32 b hb, Md.and32 _ _ hb hc, Md.and32 _ _ (Md.nt_lt b) hd, Md.or32 _ _ (Md.and_lt _ _ hc) (Md.and_lt _ _ hd), Md.F, if_pos hi]
  · rw [Md.K, if_pos hi]
theorem mix1 (i b c d : Nat) (w : World) (h1 : 16 ≤ i) (h2 : i < 32) (hb : b < 4294967296) (hc : c < 4294967296) (hd : d < 4294967296) :
    Calls Tryd.prog 33 #[.int .i64 (i : Int), .int .u32 (b : Int), .int .u32 (c : Int), .int .u32 (d : Int)] w fun e w' => e = .returned (.tuple #[.int .u32 (Md.F i b c d : Nat), .int .i64 (Md.K i : Nat)]) ∧ w' = w := by
  have i1 : (i : Int) / 16 = 1 := by omega
  have i2 : (i : Int) < 32 := by omega
  have hs : IntKind.u32.signed = false := rfl
  go_enter Tryd.func33, Tryd.ntmps33
  go_wp2
  go_ret2
  refine ⟨ret_mix ?_ ?_, rfl⟩
  · rw [Md.not32 d hd, Md.and32 _ _ hd hb, Md.and32 _ _ (Md.nt_lt d) hc, Md.or32 _ _ (Md.and_lt _ _ hb) (Md.and_lt _ _ hc), Md.F, if_neg (by omega), if_pos h2]
  · rw [Md.K, if_neg (by omega), if_pos h2]; omega
theorem mix2 (i b c d : Nat) (w : World) (h1 : 32 ≤ i) (h2 : i < 48) (hb : b < 4294967296) (hc : c < 4294967296) (hd : d < 4294967296) :
    Calls Tryd.prog 33 #[.int .i64 (i : Int), .int .u32 (b : Int), .int .u32 (c : Int), .int .u32 (d : Int)] w fun e w' => e = .returned (.tuple #[.int .u32 (Md.F i b c d : Nat), .int .i64 (Md.K i : Nat)]) ∧ w' = w := by
  have i1 : (i : Int) / 16 = 2 := by omega
  have i2 : (i : Int) < 48 := by omega
  have hs : IntKind.u32.signed = false := rfl
  go_enter Tryd.func33, Tryd.ntmps33
  go_wp2
  go_ret2
  refine ⟨ret_mix ?_ ?_, rfl⟩
  · rw [Md.xor32 _ _ hb hc, Md.xor32 _ _ (Md.xor_lt _ _ hb hc) hd, Md.F, if_neg (by omega), if_neg (by omega), if_pos h2]
  · rw [Md.K, if_neg (by omega), if_neg (by omega), if_pos h2]; omega
theorem mix3 (i b c d : Nat) (w : World) (h1 : 48 ≤ i) (h2 : i < 64) (hb : b < 4294967296) (hc : c < 4294967296) (hd : d < 4294967296) :
    Calls Tryd.prog 33 #[.int .i64 (i : Int), .int .u32 (b : Int), .int .u32 (c : Int), .int .u32 (d : Int)] w fun e w' => e = .returned (.tuple #[.int .u32 (Md.F i b c d : Nat), .int .i64 (Md.K i : Nat)]) ∧ w' = w := by
  have i1 : (i : Int) / 16 = 3 := by omega
  have i2 : (i : Int) < 64 := by omega
  have hs : IntKind.u32.signed = false := rfl
  go_enter Tryd.func33, Tryd.ntmps33
  go_wp2
  go_ret2
  refine ⟨ret_mix ?_ ?_, rfl⟩
  · rw [Md.not32 d hd, Md.or32 _ _ hb (Md.nt_lt d), Md.xor32 _ _ hc (Md.or_lt _ _ hb (Md.nt_lt d)), Md.F, if_neg (by omega), if_neg (by omega), if_neg (by omega)]
  · rw [Md.K, if_neg (by omega), if_neg (by omega), if_neg (by omega)]; omega
theorem mix_any (i b c d : Nat) (w : World) (h : i < 64) (hb : b < 4294967296) (hc : c < 4294967296) (hd : d < 4294967296) :
    Calls Tryd.prog 33 #[.int .i64 (i : Int), .int .u32 (b : Int), .int .u32 (c : Int), .int .u32 (d : Int)] w fun e w' => e = .returned (.tuple #[.int .u32 (Md.F i b c d : Nat), .int .i64 (Md.K i : Nat)]) ∧ w' = w := by
  by_cases h1 : i < 16
  · exact mix0 i b c d w h1 hb hc hd
  · by_cases h2 : i < 32
    · exact mix1 i b c d w (by omega) h2 hb hc hd
    · by_cases h3 : i < 48
      · exact mix2 i b c d w (by omega) h3 hb hc hd
      · exact mix3 i b c d w (by omega) h hb hc hd

theorem turn_any (x n : Nat) (w : World) (hx : x < 4294967296) (hn : n < 32) :
    Calls Tryd.prog 24 #[.int .u32 (x : Int), .int .i64 (n : Int)] w fun e w' => e = .returned (.int .u32 (Md.rot x n : Nat)) ∧ w' = w := by
  have i1 : (n : Int) < 32 := by omega
  go_enter Tryd.func24, Tryd.ntmps24
  go_wp2
  go_loop [0, 5] (fun m i => ∃ k : Nat, k ≤ n ∧ i = .int .i64 (k : Int) ∧ m = .int .u32 (Md.rot x k : Nat)) (fun _ i => n - (intOf i).toNat)
  case atStart => exact ⟨0, Nat.zero_le _, rfl, by rw [Md.rot_zero x hx]⟩
  case round =>
    obtain ⟨k, hk, rfl, rfl⟩ := hrel
    have hl := Md.rot_lt x k hx (by omega)
    by_cases hlt : (k : Int) < (n : Int)
    · have hst := Md.rot_succ x k hx (by omega)
      obtain ⟨m, hm⟩ : ∃ m, m = Md.rot x k := ⟨_, rfl⟩
      rw [← hm] at hl hst ⊢
      have Hst := Lib.hid hst
      clear hst hm
      go_wp2
      go_round
      case rel => exact ⟨k + 1, by omega, by go_num, by rw [Hst.out]; congr 1; omega⟩
      case measure => simp [intOf]; omega
    · have hks : k = n := by omega
      subst hks
      go_wp2
      go_ret
      exact ⟨rfl, rfl⟩
end Go.Proofs.YtjalhlofpoknoaaDoor.S3
