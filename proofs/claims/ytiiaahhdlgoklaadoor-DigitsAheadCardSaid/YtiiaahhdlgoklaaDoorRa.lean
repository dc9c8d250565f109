/- Contracts of the document's answers: Put and Bytes. -/
import Derived.Test.YtiiaahhdlgoklaaDoorWh
namespace Go.Proofs.YtiiaahhdlgoklaaDoor
open Go.RowKit Go.Sort

theorem below_drewN' {B : Nat} {a w : World} (h : Below B a w) (n : Nat) : Below B a (w.drewN n) := h.trans ⟨rfl, rfl, rfl, Nat.le_refl _, fun _ _ => rfl⟩

theorem sl16_fin : ∀ d : Fin 16, (⟨#[48, 49, 50, 51, 52, 53, 54, 55, 56, 57, 97, 98, 99, 100, 101, 102]⟩ : ByteArray).extract d.val (d.val + 1) = ⟨#[Dg.sg d.val]⟩ := by decide +kernel

theorem sl16 (d : Nat) (h : d < 16) : (⟨#[48, 49, 50, 51, 52, 53, 54, 55, 56, 57, 97, 98, 99, 100, 101, 102]⟩ : ByteArray).extract d (d + 1) = ⟨#[Dg.sg d]⟩ := sl16_fin ⟨d, h⟩
theorem cat_cons (c : UInt8) (l : List UInt8) : (⟨#[c]⟩ : ByteArray) ++ ⟨l.toArray⟩ = ⟨(c :: l).toArray⟩ := by
  apply ByteArray.ext
  simp

/-- What stands ahead of a number's last digit. -/
def Dg.pre (b m : Nat) : List UInt8 := if b ≤ m then Dg.putB b (m / b) else []
theorem Dg.pre_last (b m : Nat) (hb : 2 ≤ b) : Dg.pre b m ++ [Dg.sg (m % b)] = Dg.putB b m := by
  unfold Dg.pre
  split
  · rename_i h; rw [Dg.putB_big b m hb h]
  · rename_i h; rw [Dg.putB_small b m (by omega), Nat.mod_eq_of_lt (by omega)]; rfl
theorem Dg.pre_step (b m : Nat) (hb : 2 ≤ b) (h : b ≤ m) (acc : List UInt8) : Dg.pre b (m / b) ++ (Dg.sg (m / b % b) :: acc) = Dg.pre b m ++ acc := by
  have e := Dg.pre_last b (m / b) hb
  have e2 : Dg.pre b m = Dg.putB b (m / b) := by unfold Dg.pre; rw [if_pos h]
  rw [e2, ← e]; simp

theorem Dg.putB_len : ∀ (k b n : Nat), 2 ≤ b → 1 ≤ k → n < 2 ^ k → (Dg.putB b n).length ≤ k
  | 0, _, _, _, h, _ => by omega
  | k + 1, b, n, hb, _, hn => by
    by_cases h : b ≤ n
    · rw [Dg.putB_big b n hb h, List.length_append]
      have hlt : n / b < 2 ^ k := by
        rw [Nat.div_lt_iff_lt_mul (by omega)]
        have h1 : 2 ^ k * 2 ≤ 2 ^ k * b := Nat.mul_le_mul_left _ hb
        rw [Nat.pow_succ] at hn
        omega
      have hk : 1 ≤ k := by
        rcases Nat.eq_zero_or_pos k with rfl | h2
        · simp at hn; omega
        · exact h2
      have ih := Dg.putB_len k b (n / b) hb hk hlt
      simp
      omega
    · rw [Dg.putB_small b n (by omega)]; simp

set_option maxHeartbeats 1000000 in
set_option maxRecDepth 100000 in
theorem put_any (n b : Nat) (w : World) (hn : n < 18446744073709551616) (hb1 : 2 ≤ b) (hb2 : b ≤ 16) :
    Calls Tryd.prog 11 #[.int .u64 (n : Int), .int .u64 (b : Int)] w fun e w' => e = .returned (.string ⟨(Dg.putB b n).toArray⟩) ∧ Below w.heap.size w w' := by
  have i1 : (2 : Int) ≤ (b : Int) := by omega
  have i2 : (b : Int) ≤ 16 := by omega
  have i3 : (n : Int) ≤ 18446744073709551615 := by omega
  have m1 : (0 : Int) ≤ (n : Int) % (b : Int) := Int.emod_nonneg _ (by omega)
  have m2 : (n : Int) % (b : Int) < (b : Int) := Int.emod_lt_of_pos _ (by omega)
  have hz : ((b : Int) == 0) = false := by simp; omega
  go_enter Tryd.func11, Tryd.ntmps11
  go_wp2
  go_quiet (fail)
  go_wp2
  go_loopw [0, 5] (fun uu ss wr => ∃ (m : Nat) (acc : List UInt8), uu = .int .u64 (m : Int) ∧ ss = .string ⟨acc.toArray⟩ ∧ m < 18446744073709551616 ∧ Below w.heap.size w wr ∧ Hid (Dg.pre b m ++ acc = Dg.putB b n)) (fun uu _ _ => (intOf uu).toNat)
  case atStart => exact ⟨n, [Dg.sg (n % b)], rfl, by rw [sl16 (n % b) (Nat.lt_of_lt_of_le (Nat.mod_lt _ (by omega)) hb2)], hn, below_drewN' (Below.refl _ _) _, Dg.pre_last b n hb1⟩
  case round =>
    obtain ⟨m, acc, rfl, rfl, hm, hbw, HS⟩ := hrel
    clear m1 m2
    have hal : acc.length ≤ 64 := by
      have h1 := Dg.putB_len 64 b n hb1 (by omega) hn
      rw [← HS.out, List.length_append] at h1
      omega
    by_cases hlt : (b : Int) ≤ (m : Int)
    · have q1 : (0 : Int) ≤ (m : Int) / (b : Int) := Int.ediv_nonneg (by omega) (by omega)
      have q2 : (m : Int) / (b : Int) < (m : Int) := by
        have := Nat.div_lt_self (n := m) (k := b) (by omega) (by omega)
        rw [← Int.natCast_ediv]; omega
      have m1 : (0 : Int) ≤ (m : Int) / (b : Int) % (b : Int) := Int.emod_nonneg _ (by omega)
      have m2 : (m : Int) / (b : Int) % (b : Int) < (b : Int) := Int.emod_lt_of_pos _ (by omega)
      go_wp2
      go_quiet (fail)
      go_wp2
      go_roundw
      case rel =>
        have hdl := Nat.div_lt_self (n := m) (k := b) (by omega) (by omega)
        exact ⟨m / b, Dg.sg (m / b % b) :: acc, by rw [Int.natCast_ediv], by rw [sl16 (m / b % b) (Nat.lt_of_lt_of_le (Nat.mod_lt _ (by omega)) hb2), cat_cons], by omega, below_drewN' hbw _, by show _ = _; rw [Dg.pre_step b m hb1 (by omega)]; exact HS.out⟩
      case measure =>
        show ((m : Int) / (b : Int)).toNat < (m : Int).toNat
        omega
    · have hlt2 : m < b := by omega
      go_wp2
      go_ret
      refine ⟨?_, hbw⟩
      rw [← HS.out, Dg.pre, if_neg (by omega)]; rfl

theorem cat_snoc (l : List UInt8) (c : UInt8) : (⟨l.toArray⟩ : ByteArray) ++ ⟨#[c]⟩ = ⟨(l ++ [c]).toArray⟩ := by
  apply ByteArray.ext
  simp

set_option maxHeartbeats 1000000 in
set_option maxRecDepth 100000 in
theorem refBytes_some (b off cap : Nat) (xs : List UInt8) (w : World) (hl : xs.length ≤ 100000) (hb : b < w.heap.size) (hc : ∀ j (h : j < xs.length), w.cell? ⟨b, off + j, none⟩ = some (.int .u8 (xs[j].toNat : Int))) :
    Calls Tryd.prog 14 #[.slice (some ⟨b, off, none⟩) xs.length cap] w fun e w' => e = .returned (.string ⟨(Dg.hexs xs).toArray⟩) ∧ Below w.heap.size w w' := by
  have Hc := Lib.hid hc
  clear hc
  go_enter Tryd.func14, Tryd.ntmps14
  go_wp2
  go_loopw [3, 4] (fun ss i wr => ∃ k : Nat, k ≤ xs.length ∧ i = .int .i64 (k : Int) ∧ ss = .string ⟨(Dg.hexs (xs.take k)).toArray⟩ ∧ Below w.heap.size w wr) (fun _ i _ => xs.length - (intOf i).toNat)
  case atStart => exact ⟨0, Nat.zero_le _, rfl, rfl, Below.refl _ _⟩
  case round =>
    obtain ⟨k, hk, rfl, rfl, hbw⟩ := hrel
    have hal : (Dg.hexs (xs.take k)).length ≤ 200000 := by rw [Dg.hexs_length, List.length_take]; omega
    by_cases hlt : (k : Int) < (xs.length : Int)
    · have hk' : k < xs.length := by omega
      have hcell : wr.cell? ⟨b, off + k, none⟩ = some (.int .u8 (xs[k].toNat : Int)) := by rw [hbw.cell (p := ⟨b, off + k, none⟩) hb]; exact Hc.out k hk'
      have hlo : (xs[k].toNat : Int) < 256 := by have := xs[k].toNat_lt; omega
      have g1 : (0 : Int) ≤ (xs[k].toNat : Int) / 16 := by omega
      have g2 : (xs[k].toNat : Int) / 16 < 16 := by omega
      have g4 : (0 : Int) ≤ (xs[k].toNat : Int) % 16 := by omega
      have g5 : (xs[k].toNat : Int) % 16 < 16 := by omega
      have s1 := sl16 (xs[k].toNat / 16) (by omega)
      have s2 := sl16 (xs[k].toNat % 16) (by omega)
      go_wp2
      go_quiet (fail)
      go_wp2
      go_roundw
      case rel => exact ⟨k + 1, by omega, by go_num, by rw [cat_snoc, cat_snoc, Dg.hexs_snoc xs k hk', List.append_assoc]; rfl, below_drewN' hbw _⟩
      case measure => simp [intOf]; omega
    · have hkl : k = xs.length := by omega
      subst hkl
      go_wp2
      go_ret
      exact ⟨rfl, hbw⟩

set_option maxHeartbeats 1000000 in
theorem refBytes_none (a : Option Addr) (cap : Nat) (w : World) :
    Calls Tryd.prog 14 #[.slice a 0 cap] w fun e w' => e = .returned (.string ⟨#[]⟩) ∧ Below w.heap.size w w' := by
  go_enter Tryd.func14, Tryd.ntmps14
  go_wp2
  refine wp_loop_rounds 1 ?_
  rw [rounds_succ]
  go_wp2
  go_ret
  exact ⟨rfl, Below.refl _ _⟩
end Go.Proofs.YtiiaahhdlgoklaaDoor
