/- Contracts of ending, words and digest. -/
import Derived.Test.YtjalhlofpoknoaaDoorM3Wb
namespace Go.Proofs.YtjalhlofpoknoaaDoor.S3
open Go.RowKit

def slLen : Value → Nat
  | .slice _ n _ => n
  | _ => 0
theorem own_slice {w : World} {B n : Nat} {v : Value} {xs : List Value} (h : w.ownsRow B 5 1 v n xs) : ∃ a c, v = .slice a n c := by
  rcases h.2 with ⟨rfl, rfl⟩ | ⟨g, cap, cur, rfl, _⟩
  · exact ⟨none, 0, rfl⟩
  · exact ⟨_, _, rfl⟩
theorem cells_snoc (l : List UInt8) (x : UInt8) : Lib.byteCells (l ++ [x]) = Lib.byteCells l ++ [.int .u8 (x.toNat : Int)] := by simp [Lib.byteCells]
namespace Md
theorem pad_eq (n : Nat) : (n + pad n + 9) % 64 = 0 ∧ pad n < 64 := by unfold pad; omega
/-- The count's byte. -/
theorem dg_nat (n i : Nat) : (dg n i).toNat = n / 256 ^ i % 256 := by simp [dg]
theorem pow_eq (k : Nat) : 256 ^ k = 2 ^ (8 * k) := by rw [Nat.pow_mul]
theorem dg_int (n k : Nat) : (n : Int) / 2 ^ (8 * k) % 256 = ((dg n k).toNat : Int) := by
  rw [dg_nat, pow_eq]
  simp
theorem le8_take (n k : Nat) (h : k < 8) : (le8 n).take (k + 1) = (le8 n).take k ++ [dg n k] := by
  rw [List.take_succ_eq_append_getElem (by simp [le8]; omega)]; simp [le8]
/-- The ending, as far as it is made. -/
def endPart (p : Nat) (l : List UInt8) : List UInt8 := [128] ++ List.replicate p 0 ++ l
theorem endPart_snoc (p : Nat) (l : List UInt8) (x : UInt8) : endPart p (l ++ [x]) = endPart p l ++ [x] := by simp [endPart]
theorem le8_length (n : Nat) : (le8 n).length = 8 := by simp [le8]
theorem ending_length (n : Nat) : (ending n).length = pad n + 9 := by simp [ending, le8]
end Md

set_option maxHeartbeats 1000000 in
theorem ending_any (n : Nat) (w : World) (hn : n ≤ 100000) :
    Calls Tryd.prog 26 #[.int .u64 (n : Int)] w fun e w' => ∃ v, e = .returned v ∧ w'.ownsRow w.heap.size 5 1 v (Md.pad n + 9) (Lib.byteCells (Md.ending n)) ∧ Below w.heap.size w w' := by
  obtain ⟨i0, hi, hz0, hz1, hz2⟩ := info_parts info5
  have i8 : (n : Int) ≤ 100000 := by omega
  obtain ⟨p, hp⟩ : ∃ p, p = Md.pad n := ⟨_, rfl⟩
  have hpe := Md.pad_eq n
  rw [← hp] at hpe ⊢
  have Hp := Lib.hid hp
  clear hp
  go_enter Tryd.func26, Tryd.ntmps26
  go_wp2
  go_loopw [3] (fun v wr => ∃ (m : Nat) (a : Option Addr) (c : Nat), 1 ≤ m ∧ m ≤ p + 1 ∧ v = .slice a m c ∧ wr.ownsRow w.heap.size 5 1 v m (Lib.byteCells ([128] ++ List.replicate (m - 1) 0)) ∧ Below w.heap.size w wr) (fun v _ => 100 - slLen v)
  case atStart => exact ⟨1, _, _, by omega, by omega, rfl, owns_built _ _ _ _ (Nat.le_refl _), (Below.refl _ _).alloc (Nat.le_refl _) _⟩
  case round =>
    obtain ⟨m, a, c, h1, h2, rfl, hown, hbw⟩ := hrel
    by_cases hlt : m < p + 1
    · have hne : ¬ ((n : Int) + (m : Int) + 8) % 64 = 0 := by omega
      have i3 : (m : Int) ≤ 64 := by omega
      go_wp2_with (at_builtin; refine wpList_append_own _ rfl _ _ 22 rfl w.heap.size 5 i0 (.int .u8 0) 1 1 Tryd.underlying22 hi hz0 hz1 hz2 rfl (by decide) _ _ _ rfl (hown.alloc _) ⟨wr.heap.size, 0, none⟩ 1 1 [.int .u8 0] rfl rfl (cell_one_new _ _ _) (fun u hu => by simp at hu; subst hu; rfl) (by unfold maxLen; omega) (by omega) (by have := hbw.size; simp; omega) ?_; intro v2 w2 hown2 hgr2 _)
      have hbw2 : Below w.heap.size w w2 := Below.grown (hbw.alloc hbw.size _) hgr2 (by have := hbw.size; simp; omega) (fun j hj => (hown.lt j hj).1)
      obtain ⟨a2, c2, rfl⟩ := own_slice hown2
      go_roundw
      case rel =>
        refine ⟨m + 1, a2, c2, by omega, by omega, rfl, ?_, hbw2⟩
        rw [show m + 1 - 1 = (m - 1) + 1 by omega, List.replicate_succ', ← List.append_assoc, cells_snoc]
        exact hown2
      case measure => simp [slLen]; omega
    · have hne : ((n : Int) + (m : Int) + 8) % 64 = 0 := by omega
      have i3 : (m : Int) ≤ 64 := by omega
      have hmp : m = p + 1 := by omega
      clear hlt
      subst hmp
      have hown0 : wr.ownsRow w.heap.size 5 1 (.slice a (p + 1) c) (p + 1 + 0) (Lib.byteCells (Md.endPart p ((Md.le8 (n * 8)).take 0))) := by
        simpa [Md.endPart] using hown
      clear hown
      go_wp2
      go_loopw [3, 4, 17] (fun v _ i wr => ∃ k : Nat, k ≤ 8 ∧ i = .int .i64 (k : Int) ∧ wr.ownsRow w.heap.size 5 1 v (p + 1 + k) (Lib.byteCells (Md.endPart p ((Md.le8 (n * 8)).take k))) ∧ Below w.heap.size w wr) (fun _ _ i _ => 8 - (intOf i).toNat)
      case atStart => exact ⟨0, by omega, rfl, hown0, hbw⟩
      case round =>
        obtain ⟨k, hk, rfl, hown, hbw⟩ := hrel
        clear hown0
        by_cases hlt : (k : Int) < 8
        · have hw8 : IntKind.i64.wrap (8 * (k : Int)) = 8 * (k : Int) := by rw [IntKind.wrap_i64]; omega
          have hk0 : ¬ 8 * (k : Int) < 0 := by omega
          have hd := Md.dg_int (n * 8) k
          rw [show ((n * 8 : Nat) : Int) = (n : Int) * 8 by simp] at hd
          have Hd := Lib.hid hd
          clear hd
          go_wp2_with (at_builtin; refine wpList_append_own _ rfl _ _ 22 rfl w.heap.size 5 i0 (.int .u8 0) 1 1 Tryd.underlying22 hi hz0 hz1 hz2 rfl (by decide) _ _ _ rfl (hown.alloc _) ⟨wr.heap.size, 0, none⟩ 1 1 [.int .u8 ((n : Int) * 8 / 2 ^ (8 * k) % 256)] rfl rfl (cell_one_new _ _ _) (fun u hu => by simp at hu; subst hu; rfl) (by unfold maxLen; omega) (by omega) (by have := hbw.size; simp; omega) ?_; intro v2 w2 hown2 hgr2 _)
          have hbw2 : Below w.heap.size w w2 := Below.grown (hbw.alloc hbw.size _) hgr2 (by have := hbw.size; simp; omega) (fun j hj => (hown.lt j hj).1)
          go_roundw
          case rel =>
            refine ⟨_, _, _, ⟨k + 1, by omega, rfl, ?_, hbw2⟩, rfl, rfl, by go_num⟩
            rw [Md.le8_take _ _ (by omega), Md.endPart_snoc, cells_snoc]
            rw [Hd.out] at hown2
            exact hown2
          case measure => simp [intOf]; omega
        · have hk8 : k = 8 := by omega
          subst hk8
          rw [List.take_of_length_le (by rw [Md.le8_length]; omega)] at hown
          go_wp2
          go_ret
          refine ⟨_, rfl, ?_, hbw⟩
          have e : Md.ending n = Md.endPart p (Md.le8 (n * 8)) := by rw [Md.ending, Hp.out]; rfl
          rw [e]; exact hown
end Go.Proofs.YtjalhlofpoknoaaDoor.S3
