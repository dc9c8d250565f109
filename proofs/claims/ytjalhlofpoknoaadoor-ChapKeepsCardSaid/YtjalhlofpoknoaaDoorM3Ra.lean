/- Contract of the document's Text. -/
import Derived.Test.YtjalhlofpoknoaaDoorM3Eq
namespace Go.Proofs.YtjalhlofpoknoaaDoor.S3
open Go.RowKit

namespace Md
theorem text_part (b : List UInt8) (p : Nat) (hp : p = pad b.length) : text b = b ++ endPart p (le8 (b.length * 8)) := by
  rw [text, ending, hp]; rfl
theorem endPart_zero (p : Nat) : endPart p [] = [128] ++ List.replicate p 0 := by simp [endPart]
theorem endPart_more (p : Nat) : endPart (p + 1) [] = endPart p [] ++ [0] := by simp [endPart, List.replicate_succ']
end Md

set_option maxHeartbeats 1000000 in
theorem text_at (a : Option Addr) (cap n : Nat) (xs : List UInt8) (w : World) (hn : xs.length = n) (hl : n ≤ 10000) (h : RowAt w a cap xs) :
    Calls Tryd.prog 22 #[.slice a n cap] w fun e w' => ∃ v, e = .returned v ∧ w'.ownsRow w.heap.size 5 1 v (Md.text xs).length (Lib.byteCells (Md.text xs)) ∧ Below w.heap.size w w' := by
  obtain ⟨i0, hi, hz0, hz1, hz2⟩ := info_parts info5
  have i8 : (n : Int) ≤ 10000 := by omega
  obtain ⟨p, hp⟩ : ∃ p, p = Md.pad xs.length := ⟨_, rfl⟩
  have hpe := Md.pad_eq xs.length
  have hte := Md.text_part xs p hp
  have htl := Md.text_length xs
  rw [← hp, hn] at hpe
  rw [← hp, hn] at htl
  have Hte := Lib.hid hte
  have Htl := Lib.hid htl
  have HR := Lib.hid h
  have Hn := Lib.hid hn
  clear hp hte htl h hn
  go_enter Tryd.func22, Tryd.ntmps22
  go_wp2_with (first
    | (at_builtin; refine wpList_append_row rfl _ _ rfl w.heap.size _ 0 [] rfl (World.ownsRow_nil _ _ _ _) a n cap xs rfl Hn.out HR.out (by omega) (Nat.le_refl _) ?_; intro v1 w1 o1 g1; have b1 : Below w.heap.size w w1 := (Below.refl _ _).grown g1 (Nat.le_refl _) (fun j hj => by cases hj); rw [Nat.zero_add, List.nil_append] at o1)
    | (at_builtin; refine wpList_append_own _ rfl _ _ 22 rfl w.heap.size 5 i0 (.int .u8 0) 1 1 Tryd.underlying22 hi hz0 hz1 hz2 rfl (by decide) _ _ _ rfl (o1.alloc _) ⟨w1.heap.size, 0, none⟩ 1 1 [.int .u8 128] rfl rfl (cell_one_new _ _ _) (fun u hu => by simp at hu; subst hu; rfl) (by unfold maxLen; omega) (by omega) (by have := b1.size; simp; omega) ?_; intro v2 w2 o2 g2 _; have b2 : Below w.heap.size w w2 := Below.grown (b1.alloc b1.size _) g2 (by have := b1.size; simp; omega) (fun j hj => (o1.lt j hj).1)))
  have ho : w2.ownsRow w.heap.size 5 1 v2 (n + 1) (Lib.byteCells (xs ++ Md.endPart 0 [])) := by
    rw [Md.endPart_zero, List.replicate_zero, List.append_nil, cells_snoc]; exact o2
  clear o1 g1 o2 g2
  obtain ⟨a2, c2, rfl⟩ := own_slice ho
  go_loopw [3] (fun v wr => ∃ (m : Nat) (a : Option Addr) (c : Nat), n + 1 ≤ m ∧ m ≤ n + 1 + p ∧ v = .slice a m c ∧ wr.ownsRow w.heap.size 5 1 v m (Lib.byteCells (xs ++ Md.endPart (m - n - 1) [])) ∧ Below w.heap.size w wr) (fun v _ => 20000 - slLen v)
  case atStart => exact ⟨n + 1, a2, c2, by omega, by omega, rfl, by rw [show n + 1 - n - 1 = 0 by omega]; exact ho, b2⟩
  case round =>
    obtain ⟨m, a3, c3, h1, h2, rfl, hown, hbw⟩ := hrel
    clear ho b2
    by_cases hlt : m < n + 1 + p
    · have hne : ¬ (m : Int) % 64 = 56 := by omega
      have i3 : (m : Int) ≤ 15000 := by omega
      go_wp2_with (at_builtin; refine wpList_append_own _ rfl _ _ 22 rfl w.heap.size 5 i0 (.int .u8 0) 1 1 Tryd.underlying22 hi hz0 hz1 hz2 rfl (by decide) _ _ _ rfl (hown.alloc _) ⟨wr.heap.size, 0, none⟩ 1 1 [.int .u8 0] rfl rfl (cell_one_new _ _ _) (fun u hu => by simp at hu; subst hu; rfl) (by unfold maxLen; omega) (by omega) (by have := hbw.size; simp; omega) ?_; intro v4 w4 o4 g4 _)
      have hbw2 : Below w.heap.size w w4 := Below.grown (hbw.alloc hbw.size _) g4 (by have := hbw.size; simp; omega) (fun j hj => (hown.lt j hj).1)
      obtain ⟨a4, c4, rfl⟩ := own_slice o4
      go_roundw
      case rel =>
        refine ⟨m + 1, a4, c4, by omega, by omega, rfl, ?_, hbw2⟩
        rw [show m + 1 - n - 1 = (m - n - 1) + 1 by omega, Md.endPart_more, ← List.append_assoc, cells_snoc]
        exact o4
      case measure => simp [slLen]; omega
    · have h2 : m = n + 1 + p := by omega
      rw [show m - n - 1 = p by omega] at hown
      have hne : (m : Int) % 64 ≤ 56 := by omega
      have hne2 : 56 ≤ (m : Int) % 64 := by omega
      have i3 : (m : Int) ≤ 20000 := by omega
      have H2 := Lib.hid h2
      have ho0 : wr.ownsRow w.heap.size 5 1 (.slice a3 m c3) (m + 0) (Lib.byteCells (xs ++ Md.endPart p ((Md.le8 (n * 8)).take 0))) := hown
      clear h1 h2 hown hlt
      have hbn : ((m : Int) % 64 != 56) = false := by
        have h9 : (m : Int) % 64 = 56 := by omega
        rw [h9]; rfl
      have Hbn := Lib.hid hbn
      clear hbn
      go_wp2
      rw [Hbn.out]
      go_loopw [3, 4, 5] (fun v mm i wr => ∃ k z : Nat, k ≤ 8 ∧ i = .int .i64 (k : Int) ∧ mm = .int .u64 (z : Int) ∧ z ≤ 80000 ∧ Hid (z = n * 8 / 256 ^ k) ∧ wr.ownsRow w.heap.size 5 1 v (m + k) (Lib.byteCells (xs ++ Md.endPart p ((Md.le8 (n * 8)).take k))) ∧ Below w.heap.size w wr) (fun _ _ i _ => 8 - (intOf i).toNat)
      case atStart => exact ⟨0, n * 8, by omega, rfl, by simp, by omega, (by simp : n * 8 = n * 8 / 256 ^ 0), ho0, hbw⟩
      case round =>
        obtain ⟨k, z, hk, rfl, rfl, hz, Hz, hown, hbw⟩ := hrel
        clear ho0
        by_cases hlt : (k : Int) < 8
        · have hd : (z : Int) % 256 = ((Md.dg (n * 8) k).toNat : Int) := by rw [Md.dg_nat, ← Hz.out]; simp
          have hnx : z / 256 = n * 8 / 256 ^ (k + 1) := by rw [Nat.pow_succ, ← Nat.div_div_eq_div_mul, ← Hz.out]
          have Hd := Lib.hid hd
          have Hnx := Lib.hid hnx
          clear hd hnx
          go_wp2_with (at_builtin; refine wpList_append_own _ rfl _ _ 22 rfl w.heap.size 5 i0 (.int .u8 0) 1 1 Tryd.underlying22 hi hz0 hz1 hz2 rfl (by decide) _ _ _ rfl (hown.alloc _) ⟨wr.heap.size, 0, none⟩ 1 1 [.int .u8 ((z : Int) % 256)] rfl rfl (cell_one_new _ _ _) (fun u hu => by simp at hu; subst hu; rfl) (by unfold maxLen; omega) (by omega) (by have := hbw.size; simp; omega) ?_; intro v4 w4 o4 g4 _)
          have hbw2 : Below w.heap.size w w4 := Below.grown (hbw.alloc hbw.size _) g4 (by have := hbw.size; simp; omega) (fun j hj => (hown.lt j hj).1)
          go_roundw
          case rel =>
            refine ⟨k + 1, z / 256, by omega, by go_num, by simp, by omega, Hnx.out, ?_, hbw2⟩
            rw [Md.le8_take _ _ (by omega), Md.endPart_snoc, ← List.append_assoc, cells_snoc]
            rw [Hd.out] at o4
            exact o4
          case measure => simp [intOf]; omega
        · have hk8 : k = 8 := by omega
          subst hk8
          rw [List.take_of_length_le (by rw [Md.le8_length]; omega), show n * 8 = xs.length * 8 by rw [Hn.out], ← Hte.out, show m + 8 = (Md.text xs).length by rw [Htl.out, H2.out]; omega] at hown
          go_wp2
          go_ret
          exact ⟨_, rfl, hown, hbw⟩
end Go.Proofs.YtjalhlofpoknoaaDoor.S3
