/- The walk of Md5Pads. -/
import Derived.Test.YtaenbnmnpmagdaaDoorSumsWalk
import Derived.Test.YtaenbnmnpmagdaaDoorKeepsWalk
namespace Go.Proofs.YtaenbnmnpmagdaaDoor
open Go.RowKit

namespace Md
/-- The text: k times the byte, then noughts. -/
def pk (n k : Nat) (c : UInt8) : List UInt8 := List.replicate k c ++ List.replicate (n - k) 0
theorem pk_length (n k : Nat) (c : UInt8) (h : k ≤ n) : (pk n k c).length = n := by simp [pk]; omega
theorem pk_set (n k : Nat) (c : UInt8) (h : k < n) : (pk n k c).set k c = pk n (k + 1) c := by
  unfold pk
  rw [List.set_append_right _ _ (by simp), show n - k = (n - (k + 1)) + 1 by omega, List.replicate_succ (n := n - (k + 1)), List.length_replicate, Nat.sub_self, List.set_cons_zero, List.replicate_succ' (n := k)]
  simp
theorem pk_zero (n : Nat) (c : UInt8) : pk n 0 c = List.replicate n 0 := by simp [pk]
end Md

set_option maxHeartbeats 2000000 in
set_option maxRecDepth 100000 in
theorem pads_walk (n m : Nat) (w : World) (hn : n < 256) (hm : m < 256) (ht : Tabs w) (hg : Trig w) :
    Calls Tryd.prog 5 #[.int .u8 (n : Int), .int .u8 (m : Int)] w fun e w' => e = .returned (.bool true) ∧ Below w.heap.size w w' := by
  obtain ⟨i0, hi, hz0, hz1, hz2⟩ := info_parts info5
  have HT := Lib.hid ht
  have HG := Lib.hid hg
  clear ht hg
  have hni : (n : Int) < 256 := by omega
  obtain ⟨c, hc⟩ : ∃ c : UInt8, c.toNat = m := ⟨UInt8.ofNat m, by simp; omega⟩
  subst hc
  go_enter Tryd.func5, Tryd.ntmps5
  go_wp2_with fail
  refine (awake_any _ HT.out).mono ?_
  rintro e w1 ⟨rfl, b1⟩
  go_wp2_with (at_make; refine wpList_make_full _ rfl _ _ 22 rfl w1.heap.size 5 i0 (.int .u8 0) 1 Tryd.underlying22 hi hz0 hz1 .i64 .i64 _ _ n rfl rfl (by omega) (by omega) (by rw [hz2]; omega) (by unfold maxLen; omega) (Nat.le_refl _) ?_; intro w2 o2 g2)
  have hb2 : Below w1.heap.size w1 w2 := (Below.refl _ _).grown g2 (Nat.le_refl _) (fun k h => by cases h)
  have hr2 := room_made o2
  clear o2 g2
  obtain ⟨g, hgw⟩ : ∃ g, g = w1.heap.size := ⟨_, rfl⟩
  rw [← hgw] at hr2 ⊢
  have hgl : w1.heap.size ≤ g := by omega
  clear hgw
  go_loopw [6] (fun i wr => ∃ k : Nat, k ≤ n ∧ i = .int .i64 (k : Int) ∧ RoomAt wr g (Md.pk n k c) ∧ Below w1.heap.size w1 wr) (fun i _ => n - (intOf i).toNat)
  case atStart => exact ⟨0, by omega, rfl, by rw [Md.pk_zero]; exact hr2, hb2⟩
  case round =>
    obtain ⟨k, hk, rfl, hrm, hbw⟩ := hrel
    clear hr2 hb2
    by_cases hlt : (k : Int) < (n : Int)
    · have hk1 : k < n := by omega
      have hst := Md.pk_set n k c hk1
      have hrl := Md.pk_length n k c hk
      obtain ⟨old, hcx⟩ : ∃ u, wr.cell? ⟨g, k, none⟩ = some u := by
        rw [cell_of_row _ _ _ _ _ _ hrm]
        exact ⟨_, Array.getElem?_eq_getElem (by simp [Lib.byteCells_length, hrl]; omega)⟩
      have hfz := frozen_of_row wr g k _ 5 hrm
      have Hst := Lib.hid hst
      have Hrm := Lib.hid hrm
      clear hst hrl hrm
      go_wp2
      go_roundw
      case rel =>
        refine ⟨k + 1, by omega, by go_num, ?_, hbw.setCell hgl _⟩
        unfold RoomAt
        rw [heap_setCell_same _ _ _ _ _ _ Hrm.out, ← Hst.out, cells_set]
        simp
      case measure => simp [intOf]; omega
    · have hkn : k = n := by omega
      subst hkn
      obtain ⟨xs, hxs⟩ : ∃ xs, xs = Md.pk k k c := ⟨_, rfl⟩
      rw [← hxs] at hrm
      have hxl : xs.length = k := by rw [hxs]; exact Md.pk_length k k c hk
      have hrow := hrm.row k hxl (by omega)
      obtain ⟨D, hD⟩ : ∃ D, D = (Lib.byteCells (Md.sum xs)).toArray := ⟨_, rfl⟩
      have S1 := Lib.hid (sum_parts xs [xs] 1 D hD (by simp) rfl (by omega) (by omega))
      have S2 := Lib.hid (ref_sum xs D hD (by omega))
      have heq : ∀ w, (Op.equalIn 10000 24 (.agg D) (.agg D)).run Tryd.prog w = .ok true w := fun w => by rw [hD]; exact eql_digest _ (sum_length _) w
      have hgu := guard24
      have HP := Lib.hid (parts_one hxl hrow)
      have HRw := Lib.hid hrow
      have Hxl := Lib.hid hxl
      have b4 : Below wr.heap.size wr (wr.alloc (.cells #[.slice (some ⟨g, 0, none⟩) k k] 22)) := (Below.refl _ _).alloc (Nat.le_refl _) _
      have HB0 := Lib.hid (Below.chain b1 hbw)
      have HB4 := Lib.hid b4
      clear hD hrow hrm hxs hxl hbw b4 hgl b1
      go_wp2_with fail
      refine (S1.out _ _ HP.out ((HT.out.next HB0.out).next HB4.out)).mono ?_
      rintro e w5 ⟨rfl, b5⟩
      have HB5 := Lib.hid (Below.chain HB4.out b5)
      go_wp2_with fail
      refine (S2.out _ _ _ _ Hxl.out (HRw.out.next HB5.out) ((HG.out.next HB0.out).next HB5.out)).mono ?_
      rintro e w6 ⟨rfl, b6⟩
      go_wp2
      go_ret
      exact ⟨rfl, Below.chain (Below.chain HB0.out HB5.out) b6⟩
end Go.Proofs.YtaenbnmnpmagdaaDoor
