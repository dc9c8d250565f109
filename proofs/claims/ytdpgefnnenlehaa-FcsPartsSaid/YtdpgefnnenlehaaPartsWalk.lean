/- FcsParts: the walk. -/
import Derived.Test.YtdpgefnnenlehaaWh
namespace Go.Proofs.Ytdpgefnnenlehaa
open Go.RowKit

theorem nil_more : Fc.moreOf 4294967295 [] false = 65535 := by decide +kernel
set_option maxRecDepth 10000 in
set_option maxHeartbeats 1000000 in
theorem parts_long (a : Option Addr) (cap n m : Nat) (wide : Bool) (w : World) (hg : (2000 : Int) < (n : Int)) :
    Calls Try.prog 6 #[.slice a n cap, .int .u16 (m : Int), .bool wide] w fun e w' => e = .returned (.bool true) ∧ Below w.heap.size w w' := by
  go_enter Try.func6, Try.ntmps6
  go_wp2_with fail
  refine (awake_any _).mono ?_
  rintro e w1 ⟨rfl, b1⟩
  go_wp2_with fail
  refine (awake_any _).mono ?_
  rintro e w2 ⟨rfl, b2⟩
  go_wp2
  go_ret
  exact ⟨rfl, Below.chain b1 b2⟩

set_option maxRecDepth 100000 in
set_option maxHeartbeats 2000000 in
theorem parts_short (a : Option Addr) (cap : Nat) (xs : List UInt8) (n m : Nat) (wide : Bool) (w : World) (hn : xs.length = n) (h : RowAt w a cap xs) (hm : m < 65536) (hg : ¬ (2000 : Int) < (n : Int)) :
    Calls Try.prog 6 #[.slice a n cap, .int .u16 (m : Int), .bool wide] w fun e w' => e = .returned (.bool true) ∧ Below w.heap.size w w' := by
  obtain ⟨t, ht⟩ : ∃ t, t = m % (n + 1) := ⟨_, rfl⟩
  have htl : t ≤ n := by have := Nat.mod_lt m (show 0 < n + 1 by omega); omega
  have hrem : (m : Int) % ((n : Int) + 1) = (t : Int) := by rw [ht]; simp
  have hnz : (((n : Int) + 1) == 0) = false := by simp; omega
  have hle := h.le
  rw [hn] at hle
  have hcut := h.cut t n htl (by omega)
  rw [← hn, List.take_length] at hcut
  have hhead := h.head t
  have hp := Fc.moreOf_parts 4294967295 (xs.take t) (xs.drop t) wide
  rw [List.take_append_drop] at hp
  have e1 : (xs.take t).length = t := by rw [List.length_take]; omega
  have e2 : (xs.drop t).length = n - t := by rw [List.length_drop]; omega
  have hl32 := Fc.moreOf_lt32 4294967295 (xs.take t) wide
  obtain ⟨q, hq⟩ : ∃ q, (if cap = t then a else a.map (·.add t)) = q := ⟨_, rfl⟩
  rw [hq] at hcut
  generalize xs.take t = X1 at hhead hp e1 hl32
  generalize xs.drop t = X2 at hcut hp e2
  have H1 := Lib.hid hcut
  have H2 := Lib.hid hhead
  have H3 := Lib.hid h
  have Hp := Lib.hid hp
  have E1 := Lib.hid e1
  have E2 := Lib.hid e2
  have Hn := Lib.hid hn
  have htc : (t : Int) ≤ (cap : Int) := by omega
  have htn : (t : Int) ≤ (n : Int) := by omega
  have htc2 : t ≤ cap := by omega
  clear hcut hhead h hp e1 e2 hn ht
  go_enter Try.func6, Try.ntmps6
  go_wp2_with fail
  refine (awake_any _).mono ?_
  rintro e w1 ⟨rfl, b1⟩
  go_wp2_with fail
  have hS : RowAt w1.drew q (cap - t) X2 ∧ RowAt w1.drew a cap X1 ∧ RowAt w1.drew a cap xs := ⟨(H1.out.next b1).drawn, (H2.out.next b1).drawn, (H3.out.next b1).drawn⟩
  replace b1 := Below.chain b1 (Below.refl _ _).drew
  refine held_start (S := fun W => RowAt W q (cap - t) X2 ∧ RowAt W a cap X1 ∧ RowAt W a cap xs) 22 (by kernel_rfl) rfl ?_
  refine held_take 0 (v := ?_) rfl (by kernel_rfl) (by kernel_rfl) (by kernel_rfl) (fun _ _ _ h => h) (by assumption) (by rfl) ?_ ?_
  rotate_left
  · (intro W hW; go_simp; try with_reducible rfl)
  simp only [Act.put, List.setIfInBounds_toArray, List.set_cons_zero, List.set_cons_succ]
  refine held_take 1 (v := ?_) rfl (by kernel_rfl) (by kernel_rfl) (by kernel_rfl) (fun _ _ _ h => h) (by assumption) (by rfl) ?_ ?_
  rotate_left
  · (intro W hW; go_simp; try with_reducible rfl)
  simp only [Act.put, List.setIfInBounds_toArray, List.set_cons_zero, List.set_cons_succ]
  refine held_take 2 (v := ?_) rfl (by kernel_rfl) (by kernel_rfl) (by kernel_rfl) (fun _ _ _ h => h) (by assumption) (by rfl) ?_ ?_
  rotate_left
  · (intro W hW; go_simp; try with_reducible rfl)
  simp only [Act.put, List.setIfInBounds_toArray, List.set_cons_zero, List.set_cons_succ]
  refine held_take 3 (v := ?_) rfl (by kernel_rfl) (by kernel_rfl) (by kernel_rfl) (fun _ _ _ h => h) (by assumption) (by rfl) ?_ ?_
  rotate_left
  · (intro W hW; go_simp; try with_reducible rfl)
  simp only [Act.put, List.setIfInBounds_toArray, List.set_cons_zero, List.set_cons_succ]
  refine held_take 4 (v := ?_) rfl (by kernel_rfl) (by kernel_rfl) (by kernel_rfl) (fun _ _ _ h => h) (by assumption) (by rfl) ?_ ?_
  rotate_left
  · (intro W hW; go_simp; try with_reducible rfl)
  simp only [Act.put, List.setIfInBounds_toArray, List.set_cons_zero, List.set_cons_succ]
  refine held_take 6 (v := ?_) rfl (by kernel_rfl) (by kernel_rfl) (by kernel_rfl) (fun _ _ _ h => h) (by assumption) (by rfl) ?_ ?_
  rotate_left
  · (intro W hW; go_simp; try with_reducible rfl)
  simp only [Act.put, List.setIfInBounds_toArray, List.set_cons_zero, List.set_cons_succ]
  refine held_take 7 (v := ?_) rfl (by kernel_rfl) (by kernel_rfl) (by kernel_rfl) (fun _ _ _ h => h) (by assumption) (by rfl) ?_ ?_
  rotate_left
  · (intro W hW; go_simp; try with_reducible rfl)
  simp only [Act.put, List.setIfInBounds_toArray, List.set_cons_zero, List.set_cons_succ]
  refine held_take 8 (v := ?_) rfl (by kernel_rfl) (by kernel_rfl) (by kernel_rfl) (fun _ _ _ h => h) (by assumption) (by rfl) ?_ ?_
  rotate_left
  · (intro W hW; go_simp; try with_reducible rfl)
  simp only [Act.put, List.setIfInBounds_toArray, List.set_cons_zero, List.set_cons_succ]
  refine held_take 9 (v := ?_) rfl (by kernel_rfl) (by kernel_rfl) (by kernel_rfl) (fun _ _ _ h => h) (by assumption) (by rfl) ?_ ?_
  rotate_left
  · (intro W hW; go_simp; try with_reducible rfl)
  simp only [Act.put, List.setIfInBounds_toArray, List.set_cons_zero, List.set_cons_succ]
  refine held_take 11 (v := ?_) rfl (by kernel_rfl) (by kernel_rfl) (by kernel_rfl) (fun _ _ _ h => h) (by assumption) (by rfl) ?_ ?_
  rotate_left
  · (intro W hW; go_simp; try with_reducible rfl)
  simp only [Act.put, List.setIfInBounds_toArray, List.set_cons_zero, List.set_cons_succ]
  refine held_take 12 (v := ?_) rfl (by kernel_rfl) (by kernel_rfl) (by kernel_rfl) (fun _ _ _ h => h) (by assumption) (by rfl) ?_ ?_
  rotate_left
  · (intro W hW; go_simp; try with_reducible rfl)
  simp only [Act.put, List.setIfInBounds_toArray, List.set_cons_zero, List.set_cons_succ]
  refine held_take 13 (v := ?_) rfl (by kernel_rfl) (by kernel_rfl) (by kernel_rfl) (fun _ _ _ h => h) (by assumption) (by rfl) ?_ ?_
  rotate_left
  · (intro W hW; go_simp; try with_reducible rfl)
  simp only [Act.put, List.setIfInBounds_toArray, List.set_cons_zero, List.set_cons_succ]
  refine held_call 5 (f := 10) (args := #[.int .u32 4294967295, .slice a t cap, .bool wide]) rfl (by kernel_rfl) (by rfl) (by go_simp) ?_
  refine (more_any 4294967295 a t cap X1 wide _ E1.out (by omega) (by omega) hS.2.1).mono ?_
  rintro e w2 ⟨rfl, bb⟩
  replace hS : RowAt w2 q (cap - t) X2 ∧ RowAt w2 a cap X1 ∧ RowAt w2 a cap xs := ⟨hS.1.next bb, hS.2.1.next bb, hS.2.2.next bb⟩
  replace b1 := Below.chain b1 bb
  clear bb
  refine ⟨_, rfl, hS, ?_⟩
  simp only [Act.put, List.setIfInBounds_toArray, List.set_cons_zero, List.set_cons_succ]
  refine held_call 10 (f := 10) (args := #[.int .u32 (Fc.moreOf 4294967295 X1 wide : Nat), .slice q (n - t) (cap - t), .bool wide]) rfl (by kernel_rfl) (by rfl) (by go_simp) ?_
  refine (more_any _ q (n - t) (cap - t) X2 wide _ E2.out hl32 (by omega) hS.1).mono ?_
  rintro e w3 ⟨rfl, bb⟩
  replace hS : RowAt w3 q (cap - t) X2 ∧ RowAt w3 a cap X1 ∧ RowAt w3 a cap xs := ⟨hS.1.next bb, hS.2.1.next bb, hS.2.2.next bb⟩
  replace b1 := Below.chain b1 bb
  clear bb
  refine ⟨_, rfl, hS, ?_⟩
  simp only [Act.put, List.setIfInBounds_toArray, List.set_cons_zero, List.set_cons_succ]
  rw [Hp.out]
  refine held_call 14 (f := 10) (args := #[.int .u32 4294967295, .slice a n cap, .bool wide]) rfl (by kernel_rfl) (by rfl) (by go_simp) ?_
  refine (more_any 4294967295 a n cap xs wide _ Hn.out (by omega) (by omega) hS.2.2).mono ?_
  rintro e w4 ⟨rfl, bb⟩
  replace hS : RowAt w4 q (cap - t) X2 ∧ RowAt w4 a cap X1 ∧ RowAt w4 a cap xs := ⟨hS.1.next bb, hS.2.1.next bb, hS.2.2.next bb⟩
  replace b1 := Below.chain b1 bb
  clear bb
  refine ⟨_, rfl, hS, ?_⟩
  simp only [Act.put, List.setIfInBounds_toArray, List.set_cons_zero, List.set_cons_succ]
  generalize Fc.moreOf 4294967295 xs wide = M
  refine held_take 15 (v := ?_) rfl (by kernel_rfl) (by kernel_rfl) (by kernel_rfl) (fun _ _ _ h => h) (by assumption) (by rfl) ?_ ?_
  rotate_left
  · (intro W hW; go_simp; try with_reducible rfl)
  simp only [Act.put, List.setIfInBounds_toArray, List.set_cons_zero, List.set_cons_succ]
  refine held_take 16 (v := ?_) rfl (by kernel_rfl) (by kernel_rfl) (by kernel_rfl) (fun _ _ _ h => h) (by assumption) (by rfl) ?_ ?_
  rotate_left
  · (intro W hW; go_simp; try with_reducible rfl)
  simp only [Act.put, List.setIfInBounds_toArray, List.set_cons_zero, List.set_cons_succ]
  refine held_take 17 (v := ?_) rfl (by kernel_rfl) (by kernel_rfl) (by kernel_rfl) (fun _ _ _ h => h) (by assumption) (by rfl) ?_ ?_
  rotate_left
  · (intro W hW; go_simp; try with_reducible rfl)
  simp only [Act.put, List.setIfInBounds_toArray, List.set_cons_zero, List.set_cons_succ]
  refine held_call 18 (f := 10) (args := #[.int .u32 4294967295, .slice none 0 0, .bool false]) rfl (by kernel_rfl) (by rfl) (by go_simp) ?_
  refine (more_any 4294967295 none 0 0 [] false _ rfl (by omega) (by omega) (rowAt_nil _)).mono ?_
  rintro e w5 ⟨rfl, bb⟩
  replace hS : RowAt w5 q (cap - t) X2 ∧ RowAt w5 a cap X1 ∧ RowAt w5 a cap xs := ⟨hS.1.next bb, hS.2.1.next bb, hS.2.2.next bb⟩
  replace b1 := Below.chain b1 bb
  clear bb
  refine ⟨_, rfl, hS, ?_⟩
  simp only [Act.put, List.setIfInBounds_toArray, List.set_cons_zero, List.set_cons_succ]
  rw [nil_more]
  refine held_take 19 (v := ?_) rfl (by kernel_rfl) (by kernel_rfl) (by kernel_rfl) (fun _ _ _ h => h) (by assumption) (by rfl) ?_ ?_
  rotate_left
  · (intro W hW; go_simp; try with_reducible rfl)
  simp only [Act.put, List.setIfInBounds_toArray, List.set_cons_zero, List.set_cons_succ]
  refine held_take 20 (v := ?_) rfl (by kernel_rfl) (by kernel_rfl) (by kernel_rfl) (fun _ _ _ h => h) (by assumption) (by rfl) ?_ ?_
  rotate_left
  · (intro W hW; go_simp; try with_reducible rfl)
  simp only [Act.put, List.setIfInBounds_toArray, List.set_cons_zero, List.set_cons_succ]
  refine held_take 21 (v := ?_) rfl (by kernel_rfl) (by kernel_rfl) (by kernel_rfl) (fun _ _ _ h => h) (by assumption) (by rfl) ?_ ?_
  rotate_left
  · (intro W hW; go_simp; try with_reducible rfl)
  simp only [Act.put, List.setIfInBounds_toArray, List.set_cons_zero, List.set_cons_succ]
  refine held_done (by kernel_rfl) ?_
  go_wp2
  go_ret
  exact ⟨rfl, b1⟩

theorem parts_walk (a : Option Addr) (cap : Nat) (xs : List UInt8) (m : Nat) (wide : Bool) (w : World) (h : RowAt w a cap xs) (hm : m < 65536) :
    Calls Try.prog 6 #[.slice a xs.length cap, .int .u16 (m : Int), .bool wide] w fun e w' => e = .returned (.bool true) ∧ Below w.heap.size w w' := by
  by_cases hg : (2000 : Int) < (xs.length : Int)
  · exact parts_long a cap xs.length m wide w hg
  · exact parts_short a cap xs xs.length m wide w rfl h hm hg
end Go.Proofs.Ytdpgefnnenlehaa
