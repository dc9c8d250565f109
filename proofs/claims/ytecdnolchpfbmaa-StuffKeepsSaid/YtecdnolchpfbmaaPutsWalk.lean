/- StuffPuts: the walk. -/
import Derived.Test.YtecdnolchpfbmaaWh
import Derived.Test.YtecdnolchpfbmaaHeld
namespace Go.Proofs.Ytecdnolchpfbmaa
open Go.RowKit

theorem refStuff_row (cap m n q : Nat) (a : Option Addr) (xs : List UInt8) (w : World) (hn : xs.length = n) (hm : m < 4294967296) (hx : n ≤ 100000) (hr : RowAt w a cap xs) (hq : (St.stuff m xs).length = q) :
    Calls Try.prog 8 #[.slice a n cap, .int .u32 (m : Int)] w fun e w' => ∃ a' c', e = .returned (.slice a' q c') ∧ RowAt w' a' c' (St.stuff m xs) ∧ Below w.heap.size w w' := by
  refine (refStuff_own cap m n a xs w hn hm hx hr.bytes).mono ?_
  rintro e w' ⟨v, rfl, o, b⟩
  obtain ⟨a', c', rfl, r⟩ := rowAt_own rfl o
  exact ⟨a', c', by rw [hq], r, b⟩

set_option maxRecDepth 10000 in
set_option maxHeartbeats 1000000 in
theorem puts_long (m : Nat) (a : Option Addr) (cap n : Nat) (w : World) (hg : (2000 : Int) < (n : Int)) :
    Calls Try.prog 3 #[.slice a n cap, .int .u32 (m : Int)] w fun e w' => e = .returned (.bool true) ∧ Below w.heap.size w w' := by
  go_enter Try.func3, Try.ntmps3
  go_wp2_with fail
  refine (awake_any _).mono ?_
  rintro e w1 ⟨rfl, b1⟩
  go_wp2_with fail
  refine (awake_any _).mono ?_
  rintro e w2 ⟨rfl, b2⟩
  go_wp2
  go_ret
  exact ⟨rfl, Below.chain b1 b2⟩

set_option maxRecDepth 100000 in
set_option maxHeartbeats 4000000 in
theorem puts_short (m : Nat) (a : Option Addr) (cap : Nat) (xs : List UInt8) (n : Nat) (w : World) (hm : m < 4294967296) (hn : xs.length = n) (h : RowAt w a cap xs) (hg : ¬ (2000 : Int) < (n : Int)) :
    Calls Try.prog 3 #[.slice a n cap, .int .u32 (m : Int)] w fun e w' => e = .returned (.bool true) ∧ Below w.heap.size w w' := by
  obtain ⟨z, hz⟩ : ∃ z, (St.stuff m xs).length = z := ⟨_, rfl⟩
  have c8 := fun (W : World) (h : RowAt W a cap xs) => refStuff_row cap m n z a xs W hn hm (by omega) h hz
  have c9 := fun (W : World) (h : RowAt W a cap xs) => stuff_row cap m n z a xs W hn hm (by omega) h hz
  have c10 := fun (W : World) (h : RowAt W a cap xs) => size_any cap m n a xs W hn hm (by omega) h
  rw [hz] at c10
  generalize St.stuff m xs = Z at c8 c9 hz
  have Hz := Lib.hid hz
  have C8 := Lib.hid c8
  have C9 := Lib.hid c9
  have C10 := Lib.hid c10
  have H := Lib.hid h
  clear hz c8 c9 c10 h hn
  go_enter Try.func3, Try.ntmps3
  go_wp2_with fail
  refine (awake_any _).mono ?_
  rintro e w1 ⟨rfl, b1⟩
  have h1 := Lib.hid (H.out.next b1)
  go_wp2_with fail
  refine (C8.out _ h1.out).mono ?_
  rintro e w2 ⟨p2, c2, rfl, r2, b2⟩
  have hS : RowAt w2.drew p2 c2 Z ∧ RowAt w2.drew a cap xs := ⟨r2.drawn, (h1.out.next b2).drawn⟩
  replace b1 := Below.chain (Below.chain b1 b2) (Below.refl _ _).drew
  clear b2 r2 h1
  go_wp2_with fail
  refine held_start (S := fun W => RowAt W p2 c2 Z ∧ RowAt W a cap xs) 16 (by kernel_rfl) rfl ?_
  generalize w2.drew = w3 at hS b1 ⊢
  refine held_take 0 (v := ?_) rfl (by kernel_rfl) (by kernel_rfl) (by kernel_rfl) (fun _ _ _ h => h) (by assumption) (by rfl) ?_ ?_
  rotate_left
  · (intro W hW; go_simp; try with_reducible rfl)
  simp only [Act.put, List.setIfInBounds_toArray, List.set_cons_zero, List.set_cons_succ]
  refine held_take 1 (v := ?_) rfl (by kernel_rfl) (by kernel_rfl) (by kernel_rfl) (fun _ _ _ h => h) (by assumption) (by rfl) ?_ ?_
  rotate_left
  · (intro W hW; go_simp; try with_reducible rfl)
  simp only [Act.put, List.setIfInBounds_toArray, List.set_cons_zero, List.set_cons_succ]
  refine held_take 4 (v := ?_) rfl (by kernel_rfl) (by kernel_rfl) (by kernel_rfl) (fun _ _ _ h => h) (by assumption) (by rfl) ?_ ?_
  rotate_left
  · (intro W hW; go_simp; try with_reducible rfl)
  simp only [Act.put, List.setIfInBounds_toArray, List.set_cons_zero, List.set_cons_succ]
  refine held_take 5 (v := ?_) rfl (by kernel_rfl) (by kernel_rfl) (by kernel_rfl) (fun _ _ _ h => h) (by assumption) (by rfl) ?_ ?_
  rotate_left
  · (intro W hW; have cv := conv_row Hz.out hW.1; go_simp; try with_reducible rfl)
  simp only [Act.put, List.setIfInBounds_toArray, List.set_cons_zero, List.set_cons_succ]
  refine held_call 2 (f := 9) (args := #[.slice a n cap, .int .u32 (m : Int)]) rfl (by kernel_rfl) (by rfl) (by go_simp) ?_
  refine (C9.out _ hS.2).mono ?_
  rintro e w4 ⟨p4, c4, rfl, r4, bb⟩
  replace hS : RowAt w4 p2 c2 Z ∧ RowAt w4 a cap xs := ⟨hS.1.next bb, hS.2.next bb⟩
  refine ⟨_, rfl, hS, ?_⟩
  simp only [Act.put, List.setIfInBounds_toArray, List.set_cons_zero, List.set_cons_succ]
  refine held_more (S' := fun W => RowAt W p4 c4 Z ∧ RowAt W p2 c2 Z ∧ RowAt W a cap xs) (fun _ h => h.2) _ _ _ _ ?_
  have hS2 : RowAt w4 p4 c4 Z ∧ RowAt w4 p2 c2 Z ∧ RowAt w4 a cap xs := ⟨r4, hS⟩
  replace b1 := Below.chain b1 bb
  clear r4 hS bb
  refine held_take 3 (v := ?_) rfl (by kernel_rfl) (by kernel_rfl) (by kernel_rfl) (fun _ _ _ h => h) (by assumption) (by rfl) ?_ ?_
  rotate_left
  · (intro W hW; have cv := conv_row Hz.out hW.1; go_simp; try with_reducible rfl)
  simp only [Act.put, List.setIfInBounds_toArray, List.set_cons_zero, List.set_cons_succ]
  refine held_take 6 (v := ?_) rfl (by kernel_rfl) (by kernel_rfl) (by kernel_rfl) (fun _ _ _ h => h) (by assumption) (by rfl) ?_ ?_
  rotate_left
  · (intro W hW; go_simp; try with_reducible rfl)
  simp only [Act.put, List.setIfInBounds_toArray, List.set_cons_zero, List.set_cons_succ]
  refine held_take 7 (v := ?_) rfl (by kernel_rfl) (by kernel_rfl) (by kernel_rfl) (fun _ _ _ h => h) (by assumption) (by rfl) ?_ ?_
  rotate_left
  · (intro W hW; go_simp; try with_reducible rfl)
  simp only [Act.put, List.setIfInBounds_toArray, List.set_cons_zero, List.set_cons_succ]
  refine held_take 8 (v := ?_) rfl (by kernel_rfl) (by kernel_rfl) (by kernel_rfl) (fun _ _ _ h => h) (by assumption) (by rfl) ?_ ?_
  rotate_left
  · (intro W hW; go_simp; try with_reducible rfl)
  simp only [Act.put, List.setIfInBounds_toArray, List.set_cons_zero, List.set_cons_succ]
  refine held_take 9 (v := ?_) rfl (by kernel_rfl) (by kernel_rfl) (by kernel_rfl) (fun _ _ _ h => h) (by assumption) (by rfl) ?_ ?_
  rotate_left
  · (intro W hW; go_simp; try with_reducible rfl)
  simp only [Act.put, List.setIfInBounds_toArray, List.set_cons_zero, List.set_cons_succ]
  refine held_take 11 (v := ?_) rfl (by kernel_rfl) (by kernel_rfl) (by kernel_rfl) (fun _ _ _ h => h) (by assumption) (by rfl) ?_ ?_
  rotate_left
  · (intro W hW; go_simp; try with_reducible rfl)
  simp only [Act.put, List.setIfInBounds_toArray, List.set_cons_zero, List.set_cons_succ]
  refine held_take 12 (v := ?_) rfl (by kernel_rfl) (by kernel_rfl) (by kernel_rfl) (fun _ _ _ h => h) (by assumption) (by rfl) ?_ ?_
  rotate_left
  · (intro W hW; go_simp; try with_reducible rfl)
  simp only [Act.put, List.setIfInBounds_toArray, List.set_cons_zero, List.set_cons_succ]
  refine held_call 10 (f := 10) (args := #[.slice a n cap, .int .u32 (m : Int)]) rfl (by kernel_rfl) (by rfl) (by go_simp) ?_
  refine (C10.out _ hS2.2.2).mono ?_
  rintro e w5 ⟨rfl, bb⟩
  replace hS2 : RowAt w5 p4 c4 Z ∧ RowAt w5 p2 c2 Z ∧ RowAt w5 a cap xs := ⟨hS2.1.next bb, hS2.2.1.next bb, hS2.2.2.next bb⟩
  replace b1 := Below.chain b1 bb
  clear bb
  refine ⟨_, rfl, hS2, ?_⟩
  simp only [Act.put, List.setIfInBounds_toArray, List.set_cons_zero, List.set_cons_succ]
  refine held_take 13 (v := ?_) rfl (by kernel_rfl) (by kernel_rfl) (by kernel_rfl) (fun _ _ _ h => h) (by assumption) (by rfl) ?_ ?_
  rotate_left
  · (intro W hW; go_simp; try with_reducible rfl)
  simp only [Act.put, List.setIfInBounds_toArray, List.set_cons_zero, List.set_cons_succ]
  refine held_take 14 (v := ?_) rfl (by kernel_rfl) (by kernel_rfl) (by kernel_rfl) (fun _ _ _ h => h) (by assumption) (by rfl) ?_ ?_
  rotate_left
  · (intro W hW; go_simp; try with_reducible rfl)
  simp only [Act.put, List.setIfInBounds_toArray, List.set_cons_zero, List.set_cons_succ]
  refine held_take 15 (v := ?_) rfl (by kernel_rfl) (by kernel_rfl) (by kernel_rfl) (fun _ _ _ h => h) (by assumption) (by rfl) ?_ ?_
  rotate_left
  · (intro W hW; go_simp; try with_reducible rfl)
  simp only [Act.put, List.setIfInBounds_toArray, List.set_cons_zero, List.set_cons_succ]
  refine held_done (by kernel_rfl) ?_
  go_wp2
  go_ret
  exact ⟨rfl, b1⟩

theorem puts_walk (m : Nat) (a : Option Addr) (cap : Nat) (xs : List UInt8) (w : World) (hm : m < 4294967296) (h : RowAt w a cap xs) :
    Calls Try.prog 3 #[.slice a xs.length cap, .int .u32 (m : Int)] w fun e w' => e = .returned (.bool true) ∧ Below w.heap.size w w' := by
  by_cases hg : (2000 : Int) < (xs.length : Int)
  · exact puts_long m a cap xs.length w hg
  · exact puts_short m a cap xs xs.length w hm rfl h hg
end Go.Proofs.Ytecdnolchpfbmaa
