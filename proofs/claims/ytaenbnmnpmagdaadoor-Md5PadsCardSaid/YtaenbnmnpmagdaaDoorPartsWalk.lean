/- The walk of Md5Parts. -/
import Derived.Test.YtaenbnmnpmagdaaDoorEq
namespace Go.Proofs.YtaenbnmnpmagdaaDoor
open Go.RowKit

theorem sum_parts (xs : List UInt8) (L : List (List UInt8)) (n : Nat) (D : Array Value) (hD : D = (Lib.byteCells (Md.sum xs)).toArray) (hL : L.flatten = xs) (hn : L.length = n) (h1 : n ≤ 1000) (h2 : xs.length ≤ 10000) :
    ∀ W p, PartsAt W p L → Tabs W → Calls Tryd.prog 8 #[.slice p n n] W fun e w' => e = .returned (.agg D) ∧ Below W.heap.size W w' := fun W p hp ht => by
  rw [hD]; exact sum_any p n n L xs W hn hL (by omega) h2 hp ht
set_option maxHeartbeats 2000000 in
set_option maxRecDepth 100000 in
theorem parts_main (a : Option Addr) (cap i j : Nat) (xs : List UInt8) (w : World) (hl : xs.length ≤ 2000) (hi : i < 65536) (hj : j < 65536) (h : RowAt w a cap xs) (ht : Tabs w) :
    Calls Tryd.prog 4 #[.slice a xs.length cap, .int .u16 (i : Int), .int .u16 (j : Int)] w fun e w' => e = .returned (.bool true) ∧ Below w.heap.size w w' := by
  have HR := Lib.hid h
  have HT := Lib.hid ht
  have hcap := h.le
  clear h ht
  have hg : ¬ 2000 < (xs.length : Int) := by omega
  obtain ⟨m, hm⟩ : ∃ m, m = i % (xs.length + 1) := ⟨_, rfl⟩
  have hm1 : m ≤ xs.length := by have := Nat.mod_lt i (show 0 < xs.length + 1 by omega); omega
  obtain ⟨r, hr⟩ : ∃ r, r = j % (xs.length + 1 - m) := ⟨_, rfl⟩
  have hr1 : m + r ≤ xs.length := by have := Nat.mod_lt j (show 0 < xs.length + 1 - m by omega); omega
  have e1 : (i : Int) % ((xs.length : Int) + 1) = (m : Int) := by rw [hm]; simp
  have e2 : (j : Int) % ((xs.length : Int) + 1 - (m : Int)) = (r : Int) := by
    rw [hr, Int.natCast_emod]; congr 1; omega
  have n1 : ¬ (xs.length : Int) + 1 = 0 := by omega
  have n2 : ¬ (xs.length : Int) + 1 - (m : Int) = 0 := by omega
  clear hm hr
  go_enter Tryd.func4, Tryd.ntmps4
  go_wp2_with fail
  refine (awake_any _ HT.out).mono ?_
  rintro e w1 ⟨rfl, b1⟩
  go_wp2
  obtain ⟨n, hn⟩ : ∃ n, n = m + r := ⟨_, rfl⟩
  rw [e1, show (m : Int) + (r : Int) = (n : Int) by omega]
  obtain ⟨k2, hk2⟩ : ∃ k, k = n - m := ⟨_, rfl⟩
  obtain ⟨k3, hk3⟩ : ∃ k, k = xs.length - n := ⟨_, rfl⟩
  obtain ⟨c2, hc2⟩ : ∃ k, k = cap - m := ⟨_, rfl⟩
  obtain ⟨c3, hc3⟩ : ∃ k, k = cap - n := ⟨_, rfl⟩
  obtain ⟨p2, hp2⟩ : ∃ p, p = if cap = m then a else a.map (·.add m) := ⟨_, rfl⟩
  obtain ⟨p3, hp3⟩ : ∃ p, p = if cap = n then a else a.map (·.add n) := ⟨_, rfl⟩
  have hrw := HR.out.next (Below.chain b1 (Below.refl _ _).drew)
  have R1 := Lib.hid (hrw.head m)
  have hr2 := hrw.cut m n (by omega) (by omega)
  have hr3 := hrw.cut n xs.length (by omega) (Nat.le_refl _)
  rw [← hp2, ← hc2] at hr2
  rw [← hp3, ← hc3, List.take_length] at hr3
  have R2 := Lib.hid hr2
  have R3 := Lib.hid hr3
  have L1 : Hid ((xs.take m).length = m) := by show _ = _; simp; omega
  have L2 : Hid (((xs.take n).drop m).length = k2) := by show _ = _; simp; omega
  have L3 : Hid ((xs.drop n).length = k3) := by show _ = _; simp; omega
  have HR1 := Lib.hid hrw
  have HT1 := Lib.hid (HT.out.next (Below.chain b1 (Below.refl _ _).drew))
  have HB1 := Lib.hid (Below.chain b1 (Below.refl _ _).drew)
  have P4 := Lib.hid (parts_four L1.out L2.out L3.out R1.out R2.out R3.out)
  obtain ⟨D, hD⟩ : ∃ D, D = (Lib.byteCells (Md.sum xs)).toArray := ⟨_, rfl⟩
  have S4 := Lib.hid (sum_parts xs [xs.take m, (xs.take n).drop m, [], xs.drop n] 4 D hD (by
    have e : xs.take m ++ (xs.take n).drop m = xs.take n := by
      have := List.take_append_drop m (xs.take n)
      rwa [List.take_take, Nat.min_eq_left (by omega)] at this
    simp [← List.append_assoc, e]) rfl (by omega) (by omega))
  have S1 := Lib.hid (sum_parts xs [xs] 1 D hD (by simp) rfl (by omega) (by omega))
  have heq : ∀ w, (Op.equalIn 10000 24 (.agg D) (.agg D)).run Tryd.prog w = .ok true w := fun w => by rw [hD]; exact eql_digest _ (sum_length _) w
  have hgu := guard24
  have q1 : (m : Int) ≤ (cap : Int) := by omega
  have q2 : (n : Int) ≤ (cap : Int) := by omega
  have q3 : m ≤ n := by omega
  have q4 : n ≤ xs.length := by omega
  have q5 : (n : Int) ≤ (xs.length : Int) := by omega
  have hk2' := hk2.symm
  have hk3' := hk3.symm
  have hc2' := hc2.symm
  have hc3' := hc3.symm
  have hp2' := hp2.symm
  have hp3' := hp3.symm
  clear hr2 hr3 hrw hD hk2 hk3 hc2 hc3 hp2 hp3 e1 e2 n1 n2 hn hr1 HR HT b1 hm1
  refine held_start (S := fun _ => True) 17 (by kernel_rfl) rfl ?_
  refine held_take 0 (v := ?_) rfl (by kernel_rfl) (by kernel_rfl) (by kernel_rfl) (fun _ _ _ h => h) trivial (by rfl) ?_ ?_
  rotate_left
  · (intro W hW; go_simp; try with_reducible rfl)
  simp only [Act.put, List.setIfInBounds_toArray, List.set_cons_zero, List.set_cons_succ]
  refine held_take 1 (v := ?_) rfl (by kernel_rfl) (by kernel_rfl) (by kernel_rfl) (fun _ _ _ h => h) trivial (by rfl) ?_ ?_
  rotate_left
  · (intro W hW; go_simp; try with_reducible rfl)
  simp only [Act.put, List.setIfInBounds_toArray, List.set_cons_zero, List.set_cons_succ]
  refine held_take 2 (v := .slice a m cap) rfl (by kernel_rfl) (by kernel_rfl) (by kernel_rfl) (fun _ _ _ h => h) trivial (by rfl) ?_ ?_
  · (intro W hW; go_simp)
  simp only [Act.put, List.setIfInBounds_toArray, List.set_cons_zero, List.set_cons_succ]
  refine held_take 3 (v := ?_) rfl (by kernel_rfl) (by kernel_rfl) (by kernel_rfl) (fun _ _ _ h => h) trivial (by rfl) ?_ ?_
  rotate_left
  · (intro W hW; go_simp; try with_reducible rfl)
  simp only [Act.put, List.setIfInBounds_toArray, List.set_cons_zero, List.set_cons_succ]
  refine held_take 4 (v := ?_) rfl (by kernel_rfl) (by kernel_rfl) (by kernel_rfl) (fun _ _ _ h => h) trivial (by rfl) ?_ ?_
  rotate_left
  · (intro W hW; go_simp; try with_reducible rfl)
  simp only [Act.put, List.setIfInBounds_toArray, List.set_cons_zero, List.set_cons_succ]
  refine held_take 5 (v := ?_) rfl (by kernel_rfl) (by kernel_rfl) (by kernel_rfl) (fun _ _ _ h => h) trivial (by rfl) ?_ ?_
  rotate_left
  · (intro W hW; go_simp; try with_reducible rfl)
  simp only [Act.put, List.setIfInBounds_toArray, List.set_cons_zero, List.set_cons_succ]
  refine held_take 6 (v := .slice p2 k2 c2) rfl (by kernel_rfl) (by kernel_rfl) (by kernel_rfl) (fun _ _ _ h => h) trivial (by rfl) ?_ ?_
  · (intro W hW; go_simp)
  simp only [Act.put, List.setIfInBounds_toArray, List.set_cons_zero, List.set_cons_succ]
  refine held_take 7 (v := ?_) rfl (by kernel_rfl) (by kernel_rfl) (by kernel_rfl) (fun _ _ _ h => h) trivial (by rfl) ?_ ?_
  rotate_left
  · (intro W hW; go_simp; try with_reducible rfl)
  simp only [Act.put, List.setIfInBounds_toArray, List.set_cons_zero, List.set_cons_succ]
  refine held_take 8 (v := ?_) rfl (by kernel_rfl) (by kernel_rfl) (by kernel_rfl) (fun _ _ _ h => h) trivial (by rfl) ?_ ?_
  rotate_left
  · (intro W hW; go_simp; try with_reducible rfl)
  simp only [Act.put, List.setIfInBounds_toArray, List.set_cons_zero, List.set_cons_succ]
  refine held_take 9 (v := .slice p3 k3 c3) rfl (by kernel_rfl) (by kernel_rfl) (by kernel_rfl) (fun _ _ _ h => h) trivial (by rfl) ?_ ?_
  · (intro W hW; go_simp)
  simp only [Act.put, List.setIfInBounds_toArray, List.set_cons_zero, List.set_cons_succ]
  refine held_take 12 (v := ?_) rfl (by kernel_rfl) (by kernel_rfl) (by kernel_rfl) (fun _ _ _ h => h) trivial (by rfl) ?_ ?_
  rotate_left
  · (intro W hW; go_simp; try with_reducible rfl)
  simp only [Act.put, List.setIfInBounds_toArray, List.set_cons_zero, List.set_cons_succ]
  refine held_two_mm 10 13 (v := .slice (some ⟨w1.drew.heap.size, 0, none⟩) 4 4) (u := .slice (some ⟨w1.drew.heap.size, 0, none⟩) 1 1) (w1 := w1.drew.alloc (.cells #[.slice a m cap, .slice p2 k2 c2, .slice none 0 0, .slice p3 k3 c3] 22)) (w2 := w1.drew.alloc (.cells #[.slice a xs.length cap] 22)) rfl rfl (by kernel_rfl) (by rfl) (by rfl) (by go_simp) (by go_simp) trivial trivial ?_ ?_
  · simp only [Act.put, List.setIfInBounds_toArray, List.set_cons_zero, List.set_cons_succ]
    have hb2 : Below w1.drew.heap.size w1.drew (w1.drew.alloc (.cells #[.slice a m cap, .slice p2 k2 c2, .slice none 0 0, .slice p3 k3 c3] 22)) := (Below.refl _ _).alloc (Nat.le_refl _) _
    have HP4 := Lib.hid (P4.out)
    have HT2 := Lib.hid (HT1.out.next hb2)
    have HR2 := Lib.hid (HR1.out.next hb2)
    have HB2 := Lib.hid (Below.chain HB1.out hb2)
    generalize w1.drew.alloc (.cells #[.slice a m cap, .slice p2 k2 c2, .slice none 0 0, .slice p3 k3 c3] 22) = w2 at HP4 HT2 HR2 HB2 ⊢
    generalize w1.drew.heap.size = g4 at HP4 ⊢
    refine held_two_cm 11 13 (f := 8) (args := #[.slice (some ⟨g4, 0, none⟩) 4 4]) (v := .slice (some ⟨w2.heap.size, 0, none⟩) 1 1) (w1 := w2.alloc (.cells #[.slice a xs.length cap] 22)) rfl rfl (by kernel_rfl) (by rfl) (by rfl) (by go_simp) (by go_simp) trivial ?_ ?_
    · refine (S4.out _ _ HP4.out HT2.out).mono ?_
      rintro e w3 ⟨rfl, b3⟩
      refine ⟨_, rfl, trivial, ?_⟩
      simp only [Act.put, List.setIfInBounds_toArray, List.set_cons_zero, List.set_cons_succ]
      have HP1 := Lib.hid (parts_one rfl (HR2.out.next b3))
      have hb4 : Below w3.heap.size w3 (w3.alloc (.cells #[.slice a xs.length cap] 22)) := (Below.refl _ _).alloc (Nat.le_refl _) _
      have HT4 := Lib.hid ((HT2.out.next b3).next hb4)
      have HB4 := Lib.hid (Below.chain (Below.chain HB2.out b3) hb4)
      refine held_makes 13 (v := .slice (some ⟨w3.heap.size, 0, none⟩) 1 1) (w' := w3.alloc (.cells #[.slice a xs.length cap] 22)) rfl (by kernel_rfl) (by rfl) (by go_simp) trivial ?_
      simp only [Act.put, List.setIfInBounds_toArray, List.set_cons_zero, List.set_cons_succ]
      generalize w3.alloc (.cells #[.slice a xs.length cap] 22) = w4 at HP1 HT4 HB4 ⊢
      generalize w3.heap.size = g1 at HP1 ⊢
      refine held_call 14 (f := 8) (args := #[.slice (some ⟨g1, 0, none⟩) 1 1]) rfl (by kernel_rfl) (by rfl) (by go_simp) ?_
      refine (S1.out _ _ HP1.out HT4.out).mono ?_
      rintro e w5 ⟨rfl, b5⟩
      refine ⟨_, rfl, trivial, ?_⟩
      simp only [Act.put, List.setIfInBounds_toArray, List.set_cons_zero, List.set_cons_succ]
      refine held_take 15 (v := .bool true) rfl (by kernel_rfl) (by kernel_rfl) (by kernel_rfl) (fun _ _ _ h => h) trivial (by rfl) ?_ ?_
      · (intro W hW; go_simp)
      simp only [Act.put, List.setIfInBounds_toArray, List.set_cons_zero, List.set_cons_succ]
      refine held_take 16 (v := ?_) rfl (by kernel_rfl) (by kernel_rfl) (by kernel_rfl) (fun _ _ _ h => h) trivial (by rfl) ?_ ?_
      rotate_left
      · (intro W hW; go_simp; try with_reducible rfl)
      simp only [Act.put, List.setIfInBounds_toArray, List.set_cons_zero, List.set_cons_succ]
      refine held_done (by kernel_rfl) ?_
      go_wp2
      go_ret
      exact ⟨rfl, Below.chain HB4.out b5⟩
    · simp only [Act.put, List.setIfInBounds_toArray, List.set_cons_zero, List.set_cons_succ]
      have HP1 := Lib.hid (parts_one rfl HR2.out)
      have hb4 : Below w2.heap.size w2 (w2.alloc (.cells #[.slice a xs.length cap] 22)) := (Below.refl _ _).alloc (Nat.le_refl _) _
      have HP4' := Lib.hid (HP4.out.next hb4)
      have HT4 := Lib.hid (HT2.out.next hb4)
      have HB4 := Lib.hid (Below.chain HB2.out hb4)
      generalize w2.alloc (.cells #[.slice a xs.length cap] 22) = w4 at HP1 HP4' HT4 HB4 ⊢
      generalize w2.heap.size = g1 at HP1 ⊢
      refine held_call 11 (f := 8) (args := #[.slice (some ⟨g4, 0, none⟩) 4 4]) rfl (by kernel_rfl) (by rfl) (by go_simp) ?_
      refine (S4.out _ _ HP4'.out HT4.out).mono ?_
      rintro e w5 ⟨rfl, b5⟩
      refine ⟨_, rfl, trivial, ?_⟩
      simp only [Act.put, List.setIfInBounds_toArray, List.set_cons_zero, List.set_cons_succ]
      refine held_call 14 (f := 8) (args := #[.slice (some ⟨g1, 0, none⟩) 1 1]) rfl (by kernel_rfl) (by rfl) (by go_simp) ?_
      refine (S1.out _ _ (HP1.out.next b5) (HT4.out.next b5)).mono ?_
      rintro e w6 ⟨rfl, b6⟩
      refine ⟨_, rfl, trivial, ?_⟩
      simp only [Act.put, List.setIfInBounds_toArray, List.set_cons_zero, List.set_cons_succ]
      refine held_take 15 (v := .bool true) rfl (by kernel_rfl) (by kernel_rfl) (by kernel_rfl) (fun _ _ _ h => h) trivial (by rfl) ?_ ?_
      · (intro W hW; go_simp)
      simp only [Act.put, List.setIfInBounds_toArray, List.set_cons_zero, List.set_cons_succ]
      refine held_take 16 (v := ?_) rfl (by kernel_rfl) (by kernel_rfl) (by kernel_rfl) (fun _ _ _ h => h) trivial (by rfl) ?_ ?_
      rotate_left
      · (intro W hW; go_simp; try with_reducible rfl)
      simp only [Act.put, List.setIfInBounds_toArray, List.set_cons_zero, List.set_cons_succ]
      refine held_done (by kernel_rfl) ?_
      go_wp2
      go_ret
      exact ⟨rfl, Below.chain (Below.chain HB4.out b5) b6⟩
  · simp only [Act.put, List.setIfInBounds_toArray, List.set_cons_zero, List.set_cons_succ]
    have hb2 : Below w1.drew.heap.size w1.drew (w1.drew.alloc (.cells #[.slice a xs.length cap] 22)) := (Below.refl _ _).alloc (Nat.le_refl _) _
    have HP1 := Lib.hid (parts_one rfl HR1.out)
    have HT2 := Lib.hid (HT1.out.next hb2)
    have HB2 := Lib.hid (Below.chain HB1.out hb2)
    have HR4 := Lib.hid (And.intro (R1.out.next hb2) (And.intro (R2.out.next hb2) (R3.out.next hb2)))
    generalize w1.drew.alloc (.cells #[.slice a xs.length cap] 22) = w2 at HP1 HT2 HB2 HR4 ⊢
    generalize w1.drew.heap.size = g1 at HP1 ⊢
    have HP4 := Lib.hid (parts_four L1.out L2.out L3.out HR4.out.1 HR4.out.2.1 HR4.out.2.2)
    have hb4 : Below w2.heap.size w2 (w2.alloc (.cells #[.slice a m cap, .slice p2 k2 c2, .slice none 0 0, .slice p3 k3 c3] 22)) := (Below.refl _ _).alloc (Nat.le_refl _) _
    have HP1' := Lib.hid (HP1.out.next hb4)
    have HT4 := Lib.hid (HT2.out.next hb4)
    have HB4 := Lib.hid (Below.chain HB2.out hb4)
    refine held_makes 10 (v := .slice (some ⟨w2.heap.size, 0, none⟩) 4 4) (w' := w2.alloc (.cells #[.slice a m cap, .slice p2 k2 c2, .slice none 0 0, .slice p3 k3 c3] 22)) rfl (by kernel_rfl) (by rfl) (by go_simp) trivial ?_
    simp only [Act.put, List.setIfInBounds_toArray, List.set_cons_zero, List.set_cons_succ]
    generalize w2.alloc (.cells #[.slice a m cap, .slice p2 k2 c2, .slice none 0 0, .slice p3 k3 c3] 22) = w4 at HP1' HP4 HT4 HB4 ⊢
    generalize w2.heap.size = g4 at HP4 ⊢
    refine held_call 11 (f := 8) (args := #[.slice (some ⟨g4, 0, none⟩) 4 4]) rfl (by kernel_rfl) (by rfl) (by go_simp) ?_
    refine (S4.out _ _ HP4.out HT4.out).mono ?_
    rintro e w5 ⟨rfl, b5⟩
    refine ⟨_, rfl, trivial, ?_⟩
    simp only [Act.put, List.setIfInBounds_toArray, List.set_cons_zero, List.set_cons_succ]
    refine held_call 14 (f := 8) (args := #[.slice (some ⟨g1, 0, none⟩) 1 1]) rfl (by kernel_rfl) (by rfl) (by go_simp) ?_
    refine (S1.out _ _ (HP1'.out.next b5) (HT4.out.next b5)).mono ?_
    rintro e w6 ⟨rfl, b6⟩
    refine ⟨_, rfl, trivial, ?_⟩
    simp only [Act.put, List.setIfInBounds_toArray, List.set_cons_zero, List.set_cons_succ]
    refine held_take 15 (v := .bool true) rfl (by kernel_rfl) (by kernel_rfl) (by kernel_rfl) (fun _ _ _ h => h) trivial (by rfl) ?_ ?_
    · (intro W hW; go_simp)
    simp only [Act.put, List.setIfInBounds_toArray, List.set_cons_zero, List.set_cons_succ]
    refine held_take 16 (v := ?_) rfl (by kernel_rfl) (by kernel_rfl) (by kernel_rfl) (fun _ _ _ h => h) trivial (by rfl) ?_ ?_
    rotate_left
    · (intro W hW; go_simp; try with_reducible rfl)
    simp only [Act.put, List.setIfInBounds_toArray, List.set_cons_zero, List.set_cons_succ]
    refine held_done (by kernel_rfl) ?_
    go_wp2
    go_ret
    exact ⟨rfl, Below.chain (Below.chain HB4.out b5) b6⟩

set_option maxHeartbeats 1000000 in
theorem parts_long (a : Option Addr) (cap i j : Nat) (xs : List UInt8) (w : World) (hl : 2000 < xs.length) (ht : Tabs w) :
    Calls Tryd.prog 4 #[.slice a xs.length cap, .int .u16 (i : Int), .int .u16 (j : Int)] w fun e w' => e = .returned (.bool true) ∧ Below w.heap.size w w' := by
  have HT := Lib.hid ht
  clear ht
  have hg : 2000 < (xs.length : Int) := by omega
  go_enter Tryd.func4, Tryd.ntmps4
  go_wp2_with fail
  refine (awake_any _ HT.out).mono ?_
  rintro e w1 ⟨rfl, b1⟩
  go_wp2_with fail
  refine (awake_any _ (HT.out.next b1)).mono ?_
  rintro e w2 ⟨rfl, b2⟩
  go_wp2
  go_ret
  exact ⟨rfl, Below.chain b1 b2⟩
theorem parts_walk (a : Option Addr) (cap i j n : Nat) (xs : List UInt8) (w : World) (hn : xs.length = n) (hi : i < 65536) (hj : j < 65536) (h : RowAt w a cap xs) (ht : Tabs w) :
    Calls Tryd.prog 4 #[.slice a n cap, .int .u16 (i : Int), .int .u16 (j : Int)] w fun e w' => e = .returned (.bool true) ∧ Below w.heap.size w w' := by
  subst hn
  by_cases hl : xs.length ≤ 2000
  · exact parts_main a cap i j xs w hl hi hj h ht
  · exact parts_long a cap i j xs w (by omega) ht
end Go.Proofs.YtaenbnmnpmagdaaDoor
