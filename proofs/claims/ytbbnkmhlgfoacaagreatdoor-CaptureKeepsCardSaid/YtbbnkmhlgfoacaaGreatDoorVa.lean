/- Contract of the document's with. -/
import Derived.Test.YtbbnkmhlgfoacaaGreatDoorCj
namespace Go.Proofs.YtbbnkmhlgfoacaaGreatDoor
open Go.RowKit
open S10

set_option maxRecDepth 100000 in
set_option maxHeartbeats 1000000 in
theorem with_any (v : Value) (d : Int) (p : Option Addr) (n c : Nat) (b : List UInt8) (L : List Cp.It) (B : Nat) (E : Nat → Prop) (w : World) (hn : b.length = n) (hm : n ≤ 90000) (hr : RowAt w p c b) (hL : Its w B E v L) (hB : B ≤ w.heap.size) (hE : ∀ k, w.heap.size ≤ k → E k) (hl : L.length ≤ 1000000) :
  Calls Tryz.prog 39 #[v, .int .i64 d, .slice p n c] w fun e w' => ∃ v', e = .returned v' ∧ Its w' B E v' (L ++ Cp.item d b) ∧ Grew w w' v v' := by
 have c1 := S8.refRead_any p c n b w hn hm (RowAt.to8 hr)
 have hk := S8.Hd.read_known b
 have g0 := Cp.item_good d b
 have g1 := Cp.item_bad d b
 have g2 := S8.Hd.body_good b
 generalize S8.Hd.read b = A at *
 generalize S8.Hd.body b = X at *
 obtain ⟨q, t, r⟩ := A
 simp only at c1 g0 g1 g2 hk
 generalize Cp.item d b = M at *
 have HL := Lib.hid hL
 have G0 := Lib.hid g0
 have G1 := Lib.hid g1
 have G2 := Lib.hid g2
 have HR := Lib.hid hr
 have HN := Lib.hid hn
 clear hL g0 g1 g2 hr hn
 obtain ⟨av, cv, rfl⟩ := its_slice HL.out
 obtain ⟨nl, hnl⟩ : ∃ nl, L.length = nl := ⟨_, rfl⟩
 rw [hnl] at HL hl ⊢
 have HNL := Lib.hid hnl
 clear hnl
 go_enter Tryz.func39, Tryz.ntmps39
 go_wp2_with fail
 refine c1.mono ?_
 rintro e w1 ⟨rfl, b1⟩
 simp only [S8.hcells]
 have hs1 := b1.size
 have HB1 := Lib.hid b1
 clear c1 b1
 by_cases he : r = 0
 ·
  subst he
  have hM := Lib.hid (G0.out rfl)
  have hX := Lib.hid (G2.out rfl)
  have htl : t ≤ n := by have := hk.le; rw [HN.out] at this; exact this
  have hb1 := below_one w1 (.cells #[.int .i64 (q : Int), .int .i64 (t : Int)] 115)
  have hg1 := heap_alloc_new w1 (.cells #[.int .i64 (q : Int), .int .i64 (t : Int)] 115)
  have hz1 : (w1.alloc (.cells #[.int .i64 (q : Int), .int .i64 (t : Int)] 115)).heap.size = w1.heap.size + 1 := by simp
  have hb2 := below_one (w1.alloc (.cells #[.int .i64 (q : Int), .int .i64 (t : Int)] 115)) (.cells #[.int .i64 d, .int .i64 (q : Int), .slice none 0 0] 42)
  have hg2 := heap_alloc_new (w1.alloc (.cells #[.int .i64 (q : Int), .int .i64 (t : Int)] 115)) (.cells #[.int .i64 d, .int .i64 (q : Int), .slice none 0 0] 42)
  have hg12 := block_next hg1 hb2
  have hrow := HR.out.next (Below.chain (Below.chain HB1.out hb1) hb2)
  have hcut := hrow.cut t n (by omega) (by rw [HN.out]; exact Nat.le_refl _)
  rw [List.take_of_length_le (by rw [HN.out]; exact Nat.le_refl _)] at hcut
  have hle := hrow.le
  rw [HN.out] at hle
  rw [← hX.out] at hcut
  have hxl : X.length = n - t := by rw [hX.out, List.length_drop, HN.out]
  obtain ⟨P, hP⟩ : ∃ P, (if c = t then p else p.map (·.add t)) = P := ⟨_, rfl⟩
  obtain ⟨cP, hcP⟩ : ∃ cP, c - t = cP := ⟨_, rfl⟩
  obtain ⟨mP, hmP⟩ : ∃ mP, n - t = mP := ⟨_, rfl⟩
  rw [hP, hcP] at hcut
  rw [hmP] at hxl
  have j3 : (t : Int) ≤ (c : Int) := by omega
  have j4 : (t : Int) ≤ (n : Int) := by omega
  have hB2 := Below.chain (Below.chain HB1.out hb1) hb2
  have hI2 := HL.out.next hB2
  have hz2 : w1.heap.size + 1 < ((w1.alloc (.cells #[.int .i64 (q : Int), .int .i64 (t : Int)] 115)).alloc (.cells #[.int .i64 d, .int .i64 (q : Int), .slice none 0 0] 42)).heap.size := by simp
  clear hb1 hb2 hg1 hrow hk
  go_wp2_with fail
  generalize (w1.alloc (.cells #[.int .i64 (q : Int), .int .i64 (t : Int)] 115)).alloc (.cells #[.int .i64 d, .int .i64 (q : Int), .slice none 0 0] 42) = W2 at *
  rw [hz1] at hg2
  generalize w1.alloc (.cells #[.int .i64 (q : Int), .int .i64 (t : Int)] 115) = Wx at *
  refine held_start (S := fun W => W.heap[w1.heap.size]? = some (.cells #[.int .i64 (q : Int), .int .i64 (t : Int)] 115 (0, 0))) 9 (by kernel_rfl) rfl ?_
  have hS : W2.drew.heap[w1.heap.size]? = some (.cells #[.int .i64 (q : Int), .int .i64 (t : Int)] 115 (0, 0)) := hg12
  have hT3 : W2.drew.heap[w1.heap.size + 1]? = some (.cells #[.int .i64 d, .int .i64 (q : Int), .slice none 0 0] 42 (0, 0)) := hg2
  have hc3 : RowAt W2.drew P cP X := hcut.next (Below.refl _ _).drew
  have hB3 := hB2.drew
  have hI3 : Its W2.drew B E (.slice av nl cv) L := hI2.next (Below.refl _ _).drew
  have hz3 : w1.heap.size + 1 < W2.drew.heap.size := hz2
  generalize W2.drew = W3 at *
  clear hg2 hg12 hcut hB2 hI2 hz2
  refine held_take 0 (v := ?_) rfl (by kernel_rfl) (by kernel_rfl) (by kernel_rfl) (fun _ _ _ h => h) (by assumption) (by rfl) ?_ ?_
  rotate_left
  ·
   (intro W hW; go_simp; try with_reducible rfl)
  simp only [Act.put, List.setIfInBounds_toArray, List.set_cons_zero, List.set_cons_succ]
  refine held_take 2 (v := ?_) rfl (by kernel_rfl) (by kernel_rfl) (by kernel_rfl) (fun _ _ _ h => h) (by assumption) (by rfl) ?_ ?_
  rotate_left
  ·
   (intro W hW; go_simp; try with_reducible rfl)
  simp only [Act.put, List.setIfInBounds_toArray, List.set_cons_zero, List.set_cons_succ]
  refine held_take 3 (v := ?_) rfl (by kernel_rfl) (by kernel_rfl) (by kernel_rfl) (fun _ _ _ h => h) (by assumption) (by rfl) ?_ ?_
  rotate_left
  ·
   (intro W hW; go_simp; try with_reducible rfl)
  simp only [Act.put, List.setIfInBounds_toArray, List.set_cons_zero, List.set_cons_succ]
  refine held_take 4 (v := ?_) rfl (by kernel_rfl) (by kernel_rfl) (by kernel_rfl) (fun _ _ _ h => h) (by assumption) (by rfl) ?_ ?_
  rotate_left
  ·
   (intro W hW; have hc : W.cell? ⟨w1.heap.size, 1, none⟩ = some (.int .i64 (t : Int)) := cell_of_row _ _ _ _ _ _ hW; go_simp; try with_reducible rfl)
  simp only [Act.put, List.setIfInBounds_toArray, List.set_cons_zero, List.set_cons_succ]
  refine held_take 5 (v := ?_) rfl (by kernel_rfl) (by kernel_rfl) (by kernel_rfl) (fun _ _ _ h => h) (by assumption) (by rfl) ?_ ?_
  rotate_left
  ·
   (intro W hW; go_simp; try with_reducible rfl)
  simp only [Act.put, List.setIfInBounds_toArray, List.set_cons_zero, List.set_cons_succ]
  refine held_one 1 rfl (by kernel_rfl) (by rfl) ?_
  have t0 : W3.cell? ⟨w1.heap.size + 1, 2, none⟩ = some (.slice none 0 0) := cell_of_row _ _ _ _ _ _ hT3
  refine wp_value (v := .slice none 0 0) (w' := W3) (by go_simp) ⟨hS, ?_⟩
  simp only [Act.put, List.setIfInBounds_toArray, List.set_cons_zero, List.set_cons_succ]
  refine held_one 6 rfl (by kernel_rfl) (by rfl) ?_
  refine wp_append_row (.tmp 23) (.tmp 27) rfl W3.heap.size (.slice none 0 0) 0 [] rfl (World.ownsRow_nil _ _ _ _) P mP cP X (by rw [← hP, ← hcP, ← hmP]; rfl) hxl hc3 (by omega) (Nat.le_refl _) ?_
  intro v4 W4 o4 g4
  have b4 : Below W3.heap.size W3 W4 := Below.grown (Below.refl _ _) g4 (Nat.le_refl _) (fun k hk => by simp [Value.ownBlock] at hk)
  have hS4 := block_next hS b4
  have hT4 := block_next hT3 b4
  refine ⟨hS4, ?_⟩
  simp only [Act.put, List.setIfInBounds_toArray, List.set_cons_zero, List.set_cons_succ]
  refine held_take 7 (v := ?_) rfl (by kernel_rfl) (by kernel_rfl) (by kernel_rfl) (fun _ _ _ h => h) (by assumption) (by rfl) ?_ ?_
  rotate_left
  ·
   (intro W hW; go_simp; try with_reducible rfl)
  simp only [Act.put, List.setIfInBounds_toArray, List.set_cons_zero, List.set_cons_succ]
  rw [Nat.zero_add, List.nil_append] at o4
  have o5 := ownsRow_set (i := 2) (u := v4) o4 hz3
  obtain ⟨p5, c5, rfl, _⟩ := rowAt_own hxl (by rw [← hxl] at o4 ⊢; exact o4)
  obtain ⟨p6, c6, e6, row5⟩ := rowAt_own hxl o5
  simp only [Value.slice.injEq, true_and] at e6
  obtain ⟨rfl, rfl⟩ := e6
  have hlt5 := fun k => o5.lt k
  have d4 : W4.cell? ⟨w1.heap.size + 1, 2, none⟩ = some (.slice none 0 0) := cell_of_row _ _ _ _ _ _ hT4
  have f4 := frozen_of_row _ _ 2 _ _ hT4
  have hT5 : (W4.setCell ⟨w1.heap.size + 1, 2, none⟩ (.slice p5 mP c5)).heap[w1.heap.size + 1]? = some (.cells (icells ⟨d, (q : Int), X⟩ (.slice p5 X.length c5)).toArray 42 (0, 0)) := by
   rw [hxl]; exact heap_setCell_same W4 (w1.heap.size + 1) 2 _ _ (.slice p5 mP c5) hT4
  have hS5 : (W4.setCell ⟨w1.heap.size + 1, 2, none⟩ (.slice p5 mP c5)).heap[w1.heap.size]? = some (.cells #[.int .i64 (q : Int), .int .i64 (t : Int)] 115 (0, 0)) := (heap_setCell_other W4 _ _ _ (by simp)).trans hS4
  have b35 : Below w.heap.size w (W4.setCell ⟨w1.heap.size + 1, 2, none⟩ (.slice p5 mP c5)) := (Below.chain hB3 b4).setCell (p := ⟨w1.heap.size + 1, 2, none⟩) (by simp; omega) (.slice p5 mP c5)
  have hI5 : Its (W4.setCell ⟨w1.heap.size + 1, 2, none⟩ (.slice p5 mP c5)) B E (.slice av nl cv) L := HL.out.next b35
  refine held_alone 8 (w' := W4.setCell ⟨w1.heap.size + 1, 2, none⟩ (.slice p5 mP c5)) rfl (by kernel_rfl) (by rfl) (by go_simp) hS5 ?_
  refine held_done (by kernel_rfl) ?_
  have h3s := hB3.size
  clear hS4 hT4 b4 o4 o5 d4 f4 g4 hc3 hS hT3 hI3 t0 hS5
  generalize W4.setCell ⟨w1.heap.size + 1, 2, none⟩ (.slice p5 mP c5) = W5 at *
  simp only [Act.put]
  have bA : Hid (∀ o, Below W5.heap.size W5 (W5.alloc o)) := fun o => below_one W5 o
  have hg6 : Hid ((W5.alloc (.cells #[.int .i64 d, .int .i64 (q : Int), .slice p5 X.length c5] 42)).heap[W5.heap.size]? = some (.cells (icells ⟨d, (q : Int), X⟩ (.slice p5 X.length c5)).toArray 42 (0, 0))) := heap_alloc_new W5 _
  have hp6 : Hid (∀ ad, p5 = some ad → ad.block < W5.heap.size ∧ (Value.slice av nl cv).ownBlock ≠ some ad.block ∧ E ad.block) := by
   intro ad e
   subst e
   have h3 := hlt5 ad.block rfl
   exact ⟨h3.2, fun e2 => by have := (HL.out.lt _ e2).2; omega, hE _ (by omega)⟩
  have R5 := Lib.hid row5
  have I5 := Lib.hid hI5
  have T5 := Lib.hid hT5
  have B35 := Lib.hid b35
  clear row5 hI5 hT5 b35 hlt5 hxl
  go_wp2_with (first | (refine wpList_load_row rfl 42 (.tmp 9) rfl (w1.heap.size + 1) rfl 42 (icells ⟨d, (q : Int), X⟩ (.slice p5 X.length c5)).toArray (0, 0) _ T5.out Tryz.underlying42 rfl infoItem ?_; simp only [icells]) | (at_builtin; go_loud (refine wpList_append_its rfl (.tmp 30) (.tmp 32) rfl B E (.slice av nl cv) L ⟨d, (q : Int), X⟩ p5 c5 W5.heap.size rfl rfl (I5.out.next (bA.out _)) (R5.out.next (bA.out _)) (fun ad e => ⟨Nat.lt_of_lt_of_le (hp6.out ad e).1 (by simp), (hp6.out ad e).2⟩) hg6.out (by have := B35.out.size; simp; omega) (by rw [HNL.out]; exact hl) ?_; intro v6 w6 rec6 gr6)))
  go_ret
  exact ⟨_, rfl, by rw [hM.out]; exact rec6, Grew.after (Below.chain B35.out (bA.out _)) gr6⟩
 ·
  have hM := G1.out he
  have i1 : ((r : Int) != 0) = true := by simp; omega
  have ba := below_one w1 (.cells #[.int .i64 (q : Int), .int .i64 (t : Int)] 115)
  go_wp2
  go_ret
  exact ⟨_, rfl, by rw [hM, List.append_nil]; exact (HL.out.next HB1.out).next ba, Grew.after (Below.chain HB1.out ba) (Grew.refl _ _)⟩
end Go.Proofs.YtbbnkmhlgfoacaaGreatDoor
