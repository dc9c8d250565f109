/- Contract of the document's Write, of records. -/
import Derived.Test.YtbbnkmhlgfoacaaGreatDoorVf
namespace Go.Proofs.YtbbnkmhlgfoacaaGreatDoor
open Go.RowKit
open S10


set_option maxRecDepth 100000 in
set_option maxHeartbeats 1000000 in
theorem refWrite_one (y : Xc) (a : Option Addr) (n cap : Nat) (L : List Cp.It) (w : World) (hn : L.length = n) (h60 : n ≤ 60) (ht : Cp.tot L ≤ 70000) (h : ItsAt w a L) :
  Calls Tryz.prog 12 #[.slice a n cap, .int .i64 1, .agg (ccells y).toArray] w fun e w' => WriteRes w w' e (Cp.write L 1 y.c) := by
 have H := Lib.hid h
 have Hn := Lib.hid hn
 have HTT := Lib.hid ht
 have hB0 := below_one w (.cells (ccells y).toArray 25)
 clear h hn ht
 go_enter Tryz.func12, Tryz.ntmps12
 simp only [ccells] at hB0 ⊢
 go_wp2
 generalize w.alloc (.cells #[.int .i64 y.n0, .int .i64 y.n1, .int .i64 y.n2, .int .i64 y.n3, .string y.s1, .string y.s2, .int .i64 y.c.dir, .int .u32 (y.c.accm : Int), .bool y.c.wide] 25) = W0 at *
 have HB0 := Lib.hid hB0
 clear hB0
 go_loopw [8, 10] (fun v i wr => ∃ k : Nat, i = .int .i64 (k : Int) ∧ k ≤ n ∧ S9.Recs wr w.heap.size v (Cp.rcds (L.take k)) ∧ (∀ x ∈ L.take k, Cp.may x = true) ∧ Below w.heap.size w wr) (fun _ i _ => n - (intOf i).toNat)
 case atStart => exact ⟨0, rfl, Nat.zero_le _, S9.recs_none _ _, by simp, HB0.out⟩
 case round =>
  obtain ⟨k, rfl, hk, hR, hal, hbw⟩ := hrel
  obtain ⟨av, cv, rfl⟩ := S9.recs_slice hR
  by_cases hlt : (k : Int) < (n : Int)
  ·
   have hk' : k < L.length := by rw [Hn.out]; omega
   obtain ⟨b, off, p, c, rfl, hit, hbl⟩ := H.out.at k hk'
   have hrg := (hit.next hbl hbw).range
   have hrow := (hit.next hbl hbw).row
   have hst := Cp.rcds_take L k hk'
   have hal2 : Cp.may L[k] = true → ∀ x ∈ L.take (k + 1), Cp.may x = true := by
    intro e x hx
    rw [List.take_succ_eq_append_getElem hk', List.mem_append, List.mem_singleton] at hx
    rcases hx with hx | hx
    ·
     exact hal x hx
    ·
     rw [hx]; exact e
   have hno : Cp.may L[k] = false → Cp.write L 1 y.c = ([], 1) := fun e => Cp.write_bad L 1 y.c (.inl rfl) (fun hall => by
    have := hall _ (List.getElem_mem hk'); rw [e] at this; cases this)
   have hlen : L[k].data.length ≤ 1000000000 := by have := Cp.tot_mem L _ (List.getElem_mem hk'); have := HTT.out; omega
   rw [Cp.rcds_length, List.length_take] at *
   have hmin : min k L.length = k := by omega
   rw [hmin] at hR ⊢
   generalize L[k] = x at *
   have hMay := fun W => refMayI_any x p c W hlen
   have HRG := Lib.hid hrg
   have HBW := Lib.hid hbw
   have HR := Lib.hid hR
   have HROW := Lib.hid hrow
   have HNO := Lib.hid hno
   have HA2 := Lib.hid hal2
   clear hrg hrow hR hit hal hal2 hno hlen hk'
   simp only [icells] at hMay
   cases hmy : Cp.may x with
   | false =>
    rw [hmy] at hMay
    go_wp2_with (refine wpList_load_mid rfl 42 (.tmp 30) rfl b (off + k * 3) rfl (icells x (.slice p x.data.length c)) _ HRG.out Tryz.underlying42 rfl (infoItemI _ _) ?_; simp only [icells])
    refine (hMay _).mono ?_
    rintro e w4 ⟨rfl, b4⟩
    go_wp2
    go_ret2
    rw [HNO.out hmy]
    exact ⟨_, rfl, World.ownsRow_nil _ _ _ _, Below.chain HBW.out b4⟩
   | true =>
    rw [hmy] at hMay
    have hbl2 := Cp.body_length x
    have hdl := (Cp.may_parts x hmy).2.2
    have HAL := Lib.hid (HA2.out hmy)
    clear HNO HA2
    go_wp2_with (refine wpList_load_mid rfl 42 (.tmp 30) rfl b (off + k * 3) rfl (icells x (.slice p x.data.length c)) _ HRG.out Tryz.underlying42 rfl (infoItemI _ _) ?_; simp only [icells])
    refine (hMay _).mono ?_
    rintro e W3 ⟨rfl, b3⟩
    have HB3 := Lib.hid (Below.chain HBW.out b3)
    have HR3 : Hid (S9.Recs W3 w.heap.size (.slice av k cv) (Cp.rcds (L.take k))) := HR.out.next b3
    have HROW3 := Lib.hid (HROW.out.next b3)
    have HRG3 : Hid (W3.rangeAt b (off + k * 3) (icells x (.slice p x.data.length c))) := fun j v hj => by
     rw [Below.cell (p := ⟨b, off + k * 3 + j, none⟩) b3 (Nat.lt_of_lt_of_le hbl HBW.out.size)]; exact HRG.out j v hj
    clear HBW HR HROW HRG hMay b3 hbw
    rcases (Cp.may_parts x hmy).1 with hd | hd
    ·
     skip
     have hmo : ((Cp.markOf x).toNat : Int) = 0 := by simp [Cp.markOf, hd]
     have cBO := fun W h => refFrame_any x p c W hmy h
     go_wp2_with fail
     refine held_start (S := fun W => W.rangeAt b (off + k * 3) (icells x (.slice p x.data.length c))) 15 (by kernel_rfl) rfl ?_
     have hB4 := Lib.hid (HB3.out.drew)
     have hS4 : W3.drew.rangeAt b (off + k * 3) (icells x (.slice p x.data.length c)) := fun j v hj => HRG3.out j v hj
     have hR4 : S9.Recs W3.drew w.heap.size (.slice av k cv) (Cp.rcds (L.take k)) := HR3.out.next (Below.refl _ _).drew
     have hrow4 : RowAt W3.drew p c x.data := HROW3.out.next (Below.refl _ _).drew
     have hSN : ∀ W', Below W3.drew.heap.size W3.drew W' → W'.rangeAt b (off + k * 3) (icells x (.slice p x.data.length c)) := fun W' hb j v hj => by
      rw [Below.cell (p := ⟨b, off + k * 3 + j, none⟩) hb (Nat.lt_of_lt_of_le hbl hB4.out.size)]; exact hS4 j v hj
     generalize W3.drew = W4 at hS4 hR4 hB4 hrow4 hSN ⊢
     clear HRG3 HR3 HB3 HROW3
     refine held_take 0 (v := ?_) rfl (by kernel_rfl) (by kernel_rfl) (by kernel_rfl) (fun _ _ _ h => h) (by assumption) (by rfl) ?_ ?_
     rotate_left
     ·
      (intro W hW; go_simp; try with_reducible rfl)
     simp only [Act.put, List.setIfInBounds_toArray, List.set_cons_zero, List.set_cons_succ]
     refine held_take 1 (v := ?_) rfl (by kernel_rfl) (by kernel_rfl) (by kernel_rfl) (fun _ _ _ h => h) (by assumption) (by rfl) ?_ ?_
     rotate_left
     ·
      (intro W hW; go_simp; try with_reducible rfl)
     simp only [Act.put, List.setIfInBounds_toArray, List.set_cons_zero, List.set_cons_succ]
     refine held_take 2 (v := ?_) rfl (by kernel_rfl) (by kernel_rfl) (by kernel_rfl) (fun _ _ _ h => h) (by assumption) (by rfl) ?_ ?_
     rotate_left
     ·
      (intro W hW; go_simp; try with_reducible rfl)
     simp only [Act.put, List.setIfInBounds_toArray, List.set_cons_zero, List.set_cons_succ]
     refine held_take 3 (v := ?_) rfl (by kernel_rfl) (by kernel_rfl) (by kernel_rfl) (fun _ _ _ h => h) (by assumption) (by rfl) ?_ ?_
     rotate_left
     ·
      (intro W hW; go_simp; try with_reducible rfl)
     simp only [Act.put, List.setIfInBounds_toArray, List.set_cons_zero, List.set_cons_succ]
     refine held_take 4 (v := ?_) rfl (by kernel_rfl) (by kernel_rfl) (by kernel_rfl) (fun _ _ _ h => h) (by assumption) (by rfl) ?_ ?_
     rotate_left
     ·
      (intro W hW; have hc : W.cell? ⟨b, off + k * 3, none⟩ = some (.int .i64 1) := (by have := hW 0 _ rfl; rw [hd] at this; exact this); go_simp; try with_reducible rfl)
     simp only [Act.put, List.setIfInBounds_toArray, List.set_cons_zero, List.set_cons_succ]
     refine held_take 5 (v := ?_) rfl (by kernel_rfl) (by kernel_rfl) (by kernel_rfl) (fun _ _ _ h => h) (by assumption) (by rfl) ?_ ?_
     rotate_left
     ·
      (intro W hW; go_simp; try with_reducible rfl)
     simp only [Act.put, List.setIfInBounds_toArray, List.set_cons_zero, List.set_cons_succ]
     refine held_take 6 (v := ?_) rfl (by kernel_rfl) (by kernel_rfl) (by kernel_rfl) (fun _ _ _ h => h) (by assumption) (by rfl) ?_ ?_
     rotate_left
     ·
      (intro W hW; go_simp; try with_reducible rfl)
     simp only [Act.put, List.setIfInBounds_toArray, List.set_cons_zero, List.set_cons_succ]
     refine held_take 8 (v := ?_) rfl (by kernel_rfl) (by kernel_rfl) (by kernel_rfl) (fun _ _ _ h => h) (by assumption) (by rfl) ?_ ?_
     rotate_left
     ·
      (intro W hW; go_simp; try with_reducible rfl)
     simp only [Act.put, List.setIfInBounds_toArray, List.set_cons_zero, List.set_cons_succ]
     refine held_take 9 (v := ?_) rfl (by kernel_rfl) (by kernel_rfl) (by kernel_rfl) (fun _ _ _ h => h) (by assumption) (by rfl) ?_ ?_
     rotate_left
     ·
      (intro W hW; go_simp; try with_reducible rfl)
     simp only [Act.put, List.setIfInBounds_toArray, List.set_cons_zero, List.set_cons_succ]
     refine held_take 10 (v := ?_) rfl (by kernel_rfl) (by kernel_rfl) (by kernel_rfl) (fun _ _ _ h => h) (by assumption) (by rfl) ?_ ?_
     rotate_left
     ·
      (intro W hW; go_simp; try with_reducible rfl)
     simp only [Act.put, List.setIfInBounds_toArray, List.set_cons_zero, List.set_cons_succ]
     refine held_take 11 (v := .agg (icells x (.slice p x.data.length c)).toArray) rfl (by kernel_rfl) (by kernel_rfl) (by kernel_rfl) (fun _ _ _ h => h) (by assumption) (by rfl) (fun W hW => run_load_itemmid (.tmp 46) rfl _ _ rfl x _ hW) ?_
     simp only [Act.put, List.setIfInBounds_toArray, List.set_cons_zero, List.set_cons_succ]
     refine held_pair 7 12 rfl rfl (by kernel_rfl) (by rfl) (by rfl) ?_ ?_
     ·
      refine wp_value (v := .slice (some ⟨W4.heap.size, 0, none⟩) 1 1) (w' := W4.alloc (.cells #[.int .u8 0] 5)) (by go_simp; try rfl) ?_
      have b5 := below_one W4 (.cells #[.int .u8 0] 5)
      have o1 := mark_cell W4 W4.heap.size x (Nat.le_refl _)
      rw [hmo] at o1
      have hS5 := hSN _ b5
      refine ⟨hS5, ?_⟩
      simp only [Act.put, List.setIfInBounds_toArray, List.set_cons_zero, List.set_cons_succ]
      refine held_call 12 (f := 23) (args := #[.agg (icells x (.slice p x.data.length c)).toArray]) rfl (by kernel_rfl) (by rfl) (by go_simp) ?_
      refine (cBO _ (hrow4.next b5)).mono ?_
      rintro e W6 ⟨v6, rfl, o6, b6⟩
      have b46 := Below.chain b5 b6
      have o61 := ownsRow_next o1 b6
      have o62 := ownsRow_lower (base' := W4.heap.size) o6 b5.size
      refine ⟨_, rfl, hSN _ b46, ?_⟩
      simp only [Act.put, List.setIfInBounds_toArray, List.set_cons_zero, List.set_cons_succ]
      obtain ⟨p5, c5, rfl, row5⟩ := rowAt_own rfl o62
      refine held_one 13 rfl (by kernel_rfl) (by rfl) ?_
      refine wp_append_row (.tmp 43) (.tmp 48) rfl W4.heap.size (.slice (some ⟨W4.heap.size, 0, none⟩) 1 1) 1 (Lib.byteCells [Cp.markOf x]) rfl o61 p5 (Cp.body x).length c5 (Cp.body x) rfl rfl row5 (by omega) b46.size ?_
      intro v7 W7 o7 g7
      have b7 : Below W4.heap.size W4 W7 := Below.grown b46 g7 b46.size (fun j hj => (o61.lt j hj).1)
      have hS7 := hSN _ b7
      refine ⟨hS7, ?_⟩
      simp only [Act.put, List.setIfInBounds_toArray, List.set_cons_zero, List.set_cons_succ]
      refine held_take 14 (v := ?_) rfl (by kernel_rfl) (by kernel_rfl) (by kernel_rfl) (fun _ _ _ h => h) (by assumption) (by rfl) ?_ ?_
      rotate_left
      ·
       (intro W hW; go_simp; try with_reducible rfl)
      simp only [Act.put, List.setIfInBounds_toArray, List.set_cons_zero, List.set_cons_succ]
      refine held_done (by kernel_rfl) ?_
      rw [← Lib.byteCells_append] at o7
      obtain ⟨p7, c7, rfl⟩ := own_slice o7
      have hR7 := Lib.hid (hR4.next b7)
      obtain ⟨nb, hnb⟩ : ∃ nb, 1 + (Cp.body x).length = nb := ⟨_, rfl⟩
      rw [hnb] at o7 ⊢
      have HNB := Lib.hid hnb
      have hnbl : nb ≤ 1000000 := by omega
      have O7 := Lib.hid o7
      have B7 := Lib.hid b7
      clear o7 b7 hS7 o61 o62 b46 row5 g7 hnb hR4 hrow4 hS4
      have hdlen : (Cp.markOf x :: Cp.body x).length = nb := by rw [List.length_cons]; have := HNB.out; omega
      have hrr : Cp.rcd k x = ⟨k, 0, nb, Cp.markOf x :: Cp.body x⟩ := by unfold Cp.rcd; rw [hdlen]
      rw [hrr] at hst
      have HST := Lib.hid hst
      have HDL := Lib.hid hdlen
      clear hst hdlen hrr cBO
      go_wp2_with (at_builtin; refine S9.wpList_append_recs rfl (.tmp 50) (.tmp 58) rfl w.heap.size (.slice av k cv) (Cp.rcds (L.take k)) ⟨k, 0, nb, Cp.markOf x :: Cp.body x⟩ (.slice p7 nb c7) W7.heap.size rfl rfl (hR7.out.next (below_one W7 _)) (by have := ownsRow_lower (base' := w.heap.size) (O7.out.alloc (.cells #[.int .u32 (k : Int), .int .u32 0, .int .u32 (nb : Int), .slice p7 nb c7] 57)) hB4.out.size; show World.ownsRow _ _ _ _ _ (Cp.markOf x :: Cp.body x).length _; rw [HDL.out]; exact this) (heap_alloc_new W7 _) (by have := hB4.out.size; have := B7.out.size; simp; omega) (by rw [Cp.rcds_length, List.length_take]; omega) ?_; intro v8 W8 r8 g8 k8)
      have b8 : Below w.heap.size w W8 := Below.grown ((Below.chain hB4.out B7.out).alloc (by have := hB4.out.size; have := B7.out.size; omega) _) g8 (by have := hB4.out.size; have := B7.out.size; simp; omega) k8
      rw [← HST.out] at r8
      have R8 := Lib.hid r8
      have B8 := Lib.hid b8
      clear r8 b8 g8 k8 O7 B7 hR7 hB4
      go_roundw
      case rel => exact ⟨k + 1, by go_num, by omega, R8.out, fun y hy => (HAL.out y hy), B8.out⟩
      case measure => simp [intOf]; omega
     ·
      refine wp_enter (f := 23) (args := #[.agg (icells x (.slice p x.data.length c)).toArray]) (by go_simp) ?_
      refine (cBO _ hrow4).mono ?_
      rintro e W5 ⟨v6, rfl, o6, b5⟩
      refine ⟨_, rfl, hSN _ b5, ?_⟩
      simp only [Act.put, List.setIfInBounds_toArray, List.set_cons_zero, List.set_cons_succ]
      have b6 := below_one W5 (.cells #[.int .u8 0] 5)
      have o1 := mark_cell W5 W4.heap.size x b5.size
      rw [hmo] at o1
      have b46 := Below.chain b5 b6
      refine held_makes 7 (v := .slice (some ⟨W5.heap.size, 0, none⟩) 1 1) (w' := W5.alloc (.cells #[.int .u8 0] 5)) rfl (by kernel_rfl) (by rfl) (by go_simp; try rfl) (hSN _ b46) ?_
      have o62 := ownsRow_next o6 b6
      simp only [Act.put, List.setIfInBounds_toArray, List.set_cons_zero, List.set_cons_succ]
      obtain ⟨p5, c5, rfl, row5⟩ := rowAt_own rfl o62
      refine held_one 13 rfl (by kernel_rfl) (by rfl) ?_
      refine wp_append_row (.tmp 43) (.tmp 48) rfl W4.heap.size (.slice (some ⟨W5.heap.size, 0, none⟩) 1 1) 1 (Lib.byteCells [Cp.markOf x]) rfl o1 p5 (Cp.body x).length c5 (Cp.body x) rfl rfl row5 (by omega) b46.size ?_
      intro v7 W7 o7 g7
      have b7 : Below W4.heap.size W4 W7 := Below.grown b46 g7 b46.size (fun j hj => (o1.lt j hj).1)
      have hS7 := hSN _ b7
      refine ⟨hS7, ?_⟩
      simp only [Act.put, List.setIfInBounds_toArray, List.set_cons_zero, List.set_cons_succ]
      refine held_take 14 (v := ?_) rfl (by kernel_rfl) (by kernel_rfl) (by kernel_rfl) (fun _ _ _ h => h) (by assumption) (by rfl) ?_ ?_
      rotate_left
      ·
       (intro W hW; go_simp; try with_reducible rfl)
      simp only [Act.put, List.setIfInBounds_toArray, List.set_cons_zero, List.set_cons_succ]
      refine held_done (by kernel_rfl) ?_
      rw [← Lib.byteCells_append] at o7
      obtain ⟨p7, c7, rfl⟩ := own_slice o7
      have hR7 := Lib.hid (hR4.next b7)
      obtain ⟨nb, hnb⟩ : ∃ nb, 1 + (Cp.body x).length = nb := ⟨_, rfl⟩
      rw [hnb] at o7 ⊢
      have HNB := Lib.hid hnb
      have hnbl : nb ≤ 1000000 := by omega
      have O7 := Lib.hid o7
      have B7 := Lib.hid b7
      clear o7 b7 hS7 o1 o62 b46 row5 g7 hnb hR4 hrow4 hS4
      have hdlen : (Cp.markOf x :: Cp.body x).length = nb := by rw [List.length_cons]; have := HNB.out; omega
      have hrr : Cp.rcd k x = ⟨k, 0, nb, Cp.markOf x :: Cp.body x⟩ := by unfold Cp.rcd; rw [hdlen]
      rw [hrr] at hst
      have HST := Lib.hid hst
      have HDL := Lib.hid hdlen
      clear hst hdlen hrr cBO
      go_wp2_with (at_builtin; refine S9.wpList_append_recs rfl (.tmp 50) (.tmp 58) rfl w.heap.size (.slice av k cv) (Cp.rcds (L.take k)) ⟨k, 0, nb, Cp.markOf x :: Cp.body x⟩ (.slice p7 nb c7) W7.heap.size rfl rfl (hR7.out.next (below_one W7 _)) (by have := ownsRow_lower (base' := w.heap.size) (O7.out.alloc (.cells #[.int .u32 (k : Int), .int .u32 0, .int .u32 (nb : Int), .slice p7 nb c7] 57)) hB4.out.size; show World.ownsRow _ _ _ _ _ (Cp.markOf x :: Cp.body x).length _; rw [HDL.out]; exact this) (heap_alloc_new W7 _) (by have := hB4.out.size; have := B7.out.size; simp; omega) (by rw [Cp.rcds_length, List.length_take]; omega) ?_; intro v8 W8 r8 g8 k8)
      have b8 : Below w.heap.size w W8 := Below.grown ((Below.chain hB4.out B7.out).alloc (by have := hB4.out.size; have := B7.out.size; omega) _) g8 (by have := hB4.out.size; have := B7.out.size; simp; omega) k8
      rw [← HST.out] at r8
      have R8 := Lib.hid r8
      have B8 := Lib.hid b8
      clear r8 b8 g8 k8 O7 B7 hR7 hB4
      go_roundw
      case rel => exact ⟨k + 1, by go_num, by omega, R8.out, fun y hy => (HAL.out y hy), B8.out⟩
      case measure => simp [intOf]; omega
    ·
     skip
     have hmo : ((Cp.markOf x).toNat : Int) = 1 := by simp [Cp.markOf, hd]
     have cBO := fun W h => refFrame_any x p c W hmy h
     go_wp2_with fail
     refine held_start (S := fun W => W.rangeAt b (off + k * 3) (icells x (.slice p x.data.length c))) 15 (by kernel_rfl) rfl ?_
     have hB4 := Lib.hid (HB3.out.drew)
     have hS4 : W3.drew.rangeAt b (off + k * 3) (icells x (.slice p x.data.length c)) := fun j v hj => HRG3.out j v hj
     have hR4 : S9.Recs W3.drew w.heap.size (.slice av k cv) (Cp.rcds (L.take k)) := HR3.out.next (Below.refl _ _).drew
     have hrow4 : RowAt W3.drew p c x.data := HROW3.out.next (Below.refl _ _).drew
     have hSN : ∀ W', Below W3.drew.heap.size W3.drew W' → W'.rangeAt b (off + k * 3) (icells x (.slice p x.data.length c)) := fun W' hb j v hj => by
      rw [Below.cell (p := ⟨b, off + k * 3 + j, none⟩) hb (Nat.lt_of_lt_of_le hbl hB4.out.size)]; exact hS4 j v hj
     generalize W3.drew = W4 at hS4 hR4 hB4 hrow4 hSN ⊢
     clear HRG3 HR3 HB3 HROW3
     refine held_take 0 (v := ?_) rfl (by kernel_rfl) (by kernel_rfl) (by kernel_rfl) (fun _ _ _ h => h) (by assumption) (by rfl) ?_ ?_
     rotate_left
     ·
      (intro W hW; go_simp; try with_reducible rfl)
     simp only [Act.put, List.setIfInBounds_toArray, List.set_cons_zero, List.set_cons_succ]
     refine held_take 1 (v := ?_) rfl (by kernel_rfl) (by kernel_rfl) (by kernel_rfl) (fun _ _ _ h => h) (by assumption) (by rfl) ?_ ?_
     rotate_left
     ·
      (intro W hW; go_simp; try with_reducible rfl)
     simp only [Act.put, List.setIfInBounds_toArray, List.set_cons_zero, List.set_cons_succ]
     refine held_take 2 (v := ?_) rfl (by kernel_rfl) (by kernel_rfl) (by kernel_rfl) (fun _ _ _ h => h) (by assumption) (by rfl) ?_ ?_
     rotate_left
     ·
      (intro W hW; go_simp; try with_reducible rfl)
     simp only [Act.put, List.setIfInBounds_toArray, List.set_cons_zero, List.set_cons_succ]
     refine held_take 3 (v := ?_) rfl (by kernel_rfl) (by kernel_rfl) (by kernel_rfl) (fun _ _ _ h => h) (by assumption) (by rfl) ?_ ?_
     rotate_left
     ·
      (intro W hW; go_simp; try with_reducible rfl)
     simp only [Act.put, List.setIfInBounds_toArray, List.set_cons_zero, List.set_cons_succ]
     refine held_take 4 (v := ?_) rfl (by kernel_rfl) (by kernel_rfl) (by kernel_rfl) (fun _ _ _ h => h) (by assumption) (by rfl) ?_ ?_
     rotate_left
     ·
      (intro W hW; have hc : W.cell? ⟨b, off + k * 3, none⟩ = some (.int .i64 2) := (by have := hW 0 _ rfl; rw [hd] at this; exact this); go_simp; try with_reducible rfl)
     simp only [Act.put, List.setIfInBounds_toArray, List.set_cons_zero, List.set_cons_succ]
     refine held_take 5 (v := ?_) rfl (by kernel_rfl) (by kernel_rfl) (by kernel_rfl) (fun _ _ _ h => h) (by assumption) (by rfl) ?_ ?_
     rotate_left
     ·
      (intro W hW; go_simp; try with_reducible rfl)
     simp only [Act.put, List.setIfInBounds_toArray, List.set_cons_zero, List.set_cons_succ]
     refine held_take 6 (v := ?_) rfl (by kernel_rfl) (by kernel_rfl) (by kernel_rfl) (fun _ _ _ h => h) (by assumption) (by rfl) ?_ ?_
     rotate_left
     ·
      (intro W hW; go_simp; try with_reducible rfl)
     simp only [Act.put, List.setIfInBounds_toArray, List.set_cons_zero, List.set_cons_succ]
     refine held_take 8 (v := ?_) rfl (by kernel_rfl) (by kernel_rfl) (by kernel_rfl) (fun _ _ _ h => h) (by assumption) (by rfl) ?_ ?_
     rotate_left
     ·
      (intro W hW; go_simp; try with_reducible rfl)
     simp only [Act.put, List.setIfInBounds_toArray, List.set_cons_zero, List.set_cons_succ]
     refine held_take 9 (v := ?_) rfl (by kernel_rfl) (by kernel_rfl) (by kernel_rfl) (fun _ _ _ h => h) (by assumption) (by rfl) ?_ ?_
     rotate_left
     ·
      (intro W hW; go_simp; try with_reducible rfl)
     simp only [Act.put, List.setIfInBounds_toArray, List.set_cons_zero, List.set_cons_succ]
     refine held_take 10 (v := ?_) rfl (by kernel_rfl) (by kernel_rfl) (by kernel_rfl) (fun _ _ _ h => h) (by assumption) (by rfl) ?_ ?_
     rotate_left
     ·
      (intro W hW; go_simp; try with_reducible rfl)
     simp only [Act.put, List.setIfInBounds_toArray, List.set_cons_zero, List.set_cons_succ]
     refine held_take 11 (v := .agg (icells x (.slice p x.data.length c)).toArray) rfl (by kernel_rfl) (by kernel_rfl) (by kernel_rfl) (fun _ _ _ h => h) (by assumption) (by rfl) (fun W hW => run_load_itemmid (.tmp 46) rfl _ _ rfl x _ hW) ?_
     simp only [Act.put, List.setIfInBounds_toArray, List.set_cons_zero, List.set_cons_succ]
     refine held_pair 7 12 rfl rfl (by kernel_rfl) (by rfl) (by rfl) ?_ ?_
     ·
      refine wp_value (v := .slice (some ⟨W4.heap.size, 0, none⟩) 1 1) (w' := W4.alloc (.cells #[.int .u8 1] 5)) (by go_simp; try rfl) ?_
      have b5 := below_one W4 (.cells #[.int .u8 1] 5)
      have o1 := mark_cell W4 W4.heap.size x (Nat.le_refl _)
      rw [hmo] at o1
      have hS5 := hSN _ b5
      refine ⟨hS5, ?_⟩
      simp only [Act.put, List.setIfInBounds_toArray, List.set_cons_zero, List.set_cons_succ]
      refine held_call 12 (f := 23) (args := #[.agg (icells x (.slice p x.data.length c)).toArray]) rfl (by kernel_rfl) (by rfl) (by go_simp) ?_
      refine (cBO _ (hrow4.next b5)).mono ?_
      rintro e W6 ⟨v6, rfl, o6, b6⟩
      have b46 := Below.chain b5 b6
      have o61 := ownsRow_next o1 b6
      have o62 := ownsRow_lower (base' := W4.heap.size) o6 b5.size
      refine ⟨_, rfl, hSN _ b46, ?_⟩
      simp only [Act.put, List.setIfInBounds_toArray, List.set_cons_zero, List.set_cons_succ]
      obtain ⟨p5, c5, rfl, row5⟩ := rowAt_own rfl o62
      refine held_one 13 rfl (by kernel_rfl) (by rfl) ?_
      refine wp_append_row (.tmp 43) (.tmp 48) rfl W4.heap.size (.slice (some ⟨W4.heap.size, 0, none⟩) 1 1) 1 (Lib.byteCells [Cp.markOf x]) rfl o61 p5 (Cp.body x).length c5 (Cp.body x) rfl rfl row5 (by omega) b46.size ?_
      intro v7 W7 o7 g7
      have b7 : Below W4.heap.size W4 W7 := Below.grown b46 g7 b46.size (fun j hj => (o61.lt j hj).1)
      have hS7 := hSN _ b7
      refine ⟨hS7, ?_⟩
      simp only [Act.put, List.setIfInBounds_toArray, List.set_cons_zero, List.set_cons_succ]
      refine held_take 14 (v := ?_) rfl (by kernel_rfl) (by kernel_rfl) (by kernel_rfl) (fun _ _ _ h => h) (by assumption) (by rfl) ?_ ?_
      rotate_left
      ·
       (intro W hW; go_simp; try with_reducible rfl)
      simp only [Act.put, List.setIfInBounds_toArray, List.set_cons_zero, List.set_cons_succ]
      refine held_done (by kernel_rfl) ?_
      rw [← Lib.byteCells_append] at o7
      obtain ⟨p7, c7, rfl⟩ := own_slice o7
      have hR7 := Lib.hid (hR4.next b7)
      obtain ⟨nb, hnb⟩ : ∃ nb, 1 + (Cp.body x).length = nb := ⟨_, rfl⟩
      rw [hnb] at o7 ⊢
      have HNB := Lib.hid hnb
      have hnbl : nb ≤ 1000000 := by omega
      have O7 := Lib.hid o7
      have B7 := Lib.hid b7
      clear o7 b7 hS7 o61 o62 b46 row5 g7 hnb hR4 hrow4 hS4
      have hdlen : (Cp.markOf x :: Cp.body x).length = nb := by rw [List.length_cons]; have := HNB.out; omega
      have hrr : Cp.rcd k x = ⟨k, 0, nb, Cp.markOf x :: Cp.body x⟩ := by unfold Cp.rcd; rw [hdlen]
      rw [hrr] at hst
      have HST := Lib.hid hst
      have HDL := Lib.hid hdlen
      clear hst hdlen hrr cBO
      go_wp2_with (at_builtin; refine S9.wpList_append_recs rfl (.tmp 50) (.tmp 58) rfl w.heap.size (.slice av k cv) (Cp.rcds (L.take k)) ⟨k, 0, nb, Cp.markOf x :: Cp.body x⟩ (.slice p7 nb c7) W7.heap.size rfl rfl (hR7.out.next (below_one W7 _)) (by have := ownsRow_lower (base' := w.heap.size) (O7.out.alloc (.cells #[.int .u32 (k : Int), .int .u32 0, .int .u32 (nb : Int), .slice p7 nb c7] 57)) hB4.out.size; show World.ownsRow _ _ _ _ _ (Cp.markOf x :: Cp.body x).length _; rw [HDL.out]; exact this) (heap_alloc_new W7 _) (by have := hB4.out.size; have := B7.out.size; simp; omega) (by rw [Cp.rcds_length, List.length_take]; omega) ?_; intro v8 W8 r8 g8 k8)
      have b8 : Below w.heap.size w W8 := Below.grown ((Below.chain hB4.out B7.out).alloc (by have := hB4.out.size; have := B7.out.size; omega) _) g8 (by have := hB4.out.size; have := B7.out.size; simp; omega) k8
      rw [← HST.out] at r8
      have R8 := Lib.hid r8
      have B8 := Lib.hid b8
      clear r8 b8 g8 k8 O7 B7 hR7 hB4
      go_roundw
      case rel => exact ⟨k + 1, by go_num, by omega, R8.out, fun y hy => (HAL.out y hy), B8.out⟩
      case measure => simp [intOf]; omega
     ·
      refine wp_enter (f := 23) (args := #[.agg (icells x (.slice p x.data.length c)).toArray]) (by go_simp) ?_
      refine (cBO _ hrow4).mono ?_
      rintro e W5 ⟨v6, rfl, o6, b5⟩
      refine ⟨_, rfl, hSN _ b5, ?_⟩
      simp only [Act.put, List.setIfInBounds_toArray, List.set_cons_zero, List.set_cons_succ]
      have b6 := below_one W5 (.cells #[.int .u8 1] 5)
      have o1 := mark_cell W5 W4.heap.size x b5.size
      rw [hmo] at o1
      have b46 := Below.chain b5 b6
      refine held_makes 7 (v := .slice (some ⟨W5.heap.size, 0, none⟩) 1 1) (w' := W5.alloc (.cells #[.int .u8 1] 5)) rfl (by kernel_rfl) (by rfl) (by go_simp; try rfl) (hSN _ b46) ?_
      have o62 := ownsRow_next o6 b6
      simp only [Act.put, List.setIfInBounds_toArray, List.set_cons_zero, List.set_cons_succ]
      obtain ⟨p5, c5, rfl, row5⟩ := rowAt_own rfl o62
      refine held_one 13 rfl (by kernel_rfl) (by rfl) ?_
      refine wp_append_row (.tmp 43) (.tmp 48) rfl W4.heap.size (.slice (some ⟨W5.heap.size, 0, none⟩) 1 1) 1 (Lib.byteCells [Cp.markOf x]) rfl o1 p5 (Cp.body x).length c5 (Cp.body x) rfl rfl row5 (by omega) b46.size ?_
      intro v7 W7 o7 g7
      have b7 : Below W4.heap.size W4 W7 := Below.grown b46 g7 b46.size (fun j hj => (o1.lt j hj).1)
      have hS7 := hSN _ b7
      refine ⟨hS7, ?_⟩
      simp only [Act.put, List.setIfInBounds_toArray, List.set_cons_zero, List.set_cons_succ]
      refine held_take 14 (v := ?_) rfl (by kernel_rfl) (by kernel_rfl) (by kernel_rfl) (fun _ _ _ h => h) (by assumption) (by rfl) ?_ ?_
      rotate_left
      ·
       (intro W hW; go_simp; try with_reducible rfl)
      simp only [Act.put, List.setIfInBounds_toArray, List.set_cons_zero, List.set_cons_succ]
      refine held_done (by kernel_rfl) ?_
      rw [← Lib.byteCells_append] at o7
      obtain ⟨p7, c7, rfl⟩ := own_slice o7
      have hR7 := Lib.hid (hR4.next b7)
      obtain ⟨nb, hnb⟩ : ∃ nb, 1 + (Cp.body x).length = nb := ⟨_, rfl⟩
      rw [hnb] at o7 ⊢
      have HNB := Lib.hid hnb
      have hnbl : nb ≤ 1000000 := by omega
      have O7 := Lib.hid o7
      have B7 := Lib.hid b7
      clear o7 b7 hS7 o1 o62 b46 row5 g7 hnb hR4 hrow4 hS4
      have hdlen : (Cp.markOf x :: Cp.body x).length = nb := by rw [List.length_cons]; have := HNB.out; omega
      have hrr : Cp.rcd k x = ⟨k, 0, nb, Cp.markOf x :: Cp.body x⟩ := by unfold Cp.rcd; rw [hdlen]
      rw [hrr] at hst
      have HST := Lib.hid hst
      have HDL := Lib.hid hdlen
      clear hst hdlen hrr cBO
      go_wp2_with (at_builtin; refine S9.wpList_append_recs rfl (.tmp 50) (.tmp 58) rfl w.heap.size (.slice av k cv) (Cp.rcds (L.take k)) ⟨k, 0, nb, Cp.markOf x :: Cp.body x⟩ (.slice p7 nb c7) W7.heap.size rfl rfl (hR7.out.next (below_one W7 _)) (by have := ownsRow_lower (base' := w.heap.size) (O7.out.alloc (.cells #[.int .u32 (k : Int), .int .u32 0, .int .u32 (nb : Int), .slice p7 nb c7] 57)) hB4.out.size; show World.ownsRow _ _ _ _ _ (Cp.markOf x :: Cp.body x).length _; rw [HDL.out]; exact this) (heap_alloc_new W7 _) (by have := hB4.out.size; have := B7.out.size; simp; omega) (by rw [Cp.rcds_length, List.length_take]; omega) ?_; intro v8 W8 r8 g8 k8)
      have b8 : Below w.heap.size w W8 := Below.grown ((Below.chain hB4.out B7.out).alloc (by have := hB4.out.size; have := B7.out.size; omega) _) g8 (by have := hB4.out.size; have := B7.out.size; simp; omega) k8
      rw [← HST.out] at r8
      have R8 := Lib.hid r8
      have B8 := Lib.hid b8
      clear r8 b8 g8 k8 O7 B7 hR7 hB4
      go_roundw
      case rel => exact ⟨k + 1, by go_num, by omega, R8.out, fun y hy => (HAL.out y hy), B8.out⟩
      case measure => simp [intOf]; omega
  ·
   have hks : L.take k = L := List.take_of_length_le (by rw [Hn.out]; omega)
   rw [hks] at hR hal ⊢
   rw [Cp.rcds_length, Hn.out] at hR ⊢
   obtain ⟨a2, c2, e2, hat⟩ := hR.at (Cp.rcds_ok L (by rw [Hn.out]; omega) hal).1
   have hsz := Cp.size_rcds L
   rw [Hn.out] at hsz
   rw [Cp.rcds_length, Hn.out] at e2
   simp only [Value.slice.injEq, true_and] at e2
   obtain ⟨rfl, rfl⟩ := e2
   have hsm := (Cp.rcds_ok L (by rw [Hn.out]; omega) hal).2
   have hput := S9.refPut_put Cp.hdr av n cv (Cp.rcds L) wr ⟨by decide, by decide⟩ (by rw [Cp.rcds_length, Hn.out]) (by have := HTT.out; omega) hat
   have HP := Lib.hid hput
   have HSM := Lib.hid hsm
   have HBW := Lib.hid hbw
   have HWO := Lib.hid (Cp.write_one L y.c hal)
   clear hR hat hput hsm hbw hks hsz hal
   go_wp2_with fail
   refine HP.out.mono ?_
   rintro e w9 ⟨b9, h9⟩
   rcases h9 with ⟨_, v9, rfl, o9⟩ | ⟨hno, _⟩
   ·
    have O9 := Lib.hid (ownsRow_lower (base' := w.heap.size) o9 HBW.out.size)
    have B9 := Lib.hid (Below.chain HBW.out b9)
    clear o9 b9 HP
    go_wp2
    go_ret2
    rw [HWO.out]
    exact ⟨_, rfl, O9.out, B9.out⟩
   ·
    exact absurd HSM.out hno
end Go.Proofs.YtbbnkmhlgfoacaaGreatDoor
