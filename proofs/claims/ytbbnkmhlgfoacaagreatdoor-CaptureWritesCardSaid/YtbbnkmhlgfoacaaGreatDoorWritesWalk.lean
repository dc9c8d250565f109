/- The walk of CaptureWrites. -/
import Derived.Test.YtbbnkmhlgfoacaaGreatDoorCr
import Derived.Test.YtbbnkmhlgfoacaaGreatDoorCq
import Derived.Test.YtbbnkmhlgfoacaaGreatDoorVi
namespace Go.Proofs.YtbbnkmhlgfoacaaGreatDoor
open Go.RowKit
open S10

set_option maxRecDepth 100000 in
set_option maxHeartbeats 1000000 in
theorem writes_walk (a : Option Addr) (n cap : Nat) (L : List Cp.It) (f : Int) (y : Xc) (w : World) (hn : L.length = n) (h : ItsAt w a L) (hac : y.c.accm < 4294967296) (ht : Tab w) :
  Calls Tryz.prog 4 #[.slice a n cap, .int .i64 f, .agg (ccells y).toArray] w fun e w' => e = .returned (.bool true) ∧ Below w.heap.size w w' := by
 have H := Lib.hid h
 have Hn := Lib.hid hn
 have HT := Lib.hid ht
 have hB0 := below_one w (.cells (ccells y).toArray 25)
 have hD0 := heap_alloc_new w (.cells (ccells y).toArray 25)
 clear h hn ht
 go_enter Tryz.func4, Tryz.ntmps4
 simp only [ccells] at hB0 hD0 ⊢
 go_wp2_with fail
 generalize w.alloc (.cells #[.int .i64 y.n0, .int .i64 y.n1, .int .i64 y.n2, .int .i64 y.n3, .string y.s1, .string y.s2, .int .i64 y.c.dir, .int .u32 (y.c.accm : Int), .bool y.c.wide] 25) = W0 at *
 refine (awake_any W0 (HT.out.next hB0)).mono ?_
 rintro e w1 ⟨rfl, b1⟩
 have B1 := Lib.hid (Below.chain hB0 b1)
 have D1 := Lib.hid (block_next hD0 b1)
 clear b1 hB0 hD0
 go_wp2_with fail
 refine (itfew_any a n cap L w1 Hn.out (H.out.next B1.out)).mono ?_
 rintro e w2 ⟨r, rfl, rfl, hfew⟩
 cases r
 ·
  go_wp2_with fail
  refine (awake_any _ (HT.out.next B1.out)).mono ?_
  rintro e w3 ⟨rfl, b3⟩
  have B3 := Lib.hid (Below.chain B1.out b3)
  clear b3
  go_wp2
  go_ret
  exact ⟨rfl, B3.out⟩
 ·
  obtain ⟨h60, htt⟩ := hfew rfl
  clear hfew
  have hlen : ∀ x ∈ L, x.data.length ≤ 1000000000 := fun x hx => by have := Cp.tot_mem L x hx; omega
  have HLEN := Lib.hid hlen
  have cW := Lib.hid (fun W h t => capWrite_any f y a n cap L W Hn.out (by omega) HLEN.out (fun _ => by omega) (fun _ => ⟨h60, htt⟩) hac h t)
  have cR := Lib.hid (fun W h => refWrite_any f y a n cap L W Hn.out h60 htt hac h)
  obtain ⟨Z, hZ⟩ : ∃ Z, Cp.write L f y.c = Z := ⟨_, rfl⟩
  rw [hZ] at cW cR
  obtain ⟨X, ek⟩ := Z
  obtain ⟨m, hX⟩ : ∃ m, X.length = m := ⟨_, rfl⟩
  have HX := Lib.hid hX
  clear hZ hlen hX
  go_wp2_with (refine wpList_load_row rfl 25 (.tmp 5) rfl w.heap.size rfl 25 (ccells y).toArray (0, 0) _ D1.out Tryz.underlying25 rfl infoConf ?_; simp only [ccells])
  refine (cW.out w2 (H.out.next B1.out) (HT.out.next B1.out)).mono ?_
  rintro e w3 ⟨v3, rfl, o3, b3⟩
  simp only at o3
  obtain ⟨p3, c3, rfl, r3⟩ := rowAt_own rfl o3
  rw [HX.out]
  have B3 := Lib.hid (Below.chain B1.out b3)
  have D3 := Lib.hid (block_next D1.out b3)
  have R3 := Lib.hid r3
  clear o3 b3 r3 cW
  go_wp2_with (refine wpList_load_row rfl 25 (.tmp 5) rfl w.heap.size rfl 25 (ccells y).toArray (0, 0) _ D3.out Tryz.underlying25 rfl infoConf ?_; simp only [ccells])
  refine (cR.out w3 (H.out.next B3.out)).mono ?_
  rintro e w4 ⟨v4, rfl, o4, b4⟩
  simp only at o4
  obtain ⟨p4, c4, rfl, r4⟩ := rowAt_own rfl o4
  rw [HX.out]
  have B4 := Lib.hid (Below.chain B3.out b4)
  have R4 := Lib.hid (r4)
  have R34 := Lib.hid (R3.out.next b4)
  clear o4 b4 r4 cR
  go_wp2_with fail
  go_loopw [11] (fun i wr => ∃ k : Nat, k ≤ n ∧ i = .int .i64 (k : Int) ∧ Below w4.heap.size w4 wr) (fun i _ => n - (intOf i).toNat)
  case atStart => exact ⟨0, Nat.zero_le _, rfl, Below.refl _ _⟩
  case round =>
   obtain ⟨k, hk, rfl, hbw⟩ := hrel
   by_cases hlt : (k : Int) < (n : Int)
   ·
    have hk' : k < L.length := by rw [Hn.out]; omega
    obtain ⟨b, off, p, c, rfl, hit, hbl⟩ := H.out.at k hk'
    have hb0 := Below.chain B4.out hbw
    have hrg := (hit.next hbl hb0).range
    have hxl := HLEN.out _ (List.getElem_mem hk')
    generalize L[k] = x at *
    have m1 := fun W => capMay_any x p c W hxl
    have m2 := fun W => refMayI_any x p c W hxl
    have HBW := Lib.hid hbw
    have HB0 := Lib.hid hb0
    clear hit hbw hk' hb0
    go_wp2_with fail
    refine held_start (S := fun W => W.rangeAt b (off + k * 3) (icells x (.slice p x.data.length c))) 11 (by kernel_rfl) rfl ?_
    have hS3 : wr.drew.rangeAt b (off + k * 3) (icells x (.slice p x.data.length c)) := fun j v hj => hrg j v hj
    have hD3 : Hid (Below wr.heap.size wr wr.drew) := (Below.refl _ _).drew
    have hSN : ∀ W', Below wr.drew.heap.size wr.drew W' → W'.rangeAt b (off + k * 3) (icells x (.slice p x.data.length c)) := fun W' hb j v hj => by
     rw [Below.cell (p := ⟨b, off + k * 3 + j, none⟩) hb (Nat.lt_of_lt_of_le hbl (Below.chain HB0.out hD3.out).size)]; exact hS3 j v hj
    generalize wr.drew = W3 at *
    refine held_take 0 (v := ?_) rfl (by kernel_rfl) (by kernel_rfl) (by kernel_rfl) (fun _ _ _ h => h) (by assumption) (by rfl) ?_ ?_
    rotate_left
    ·
     (intro W hW; go_simp; try with_reducible rfl)
    simp only [Act.put, List.setIfInBounds_toArray, List.set_cons_zero, List.set_cons_succ]
    refine held_take 1 (v := ?_) rfl (by kernel_rfl) (by kernel_rfl) (by kernel_rfl) (fun _ _ _ h => h) (by assumption) (by rfl) ?_ ?_
    rotate_left
    ·
     (intro W hW; go_simp; try with_reducible rfl)
    simp only [Act.put, List.setIfInBounds_toArray, List.set_cons_zero, List.set_cons_succ]
    refine held_take 2 (v := ?_) rfl (by kernel_rfl) (by kernel_rfl) (by kernel_rfl) (fun _ _ _ h => h) (by assumption) (by rfl) ?_ ?_
    rotate_left
    ·
     (intro W hW; go_simp; try with_reducible rfl)
    simp only [Act.put, List.setIfInBounds_toArray, List.set_cons_zero, List.set_cons_succ]
    refine held_take 3 (v := .agg (icells x (.slice p x.data.length c)).toArray) rfl (by kernel_rfl) (by kernel_rfl) (by kernel_rfl) (fun _ _ _ h => h) (by assumption) (by rfl) (fun W hW => run_load_itemmid (.tmp 42) rfl _ _ rfl x _ hW) ?_
    simp only [Act.put, List.setIfInBounds_toArray, List.set_cons_zero, List.set_cons_succ]
    refine held_take 5 (v := ?_) rfl (by kernel_rfl) (by kernel_rfl) (by kernel_rfl) (fun _ _ _ h => h) (by assumption) (by rfl) ?_ ?_
    rotate_left
    ·
     (intro W hW; go_simp; try with_reducible rfl)
    simp only [Act.put, List.setIfInBounds_toArray, List.set_cons_zero, List.set_cons_succ]
    refine held_take 6 (v := ?_) rfl (by kernel_rfl) (by kernel_rfl) (by kernel_rfl) (fun _ _ _ h => h) (by assumption) (by rfl) ?_ ?_
    rotate_left
    ·
     (intro W hW; go_simp; try with_reducible rfl)
    simp only [Act.put, List.setIfInBounds_toArray, List.set_cons_zero, List.set_cons_succ]
    refine held_take 7 (v := ?_) rfl (by kernel_rfl) (by kernel_rfl) (by kernel_rfl) (fun _ _ _ h => h) (by assumption) (by rfl) ?_ ?_
    rotate_left
    ·
     (intro W hW; go_simp; try with_reducible rfl)
    simp only [Act.put, List.setIfInBounds_toArray, List.set_cons_zero, List.set_cons_succ]
    refine held_take 8 (v := .agg (icells x (.slice p x.data.length c)).toArray) rfl (by kernel_rfl) (by kernel_rfl) (by kernel_rfl) (fun _ _ _ h => h) (by assumption) (by rfl) (fun W hW => run_load_itemmid (.tmp 47) rfl _ _ rfl x _ hW) ?_
    simp only [Act.put, List.setIfInBounds_toArray, List.set_cons_zero, List.set_cons_succ]
    refine held_call 4 (f := 13) (args := #[.agg (icells x (.slice p x.data.length c)).toArray]) rfl (by kernel_rfl) (by rfl) (by go_simp) ?_
    refine (m1 W3).mono ?_
    rintro e W5 ⟨rfl, b5⟩
    refine ⟨_, rfl, hSN _ b5, ?_⟩
    simp only [Act.put, List.setIfInBounds_toArray, List.set_cons_zero, List.set_cons_succ]
    refine held_call 9 (f := 14) (args := #[.agg (icells x (.slice p x.data.length c)).toArray]) rfl (by kernel_rfl) (by rfl) (by go_simp) ?_
    refine (m2 W5).mono ?_
    rintro e W6 ⟨rfl, b6⟩
    have b36 := Below.chain b5 b6
    have hS6 := hSN _ b36
    clear hSN
    refine ⟨_, rfl, hS6, ?_⟩
    simp only [Act.put, List.setIfInBounds_toArray, List.set_cons_zero, List.set_cons_succ]
    refine held_take 10 (v := ?_) rfl (by kernel_rfl) (by kernel_rfl) (by kernel_rfl) (fun _ _ _ h => h) (by assumption) (by rfl) ?_ ?_
    rotate_left
    ·
     (intro W hW; go_simp; try with_reducible rfl)
    simp only [Act.put, List.setIfInBounds_toArray, List.set_cons_zero, List.set_cons_succ]
    refine held_done (by kernel_rfl) ?_
    have BW := Lib.hid (Below.chain HBW.out (Below.chain hD3.out b36))
    clear m1 m2 hS3 b36
    go_wp2
    go_roundw
    case rel => exact ⟨k + 1, by omega, by go_num, BW.out⟩
    case measure => simp [intOf]; omega
   ·
    have hB := Lib.hid (Below.chain B4.out hbw)
    have y1 : (convert 22 9 (.slice p3 m c3)).run Tryz.prog wr = .ok (.string ⟨X.toArray⟩) wr := conv_row HX.out (R34.out.next hbw)
    have y2 : (convert 22 9 (.slice p4 m c4)).run Tryz.prog wr = .ok (.string ⟨X.toArray⟩) wr := conv_row HX.out (R4.out.next hbw)
    generalize (⟨X.toArray⟩ : ByteArray) = Z at y1 y2
    go_wp2
    go_ret
    exact ⟨rfl, hB.out⟩
end Go.Proofs.YtbbnkmhlgfoacaaGreatDoor
