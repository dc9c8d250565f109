/- StuffKeeps: the walk. -/
import Derived.Test.YtecdnolchpfbmaaJoinWalk
import Derived.Test.YtecdnolchpfbmaaPutsWalk
namespace Go.Proofs.Ytecdnolchpfbmaa
open Go.RowKit

theorem up_int (y : UInt8) : ((y.toNat : Int) + 1) % 256 = (((y + 1 : UInt8)).toNat : Int) := by
  rw [UInt8.toNat_add]
  have : (1 : UInt8).toNat = 1 := rfl
  rw [this]
  omega

set_option maxRecDepth 10000 in
set_option maxHeartbeats 1000000 in
theorem keeps_long (m : Nat) (a : Option Addr) (cap n : Nat) (w : World) (hg : (1000 : Int) < (n : Int)) :
    Calls Try.prog 6 #[.slice a n cap, .int .u32 (m : Int)] w fun e w' => e = .returned (.bool true) ∧ Below w.heap.size w w' := by
  go_enter Try.func6, Try.ntmps6
  go_wp2_with fail
  refine (awake_any _).mono ?_
  rintro e w1 ⟨rfl, b1⟩
  go_wp2_with fail
  refine (awake_any _).mono ?_
  rintro e w2 ⟨rfl, b2⟩
  go_wp2
  go_ret
  exact ⟨rfl, Below.chain b1 b2⟩

set_option maxRecDepth 100000 in
set_option maxHeartbeats 4000000 in
theorem keeps_short (m : Nat) (a : Option Addr) (cap : Nat) (xs : List UInt8) (n : Nat) (w : World) (hm : m < 4294967296) (hn : xs.length = n) (h : RowAt w a cap xs) (hg : ¬ (1000 : Int) < (n : Int)) :
    Calls Try.prog 6 #[.slice a n cap, .int .u32 (m : Int)] w fun e w' => e = .returned (.bool true) ∧ Below w.heap.size w w' := by
  obtain ⟨z, hz⟩ : ∃ z, (St.stuff m xs).length = z := ⟨_, rfl⟩
  have c8 := fun (W : World) (h : RowAt W a cap xs) => refStuff_row cap m n z a xs W hn hm (by omega) h hz
  have c9 := fun (W : World) (p : Option Addr) (c : Nat) (h : RowAt W p c xs) => stuff_own c m n p xs W hn hm (by omega) h
  have c12 := fun (W : World) (p : Option Addr) (c : Nat) (h : RowAt W p c xs) => unstuff_own c m n p xs W hn hm (by omega) h.bytes
  have c14 := fun (W : World) (h : RowAt W a cap xs) => refUnstuff_own cap m n a xs W hn hm (by omega) h.bytes
  rw [hz] at c9
  generalize St.stuff m xs = Z at c8 c9 hz
  generalize St.ans m xs = A at c12 c14
  obtain ⟨Y, ok⟩ := A
  obtain ⟨y, hy⟩ : ∃ y, Y.length = y := ⟨_, rfl⟩
  simp only [hy] at c12 c14
  have Hn := Lib.hid hn
  have Hz := Lib.hid hz
  have Hy := Lib.hid hy
  have C8 := Lib.hid c8
  have C9 := Lib.hid c9
  have C12 := Lib.hid c12
  have C14 := Lib.hid c14
  have H := Lib.hid h
  clear hz hy c8 c9 c12 c14 h hn
  go_enter Try.func6, Try.ntmps6
  go_wp2_with fail
  refine (awake_any _).mono ?_
  rintro e w1 ⟨rfl, b1⟩
  have h1 := Lib.hid (H.out.next b1)
  go_wp2_with (at_builtin; refine wpList_append_row rfl _ _ rfl w1.heap.size _ 0 [] rfl (owns_empty w1) a n cap xs rfl Hn.out (h1.out.next ((Below.refl _ _).alloc (Nat.le_refl _) _)) (by omega) (by simp) ?_; intro v2 w2 o2 g2; rw [Nat.zero_add, List.nil_append] at o2; have b2 : Below w1.heap.size w1 w2 := Below.grown ((Below.refl _ _).alloc (Nat.le_refl _) _) g2 (by simp) (fun j hj => ((owns_empty w1).lt j hj).1); clear g2; obtain ⟨a2, c2, rfl, r2⟩ := rowAt_own Hn.out o2)
  have O2 := Lib.hid o2
  clear o2
  refine (C9.out _ _ _ r2).mono ?_
  rintro e w3 ⟨v3, rfl, o3, b3⟩
  obtain ⟨a3, c3, rfl, -⟩ := rowAt_own Hz.out o3
  replace r2 := r2.next b3
  have O3 := Lib.hid o3
  clear o3
  go_wp2_with fail
  refine (C12.out _ _ _ r2).mono ?_
  rintro e w4 ⟨v4, rfl, o4, b4⟩
  obtain ⟨a4, c4, rfl, -⟩ := rowAt_own Hy.out o4
  replace r2 := r2.next b4
  have O4 := Lib.hid o4
  clear o4
  have b14 := Below.chain b2 (Below.chain b3 b4)
  go_wp2_with fail
  refine (C14.out _ (h1.out.next b14)).mono ?_
  rintro e w5 ⟨v5, rfl, o5, b5⟩
  obtain ⟨a5, c5, rfl, -⟩ := rowAt_own Hy.out o5
  replace r2 := r2.next b5
  have s2 := b2.size
  have s3 := b3.size
  have s4 := b4.size
  have b15 : Below w1.heap.size w1 w5 := Below.chain b14 b5
  have O2w := Lib.hid (ownsRow_next O2.out (Below.chain b3 (Below.chain b4 b5)))
  have O3w := Lib.hid (ownsRow_next O3.out (Below.chain b4 b5))
  have O4w := Lib.hid (ownsRow_next O4.out b5)
  have O5w := Lib.hid o5
  clear o5 b2 b3 b4 b5 b14 O3 O4
  have k1 : (convert 22 9 (.slice a2 n c2)).run Try.prog w5 = .ok (.string ⟨xs.toArray⟩) w5 := conv_row Hn.out r2
  have k2 : (convert 22 9 (.slice a n cap)).run Try.prog w5 = .ok (.string ⟨xs.toArray⟩) w5 := conv_row Hn.out (h1.out.next b15)
  generalize (⟨xs.toArray⟩ : ByteArray) = Sx at k1 k2
  clear r2
  go_wp2_with fail
  clear k1 k2
  go_loopw [11] (fun i wr => ∃ (k : Nat) (ys : List UInt8), k ≤ n ∧ i = .int .i64 (k : Int) ∧ ys.length = n ∧ wr.ownsRow w1.heap.size 5 1 (.slice a2 n c2) n (Lib.byteCells ys) ∧ w5.grownBy wr (Value.slice a2 n c2).ownBlock ∧ Below w1.heap.size w5 wr) (fun i _ => n - (intOf i).toNat)
  case atStart => exact ⟨0, xs, Nat.zero_le _, rfl, Hn.out, O2w.out, ⟨rfl, rfl, rfl, Nat.le_refl _, fun _ _ _ => rfl⟩, Below.refl _ _⟩
  case round =>
    obtain ⟨k, ys, hk, rfl, hyl, hown, hgr, hbw⟩ := hrel
    by_cases hlt : (k : Int) < (n : Int)
    · have hk' : k < n := by omega
      rcases hown.2 with ⟨hv, h0⟩ | ⟨g, c', cur, hv, hB, _, _, _, _, _⟩
      · omega
      · simp only [Value.slice.injEq, true_and] at hv
        obtain ⟨rfl, rfl⟩ := hv
        have hcell := hown.cellAt k (by omega)
        have hfz := hown.frozenAt k
        have hyk : (Lib.byteCells ys)[k]? = some (.int .u8 ((ys[k]'(by omega)).toNat : Int)) := by simp [Lib.byteCells, hyl, hk']
        rw [hyk] at hcell
        clear hyk
        obtain ⟨y, hy⟩ : ∃ y, y = ys[k]'(by omega) := ⟨_, rfl⟩
        rw [← hy] at hcell
        clear hy
        have hst := hown.stored k (.int .u8 (((y + 1 : UInt8)).toNat : Int))
        rw [← cells_set] at hst
        have hup := up_int y
        generalize (y + 1 : UInt8) = y2 at hst hup
        have Hst := Lib.hid hst
        have Hyl := Lib.hid hyl
        clear hst hyl
        go_wp2
        go_roundw
        case rel => exact ⟨k + 1, ys.set k y2, by omega, by go_num, by simpa using Hyl.out, Hst.out.1, grownBy_trans hgr Hst.out.2, hbw.setCell hB _⟩
        case measure => simp [intOf]; omega
    · have h0r : RowAt wr a cap xs := h1.out.next (b15.trans hbw)
      have r3 := rowAt_own Hz.out (own_kept O3w.out O2.out (Nat.le_refl _) hgr)
      have r4 := rowAt_own Hy.out (own_kept O4w.out O2.out s3 hgr)
      have r5 := rowAt_own Hy.out (own_kept O5w.out O2.out (Nat.le_trans s3 s4) hgr)
      obtain ⟨p, q, e3, r3⟩ := r3
      simp only [Value.slice.injEq, true_and] at e3
      obtain ⟨rfl, rfl⟩ := e3
      obtain ⟨p, q, e4, r4⟩ := r4
      simp only [Value.slice.injEq, true_and] at e4
      obtain ⟨rfl, rfl⟩ := e4
      obtain ⟨p, q, e5, r5⟩ := r5
      simp only [Value.slice.injEq, true_and] at e5
      obtain ⟨rfl, rfl⟩ := e5
      have b0r : Below w.heap.size w wr.drew := Below.chain (b1.trans ((b15.trans hbw).mono b1.size)) (Below.refl _ _).drew
      have hS : RowAt wr.drew a3 c3 Z ∧ RowAt wr.drew a4 c4 Y ∧ RowAt wr.drew a5 c5 Y ∧ RowAt wr.drew a cap xs := ⟨r3.drawn, r4.drawn, r5.drawn, h0r.drawn⟩
      clear hbw hgr hown hyl O2w O2 O3w O4w O5w r3 r4 r5 h0r b15
      go_wp2_with fail
      refine held_start (S := fun W => RowAt W a3 c3 Z ∧ RowAt W a4 c4 Y ∧ RowAt W a5 c5 Y ∧ RowAt W a cap xs) 15 (by kernel_rfl) rfl ?_
      generalize wr.drew = w6 at hS b0r ⊢
      refine held_take 0 (v := ?_) rfl (by kernel_rfl) (by kernel_rfl) (by kernel_rfl) (fun _ _ _ h => h) (by assumption) (by rfl) ?_ ?_
      rotate_left
      · (intro W hW; go_simp; try with_reducible rfl)
      simp only [Act.put, List.setIfInBounds_toArray, List.set_cons_zero, List.set_cons_succ]
      refine held_take 1 (v := ?_) rfl (by kernel_rfl) (by kernel_rfl) (by kernel_rfl) (fun _ _ _ h => h) (by assumption) (by rfl) ?_ ?_
      rotate_left
      · (intro W hW; have cv := conv_row Hz.out hW.1; go_simp; try with_reducible rfl)
      simp only [Act.put, List.setIfInBounds_toArray, List.set_cons_zero, List.set_cons_succ]
      refine held_take 2 (v := ?_) rfl (by kernel_rfl) (by kernel_rfl) (by kernel_rfl) (fun _ _ _ h => h) (by assumption) (by rfl) ?_ ?_
      rotate_left
      · (intro W hW; go_simp; try with_reducible rfl)
      simp only [Act.put, List.setIfInBounds_toArray, List.set_cons_zero, List.set_cons_succ]
      refine held_take 3 (v := ?_) rfl (by kernel_rfl) (by kernel_rfl) (by kernel_rfl) (fun _ _ _ h => h) (by assumption) (by rfl) ?_ ?_
      rotate_left
      · (intro W hW; go_simp; try with_reducible rfl)
      simp only [Act.put, List.setIfInBounds_toArray, List.set_cons_zero, List.set_cons_succ]
      refine held_call 4 (f := 8) (args := #[.slice a n cap, .int .u32 (m : Int)]) rfl (by kernel_rfl) (by rfl) (by go_simp) ?_
      refine (C8.out _ hS.2.2.2).mono ?_
      rintro e w7 ⟨p7, c7, rfl, r7, bb⟩
      replace hS : RowAt w7 a3 c3 Z ∧ RowAt w7 a4 c4 Y ∧ RowAt w7 a5 c5 Y ∧ RowAt w7 a cap xs := ⟨hS.1.next bb, hS.2.1.next bb, hS.2.2.1.next bb, hS.2.2.2.next bb⟩
      refine ⟨_, rfl, hS, ?_⟩
      simp only [Act.put, List.setIfInBounds_toArray, List.set_cons_zero, List.set_cons_succ]
      refine held_more (S' := fun W => RowAt W p7 c7 Z ∧ RowAt W a3 c3 Z ∧ RowAt W a4 c4 Y ∧ RowAt W a5 c5 Y ∧ RowAt W a cap xs) (fun _ h => h.2) _ _ _ _ ?_
      have hS2 : RowAt w7 p7 c7 Z ∧ RowAt w7 a3 c3 Z ∧ RowAt w7 a4 c4 Y ∧ RowAt w7 a5 c5 Y ∧ RowAt w7 a cap xs := ⟨r7, hS⟩
      replace b0r := Below.chain b0r bb
      clear r7 hS bb
      refine held_take 5 (v := ?_) rfl (by kernel_rfl) (by kernel_rfl) (by kernel_rfl) (fun _ _ _ h => h) (by assumption) (by rfl) ?_ ?_
      rotate_left
      · (intro W hW; have cv := conv_row Hz.out hW.1; go_simp; try with_reducible rfl)
      simp only [Act.put, List.setIfInBounds_toArray, List.set_cons_zero, List.set_cons_succ]
      refine held_take 6 (v := ?_) rfl (by kernel_rfl) (by kernel_rfl) (by kernel_rfl) (fun _ _ _ h => h) (by assumption) (by rfl) ?_ ?_
      rotate_left
      · (intro W hW; go_simp; try with_reducible rfl)
      simp only [Act.put, List.setIfInBounds_toArray, List.set_cons_zero, List.set_cons_succ]
      refine held_take 7 (v := ?_) rfl (by kernel_rfl) (by kernel_rfl) (by kernel_rfl) (fun _ _ _ h => h) (by assumption) (by rfl) ?_ ?_
      rotate_left
      · (intro W hW; go_simp; try with_reducible rfl)
      simp only [Act.put, List.setIfInBounds_toArray, List.set_cons_zero, List.set_cons_succ]
      refine held_take 8 (v := ?_) rfl (by kernel_rfl) (by kernel_rfl) (by kernel_rfl) (fun _ _ _ h => h) (by assumption) (by rfl) ?_ ?_
      rotate_left
      · (intro W hW; go_simp; try with_reducible rfl)
      simp only [Act.put, List.setIfInBounds_toArray, List.set_cons_zero, List.set_cons_succ]
      refine held_take 9 (v := ?_) rfl (by kernel_rfl) (by kernel_rfl) (by kernel_rfl) (fun _ _ _ h => h) (by assumption) (by rfl) ?_ ?_
      rotate_left
      · (intro W hW; have cv := conv_row Hy.out hW.2.2.1; go_simp; try with_reducible rfl)
      simp only [Act.put, List.setIfInBounds_toArray, List.set_cons_zero, List.set_cons_succ]
      refine held_take 10 (v := ?_) rfl (by kernel_rfl) (by kernel_rfl) (by kernel_rfl) (fun _ _ _ h => h) (by assumption) (by rfl) ?_ ?_
      rotate_left
      · (intro W hW; go_simp; try with_reducible rfl)
      simp only [Act.put, List.setIfInBounds_toArray, List.set_cons_zero, List.set_cons_succ]
      refine held_take 11 (v := ?_) rfl (by kernel_rfl) (by kernel_rfl) (by kernel_rfl) (fun _ _ _ h => h) (by assumption) (by rfl) ?_ ?_
      rotate_left
      · (intro W hW; have cv := conv_row Hy.out hW.2.2.2.1; go_simp; try with_reducible rfl)
      simp only [Act.put, List.setIfInBounds_toArray, List.set_cons_zero, List.set_cons_succ]
      refine held_take 12 (v := ?_) rfl (by kernel_rfl) (by kernel_rfl) (by kernel_rfl) (fun _ _ _ h => h) (by assumption) (by rfl) ?_ ?_
      rotate_left
      · (intro W hW; go_simp; try with_reducible rfl)
      simp only [Act.put, List.setIfInBounds_toArray, List.set_cons_zero, List.set_cons_succ]
      refine held_take 13 (v := ?_) rfl (by kernel_rfl) (by kernel_rfl) (by kernel_rfl) (fun _ _ _ h => h) (by assumption) (by rfl) ?_ ?_
      rotate_left
      · (intro W hW; go_simp; try with_reducible rfl)
      simp only [Act.put, List.setIfInBounds_toArray, List.set_cons_zero, List.set_cons_succ]
      refine held_take 14 (v := ?_) rfl (by kernel_rfl) (by kernel_rfl) (by kernel_rfl) (fun _ _ _ h => h) (by assumption) (by rfl) ?_ ?_
      rotate_left
      · (intro W hW; go_simp; try with_reducible rfl)
      simp only [Act.put, List.setIfInBounds_toArray, List.set_cons_zero, List.set_cons_succ]
      refine held_done (by kernel_rfl) ?_
      go_wp2
      go_ret
      exact ⟨rfl, b0r⟩

theorem keeps_walk (m : Nat) (a : Option Addr) (cap : Nat) (xs : List UInt8) (w : World) (hm : m < 4294967296) (h : RowAt w a cap xs) :
    Calls Try.prog 6 #[.slice a xs.length cap, .int .u32 (m : Int)] w fun e w' => e = .returned (.bool true) ∧ Below w.heap.size w w' := by
  by_cases hg : (1000 : Int) < (xs.length : Int)
  · exact keeps_long m a cap xs.length w hg
  · exact keeps_short m a cap xs xs.length w hm rfl h hg
end Go.Proofs.Ytecdnolchpfbmaa
