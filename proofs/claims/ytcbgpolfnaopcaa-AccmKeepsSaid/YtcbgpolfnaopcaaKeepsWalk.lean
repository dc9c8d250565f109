/- AccmKeeps: the walk. -/
import Derived.Test.YtcbgpolfnaopcaaWh
import Derived.Test.YtcbgpolfnaopcaaHeld
namespace Go.Proofs.Ytcbgpolfnaopcaa
open Go.RowKit

theorem ownsRow_below {w w' : World} {base B : Nat} {e : TypeId} {size : Nat} {v : Value} {n : Nat} {xs : List Value} (h : w.ownsRow base e size v n xs) (hb : Below B w w') (hB : ∀ g, v.ownBlock = some g → g < B) : w'.ownsRow base e size v n xs := by
  obtain ⟨h1, h2⟩ := h
  refine ⟨h1, ?_⟩
  rcases h2 with h2 | ⟨g, cap, cur, a, b, c, d⟩
  · exact .inl h2
  · exact .inr ⟨g, cap, cur, a, b, by rw [hb.block g (hB g (by rw [a]; rfl))]; exact c, d⟩
theorem ownsRow_next {w w' : World} {base : Nat} {e : TypeId} {size : Nat} {v : Value} {n : Nat} {xs : List Value} (h : w.ownsRow base e size v n xs) (hb : Below w.heap.size w w') : w'.ownsRow base e size v n xs :=
  ownsRow_below h hb fun g hg => (h.lt g hg).2
theorem grownBy_trans {a b c : World} {r : Option Nat} (h : a.grownBy b r) (k : b.grownBy c r) : a.grownBy c r :=
  ⟨k.os.trans h.os, k.tape.trans h.tape, k.output.trans h.output, Nat.le_trans h.size k.size, fun i hi hr => (k.block i (Nat.lt_of_lt_of_le hi h.size) hr).trans (h.block i hi hr)⟩
/-- A slice of one's own stays when another one is written. -/
theorem own_kept {w w0 w' : World} {B B5 n m : Nat} {v v5 : Value} {xs ys : List Value} (h : w.ownsRow B 5 1 v n xs) (h5 : w0.ownsRow B5 5 1 v5 m ys) (hB : w0.heap.size ≤ B) (hg : w.grownBy w' v5.ownBlock) : w'.ownsRow B 5 1 v n xs := by
  refine h.kept hg ?_
  cases hv : v.ownBlock with
  | none => exact .inl rfl
  | some k =>
    right
    intro e
    have h1 := (h.lt k hv).1
    have h2 := (h5.lt k e.symm).2
    omega

set_option maxRecDepth 100000 in
set_option maxHeartbeats 4000000 in
theorem keeps_walk (m : Nat) (w : World) (hm : m < 4294967296) :
    Calls Try.prog 7 #[.int .u32 (m : Int)] w fun e w' => e = .returned (.bool true) ∧ Below w.heap.size w w' := by
  have c15 := fun W : World => list_any m W hm
  have c16 := fun W : World => refList_row m W hm
  have c19 := fun W : World => put_own m W hm
  have c20 := fun W : World => refPut_row m W hm
  have hz32 := Ac.list_length m 32
  have hy4 : (Oc.put m 4 true).length = 4 := Oc.put_length _ _ _
  generalize Ac.list m 32 = Z at c15 c16 hz32
  generalize Oc.put m 4 true = Y at c19 c20 hy4
  obtain ⟨z, hz⟩ : ∃ z, Z.length = z := ⟨_, rfl⟩
  simp only [hz] at c15 c16 hz32
  have Hz := Lib.hid hz
  have Hy := Lib.hid hy4
  have C15 := Lib.hid c15
  have C16 := Lib.hid c16
  have C19 := Lib.hid c19
  have C20 := Lib.hid c20
  clear hz hy4 c15 c16 c19 c20
  have hz32' : (z : Int) ≤ 32 := by omega
  go_enter Try.func7, Try.ntmps7
  go_wp2_with fail
  refine (awake_any _).mono ?_
  rintro e w1 ⟨rfl, b1⟩
  go_wp2_with fail
  refine (C15.out _).mono ?_
  rintro e w2 ⟨v2, rfl, o2, b2⟩
  obtain ⟨a2, c2, rfl, -⟩ := rowAt_own Hz.out o2
  go_wp2_with fail
  refine (C19.out _).mono ?_
  rintro e w3 ⟨v3, rfl, o3, b3⟩
  obtain ⟨a3, c3, rfl, -⟩ := rowAt_own Hy.out o3
  have s1 := b1.size
  have s2 := b2.size
  have b03 := Below.chain b1 (Below.chain b2 b3)
  have O2w := Lib.hid (ownsRow_next o2 b3)
  have O2 := Lib.hid o2
  have O3 := Lib.hid o3
  clear o2 o3 b2 b3
  go_wp2_with fail
  go_loopw [5] (fun i wr => ∃ (k : Nat) (ys : List UInt8), k ≤ z ∧ i = .int .i64 (k : Int) ∧ ys.length = z ∧ wr.ownsRow w1.heap.size 5 1 (.slice a2 z c2) z (Lib.byteCells ys) ∧ w3.grownBy wr (Value.slice a2 z c2).ownBlock ∧ Below w1.heap.size w3 wr) (fun i _ => z - (intOf i).toNat)
  case atStart => exact ⟨0, Z, Nat.zero_le _, rfl, Hz.out, O2w.out, ⟨rfl, rfl, rfl, Nat.le_refl _, fun _ _ _ => rfl⟩, Below.refl _ _⟩
  case round =>
    obtain ⟨k, ys, hk, rfl, hyl, hown, hgr, hbw⟩ := hrel
    by_cases hlt : (k : Int) < (z : Int)
    · have hk' : k < z := by omega
      rcases hown.2 with ⟨hv, h0⟩ | ⟨g, c', cur, hv, hB, _, _, _, _, _⟩
      · omega
      · simp only [Value.slice.injEq, true_and] at hv
        obtain ⟨rfl, rfl⟩ := hv
        have hcell := hown.cellAt k (by omega)
        have hfz := hown.frozenAt k
        have hyk : (Lib.byteCells ys)[k]? = some (.int .u8 ((ys[k]'(by omega)).toNat : Int)) := by simp [Lib.byteCells, hyl, hk']
        rw [hyk] at hcell
        clear hyk
        obtain ⟨y, hy⟩ : ∃ y, y = ys[k]'(by omega) := ⟨_, rfl⟩
        rw [← hy] at hcell
        clear hy
        have hst := hown.stored k (.int .u8 (((99 : UInt8)).toNat : Int))
        rw [← cells_set] at hst
        have Hst := Lib.hid hst
        have Hyl := Lib.hid hyl
        clear hst hyl
        go_wp2
        go_roundw
        case rel => exact ⟨k + 1, ys.set k 99, by omega, by go_num, by simpa using Hyl.out, Hst.out.1, grownBy_trans hgr Hst.out.2, hbw.setCell hB _⟩
        case measure => simp [intOf]; omega
    · have b0r : Below w.heap.size w wr := b03.trans (hbw.mono s1)
      have O3r := Lib.hid (own_kept O3.out O2.out (Nat.le_refl _) hgr)
      have B0r := Lib.hid b0r
      clear hbw hgr hown hyl b0r O2w O2
      go_wp2_with fail
      go_loopw [6] (fun i wq => ∃ (j : Nat) (ys : List UInt8), j ≤ 4 ∧ i = .int .i64 (j : Int) ∧ ys.length = 4 ∧ wq.ownsRow w2.heap.size 5 1 (.slice a3 4 c3) 4 (Lib.byteCells ys) ∧ Below w.heap.size wr wq) (fun i _ => 4 - (intOf i).toNat)
      case atStart => exact ⟨0, Y, Nat.zero_le _, rfl, Hy.out, O3r.out, Below.refl _ _⟩
      case round =>
        obtain ⟨j, ys, hj, rfl, hyl, hown, hbw⟩ := hrel
        by_cases hlt4 : (j : Int) < 4
        · have hj' : j < 4 := by omega
          rcases hown.2 with ⟨hv, h0⟩ | ⟨g, c', cur, hv, hB, _, _, _, _, _⟩
          · omega
          · simp only [Value.slice.injEq, true_and] at hv
            obtain ⟨rfl, rfl⟩ := hv
            have hcell := hown.cellAt j (by omega)
            have hfz := hown.frozenAt j
            have hyk : (Lib.byteCells ys)[j]? = some (.int .u8 ((ys[j]'(by omega)).toNat : Int)) := by simp [Lib.byteCells, hyl, hj']
            rw [hyk] at hcell
            clear hyk
            obtain ⟨y, hy⟩ : ∃ y, y = ys[j]'(by omega) := ⟨_, rfl⟩
            rw [← hy] at hcell
            clear hy
            have hst := hown.stored j (.int .u8 (((99 : UInt8)).toNat : Int))
            rw [← cells_set] at hst
            have Hst := Lib.hid hst
            have Hyl := Lib.hid hyl
            clear hst hyl
            go_wp2
            go_roundw
            case rel => exact ⟨j + 1, ys.set j 99, by omega, by go_num, by simpa using Hyl.out, Hst.out.1, hbw.setCell (Nat.le_trans s1 (Nat.le_trans s2 hB)) _⟩
            case measure => simp [intOf]; omega
        · have b0q := Below.chain (B0r.out.trans hbw) (Below.refl _ _).drew
          clear hbw hown hyl B0r O3r O3 b03 b1
          go_wp2_with fail
          have hS : True := trivial
          refine held_start (S := fun _ => True) 17 (by kernel_rfl) rfl ?_
          generalize World.drew _ = w5 at b0q ⊢
          refine held_take 0 (v := ?_) rfl (by kernel_rfl) (by kernel_rfl) (by kernel_rfl) (fun _ _ _ h => h) (by assumption) (by rfl) ?_ ?_
          rotate_left
          · (intro W hW; go_simp; try with_reducible rfl)
          simp only [Act.put, List.setIfInBounds_toArray, List.set_cons_zero, List.set_cons_succ]
          refine held_take 3 (v := ?_) rfl (by kernel_rfl) (by kernel_rfl) (by kernel_rfl) (fun _ _ _ h => h) (by assumption) (by rfl) ?_ ?_
          rotate_left
          · (intro W hW; go_simp; try with_reducible rfl)
          simp only [Act.put, List.setIfInBounds_toArray, List.set_cons_zero, List.set_cons_succ]
          refine held_call 1 (f := 15) (args := #[.int .u32 (m : Int)]) rfl (by kernel_rfl) (by rfl) (by go_simp) ?_
          refine (C15.out _).mono ?_
          rintro e w7 ⟨v7, rfl, o7, bb⟩
          obtain ⟨p7, q7, rfl, r7⟩ := rowAt_own Hz.out o7
          clear o7
          replace b0q := Below.chain b0q bb
          refine ⟨_, rfl, trivial, ?_⟩
          simp only [Act.put, List.setIfInBounds_toArray, List.set_cons_zero, List.set_cons_succ]
          refine held_more (S' := fun W => RowAt W p7 q7 Z) (fun _ _ => trivial) _ _ _ _ ?_
          clear bb
          refine held_take 2 (v := ?_) rfl (by kernel_rfl) (by kernel_rfl) (by kernel_rfl) (fun _ _ _ h => h) (by assumption) (by rfl) ?_ ?_
          rotate_left
          · (intro W hW; have cv := conv_row Hz.out hW; go_simp; try with_reducible rfl)
          simp only [Act.put, List.setIfInBounds_toArray, List.set_cons_zero, List.set_cons_succ]
          refine held_call 4 (f := 16) (args := #[.int .u32 (m : Int)]) rfl (by kernel_rfl) (by rfl) (by go_simp) ?_
          refine (C16.out _).mono ?_
          rintro e w8 ⟨p8, q8, rfl, r8, bb⟩
          replace b0q := Below.chain b0q bb
          replace r7 := r7.next bb
          refine ⟨_, rfl, r7, ?_⟩
          simp only [Act.put, List.setIfInBounds_toArray, List.set_cons_zero, List.set_cons_succ]
          refine held_more (S' := fun W => RowAt W p8 q8 Z ∧ RowAt W p7 q7 Z) (fun _ h => h.2) _ _ _ _ ?_
          have h8 : RowAt w8 p8 q8 Z ∧ RowAt w8 p7 q7 Z := ⟨r8, r7⟩
          clear r8 r7 bb
          refine held_take 5 (v := ?_) rfl (by kernel_rfl) (by kernel_rfl) (by kernel_rfl) (fun _ _ _ h => h) (by assumption) (by rfl) ?_ ?_
          rotate_left
          · (intro W hW; have cv := conv_row Hz.out hW.1; go_simp; try with_reducible rfl)
          simp only [Act.put, List.setIfInBounds_toArray, List.set_cons_zero, List.set_cons_succ]
          refine held_take 6 (v := ?_) rfl (by kernel_rfl) (by kernel_rfl) (by kernel_rfl) (fun _ _ _ h => h) (by assumption) (by rfl) ?_ ?_
          rotate_left
          · (intro W hW; go_simp; try with_reducible rfl)
          simp only [Act.put, List.setIfInBounds_toArray, List.set_cons_zero, List.set_cons_succ]
          refine held_take 7 (v := ?_) rfl (by kernel_rfl) (by kernel_rfl) (by kernel_rfl) (fun _ _ _ h => h) (by assumption) (by rfl) ?_ ?_
          rotate_left
          · (intro W hW; go_simp; try with_reducible rfl)
          simp only [Act.put, List.setIfInBounds_toArray, List.set_cons_zero, List.set_cons_succ]
          refine held_take 8 (v := ?_) rfl (by kernel_rfl) (by kernel_rfl) (by kernel_rfl) (fun _ _ _ h => h) (by assumption) (by rfl) ?_ ?_
          rotate_left
          · (intro W hW; go_simp; try with_reducible rfl)
          simp only [Act.put, List.setIfInBounds_toArray, List.set_cons_zero, List.set_cons_succ]
          refine held_take 11 (v := ?_) rfl (by kernel_rfl) (by kernel_rfl) (by kernel_rfl) (fun _ _ _ h => h) (by assumption) (by rfl) ?_ ?_
          rotate_left
          · (intro W hW; go_simp; try with_reducible rfl)
          simp only [Act.put, List.setIfInBounds_toArray, List.set_cons_zero, List.set_cons_succ]
          refine held_call 9 (f := 19) (args := #[.int .u32 (m : Int)]) rfl (by kernel_rfl) (by rfl) (by go_simp) ?_
          refine (C19.out _).mono ?_
          rintro e w9 ⟨v9, rfl, o9, bb⟩
          obtain ⟨p9, q9, rfl, r9⟩ := rowAt_own Hy.out o9
          clear o9
          replace b0q := Below.chain b0q bb
          replace h8 : RowAt w9 p8 q8 Z ∧ RowAt w9 p7 q7 Z := ⟨h8.1.next bb, h8.2.next bb⟩
          refine ⟨_, rfl, h8, ?_⟩
          simp only [Act.put, List.setIfInBounds_toArray, List.set_cons_zero, List.set_cons_succ]
          refine held_more (S' := fun W => RowAt W p9 q9 Y ∧ RowAt W p8 q8 Z ∧ RowAt W p7 q7 Z) (fun _ h => h.2) _ _ _ _ ?_
          have h9 : RowAt w9 p9 q9 Y ∧ RowAt w9 p8 q8 Z ∧ RowAt w9 p7 q7 Z := ⟨r9, h8⟩
          clear r9 h8 bb
          refine held_take 10 (v := ?_) rfl (by kernel_rfl) (by kernel_rfl) (by kernel_rfl) (fun _ _ _ h => h) (by assumption) (by rfl) ?_ ?_
          rotate_left
          · (intro W hW; have cv := conv_row Hy.out hW.1; go_simp; try with_reducible rfl)
          simp only [Act.put, List.setIfInBounds_toArray, List.set_cons_zero, List.set_cons_succ]
          refine held_call 12 (f := 20) (args := #[.int .u32 (m : Int)]) rfl (by kernel_rfl) (by rfl) (by go_simp) ?_
          refine (C20.out _).mono ?_
          rintro e w10 ⟨p10, q10, rfl, r10, bb⟩
          replace b0q := Below.chain b0q bb
          replace h9 : RowAt w10 p9 q9 Y ∧ RowAt w10 p8 q8 Z ∧ RowAt w10 p7 q7 Z := ⟨h9.1.next bb, h9.2.1.next bb, h9.2.2.next bb⟩
          refine ⟨_, rfl, h9, ?_⟩
          simp only [Act.put, List.setIfInBounds_toArray, List.set_cons_zero, List.set_cons_succ]
          refine held_more (S' := fun W => RowAt W p10 q10 Y ∧ RowAt W p9 q9 Y ∧ RowAt W p8 q8 Z ∧ RowAt W p7 q7 Z) (fun _ h => h.2) _ _ _ _ ?_
          have h10 : RowAt w10 p10 q10 Y ∧ RowAt w10 p9 q9 Y ∧ RowAt w10 p8 q8 Z ∧ RowAt w10 p7 q7 Z := ⟨r10, h9⟩
          clear r10 h9 bb
          refine held_take 13 (v := ?_) rfl (by kernel_rfl) (by kernel_rfl) (by kernel_rfl) (fun _ _ _ h => h) (by assumption) (by rfl) ?_ ?_
          rotate_left
          · (intro W hW; have cv := conv_row Hy.out hW.1; go_simp; try with_reducible rfl)
          simp only [Act.put, List.setIfInBounds_toArray, List.set_cons_zero, List.set_cons_succ]
          refine held_take 14 (v := ?_) rfl (by kernel_rfl) (by kernel_rfl) (by kernel_rfl) (fun _ _ _ h => h) (by assumption) (by rfl) ?_ ?_
          rotate_left
          · (intro W hW; go_simp; try with_reducible rfl)
          simp only [Act.put, List.setIfInBounds_toArray, List.set_cons_zero, List.set_cons_succ]
          refine held_take 15 (v := ?_) rfl (by kernel_rfl) (by kernel_rfl) (by kernel_rfl) (fun _ _ _ h => h) (by assumption) (by rfl) ?_ ?_
          rotate_left
          · (intro W hW; go_simp; try with_reducible rfl)
          simp only [Act.put, List.setIfInBounds_toArray, List.set_cons_zero, List.set_cons_succ]
          refine held_take 16 (v := ?_) rfl (by kernel_rfl) (by kernel_rfl) (by kernel_rfl) (fun _ _ _ h => h) (by assumption) (by rfl) ?_ ?_
          rotate_left
          · (intro W hW; go_simp; try with_reducible rfl)
          simp only [Act.put, List.setIfInBounds_toArray, List.set_cons_zero, List.set_cons_succ]
          refine held_done (by kernel_rfl) ?_
          go_wp2
          go_ret
          exact ⟨rfl, b0q⟩
end Go.Proofs.Ytcbgpolfnaopcaa
