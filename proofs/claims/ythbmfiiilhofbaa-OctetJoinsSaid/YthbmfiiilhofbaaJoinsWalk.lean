/- OctetJoins: the walk. -/
import Derived.Test.YthbmfiiilhofbaaWe
import Derived.Test.YthbmfiiilhofbaaHeld
namespace Go.Proofs.Ythbmfiiilhofbaa
open Go.RowKit

theorem flat_part (L : List (List UInt8)) (k : Nat) (h : k < L.length) : (L.flatten.drop (tot L k)).take L[k].length = L[k] := by
  have e : L.flatten = (L.take k).flatten ++ (L[k] ++ (L.drop (k + 1)).flatten) := by
    have h1 : L = L.take k ++ L[k] :: L.drop (k + 1) := by simp
    have h2 := congrArg List.flatten h1
    rw [List.flatten_append, List.flatten_cons] at h2
    exact h2
  rw [e]
  unfold tot
  rw [List.drop_left, List.take_left]
theorem flat_bound : ∀ (L : List (List UInt8)), (∀ x ∈ L, x.length ≤ 200) → L.flatten.length ≤ 200 * L.length
  | [], _ => by simp
  | x :: L, h => by
    have h1 := flat_bound L (fun y hy => h y (List.mem_cons_of_mem _ hy))
    have h2 := h x List.mem_cons_self
    rw [List.flatten_cons, List.length_append, List.length_cons]
    omega
theorem all_short (L : List (List UInt8)) (h : ∀ j (hj : j < L.length), L[j].length ≤ 200) : ∀ x ∈ L, x.length ≤ 200 := by
  intro x hx
  obtain ⟨j, hj, rfl⟩ := List.getElem_of_mem hx
  exact h j hj
theorem short_step (L : List (List UInt8)) (k : Nat) (h : ∀ j (hj : j < L.length), j < k → L[j].length ≤ 200) (hk : k < L.length) (hs : L[k].length ≤ 200) : ∀ j (hj : j < L.length), j < k + 1 → L[j].length ≤ 200 := by
  intro j hj hjk
  rcases Nat.lt_or_ge j k with h1 | h1
  · exact h j hj h1
  · have e : j = k := by omega
    subst e
    exact hs
theorem joins_drew {w : World} {a : Option Addr} {c : Nat} {xs : List UInt8} (h : RowAt w a c xs) : RowAt w.drew a c xs := h.next (Below.refl _ _).drew
theorem joins_drewN {w : World} {a : Option Addr} {c : Nat} {xs : List UInt8} (h : RowAt w a c xs) (n : Nat) : RowAt (w.drewN n) a c xs := h.next ((Below.refl _ _).trans ⟨rfl, rfl, rfl, Nat.le_refl _, fun _ _ => rfl⟩)
theorem joins_below {B : Nat} {a w : World} (h : Below B a w) (n : Nat) : Below B a (w.drewN n) := h.trans ⟨rfl, rfl, rfl, Nat.le_refl _, fun _ _ => rfl⟩

theorem joins_many (a : Option Addr) (len cap : Nat) (w : World) (hg : (50 : Int) < (len : Int)) :
    Calls Try.prog 7 #[.slice a len cap] w fun e w' => e = .returned (.bool true) ∧ Below w.heap.size w w' := by
  go_enter Try.func7, Try.ntmps7
  go_wp2_with fail
  refine (awake_any _).mono ?_
  rintro e w1 ⟨rfl, b1⟩
  go_wp2_with fail
  refine (awake_any _).mono ?_
  rintro e w2 ⟨rfl, b2⟩
  go_wp2_with fail
  go_ret
  exact ⟨rfl, Below.chain b1 b2⟩

set_option maxHeartbeats 4000000 in
set_option maxRecDepth 100000 in
theorem joins_some (b off cap : Nat) (L : List (List UInt8)) (w : World) (hb : b < w.heap.size) (hc : ∀ j (h : j < L.length), ∃ p c, w.cell? ⟨b, off + j, none⟩ = some (.slice p L[j].length c) ∧ RowAt w p c L[j]) (hg : ¬ (50 : Int) < (L.length : Int)) :
    Calls Try.prog 7 #[.slice (some ⟨b, off, none⟩) L.length cap] w fun e w' => e = .returned (.bool true) ∧ Below w.heap.size w w' := by
  obtain ⟨PA, hPA⟩ : ∃ PA, PA = some (⟨b, off, none⟩ : Addr) := ⟨_, rfl⟩
  have HP : Hid (PartsAt w PA L) := by rw [hPA]; exact .inr ⟨b, off, rfl, hb, hc⟩
  have HPA := Lib.hid hPA
  clear hPA
  have Hc := Lib.hid hc
  clear hc
  go_enter Try.func7, Try.ntmps7
  go_wp2_with fail
  refine (awake_any _).mono ?_
  rintro e w1 ⟨rfl, b1⟩
  go_wp2_with fail
  go_loop [3] (fun i => ∃ k : Nat, k ≤ L.length ∧ i = .int .i64 (k : Int) ∧ Hid (∀ j (hj : j < L.length), j < k → L[j].length ≤ 200)) (fun i => L.length - (intOf i).toNat)
  case atStart => exact ⟨0, Nat.zero_le _, rfl, fun j _ hj => by omega⟩
  case round =>
    obtain ⟨k, hk, rfl, HS⟩ := hrel
    by_cases hlt : (k : Int) < (L.length : Int)
    · have hk' : k < L.length := by omega
      obtain ⟨p, c, hcell0, hrow⟩ := Hc.out k hk'
      have hmx := hrow.max
      have hle := hrow.le
      unfold maxLen at hmx
      clear hrow
      have hcell : w1.cell? ⟨b, off + k, none⟩ = some (.slice p L[k].length c) := by rw [b1.cell (p := ⟨b, off + k, none⟩) hb]; exact hcell0
      clear hcell0
      by_cases hbig : (200 : Int) < (L[k].length : Int)
      · go_wp2
        go_ret
        exact ⟨rfl, b1⟩
      · go_wp2
        go_round
        case rel => exact ⟨k + 1, by omega, by go_num, short_step L k HS.out hk' (by omega)⟩
        case measure => simp [intOf]; omega
    · have hall := all_short L (fun j hj => HS.out j hj (by omega))
      have hfb := flat_bound L hall
      clear HS hall
      obtain ⟨F, hF⟩ : ∃ F, F = L.flatten := ⟨_, rfl⟩
      rw [← hF] at hfb
      have HF := Lib.hid hF
      clear hF
      have CR : Hid (∀ W, PartsAt W PA L → Calls Try.prog 21 #[.slice (some ⟨b, off, none⟩) L.length cap] W fun e w' => ∃ v, e = .returned v ∧ w'.ownsRow W.heap.size 5 1 v F.length (Lib.byteCells F) ∧ Below W.heap.size W w') := fun W r => by
        have h := refJoin_at PA cap L F W HF.out.symm (by omega) (by omega) r
        rw [HPA.out] at h
        exact h
      go_wp2_with fail
      have hj := join_at PA L.length cap L F w1 rfl HF.out.symm (by omega) (by omega) (HP.out.next b1)
      rw [HPA.out] at hj
      refine hj.mono ?_
      rintro e w4 ⟨v4, rfl, o4, b4⟩
      obtain ⟨p4, c4, rfl, r4⟩ := rowAt_own rfl o4
      have R4 := Lib.hid r4
      clear r4 o4 hj
      have b04 := Below.chain b1 b4
      have hb4 := b04.size
      go_wp2_with fail
      go_loopw [5, 6] (fun at' i wr => ∃ k : Nat, k ≤ L.length ∧ i = .int .i64 (k : Int) ∧ at' = .int .i64 (tot L k : Nat) ∧ Below w4.heap.size w4 wr) (fun _ i _ => L.length - (intOf i).toNat)
      case atStart => exact ⟨0, Nat.zero_le _, rfl, rfl, Below.refl _ _⟩
      case round =>
        obtain ⟨k, hk, rfl, rfl, hbw⟩ := hrel
        have htl := tot_le L k
        rw [← HF.out] at htl
        have hbs := hbw.size
        by_cases hlt : (k : Int) < (L.length : Int)
        · have hk' : k < L.length := by omega
          obtain ⟨p, c, hcell0, hrow0⟩ := Hc.out k hk'
          have hst := tot_step L k hk'
          have htl2 := tot_le L (k + 1)
          rw [hst, ← HF.out] at htl2
          have Hst := Lib.hid hst
          clear hst
          have hcell : wr.cell? ⟨b, off + k, none⟩ = some (.slice p L[k].length c) := by rw [hbw.cell (p := ⟨b, off + k, none⟩) (by show b < _; omega), b04.cell (p := ⟨b, off + k, none⟩) hb]; exact hcell0
          have hrow := Lib.hid ((hrow0.next b04).next hbw)
          clear hcell0 hrow0
          have hpart : (F.drop (tot L k)).take L[k].length = L[k] := by rw [HF.out]; exact flat_part L k hk'
          have hcut := cut_good p4 c4 F (tot L k) L[k].length wr (by omega) htl2 (R4.out.next hbw)
          rw [hpart] at hcut
          have HC := Lib.hid hcut
          clear hcut hpart
          go_wp2_with fail
          refine HC.out.mono ?_
          rintro e w5 ⟨v5, rfl, o5, b5⟩
          obtain ⟨p5, c5, rfl, r5⟩ := rowAt_own rfl o5
          have hcell5 : w5.cell? ⟨b, off + k, none⟩ = some (.slice p L[k].length c) := by rw [b5.cell (p := ⟨b, off + k, none⟩) (by show b < _; omega)]; exact hcell
          have hcv5 := fun n => conv_row rfl (joins_drewN r5 n)
          have hcvk := fun n => conv_row rfl (joins_drewN (hrow.out.next b5) n)
          clear r5 o5 HC hrow hcell
          go_wp2_with fail
          go_quiet (fail)
          go_wp2
          go_roundw
          case rel => exact ⟨k + 1, by omega, by go_num, by rw [Hst.out]; go_num, joins_below (Below.chain hbw b5) _⟩
          case measure => simp [intOf]; omega
        · have hkl : k = L.length := by omega
          subst hkl
          have b06 := Below.chain b04 hbw
          have hS : RowAt wr.drew p4 c4 F ∧ PartsAt wr.drew PA L := ⟨joins_drew (R4.out.next hbw), (HP.out.next b06).next (Below.refl _ _).drew⟩
          rw [tot_all, ← HF.out]
          go_wp2_with fail
          refine held_start (S := fun W => RowAt W p4 c4 F ∧ PartsAt W PA L) 13 (by kernel_rfl) rfl ?_
          refine held_take 0 (v := ?_) rfl (by kernel_rfl) (by kernel_rfl) (by kernel_rfl) (fun _ _ _ h => h) (by assumption) (by rfl) ?_ ?_
          rotate_left
          · (intro W hW; go_simp; try with_reducible rfl)
          simp only [Act.put, List.setIfInBounds_toArray, List.set_cons_zero, List.set_cons_succ]
          refine held_take 1 (v := ?_) rfl (by kernel_rfl) (by kernel_rfl) (by kernel_rfl) (fun _ _ _ h => h) (by assumption) (by rfl) ?_ ?_
          rotate_left
          · (intro W hW; go_simp; try with_reducible rfl)
          simp only [Act.put, List.setIfInBounds_toArray, List.set_cons_zero, List.set_cons_succ]
          refine held_take 2 (v := ?_) rfl (by kernel_rfl) (by kernel_rfl) (by kernel_rfl) (fun _ _ _ h => h) (by assumption) (by rfl) ?_ ?_
          rotate_left
          · (intro W hW; go_simp; try with_reducible rfl)
          simp only [Act.put, List.setIfInBounds_toArray, List.set_cons_zero, List.set_cons_succ]
          refine held_take 3 (v := ?_) rfl (by kernel_rfl) (by kernel_rfl) (by kernel_rfl) (fun _ _ _ h => h) (by assumption) (by rfl) ?_ ?_
          rotate_left
          · (intro W hW; go_simp; try with_reducible rfl)
          simp only [Act.put, List.setIfInBounds_toArray, List.set_cons_zero, List.set_cons_succ]
          refine held_take 4 (v := ?_) rfl (by kernel_rfl) (by kernel_rfl) (by kernel_rfl) (fun _ _ _ h => h) (by assumption) (by rfl) ?_ ?_
          rotate_left
          · (intro W hW; go_simp; try with_reducible rfl)
          simp only [Act.put, List.setIfInBounds_toArray, List.set_cons_zero, List.set_cons_succ]
          refine held_take 5 (v := ?_) rfl (by kernel_rfl) (by kernel_rfl) (by kernel_rfl) (fun _ _ _ h => h) (by assumption) (by rfl) ?_ ?_
          rotate_left
          · (intro W hW; go_simp; try with_reducible rfl)
          simp only [Act.put, List.setIfInBounds_toArray, List.set_cons_zero, List.set_cons_succ]
          refine held_take 6 (v := ?_) rfl (by kernel_rfl) (by kernel_rfl) (by kernel_rfl) (fun _ _ _ h => h) (by assumption) (by rfl) ?_ ?_
          rotate_left
          · (intro W hW; have hcv := conv_row rfl hW.1; go_simp; try with_reducible rfl)
          simp only [Act.put, List.setIfInBounds_toArray, List.set_cons_zero, List.set_cons_succ]
          refine held_take 7 (v := ?_) rfl (by kernel_rfl) (by kernel_rfl) (by kernel_rfl) (fun _ _ _ h => h) (by assumption) (by rfl) ?_ ?_
          rotate_left
          · (intro W hW; go_simp; try with_reducible rfl)
          simp only [Act.put, List.setIfInBounds_toArray, List.set_cons_zero, List.set_cons_succ]
          refine held_call 8 (f := 21) (args := #[.slice (some ⟨b, off, none⟩) L.length cap]) rfl (by kernel_rfl) (by rfl) (by go_simp) ?_
          refine (CR.out _ hS.2).mono ?_
          rintro e w7 ⟨v7, rfl, o7, b7⟩
          obtain ⟨a7, c7, rfl, r7⟩ := rowAt_own rfl o7
          refine ⟨_, rfl, ⟨hS.1.next b7, hS.2.next b7⟩, ?_⟩
          simp only [Act.put, List.setIfInBounds_toArray, List.set_cons_zero, List.set_cons_succ]
          refine held_more (S' := fun W => RowAt W a7 c7 F ∧ RowAt W p4 c4 F ∧ PartsAt W PA L) (fun _ h => h.2) _ _ _ _ ?_
          have hS2 : RowAt w7 a7 c7 F ∧ RowAt w7 p4 c4 F ∧ PartsAt w7 PA L := ⟨r7, hS.1.next b7, hS.2.next b7⟩
          have b07 := Below.chain b06 (Below.chain ((Below.refl _ _).drew) b7)
          clear o7 r7 hS b7 b06
          refine held_take 9 (v := ?_) rfl (by kernel_rfl) (by kernel_rfl) (by kernel_rfl) (fun _ _ _ h => h) (by assumption) (by rfl) ?_ ?_
          rotate_left
          · (intro W hW; have hcv := conv_row rfl hW.1; go_simp; try with_reducible rfl)
          simp only [Act.put, List.setIfInBounds_toArray, List.set_cons_zero, List.set_cons_succ]
          refine held_take 10 (v := ?_) rfl (by kernel_rfl) (by kernel_rfl) (by kernel_rfl) (fun _ _ _ h => h) (by assumption) (by rfl) ?_ ?_
          rotate_left
          · (intro W hW; go_simp; try with_reducible rfl)
          simp only [Act.put, List.setIfInBounds_toArray, List.set_cons_zero, List.set_cons_succ]
          refine held_take 11 (v := ?_) rfl (by kernel_rfl) (by kernel_rfl) (by kernel_rfl) (fun _ _ _ h => h) (by assumption) (by rfl) ?_ ?_
          rotate_left
          · (intro W hW; go_simp; try with_reducible rfl)
          simp only [Act.put, List.setIfInBounds_toArray, List.set_cons_zero, List.set_cons_succ]
          refine held_take 12 (v := ?_) rfl (by kernel_rfl) (by kernel_rfl) (by kernel_rfl) (fun _ _ _ h => h) (by assumption) (by rfl) ?_ ?_
          rotate_left
          · (intro W hW; go_simp; try with_reducible rfl)
          simp only [Act.put, List.setIfInBounds_toArray, List.set_cons_zero, List.set_cons_succ]
          refine held_done (by kernel_rfl) ?_
          go_wp2
          go_ret
          exact ⟨rfl, b07⟩

set_option maxHeartbeats 4000000 in
set_option maxRecDepth 100000 in
theorem joins_none (PA : Option Addr) (cap : Nat) (w : World) :
    Calls Try.prog 7 #[.slice PA 0 cap] w fun e w' => e = .returned (.bool true) ∧ Below w.heap.size w w' := by
  obtain ⟨L, hL⟩ : ∃ L : List (List UInt8), L = [] := ⟨_, rfl⟩
  obtain ⟨F, hF⟩ : ∃ F : List UInt8, F = [] := ⟨_, rfl⟩
  have HL := Lib.hid hL
  have HF := Lib.hid hF
  clear hL hF
  have CR : Hid (∀ W, PartsAt W PA L → Calls Try.prog 21 #[.slice PA 0 cap] W fun e w' => ∃ v, e = .returned v ∧ w'.ownsRow W.heap.size 5 1 v F.length (Lib.byteCells F) ∧ Below W.heap.size W w') := fun W _ => by
    rw [HF.out]
    exact refJoin_at PA cap [] [] W rfl (by simp) (by simp) (.inl rfl)
  have CJ : Hid (∀ W, Calls Try.prog 20 #[.slice PA 0 cap] W fun e w' => ∃ v, e = .returned v ∧ w'.ownsRow W.heap.size 5 1 v 0 (Lib.byteCells F) ∧ Below W.heap.size W w') := fun W => by
    rw [HF.out]
    exact join_at PA 0 cap [] [] W rfl rfl (by simp) (by simp) (.inl rfl)
  go_enter Try.func7, Try.ntmps7
  go_wp2_with fail
  refine (awake_any _).mono ?_
  rintro e w1 ⟨rfl, b1⟩
  go_wp2_with fail
  refine wp_loop_rounds 1 ?_
  rw [rounds_succ]
  go_wp2_with fail
  refine (CJ.out _).mono ?_
  rintro e w4 ⟨v4, rfl, o4, b4⟩
  obtain ⟨p4, c4, rfl, r4⟩ := rowAt_own (by rw [HF.out]; rfl) o4
  have b06 := Below.chain b1 b4
  have hS : RowAt w4.drew p4 c4 F ∧ PartsAt w4.drew PA L := ⟨joins_drew r4, .inl HL.out⟩
  clear r4 o4 b1 b4
  go_wp2_with fail
  refine wp_loop_rounds 1 ?_
  rw [rounds_succ]
  go_wp2_with fail
  refine held_start (S := fun W => RowAt W p4 c4 F ∧ PartsAt W PA L) 13 (by kernel_rfl) rfl ?_
  refine held_take 0 (v := ?_) rfl (by kernel_rfl) (by kernel_rfl) (by kernel_rfl) (fun _ _ _ h => h) (by assumption) (by rfl) ?_ ?_
  rotate_left
  · (intro W hW; go_simp; try with_reducible rfl)
  simp only [Act.put, List.setIfInBounds_toArray, List.set_cons_zero, List.set_cons_succ]
  refine held_take 1 (v := ?_) rfl (by kernel_rfl) (by kernel_rfl) (by kernel_rfl) (fun _ _ _ h => h) (by assumption) (by rfl) ?_ ?_
  rotate_left
  · (intro W hW; go_simp; try with_reducible rfl)
  simp only [Act.put, List.setIfInBounds_toArray, List.set_cons_zero, List.set_cons_succ]
  refine held_take 2 (v := ?_) rfl (by kernel_rfl) (by kernel_rfl) (by kernel_rfl) (fun _ _ _ h => h) (by assumption) (by rfl) ?_ ?_
  rotate_left
  · (intro W hW; go_simp; try with_reducible rfl)
  simp only [Act.put, List.setIfInBounds_toArray, List.set_cons_zero, List.set_cons_succ]
  refine held_take 3 (v := ?_) rfl (by kernel_rfl) (by kernel_rfl) (by kernel_rfl) (fun _ _ _ h => h) (by assumption) (by rfl) ?_ ?_
  rotate_left
  · (intro W hW; go_simp; try with_reducible rfl)
  simp only [Act.put, List.setIfInBounds_toArray, List.set_cons_zero, List.set_cons_succ]
  refine held_take 4 (v := ?_) rfl (by kernel_rfl) (by kernel_rfl) (by kernel_rfl) (fun _ _ _ h => h) (by assumption) (by rfl) ?_ ?_
  rotate_left
  · (intro W hW; go_simp; try with_reducible rfl)
  simp only [Act.put, List.setIfInBounds_toArray, List.set_cons_zero, List.set_cons_succ]
  refine held_take 5 (v := ?_) rfl (by kernel_rfl) (by kernel_rfl) (by kernel_rfl) (fun _ _ _ h => h) (by assumption) (by rfl) ?_ ?_
  rotate_left
  · (intro W hW; go_simp; try with_reducible rfl)
  simp only [Act.put, List.setIfInBounds_toArray, List.set_cons_zero, List.set_cons_succ]
  refine held_take 6 (v := ?_) rfl (by kernel_rfl) (by kernel_rfl) (by kernel_rfl) (fun _ _ _ h => h) (by assumption) (by rfl) ?_ ?_
  rotate_left
  · (intro W hW; have hcv := conv_row (n := 0) (by rw [HF.out]; rfl) hW.1; go_simp; try with_reducible rfl)
  simp only [Act.put, List.setIfInBounds_toArray, List.set_cons_zero, List.set_cons_succ]
  refine held_take 7 (v := ?_) rfl (by kernel_rfl) (by kernel_rfl) (by kernel_rfl) (fun _ _ _ h => h) (by assumption) (by rfl) ?_ ?_
  rotate_left
  · (intro W hW; go_simp; try with_reducible rfl)
  simp only [Act.put, List.setIfInBounds_toArray, List.set_cons_zero, List.set_cons_succ]
  refine held_call 8 (f := 21) (args := #[.slice PA 0 cap]) rfl (by kernel_rfl) (by rfl) (by go_simp) ?_
  refine (CR.out _ hS.2).mono ?_
  rintro e w7 ⟨v7, rfl, o7, b7⟩
  obtain ⟨a7, c7, rfl, r7⟩ := rowAt_own rfl o7
  refine ⟨_, rfl, ⟨hS.1.next b7, hS.2.next b7⟩, ?_⟩
  simp only [Act.put, List.setIfInBounds_toArray, List.set_cons_zero, List.set_cons_succ]
  refine held_more (S' := fun W => RowAt W a7 c7 F ∧ RowAt W p4 c4 F ∧ PartsAt W PA L) (fun _ h => h.2) _ _ _ _ ?_
  have hS2 : RowAt w7 a7 c7 F ∧ RowAt w7 p4 c4 F ∧ PartsAt w7 PA L := ⟨r7, hS.1.next b7, hS.2.next b7⟩
  have b07 := Below.chain b06 (Below.chain ((Below.refl _ _).drew) b7)
  clear o7 r7 hS b7 b06
  refine held_take 9 (v := ?_) rfl (by kernel_rfl) (by kernel_rfl) (by kernel_rfl) (fun _ _ _ h => h) (by assumption) (by rfl) ?_ ?_
  rotate_left
  · (intro W hW; have hcv := conv_row rfl hW.1; go_simp; try with_reducible rfl)
  simp only [Act.put, List.setIfInBounds_toArray, List.set_cons_zero, List.set_cons_succ]
  refine held_take 10 (v := ?_) rfl (by kernel_rfl) (by kernel_rfl) (by kernel_rfl) (fun _ _ _ h => h) (by assumption) (by rfl) ?_ ?_
  rotate_left
  · (intro W hW; go_simp; try with_reducible rfl)
  simp only [Act.put, List.setIfInBounds_toArray, List.set_cons_zero, List.set_cons_succ]
  refine held_take 11 (v := ?_) rfl (by kernel_rfl) (by kernel_rfl) (by kernel_rfl) (fun _ _ _ h => h) (by assumption) (by rfl) ?_ ?_
  rotate_left
  · (intro W hW; go_simp; try with_reducible rfl)
  simp only [Act.put, List.setIfInBounds_toArray, List.set_cons_zero, List.set_cons_succ]
  refine held_take 12 (v := ?_) rfl (by kernel_rfl) (by kernel_rfl) (by kernel_rfl) (fun _ _ _ h => h) (by assumption) (by rfl) ?_ ?_
  rotate_left
  · (intro W hW; go_simp; try with_reducible rfl)
  simp only [Act.put, List.setIfInBounds_toArray, List.set_cons_zero, List.set_cons_succ]
  refine held_done (by kernel_rfl) ?_
  go_wp2
  go_ret
  exact ⟨rfl, b07⟩

theorem joins_walk (a : Option Addr) (cap : Nat) (L : List (List UInt8)) (w : World) (h : PartsAt w a L) :
    Calls Try.prog 7 #[.slice a L.length cap] w fun e w' => e = .returned (.bool true) ∧ Below w.heap.size w w' := by
  by_cases hg : (50 : Int) < (L.length : Int)
  · exact joins_many a L.length cap w hg
  · rcases h with rfl | ⟨b, off, rfl, hb, hc⟩
    · exact joins_none a cap w
    · exact joins_some b off cap L w hb hc hg
end Go.Proofs.Ythbmfiiilhofbaa
