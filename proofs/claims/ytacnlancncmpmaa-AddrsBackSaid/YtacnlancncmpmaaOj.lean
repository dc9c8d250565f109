/- Contract of the document's Within. -/
import Derived.Test.YtacnlancncmpmaaOg
namespace Go.Proofs.Ytacnlancncmpmaa.S12
open Go.RowKit


theorem Ot.within_no {L M : List Ot.O} {k j : Nat} (hk : k < L.length) (hj : j < M.length) (h : L[k] ≠ M[j]) : Ot.within (L.drop k) (M.drop j) = Ot.within (L.drop k) (M.drop (j + 1)) := by
  rw [List.drop_eq_getElem_cons hk, List.drop_eq_getElem_cons hj, Ot.within, if_neg h]
theorem Ot.within_yes {L M : List Ot.O} {k j : Nat} (hk : k < L.length) (hj : j < M.length) (h : L[k] = M[j]) : Ot.within (L.drop k) (M.drop j) = Ot.within (L.drop (k + 1)) (M.drop (j + 1)) := by
  rw [List.drop_eq_getElem_cons hk, List.drop_eq_getElem_cons hj, Ot.within, if_pos h]
theorem Ot.within_past {L M : List Ot.O} {k j : Nat} (hk : k < L.length) (hj : M.length ≤ j) : Ot.within (L.drop k) (M.drop j) = false := by
  rw [List.drop_eq_getElem_cons hk, List.drop_of_length_le hj, Ot.within_none]
theorem Ot.within_done {L M : List Ot.O} {k j : Nat} (hk : L.length ≤ k) : Ot.within (L.drop k) (M.drop j) = true := by
  rw [List.drop_of_length_le hk, Ot.within_nil]

set_option maxRecDepth 100000 in
set_option maxHeartbeats 1000000 in
theorem refWithin_any (a b : Option Addr) (n m ca cb : Nat) (L M : List Ot.O) (w : World) (hL : L.length = n) (hM : M.length = m) (hn : n ≤ 1000000) (hm : m ≤ 1000000) (ha : OptsAt w a L) (hb : OptsAt w b M) :
    Calls Try.prog 23 #[.slice a n ca, .slice b m cb] w fun e w' => e = .returned (.bool (Ot.within L M)) ∧ Below w.heap.size w w' := by
  obtain ⟨Z, hZ⟩ : ∃ Z, Ot.within L M = Z := ⟨_, rfl⟩
  rw [hZ]
  have HZ := Lib.hid hZ.symm
  have HA := Lib.hid ha
  have HB := Lib.hid hb
  have HL := Lib.hid hL
  have HM := Lib.hid hM
  clear ha hb hL hM hZ
  have c1 := fun x y p q n m c d W h1 h2 h3 h4 => one_any x y p q n m c d W h1 h2 h3 h4
  have C1 := Lib.hid c1
  clear c1
  go_enter Try.func23, Try.ntmps23
  go_wp2
  go_loopw [5, 6] (fun at' i wr => ∃ (k j : Nat), i = .int .i64 (k : Int) ∧ at' = .int .i64 (j : Int) ∧ k ≤ n ∧ j ≤ m ∧ Hid (Z = Ot.within (L.drop k) (M.drop j)) ∧ Below w.heap.size w wr) (fun _ i _ => n - (intOf i).toNat)
  case atStart => exact ⟨0, 0, rfl, rfl, Nat.zero_le _, Nat.zero_le _, HZ, Below.refl _ _⟩
  case round =>
    obtain ⟨k, j0, rfl, rfl, hk, hj0, hI0, hbw0⟩ := hrel
    by_cases hlt : (k : Int) < (n : Int)
    · have hkn : k < n := by omega
      have hkL : k < L.length := by rw [HL.out]; omega
      go_wp2
      go_loopw [5] (fun at' wr => ∃ (j : Nat), at' = .int .i64 (j : Int) ∧ j ≤ m ∧ Hid (Z = Ot.within (L.drop k) (M.drop j)) ∧ Below w.heap.size w wr) (fun at' _ => m - (intOf at').toNat)
      case atStart => exact ⟨j0, rfl, hj0, hI0, hbw0⟩
      case round =>
        obtain ⟨j, rfl, hj, hI, hbw⟩ := hrel
        by_cases hjm : (j : Int) < (m : Int)
        · have hjn : j < m := by omega
          have hjM : j < M.length := by rw [HM.out]; omega
          obtain ⟨b1, o1, q1, d1, rfl, r1, hb1⟩ := (HA.out.next hbw).at k hkL
          obtain ⟨b2, o2, q2, d2, rfl, r2, hb2⟩ := (HB.out.next hbw).at j hjM
          have hno := Ot.within_no (L := L) (M := M) (k := k) (j := j) hkL hjM
          have hyes := Ot.within_yes (L := L) (M := M) (k := k) (j := j) hkL hjM
          rw [← hI.out] at hno hyes
          generalize L[k] = x at *
          generalize M[j] = y at *
          obtain ⟨n1, hn1⟩ : ∃ n1, x.data.length = n1 := ⟨_, rfl⟩
          obtain ⟨n2, hn2⟩ : ∃ n2, y.data.length = n2 := ⟨_, rfl⟩
          have HNO := Lib.hid hno
          have HYES := Lib.hid hyes
          clear hno hyes hI
          have RG1 := r1.range
          have RG2 := r2.range
          rw [hn1] at RG1
          rw [hn2] at RG2
          go_wp2_with fail
          have bd : Below w.heap.size w wr.drew := hbw.drew
          have hS : wr.drew.rangeAt b1 (o1 + k * 2) (ocells x (.slice q1 n1 d1)) ∧ wr.drew.rangeAt b2 (o2 + j * 2) (ocells y (.slice q2 n2 d2)) := ⟨RG1, RG2⟩
          have e1 : RowAt wr.drew q1 d1 x.data := r1.row.next (Below.refl _ _).drew
          have e2 : RowAt wr.drew q2 d2 y.data := r2.row.next (Below.refl _ _).drew
          have f1 : b1 < wr.drew.heap.size := hb1
          have f2 : b2 < wr.drew.heap.size := hb2
          refine held_start (S := fun W => W.rangeAt b1 (o1 + k * 2) (ocells x (.slice q1 n1 d1)) ∧ W.rangeAt b2 (o2 + j * 2) (ocells y (.slice q2 n2 d2))) 16 (by kernel_rfl) rfl ?_
          generalize wr.drew = Wd at *
          clear RG1 RG2 r1 r2 hbw hb1 hb2
          refine held_take 0 (v := ?_) rfl (by kernel_rfl) (by kernel_rfl) (by kernel_rfl) (fun _ _ _ h => h) (by assumption) (by rfl) ?_ ?_
          rotate_left
          · (intro W hW; go_simp; try with_reducible rfl)
          simp only [Act.put, List.setIfInBounds_toArray, List.set_cons_zero, List.set_cons_succ]
          refine held_take 1 (v := ?_) rfl (by kernel_rfl) (by kernel_rfl) (by kernel_rfl) (fun _ _ _ h => h) (by assumption) (by rfl) ?_ ?_
          rotate_left
          · (intro W hW; go_simp; try with_reducible rfl)
          simp only [Act.put, List.setIfInBounds_toArray, List.set_cons_zero, List.set_cons_succ]
          refine held_take 2 (v := ?_) rfl (by kernel_rfl) (by kernel_rfl) (by kernel_rfl) (fun _ _ _ h => h) (by assumption) (by rfl) ?_ ?_
          rotate_left
          · (intro W hW; go_simp; try with_reducible rfl)
          simp only [Act.put, List.setIfInBounds_toArray, List.set_cons_zero, List.set_cons_succ]
          refine held_take 3 (v := ?_) rfl (by kernel_rfl) (by kernel_rfl) (by kernel_rfl) (fun _ _ _ h => h) (by assumption) (by rfl) ?_ ?_
          rotate_left
          · (intro W hW; go_simp; try with_reducible rfl)
          simp only [Act.put, List.setIfInBounds_toArray, List.set_cons_zero, List.set_cons_succ]
          refine held_take 4 (v := ?_) rfl (by kernel_rfl) (by kernel_rfl) (by kernel_rfl) (fun _ _ _ h => h) (by assumption) (by rfl) ?_ ?_
          rotate_left
          · (intro W hW; go_simp; try with_reducible rfl)
          simp only [Act.put, List.setIfInBounds_toArray, List.set_cons_zero, List.set_cons_succ]
          refine held_take 5 (v := ?_) rfl (by kernel_rfl) (by kernel_rfl) (by kernel_rfl) (fun _ _ _ h => h) (by assumption) (by rfl) ?_ ?_
          rotate_left
          · (intro W hW; go_simp; try with_reducible rfl)
          simp only [Act.put, List.setIfInBounds_toArray, List.set_cons_zero, List.set_cons_succ]
          refine held_take 6 (v := ?_) rfl (by kernel_rfl) (by kernel_rfl) (by kernel_rfl) (fun _ _ _ h => h) (by assumption) (by rfl) ?_ ?_
          rotate_left
          · (intro W hW; go_simp; try with_reducible rfl)
          simp only [Act.put, List.setIfInBounds_toArray, List.set_cons_zero, List.set_cons_succ]
          refine held_take 7 (v := ?_) rfl (by kernel_rfl) (by kernel_rfl) (by kernel_rfl) (fun _ _ _ h => h) (by assumption) (by rfl) ?_ ?_
          rotate_left
          · (intro W hW; go_simp; try with_reducible rfl)
          simp only [Act.put, List.setIfInBounds_toArray, List.set_cons_zero, List.set_cons_succ]
          refine held_take 8 (v := .agg (ocells x (.slice q1 n1 d1)).toArray) rfl (by kernel_rfl) (by kernel_rfl) (by kernel_rfl) (fun _ _ _ h => h) (by assumption) (by rfl) (fun W hW => run_load_mid (.tmp 20) rfl b1 (o1 + k * 2) rfl x q1 n1 d1 hW.1) ?_
          simp only [Act.put, List.setIfInBounds_toArray, List.set_cons_zero, List.set_cons_succ]
          refine held_take 9 (v := ?_) rfl (by kernel_rfl) (by kernel_rfl) (by kernel_rfl) (fun _ _ _ h => h) (by assumption) (by rfl) ?_ ?_
          rotate_left
          · (intro W hW; go_simp; try with_reducible rfl)
          simp only [Act.put, List.setIfInBounds_toArray, List.set_cons_zero, List.set_cons_succ]
          refine held_take 10 (v := ?_) rfl (by kernel_rfl) (by kernel_rfl) (by kernel_rfl) (fun _ _ _ h => h) (by assumption) (by rfl) ?_ ?_
          rotate_left
          · (intro W hW; go_simp; try with_reducible rfl)
          simp only [Act.put, List.setIfInBounds_toArray, List.set_cons_zero, List.set_cons_succ]
          refine held_take 11 (v := ?_) rfl (by kernel_rfl) (by kernel_rfl) (by kernel_rfl) (fun _ _ _ h => h) (by assumption) (by rfl) ?_ ?_
          rotate_left
          · (intro W hW; go_simp; try with_reducible rfl)
          simp only [Act.put, List.setIfInBounds_toArray, List.set_cons_zero, List.set_cons_succ]
          refine held_take 12 (v := .agg (ocells y (.slice q2 n2 d2)).toArray) rfl (by kernel_rfl) (by kernel_rfl) (by kernel_rfl) (fun _ _ _ h => h) (by assumption) (by rfl) (fun W hW => run_load_mid (.tmp 24) rfl b2 (o2 + j * 2) rfl y q2 n2 d2 hW.2) ?_
          simp only [Act.put, List.setIfInBounds_toArray, List.set_cons_zero, List.set_cons_succ]
          refine held_call 13 (f := 28) (args := #[.agg (ocells x (.slice q1 n1 d1)).toArray, .agg (ocells y (.slice q2 n2 d2)).toArray]) rfl (by kernel_rfl) (by rfl) (by go_simp) ?_
          refine (C1.out x y q1 q2 n1 n2 d1 d2 Wd hn1 hn2 e1 e2).mono ?_
          rintro e w1 ⟨rfl, b1w⟩
          have hS1 : w1.rangeAt b1 (o1 + k * 2) (ocells x (.slice q1 n1 d1)) ∧ w1.rangeAt b2 (o2 + j * 2) (ocells y (.slice q2 n2 d2)) := ⟨range_next hS.1 f1 b1w, range_next hS.2 f2 b1w⟩
          refine ⟨_, rfl, hS1, ?_⟩
          simp only [Act.put, List.setIfInBounds_toArray, List.set_cons_zero, List.set_cons_succ]
          have HB1 := Lib.hid (Below.chain bd b1w)
          clear hS e1 e2 f1 f2 b1w bd hn1 hn2 C1 hbw0 hI0
          by_cases hxy : x = y
          · rw [decide_eq_true hxy]
            have hs := Lib.hid (HYES.out hxy)
            have i1 : ((j : Int) == (m : Int)) = false := by simp; omega
            clear hxy HYES HNO
            refine held_take 14 (v := ?_) rfl (by kernel_rfl) (by kernel_rfl) (by kernel_rfl) (fun _ _ _ h => h) (by assumption) (by rfl) ?_ ?_
            rotate_left
            · (intro W hW; go_simp; try with_reducible rfl)
            simp only [Act.put, List.setIfInBounds_toArray, List.set_cons_zero, List.set_cons_succ]
            refine held_take 15 (v := ?_) rfl (by kernel_rfl) (by kernel_rfl) (by kernel_rfl) (fun _ _ _ h => h) (by assumption) (by rfl) ?_ ?_
            rotate_left
            · (intro W hW; go_simp; try with_reducible rfl)
            simp only [Act.put, List.setIfInBounds_toArray, List.set_cons_zero, List.set_cons_succ]
            refine held_done (by kernel_rfl) ?_
            go_wp2
            go_roundw
            case rel => exact ⟨k + 1, j + 1, by simp, by simp, by omega, by omega, hs, HB1.out⟩
            case measure => simp [intOf]; omega
          · rw [decide_eq_false hxy]
            have hs := Lib.hid (HNO.out hxy)
            clear hxy HYES HNO
            refine held_take 14 (v := ?_) rfl (by kernel_rfl) (by kernel_rfl) (by kernel_rfl) (fun _ _ _ h => h) (by assumption) (by rfl) ?_ ?_
            rotate_left
            · (intro W hW; go_simp; try with_reducible rfl)
            simp only [Act.put, List.setIfInBounds_toArray, List.set_cons_zero, List.set_cons_succ]
            refine held_take 15 (v := ?_) rfl (by kernel_rfl) (by kernel_rfl) (by kernel_rfl) (fun _ _ _ h => h) (by assumption) (by rfl) ?_ ?_
            rotate_left
            · (intro W hW; go_simp; try with_reducible rfl)
            simp only [Act.put, List.setIfInBounds_toArray, List.set_cons_zero, List.set_cons_succ]
            refine held_done (by kernel_rfl) ?_
            go_wp2
            go_roundw
            case rel => exact ⟨j + 1, by simp, by omega, hs, HB1.out⟩
            case measure => simp [intOf]; omega
        · have hjm2 : j = m := by omega
          subst hjm2
          have hZ : Z = false := hI.out.trans (Ot.within_past hkL (by rw [HM.out]; exact Nat.le_refl _))
          subst hZ
          clear HZ hI hI0
          go_wp2_with fail
          have bd : Below w.heap.size w wr.drew := hbw.drew
          refine held_start (S := fun _ => True) 16 (by kernel_rfl) rfl ?_
          have hT : True := trivial
          generalize wr.drew = Wd at *
          refine held_take 0 (v := ?_) rfl (by kernel_rfl) (by kernel_rfl) (by kernel_rfl) (fun _ _ _ h => h) (by assumption) (by rfl) ?_ ?_
          rotate_left
          · (intro W hW; go_simp; try with_reducible rfl)
          simp only [Act.put, List.setIfInBounds_toArray, List.set_cons_zero, List.set_cons_succ]
          refine held_take 1 (v := ?_) rfl (by kernel_rfl) (by kernel_rfl) (by kernel_rfl) (fun _ _ _ h => h) (by assumption) (by rfl) ?_ ?_
          rotate_left
          · (intro W hW; go_simp; try with_reducible rfl)
          simp only [Act.put, List.setIfInBounds_toArray, List.set_cons_zero, List.set_cons_succ]
          refine held_take 2 (v := ?_) rfl (by kernel_rfl) (by kernel_rfl) (by kernel_rfl) (fun _ _ _ h => h) (by assumption) (by rfl) ?_ ?_
          rotate_left
          · (intro W hW; go_simp; try with_reducible rfl)
          simp only [Act.put, List.setIfInBounds_toArray, List.set_cons_zero, List.set_cons_succ]
          refine held_take 3 (v := ?_) rfl (by kernel_rfl) (by kernel_rfl) (by kernel_rfl) (fun _ _ _ h => h) (by assumption) (by rfl) ?_ ?_
          rotate_left
          · (intro W hW; go_simp; try with_reducible rfl)
          simp only [Act.put, List.setIfInBounds_toArray, List.set_cons_zero, List.set_cons_succ]
          refine held_take 4 (v := ?_) rfl (by kernel_rfl) (by kernel_rfl) (by kernel_rfl) (fun _ _ _ h => h) (by assumption) (by rfl) ?_ ?_
          rotate_left
          · (intro W hW; go_simp; try with_reducible rfl)
          simp only [Act.put, List.setIfInBounds_toArray, List.set_cons_zero, List.set_cons_succ]
          refine held_skip 5 rfl (by kernel_rfl) (by kernel_rfl) (by kernel_rfl) (fun _ _ _ h => h) (by assumption) (by rfl) ?_
          simp only [Act.put, List.setIfInBounds_toArray, List.set_cons_zero, List.set_cons_succ]
          refine held_skip 6 rfl (by kernel_rfl) (by kernel_rfl) (by kernel_rfl) (fun _ _ _ h => h) (by assumption) (by rfl) ?_
          simp only [Act.put, List.setIfInBounds_toArray, List.set_cons_zero, List.set_cons_succ]
          refine held_skip 7 rfl (by kernel_rfl) (by kernel_rfl) (by kernel_rfl) (fun _ _ _ h => h) (by assumption) (by rfl) ?_
          simp only [Act.put, List.setIfInBounds_toArray, List.set_cons_zero, List.set_cons_succ]
          refine held_skip 8 rfl (by kernel_rfl) (by kernel_rfl) (by kernel_rfl) (fun _ _ _ h => h) (by assumption) (by rfl) ?_
          simp only [Act.put, List.setIfInBounds_toArray, List.set_cons_zero, List.set_cons_succ]
          refine held_skip 9 rfl (by kernel_rfl) (by kernel_rfl) (by kernel_rfl) (fun _ _ _ h => h) (by assumption) (by rfl) ?_
          simp only [Act.put, List.setIfInBounds_toArray, List.set_cons_zero, List.set_cons_succ]
          refine held_skip 10 rfl (by kernel_rfl) (by kernel_rfl) (by kernel_rfl) (fun _ _ _ h => h) (by assumption) (by rfl) ?_
          simp only [Act.put, List.setIfInBounds_toArray, List.set_cons_zero, List.set_cons_succ]
          refine held_skip 11 rfl (by kernel_rfl) (by kernel_rfl) (by kernel_rfl) (fun _ _ _ h => h) (by assumption) (by rfl) ?_
          simp only [Act.put, List.setIfInBounds_toArray, List.set_cons_zero, List.set_cons_succ]
          refine held_skip 12 rfl (by kernel_rfl) (by kernel_rfl) (by kernel_rfl) (fun _ _ _ h => h) (by assumption) (by rfl) ?_
          simp only [Act.put, List.setIfInBounds_toArray, List.set_cons_zero, List.set_cons_succ]
          refine held_skip 13 rfl (by kernel_rfl) (by kernel_rfl) (by kernel_rfl) (fun _ _ _ h => h) (by assumption) (by rfl) ?_
          simp only [Act.put, List.setIfInBounds_toArray, List.set_cons_zero, List.set_cons_succ]
          refine held_skip 14 rfl (by kernel_rfl) (by kernel_rfl) (by kernel_rfl) (fun _ _ _ h => h) (by assumption) (by rfl) ?_
          simp only [Act.put, List.setIfInBounds_toArray, List.set_cons_zero, List.set_cons_succ]
          refine held_take 15 (v := ?_) rfl (by kernel_rfl) (by kernel_rfl) (by kernel_rfl) (fun _ _ _ h => h) (by assumption) (by rfl) ?_ ?_
          rotate_left
          · (intro W hW; go_simp; try with_reducible rfl)
          simp only [Act.put, List.setIfInBounds_toArray, List.set_cons_zero, List.set_cons_succ]
          refine held_done (by kernel_rfl) ?_
          go_wp2
          go_ret
          exact ⟨rfl, bd⟩
    · have hZ : Z = true := hI0.out.trans (Ot.within_done (by rw [HL.out]; omega))
      subst hZ
      clear HZ hI0
      go_wp2
      go_ret
      exact ⟨rfl, hbw0⟩
end Go.Proofs.Ytacnlancncmpmaa.S12
