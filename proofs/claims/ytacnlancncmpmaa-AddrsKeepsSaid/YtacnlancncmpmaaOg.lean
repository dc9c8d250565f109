/- Contracts of the document's Same, Twice, Put. -/
import Derived.Test.YtacnlancncmpmaaOf
import Derived.Test.YtacnlancncmpmaaOd
namespace Go.Proofs.Ytacnlancncmpmaa.S12
open Go.RowKit


set_option maxRecDepth 100000 in
set_option maxHeartbeats 1000000 in
theorem refSame_any (a b : Option Addr) (n m ca cb : Nat) (L M : List Ot.O) (w : World) (hL : L.length = n) (hM : M.length = m) (hn : n ≤ 1000000) (ha : OptsAt w a L) (hb : OptsAt w b M) :
    Calls Try.prog 19 #[.slice a n ca, .slice b m cb] w fun e w' => e = .returned (.bool (decide (L = M))) ∧ Below w.heap.size w w' := by
  obtain ⟨Z, hZ⟩ : ∃ Z, decide (L = M) = Z := ⟨_, rfl⟩
  rw [hZ]
  have HZ := Lib.hid hZ.symm
  have HA := Lib.hid ha
  have HB := Lib.hid hb
  have HL := Lib.hid hL
  have HM := Lib.hid hM
  clear ha hb hL hM hZ
  by_cases hnm : n = m
  · subst hnm
    have c1 := fun x y p q n m c d W h1 h2 h3 h4 => one_any x y p q n m c d W h1 h2 h3 h4
    have C1 := Lib.hid c1
    clear c1
    go_enter Try.func19, Try.ntmps19
    go_wp2
    go_loopw [5] (fun i wr => ∃ k : Nat, i = .int .i64 (k : Int) ∧ k ≤ n ∧ L.take k = M.take k ∧ Below w.heap.size w wr) (fun i _ => n - (intOf i).toNat)
    case atStart => exact ⟨0, rfl, Nat.zero_le _, by simp, Below.refl _ _⟩
    case round =>
      obtain ⟨k, rfl, hk, htk, hbw⟩ := hrel
      by_cases hlt : (k : Int) < (n : Int)
      · have hkn : k < n := by omega
        have hkL : k < L.length := by rw [HL.out]; omega
        have hkM : k < M.length := by rw [HM.out]; omega
        obtain ⟨b1, o1, q1, d1, rfl, r1, hb1⟩ := (HA.out.next hbw).at k hkL
        obtain ⟨b2, o2, q2, d2, rfl, r2, hb2⟩ := (HB.out.next hbw).at k hkM
        have hst := Ot.eq_step hkL hkM htk
        have hne := Ot.ne_at (k := k) hkL hkM
        generalize L[k] = x at *
        generalize M[k] = y at *
        obtain ⟨n1, hn1⟩ : ∃ n1, x.data.length = n1 := ⟨_, rfl⟩
        obtain ⟨n2, hn2⟩ : ∃ n2, y.data.length = n2 := ⟨_, rfl⟩
        have HST := Lib.hid hst
        have HNE := Lib.hid hne
        clear hst hne htk
        have RG1 := r1.range
        have RG2 := r2.range
        rw [hn1] at RG1
        rw [hn2] at RG2
        go_wp2_with fail
        have bd : Below w.heap.size w wr.drew := hbw.drew
        have hS : wr.drew.rangeAt b1 (o1 + k * 2) (ocells x (.slice q1 n1 d1)) ∧ wr.drew.rangeAt b2 (o2 + k * 2) (ocells y (.slice q2 n2 d2)) := ⟨RG1, RG2⟩
        have e1 : RowAt wr.drew q1 d1 x.data := r1.row.next (Below.refl _ _).drew
        have e2 : RowAt wr.drew q2 d2 y.data := r2.row.next (Below.refl _ _).drew
        have f1 : b1 < wr.drew.heap.size := hb1
        have f2 : b2 < wr.drew.heap.size := hb2
        refine held_start (S := fun W => W.rangeAt b1 (o1 + k * 2) (ocells x (.slice q1 n1 d1)) ∧ W.rangeAt b2 (o2 + k * 2) (ocells y (.slice q2 n2 d2))) 10 (by kernel_rfl) rfl ?_
        generalize wr.drew = Wd at *
        clear RG1 RG2 r1 r2 hbw hb1 hb2
        refine held_take 0 (v := ?_) rfl (by kernel_rfl) (by kernel_rfl) (by kernel_rfl) (fun _ _ _ h => h) (by assumption) (by rfl) ?_ ?_
        rotate_left
        · (intro W hW; go_simp; try with_reducible rfl)
        simp only [Act.put, List.setIfInBounds_toArray, List.set_cons_zero, List.set_cons_succ]
        refine held_take 1 (v := ?_) rfl (by kernel_rfl) (by kernel_rfl) (by kernel_rfl) (fun _ _ _ h => h) (by assumption) (by rfl) ?_ ?_
        rotate_left
        · (intro W hW; go_simp; try with_reducible rfl)
        simp only [Act.put, List.setIfInBounds_toArray, List.set_cons_zero, List.set_cons_succ]
        refine held_take 2 (v := ?_) rfl (by kernel_rfl) (by kernel_rfl) (by kernel_rfl) (fun _ _ _ h => h) (by assumption) (by rfl) ?_ ?_
        rotate_left
        · (intro W hW; go_simp; try with_reducible rfl)
        simp only [Act.put, List.setIfInBounds_toArray, List.set_cons_zero, List.set_cons_succ]
        refine held_take 3 (v := .agg (ocells x (.slice q1 n1 d1)).toArray) rfl (by kernel_rfl) (by kernel_rfl) (by kernel_rfl) (fun _ _ _ h => h) (by assumption) (by rfl) (fun W hW => run_load_mid (.tmp 19) rfl b1 (o1 + k * 2) rfl x q1 n1 d1 hW.1) ?_
        simp only [Act.put, List.setIfInBounds_toArray, List.set_cons_zero, List.set_cons_succ]
        refine held_take 4 (v := ?_) rfl (by kernel_rfl) (by kernel_rfl) (by kernel_rfl) (fun _ _ _ h => h) (by assumption) (by rfl) ?_ ?_
        rotate_left
        · (intro W hW; go_simp; try with_reducible rfl)
        simp only [Act.put, List.setIfInBounds_toArray, List.set_cons_zero, List.set_cons_succ]
        refine held_take 5 (v := ?_) rfl (by kernel_rfl) (by kernel_rfl) (by kernel_rfl) (fun _ _ _ h => h) (by assumption) (by rfl) ?_ ?_
        rotate_left
        · (intro W hW; go_simp; try with_reducible rfl)
        simp only [Act.put, List.setIfInBounds_toArray, List.set_cons_zero, List.set_cons_succ]
        refine held_take 6 (v := ?_) rfl (by kernel_rfl) (by kernel_rfl) (by kernel_rfl) (fun _ _ _ h => h) (by assumption) (by rfl) ?_ ?_
        rotate_left
        · (intro W hW; go_simp; try with_reducible rfl)
        simp only [Act.put, List.setIfInBounds_toArray, List.set_cons_zero, List.set_cons_succ]
        refine held_take 7 (v := .agg (ocells y (.slice q2 n2 d2)).toArray) rfl (by kernel_rfl) (by kernel_rfl) (by kernel_rfl) (fun _ _ _ h => h) (by assumption) (by rfl) (fun W hW => run_load_mid (.tmp 23) rfl b2 (o2 + k * 2) rfl y q2 n2 d2 hW.2) ?_
        simp only [Act.put, List.setIfInBounds_toArray, List.set_cons_zero, List.set_cons_succ]
        refine held_call 8 (f := 28) (args := #[.agg (ocells x (.slice q1 n1 d1)).toArray, .agg (ocells y (.slice q2 n2 d2)).toArray]) rfl (by kernel_rfl) (by rfl) (by go_simp) ?_
        refine (C1.out x y q1 q2 n1 n2 d1 d2 Wd hn1 hn2 e1 e2).mono ?_
        rintro e w1 ⟨rfl, b1w⟩
        have hS1 : w1.rangeAt b1 (o1 + k * 2) (ocells x (.slice q1 n1 d1)) ∧ w1.rangeAt b2 (o2 + k * 2) (ocells y (.slice q2 n2 d2)) := ⟨range_next hS.1 f1 b1w, range_next hS.2 f2 b1w⟩
        refine ⟨_, rfl, hS1, ?_⟩
        simp only [Act.put, List.setIfInBounds_toArray, List.set_cons_zero, List.set_cons_succ]
        have HB1 := Lib.hid (Below.chain bd b1w)
        clear hS e1 e2 f1 f2 b1w bd hn1 hn2 C1
        by_cases hxy : x = y
        · rw [decide_eq_true hxy]
          have hs := HST.out hxy
          clear hxy HST HNE
          refine held_take 9 (v := ?_) rfl (by kernel_rfl) (by kernel_rfl) (by kernel_rfl) (fun _ _ _ h => h) (by assumption) (by rfl) ?_ ?_
          rotate_left
          · (intro W hW; go_simp; try with_reducible rfl)
          simp only [Act.put, List.setIfInBounds_toArray, List.set_cons_zero, List.set_cons_succ]
          refine held_done (by kernel_rfl) ?_
          go_wp2
          go_roundw
          case rel => exact ⟨k + 1, by simp, by omega, hs, HB1.out⟩
          case measure => simp [intOf]; omega
        · rw [decide_eq_false hxy]
          have hZ : Z = false := HZ.out.trans (decide_eq_false (HNE.out hxy))
          subst hZ
          clear hxy HST HNE
          refine held_take 9 (v := ?_) rfl (by kernel_rfl) (by kernel_rfl) (by kernel_rfl) (fun _ _ _ h => h) (by assumption) (by rfl) ?_ ?_
          rotate_left
          · (intro W hW; go_simp; try with_reducible rfl)
          simp only [Act.put, List.setIfInBounds_toArray, List.set_cons_zero, List.set_cons_succ]
          refine held_done (by kernel_rfl) ?_
          go_wp2
          go_ret
          exact ⟨rfl, HB1.out⟩
      · have h1 : L.take k = L := List.take_of_length_le (by rw [HL.out]; omega)
        have h2 : M.take k = M := List.take_of_length_le (by rw [HM.out]; omega)
        have hZ : Z = true := HZ.out.trans (decide_eq_true (by rw [← h1, ← h2]; exact htk))
        subst hZ
        clear h1 h2 htk HZ
        go_wp2
        go_ret
        exact ⟨rfl, hbw⟩
  · have hZ : Z = false := HZ.out.trans (decide_eq_false (Ot.ne_len (by rw [HL.out, HM.out]; exact hnm)))
    subst hZ
    have i1 : ((n : Int) != (m : Int)) = true := by simp; omega
    clear hnm HZ
    go_enter Try.func19, Try.ntmps19
    go_wp2
    go_ret
    exact ⟨rfl, Below.refl _ _⟩

end Go.Proofs.Ytacnlancncmpmaa.S12
