/- Contracts of the document's Same, Twice, Put. -/
import Derived.Test.YtcklhgpfiibcaaaOf
import Derived.Test.YtcklhgpfiibcaaaOd
namespace Go.Proofs.Ytcklhgpfiibcaaa
open Go.RowKit


set_option maxRecDepth 100000 in
set_option maxHeartbeats 1000000 in
theorem refSame_any (a b : Option Addr) (n m ca cb : Nat) (L M : List Ot.O) (w : World) (hL : L.length = n) (hM : M.length = m) (hn : n ≤ 1000000) (ha : OptsAt w a L) (hb : OptsAt w b M) :
    Calls Try.prog 16 #[.slice a n ca, .slice b m cb] w fun e w' => e = .returned (.bool (decide (L = M))) ∧ Below w.heap.size w w' := by
  obtain ⟨Z, hZ⟩ : ∃ Z, decide (L = M) = Z := ⟨_, rfl⟩
  rw [hZ]
  have HZ := Lib.hid hZ.symm
  have HA := Lib.hid ha
  have HB := Lib.hid hb
  have HL := Lib.hid hL
  have HM := Lib.hid hM
  clear ha hb hL hM hZ
  by_cases hnm : n = m
  · subst hnm
    have c1 := fun x y p q n m c d W h1 h2 h3 h4 => one_any x y p q n m c d W h1 h2 h3 h4
    have C1 := Lib.hid c1
    clear c1
    go_enter Try.func16, Try.ntmps16
    go_wp2
    go_loopw [5] (fun i wr => ∃ k : Nat, i = .int .i64 (k : Int) ∧ k ≤ n ∧ L.take k = M.take k ∧ Below w.heap.size w wr) (fun i _ => n - (intOf i).toNat)
    case atStart => exact ⟨0, rfl, Nat.zero_le _, by simp, Below.refl _ _⟩
    case round =>
      obtain ⟨k, rfl, hk, htk, hbw⟩ := hrel
      by_cases hlt : (k : Int) < (n : Int)
      · have hkn : k < n := by omega
        have hkL : k < L.length := by rw [HL.out]; omega
        have hkM : k < M.length := by rw [HM.out]; omega
        obtain ⟨b1, o1, q1, d1, rfl, r1, hb1⟩ := (HA.out.next hbw).at k hkL
        obtain ⟨b2, o2, q2, d2, rfl, r2, hb2⟩ := (HB.out.next hbw).at k hkM
        have hst := Ot.eq_step hkL hkM htk
        have hne := Ot.ne_at (k := k) hkL hkM
        generalize L[k] = x at *
        generalize M[k] = y at *
        obtain ⟨n1, hn1⟩ : ∃ n1, x.data.length = n1 := ⟨_, rfl⟩
        obtain ⟨n2, hn2⟩ : ∃ n2, y.data.length = n2 := ⟨_, rfl⟩
        have HST := Lib.hid hst
        have HNE := Lib.hid hne
        clear hst hne htk
        have RG1 := r1.range
        have RG2 := r2.range
        rw [hn1] at RG1
        rw [hn2] at RG2
        go_wp2_with fail
        have bd : Below w.heap.size w wr.drew := hbw.drew
        have hS : wr.drew.rangeAt b1 (o1 + k * 2) (ocells x (.slice q1 n1 d1)) ∧ wr.drew.rangeAt b2 (o2 + k * 2) (ocells y (.slice q2 n2 d2)) := ⟨RG1, RG2⟩
        have e1 : RowAt wr.drew q1 d1 x.data := r1.row.next (Below.refl _ _).drew
        have e2 : RowAt wr.drew q2 d2 y.data := r2.row.next (Below.refl _ _).drew
        have f1 : b1 < wr.drew.heap.size := hb1
        have f2 : b2 < wr.drew.heap.size := hb2
        refine held_start (S := fun W => W.rangeAt b1 (o1 + k * 2) (ocells x (.slice q1 n1 d1)) ∧ W.rangeAt b2 (o2 + k * 2) (ocells y (.slice q2 n2 d2))) 10 (by kernel_rfl) rfl ?_
        generalize wr.drew = Wd at *
        clear RG1 RG2 r1 r2 hbw hb1 hb2
        refine held_take 0 (v := ?_) rfl (by kernel_rfl) (by kernel_rfl) (by kernel_rfl) (fun _ _ _ h => h) (by assumption) (by rfl) ?_ ?_
        rotate_left
        · (intro W hW; go_simp; try with_reducible rfl)
        simp only [Act.put, List.setIfInBounds_toArray, List.set_cons_zero, List.set_cons_succ]
        refine held_take 1 (v := ?_) rfl (by kernel_rfl) (by kernel_rfl) (by kernel_rfl) (fun _ _ _ h => h) (by assumption) (by rfl) ?_ ?_
        rotate_left
        · (intro W hW; go_simp; try with_reducible rfl)
        simp only [Act.put, List.setIfInBounds_toArray, List.set_cons_zero, List.set_cons_succ]
        refine held_take 2 (v := ?_) rfl (by kernel_rfl) (by kernel_rfl) (by kernel_rfl) (fun _ _ _ h => h) (by assumption) (by rfl) ?_ ?_
        rotate_left
        · (intro W hW; go_simp; try with_reducible rfl)
        simp only [Act.put, List.setIfInBounds_toArray, List.set_cons_zero, List.set_cons_succ]
        refine held_take 3 (v := .agg (ocells x (.slice q1 n1 d1)).toArray) rfl (by kernel_rfl) (by kernel_rfl) (by kernel_rfl) (fun _ _ _ h => h) (by assumption) (by rfl) (fun W hW => run_load_mid (.tmp 19) rfl b1 (o1 + k * 2) rfl x q1 n1 d1 hW.1) ?_
        simp only [Act.put, List.setIfInBounds_toArray, List.set_cons_zero, List.set_cons_succ]
        refine held_take 4 (v := ?_) rfl (by kernel_rfl) (by kernel_rfl) (by kernel_rfl) (fun _ _ _ h => h) (by assumption) (by rfl) ?_ ?_
        rotate_left
        · (intro W hW; go_simp; try with_reducible rfl)
        simp only [Act.put, List.setIfInBounds_toArray, List.set_cons_zero, List.set_cons_succ]
        refine held_take 5 (v := ?_) rfl (by kernel_rfl) (by kernel_rfl) (by kernel_rfl) (fun _ _ _ h => h) (by assumption) (by rfl) ?_ ?_
        rotate_left
        · (intro W hW; go_simp; try with_reducible rfl)
        simp only [Act.put, List.setIfInBounds_toArray, List.set_cons_zero, List.set_cons_succ]
        refine held_take 6 (v := ?_) rfl (by kernel_rfl) (by kernel_rfl) (by kernel_rfl) (fun _ _ _ h => h) (by assumption) (by rfl) ?_ ?_
        rotate_left
        · (intro W hW; go_simp; try with_reducible rfl)
        simp only [Act.put, List.setIfInBounds_toArray, List.set_cons_zero, List.set_cons_succ]
        refine held_take 7 (v := .agg (ocells y (.slice q2 n2 d2)).toArray) rfl (by kernel_rfl) (by kernel_rfl) (by kernel_rfl) (fun _ _ _ h => h) (by assumption) (by rfl) (fun W hW => run_load_mid (.tmp 23) rfl b2 (o2 + k * 2) rfl y q2 n2 d2 hW.2) ?_
        simp only [Act.put, List.setIfInBounds_toArray, List.set_cons_zero, List.set_cons_succ]
        refine held_call 8 (f := 25) (args := #[.agg (ocells x (.slice q1 n1 d1)).toArray, .agg (ocells y (.slice q2 n2 d2)).toArray]) rfl (by kernel_rfl) (by rfl) (by go_simp) ?_
        refine (C1.out x y q1 q2 n1 n2 d1 d2 Wd hn1 hn2 e1 e2).mono ?_
        rintro e w1 ⟨rfl, b1w⟩
        have hS1 : w1.rangeAt b1 (o1 + k * 2) (ocells x (.slice q1 n1 d1)) ∧ w1.rangeAt b2 (o2 + k * 2) (ocells y (.slice q2 n2 d2)) := ⟨range_next hS.1 f1 b1w, range_next hS.2 f2 b1w⟩
        refine ⟨_, rfl, hS1, ?_⟩
        simp only [Act.put, List.setIfInBounds_toArray, List.set_cons_zero, List.set_cons_succ]
        have HB1 := Lib.hid (Below.chain bd b1w)
        clear hS e1 e2 f1 f2 b1w bd hn1 hn2 C1
        by_cases hxy : x = y
        · rw [decide_eq_true hxy]
          have hs := HST.out hxy
          clear hxy HST HNE
          refine held_take 9 (v := ?_) rfl (by kernel_rfl) (by kernel_rfl) (by kernel_rfl) (fun _ _ _ h => h) (by assumption) (by rfl) ?_ ?_
          rotate_left
          · (intro W hW; go_simp; try with_reducible rfl)
          simp only [Act.put, List.setIfInBounds_toArray, List.set_cons_zero, List.set_cons_succ]
          refine held_done (by kernel_rfl) ?_
          go_wp2
          go_roundw
          case rel => exact ⟨k + 1, by simp, by omega, hs, HB1.out⟩
          case measure => simp [intOf]; omega
        · rw [decide_eq_false hxy]
          have hZ : Z = false := HZ.out.trans (decide_eq_false (HNE.out hxy))
          subst hZ
          clear hxy HST HNE
          refine held_take 9 (v := ?_) rfl (by kernel_rfl) (by kernel_rfl) (by kernel_rfl) (fun _ _ _ h => h) (by assumption) (by rfl) ?_ ?_
          rotate_left
          · (intro W hW; go_simp; try with_reducible rfl)
          simp only [Act.put, List.setIfInBounds_toArray, List.set_cons_zero, List.set_cons_succ]
          refine held_done (by kernel_rfl) ?_
          go_wp2
          go_ret
          exact ⟨rfl, HB1.out⟩
      · have h1 : L.take k = L := List.take_of_length_le (by rw [HL.out]; omega)
        have h2 : M.take k = M := List.take_of_length_le (by rw [HM.out]; omega)
        have hZ : Z = true := HZ.out.trans (decide_eq_true (by rw [← h1, ← h2]; exact htk))
        subst hZ
        clear h1 h2 htk HZ
        go_wp2
        go_ret
        exact ⟨rfl, hbw⟩
  · have hZ : Z = false := HZ.out.trans (decide_eq_false (Ot.ne_len (by rw [HL.out, HM.out]; exact hnm)))
    subst hZ
    have i1 : ((n : Int) != (m : Int)) = true := by simp; omega
    clear hnm HZ
    go_enter Try.func16, Try.ntmps16
    go_wp2
    go_ret
    exact ⟨rfl, Below.refl _ _⟩

set_option maxRecDepth 100000 in
set_option maxHeartbeats 1000000 in
theorem refTwice_any (a : Option Addr) (n cap : Nat) (L : List Ot.O) (w : World) (hL : L.length = n) (hn : n ≤ 1000000) (hc : n ≤ cap) (h : OptsAt w a L) :
    Calls Try.prog 23 #[.slice a n cap] w fun e w' => e = .returned (.bool (Ot.twice L)) ∧ Below w.heap.size w w' := by
  obtain ⟨Z, hZ⟩ : ∃ Z, Ot.twice L = Z := ⟨_, rfl⟩
  rw [hZ]
  have HZ := Lib.hid hZ.symm
  have H := Lib.hid h
  have HL := Lib.hid hL
  clear h hL hZ
  go_enter Try.func23, Try.ntmps23
  go_wp2
  go_loopw [3] (fun i wr => ∃ k : Nat, i = .int .i64 (k : Int) ∧ k ≤ n ∧ ((L.take k).map Ot.O.ty).Nodup ∧ Below w.heap.size w wr) (fun i _ => n - (intOf i).toNat)
  case atStart => exact ⟨0, rfl, Nat.zero_le _, by simp, Below.refl _ _⟩
  case round =>
    obtain ⟨k, rfl, hk, hp, hbw⟩ := hrel
    by_cases hlt : (k : Int) < (n : Int)
    · have hkn : k < n := by omega
      have hkL : k < L.length := by rw [HL.out]; omega
      obtain ⟨b, off, q, d, rfl, r1, hb1⟩ := (H.out.next hbw).at k hkL
      have hno := Ot.nodup_step hkL hp
      have hyes := Ot.twice_yes (l := L) (k := k) hkL
      have hlen : (L.take k).length = k := by rw [List.length_take]; omega
      have hT := (H.out.next hbw).take k
      have c1 := fun W (h : OptsAt W _ _) => place_any (some ⟨b, off, none⟩) k cap (L.take k) L[k].ty W hlen (by omega) h
      have x1 := r1.ty
      generalize L[k] = r at *
      have HNO := Lib.hid hno
      have HYES := Lib.hid hyes
      have C1 := Lib.hid c1
      clear hno hyes c1 hp
      have j1 : k ≤ cap := by omega
      have j2 : (k : Int) ≤ (cap : Int) := by omega
      go_wp2_with fail
      have bd : Below w.heap.size w wr.drew := hbw.drew
      have hS : wr.drew.cell? ⟨b, off + k * 2, none⟩ = some (.int .i64 r.ty) := x1
      have hT2 : OptsAt wr.drew (some ⟨b, off, none⟩) (L.take k) := hT.next (Below.refl _ _).drew
      refine held_start (S := fun W => W.cell? ⟨b, off + k * 2, none⟩ = some (.int .i64 r.ty)) 10 (by kernel_rfl) rfl ?_
      generalize wr.drew = Wd at *
      clear r1 x1 hT hbw
      refine held_take 0 (v := ?_) rfl (by kernel_rfl) (by kernel_rfl) (by kernel_rfl) (fun _ _ _ h => h) (by assumption) (by rfl) ?_ ?_
      rotate_left
      · (intro W hW; go_simp; try with_reducible rfl)
      simp only [Act.put, List.setIfInBounds_toArray, List.set_cons_zero, List.set_cons_succ]
      refine held_take 1 (v := ?_) rfl (by kernel_rfl) (by kernel_rfl) (by kernel_rfl) (fun _ _ _ h => h) (by assumption) (by rfl) ?_ ?_
      rotate_left
      · (intro W hW; go_simp; try with_reducible rfl)
      simp only [Act.put, List.setIfInBounds_toArray, List.set_cons_zero, List.set_cons_succ]
      refine held_take 2 (v := ?_) rfl (by kernel_rfl) (by kernel_rfl) (by kernel_rfl) (fun _ _ _ h => h) (by assumption) (by rfl) ?_ ?_
      rotate_left
      · (intro W hW; go_simp; try with_reducible rfl)
      simp only [Act.put, List.setIfInBounds_toArray, List.set_cons_zero, List.set_cons_succ]
      refine held_take 3 (v := ?_) rfl (by kernel_rfl) (by kernel_rfl) (by kernel_rfl) (fun _ _ _ h => h) (by assumption) (by rfl) ?_ ?_
      rotate_left
      · (intro W hW; go_simp; try with_reducible rfl)
      simp only [Act.put, List.setIfInBounds_toArray, List.set_cons_zero, List.set_cons_succ]
      refine held_take 4 (v := ?_) rfl (by kernel_rfl) (by kernel_rfl) (by kernel_rfl) (fun _ _ _ h => h) (by assumption) (by rfl) ?_ ?_
      rotate_left
      · (intro W hW; go_simp; try with_reducible rfl)
      simp only [Act.put, List.setIfInBounds_toArray, List.set_cons_zero, List.set_cons_succ]
      refine held_take 5 (v := ?_) rfl (by kernel_rfl) (by kernel_rfl) (by kernel_rfl) (fun _ _ _ h => h) (by assumption) (by rfl) ?_ ?_
      rotate_left
      · (intro W hW; go_simp; try with_reducible rfl)
      simp only [Act.put, List.setIfInBounds_toArray, List.set_cons_zero, List.set_cons_succ]
      refine held_take 6 (v := ?_) rfl (by kernel_rfl) (by kernel_rfl) (by kernel_rfl) (fun _ _ _ h => h) (by assumption) (by rfl) ?_ ?_
      rotate_left
      · (intro W hW; go_simp; try with_reducible rfl)
      simp only [Act.put, List.setIfInBounds_toArray, List.set_cons_zero, List.set_cons_succ]
      refine held_take 7 (v := ?_) rfl (by kernel_rfl) (by kernel_rfl) (by kernel_rfl) (fun _ _ _ h => h) (by assumption) (by rfl) ?_ ?_
      rotate_left
      · (intro W hW; have hc : W.cell? ⟨b, off + k * 2, none⟩ = some (.int .i64 r.ty) := hW; go_simp; try with_reducible rfl)
      simp only [Act.put, List.setIfInBounds_toArray, List.set_cons_zero, List.set_cons_succ]
      refine held_call 8 (f := 19) (args := #[.slice (some ⟨b, off, none⟩) k cap, .int .i64 r.ty]) rfl (by kernel_rfl) (by rfl) (by go_simp) ?_
      refine (C1.out Wd hT2).mono ?_
      rintro e w1 ⟨⟨v, rfl, hv⟩, h1⟩; rw [h1]; clear h1
      refine ⟨_, rfl, hS, ?_⟩
      simp only [Act.put, List.setIfInBounds_toArray, List.set_cons_zero, List.set_cons_succ]
      rcases hv with ⟨rfl, hv⟩ | ⟨j, hj, rfl, hv, _⟩
      · have hno := HNO.out hv
        clear hv HNO HYES C1 hT2 hlen
        refine held_take 9 (v := ?_) rfl (by kernel_rfl) (by kernel_rfl) (by kernel_rfl) (fun _ _ _ h => h) (by assumption) (by rfl) ?_ ?_
        rotate_left
        · (intro W hW; go_simp; try with_reducible rfl)
        simp only [Act.put, List.setIfInBounds_toArray, List.set_cons_zero, List.set_cons_succ]
        refine held_done (by kernel_rfl) ?_
        go_wp2
        go_roundw
        case rel => exact ⟨k + 1, by simp, by omega, hno, bd⟩
        case measure => simp [intOf]; omega
      · have hZ : Z = true := HZ.out.trans (HYES.out ⟨_, List.getElem_mem hj, hv⟩)
        subst hZ
        have i1 : (0 : Int) ≤ (j : Int) := by omega
        clear hv HNO HYES C1 hT2 hlen hj HZ
        refine held_take 9 (v := ?_) rfl (by kernel_rfl) (by kernel_rfl) (by kernel_rfl) (fun _ _ _ h => h) (by assumption) (by rfl) ?_ ?_
        rotate_left
        · (intro W hW; go_simp; try with_reducible rfl)
        simp only [Act.put, List.setIfInBounds_toArray, List.set_cons_zero, List.set_cons_succ]
        refine held_done (by kernel_rfl) ?_
        go_wp2
        go_ret
        exact ⟨rfl, bd⟩
    · have hall : L.take k = L := List.take_of_length_le (by rw [HL.out]; omega)
      rw [hall] at hp
      have hZ : Z = false := HZ.out.trans (Ot.twice_no L hp)
      subst hZ
      clear hall hp HZ
      go_wp2
      go_ret
      exact ⟨rfl, hbw⟩
end Go.Proofs.Ytcklhgpfiibcaaa
