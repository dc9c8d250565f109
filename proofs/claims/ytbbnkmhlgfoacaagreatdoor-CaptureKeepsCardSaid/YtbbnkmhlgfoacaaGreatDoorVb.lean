/- Contract of the document's records. -/
import Derived.Test.YtbbnkmhlgfoacaaGreatDoorVa
namespace Go.Proofs.YtbbnkmhlgfoacaaGreatDoor
open Go.RowKit
open S10

theorem ne_nat (k c : Nat) : ((k : Int) != (c : Int)) = !(k == c) := by
 have h : ((k : Int) == (c : Int)) = (k == c) := by rw [Bool.eq_iff_iff]; simp only [beq_iff_eq]; omega
 show (!((k : Int) == (c : Int))) = _
 rw [h]
theorem Cp.link_cases (k : Nat) : Cp.isLink k = true ↔ k = 9 ∨ k = 50 ∨ k = 204 := by simp [Cp.isLink]
theorem Cp.read_zero (b : List UInt8) (m : S9.Pc.Hdr) (l : List S9.Pc.Rcd) (s : Nat) (h : S9.Pc.read b = (m, l, s, 0)) : s = 0 := by
 have h1 := (S9.Pc.read_known b).spot
 rw [h] at h1
 rcases h1 with h1 | h1
 ·
  simpa using h1
 ·
  exact absurd rfl h1.2.1

set_option maxRecDepth 100000 in
set_option maxHeartbeats 1000000 in
theorem refRecords_any (x : Xc) (a : Option Addr) (n cap : Nat) (xs : List UInt8) (w : World) (hn : xs.length = n) (hm : n ≤ 300000) (h : RowAt w a cap xs) (hs : ∀ r ∈ (S9.Pc.read xs).2.1, r.data.length ≤ 90000) :
  Calls Tryz.prog 18 #[.slice a n cap, .agg (ccells x).toArray] w fun e w' => ItemsRes w w' e (Cp.readP xs x.c.dir) := by
 have c1 := fun W h => S9.refRead_any a n cap xs W hn hm (RowAt.to9 h)
 have hok := S9.Pc.read_recs xs
 have hb := Cp.readP_bad xs x.c.dir
 have hk := Cp.readP_link xs x.c.dir
 have hg := Cp.readP_good xs x.c.dir
 have hmn := Cp.read_many xs
 have hzz := Cp.read_zero xs
 rw [hn] at hmn
 generalize S9.Pc.read xs = A at *
 obtain ⟨m, l, s, er⟩ := A
 simp only at hok hs
 replace hb := hb m l s er rfl
 replace hk := fun (he : er = 0) => hk m l s (by rw [he])
 replace hg := fun (he : er = 0) => hg m l s (by rw [he])
 replace hmn := fun (he : er = 0) => hmn m l s (by rw [he])
 replace hzz := fun (he : er = 0) => hzz m l s (by rw [he])
 obtain ⟨ob, hob⟩ : ∃ ob, ob = Obj.cells (ccells x).toArray 25 (0, 0) := ⟨_, rfl⟩
 obtain ⟨n0, n1, n2, n3, s1, s2, ⟨cd, ma, wd⟩⟩ := x
 simp only [ccells] at *
 generalize Cp.readP xs cd = Z at *
 have H := Lib.hid h
 have C1 := Lib.hid c1
 have HS := Lib.hid hs
 have HOK := Lib.hid hok
 have HBD := Lib.hid hb
 have HK := Lib.hid hk
 have HG := Lib.hid hg
 have HM := Lib.hid hmn
 have HZZ := Lib.hid hzz
 have HOB := Lib.hid hob
 clear h c1 hs hok hb hk hg hmn hzz hob hn
 have h0 := two_made w #[.int .i64 n0, .int .i64 n1, .int .i64 n2, .int .i64 n3, .string s1, .string s2, .int .i64 cd, .int .u32 (ma : Int), .bool wd] #[.int .i64 0, .int .i64 0] 25 30
 go_enter Tryz.func18, Tryz.ntmps18
 go_wp2_with fail
 generalize (w.alloc (.cells #[.int .i64 n0, .int .i64 n1, .int .i64 n2, .int .i64 n3, .string s1, .string s2, .int .i64 cd, .int .u32 (ma : Int), .bool wd] 25)).alloc (.cells #[.int .i64 0, .int .i64 0] 30) = W0 at *
 rw [← HOB.out] at h0
 obtain ⟨hB0, hD0, hR0, hs0⟩ := h0
 refine (C1.out W0 (H.out.next hB0)).mono ?_
 rintro e w1 ⟨v, rfl, rec1, b1⟩
 obtain ⟨av, cv, rfl, hrec⟩ := rec1.at HOK.out
 have hsz1 := b1.size
 have h2 := two_made w1 (S9.hcells m).toArray (S9.scells s er).toArray 64 30
 simp only [S9.hcells, S9.scells] at h2 ⊢
 have HB1 := Lib.hid b1
 have HREC := Lib.hid hrec
 have HB0 := Lib.hid hB0
 have HD0 := Lib.hid hD0
 have HR0 := Lib.hid hR0
 have HH2 := Lib.hid h2
 clear b1 hrec hB0 hD0 hR0 rec1 C1 h2
 by_cases he : er = 0
 ·
  subst he
  have hmn := HM.out rfl
  obtain rfl := HZZ.out rfl
  clear HZZ
  have c9 : ((m.link : Int) != 9) = (!(m.link == 9)) := ne_nat m.link 9
  have c50 : ((m.link : Int) != 50) = (!(m.link == 50)) := ne_nat m.link 50
  have c204 : ((m.link : Int) != 204) = (!(m.link == 204)) := ne_nat m.link 204
  by_cases hlk : Cp.isLink m.link = true
  ·
   have hZ := Lib.hid (HG.out rfl hlk)
   clear HBD HK HG HM
   obtain ⟨nl, hnl⟩ : ∃ nl, l.length = nl := ⟨_, rfl⟩
   rw [hnl] at hmn ⊢
   have HNL := Lib.hid hnl
   clear hnl
   rcases (Cp.link_cases m.link).1 hlk with h9 | h50 | h204
   ·
    have e9 : ((m.link : Int) != 9) = false := by rw [c9]; simp [h9]
    have e204 : ((m.link : Int) != 204) = true := by rw [c204]; simp [h9]
    have HNE : Hid (¬ m.link = 204) := by show ¬ _; omega
    clear h9 hlk
    have mc := fun i (u : Value) (h : (S9.hcells m).toArray[i]? = some u) => (cell_of_row _ _ _ _ _ _ HH2.out.2.1).trans h
    have m3 := mc 3 (.int .u32 (m.link : Int)) rfl
    clear c9 c50 c204
    go_wp2
    clear m3 mc
    generalize (w1.alloc (.cells #[.bool m.big, .bool m.nano, .int .u32 (m.snap : Int), .int .u32 (m.link : Int)] 64)).alloc (.cells #[.int .i64 ((0 : Nat) : Int), .int .i64 ((0 : Nat) : Int)] 30) = W2 at *
    have b02 := Lib.hid (HB0.out.trans ((HB1.out.trans (HH2.out.1.mono hsz1)).mono HB0.out.size))
    have R2 := Lib.hid (block_next (block_next HR0.out HB1.out) HH2.out.1)
    have D2 := block_next (block_next HD0.out HB1.out) HH2.out.1
    rw [HOB.out] at D2
    have D2 := Lib.hid D2
    have M2 := Lib.hid HH2.out.2.1
    have F2 := Lib.hid HH2.out.2.2.1
    have N2 := Lib.hid (HREC.out.next HH2.out.1)
    have hs2 : W2.heap.size = w1.heap.size + 2 := HH2.out.2.2.2
    clear HREC HD0 HR0 HB0 HB1 HH2 HOB H
    go_loopw [9, 10] (fun v i wr => ∃ k : Nat, i = .int .i64 (k : Int) ∧ k ≤ nl ∧ Its wr W2.heap.size (fun j => W2.heap.size ≤ j) v (Cp.recs m.link cd (l.take k)) ∧ Below W2.heap.size W2 wr) (fun _ i _ => nl - (intOf i).toNat)
    case atStart => exact ⟨0, rfl, Nat.zero_le _, by simpa [Cp.recs] using its_none _ _ _, Below.refl _ _⟩
    case round =>
     obtain ⟨k, rfl, hk, hI, hbw⟩ := hrel
     obtain ⟨ax, cx, rfl⟩ := its_slice hI
     by_cases hlt : (k : Int) < (nl : Int)
     ·
      have hk' : k < l.length := by rw [HNL.out]; omega
      obtain ⟨b, off, p, c, rfl, hra⟩ := (N2.out.next hbw).at k hk'
      have hdt := hra.data
      have hrow := RowAt.of9 hra.row
      have hsn := Cp.recs_snoc m.link cd l k hk'
      have hxl := HS.out _ (List.getElem_mem hk')
      have hle := Cp.recs_le m.link cd (l.take k)
      rw [List.length_take] at hle
      generalize l[k] = r at *
      obtain ⟨M, hM⟩ : ∃ M, M = Cp.recs m.link cd (l.take k) := ⟨_, rfl⟩
      rw [← hM] at hI hsn hle ⊢
      obtain ⟨nm, hnm⟩ : ∃ nm, M.length = nm := ⟨_, rfl⟩
      rw [hnm] at hI hle ⊢
      have hsz := hbw.size
      obtain ⟨q, hq⟩ : ∃ q, r.data.length = q := ⟨_, rfl⟩
      rw [hq] at hdt hxl
      have dc : wr.cell? ⟨w.heap.size, 6, none⟩ = some (.int .i64 cd) := cell_of_row _ _ _ _ _ _ (block_next D2.out hbw)
      have mc : wr.cell? ⟨w1.heap.size, 3, none⟩ = some (.int .u32 (m.link : Int)) := cell_of_row _ _ _ _ _ _ (block_next M2.out hbw)
      have HI := Lib.hid hI
      have HBW := Lib.hid hbw
      have HROW := Lib.hid hrow
      have HSN := Lib.hid hsn
      have HNM := Lib.hid hnm
      have HQ := Lib.hid hq
      clear hI hbw hrow hsn hra hnm hM hq hk'
      have CA := Lib.hid (fun (d : Int) (pd : Option Addr) (nd cd' : Nat) (y : List UInt8) (h1 : y.length = nd) (h2 : nd ≤ 90000) (h3 : RowAt wr pd cd' y) => with_any (.slice ax nm cx) d pd nd cd' y M W2.heap.size (fun j => W2.heap.size ≤ j) wr h1 h2 h3 HI.out hsz (fun j hj => Nat.le_trans hsz hj) (by rw [HNM.out]; omega))
      have HFIN := Lib.hid (fun (dd : Int) (y : List UInt8) (hy : Cp.rec1 m.link cd r.data = Cp.item dd y) (W4 : World) (v4 : Value) (i4 : Its W4 W2.heap.size (fun j => W2.heap.size ≤ j) v4 (M ++ Cp.item dd y)) (g4 : Grew wr W4 (.slice ax nm cx) v4) => (show Its W4 W2.heap.size (fun j => W2.heap.size ≤ j) v4 (Cp.recs m.link cd (l.take (k + 1))) ∧ Below W2.heap.size W2 W4 by
       rw [HSN.out, hy]
       exact ⟨i4, g4.below HBW.out (fun j hj => (HI.out.lt j hj).1)⟩))
      go_wp2_with fail
      refine (CA.out cd p q c r.data HQ.out hxl HROW.out).mono ?_
      rintro e w6 ⟨v6, rfl, i6, g6⟩
      have HF := Lib.hid (HFIN.out cd r.data (Cp.rec1_plain _ _ _ HNE.out) w6 v6 i6 g6)
      clear i6 g6 CA HFIN
      go_wp2
      go_roundw
      case rel => exact ⟨k + 1, by go_num, by omega, HF.out.1, HF.out.2⟩
      case measure => simp [intOf]; omega
     ·
      have hks : l.take k = l := List.take_of_length_le (by rw [HNL.out]; omega)
      rw [hks] at hI ⊢
      have HI := Lib.hid hI
      have HBW := Lib.hid hbw
      clear hI hbw hks
      have hsz := HBW.out.size
      obtain ⟨nm, hnm⟩ : ∃ nm, (Cp.recs m.link cd l).length = nm := ⟨_, rfl⟩
      rw [hnm] at HI ⊢
      go_wp2_with fail
      have hS : wr.drew.heap[w1.heap.size + 1]? = some (.cells (scells 0 0).toArray 30 (0, 0)) ∧ wr.drew.heap[w.heap.size + 1]? = some (.cells #[.int .i64 0, .int .i64 0] 30 (0, 0)) := ⟨block_next F2.out HBW.out.drew, block_next R2.out HBW.out.drew⟩
      have bW : Below W2.heap.size W2 wr.drew := HBW.out.drew
      have iW : Its wr.drew W2.heap.size (fun j => W2.heap.size ≤ j) (.slice ax nm cx) (Cp.recs m.link cd l) := HI.out.next (Below.refl _ _).drew
      refine held_start (S := fun W => W.heap[w1.heap.size + 1]? = some (.cells (scells 0 0).toArray 30 (0, 0))) 4 (by kernel_rfl) rfl ?_
      generalize wr.drew = w4 at hS bW iW ⊢
      have hS1 := hS.1
      refine held_take 0 (v := ?_) rfl (by kernel_rfl) (by kernel_rfl) (by kernel_rfl) (fun _ _ _ h => h) (by assumption) (by rfl) ?_ ?_
      rotate_left
      ·
       (intro W hW; go_simp; try with_reducible rfl)
      simp only [Act.put, List.setIfInBounds_toArray, List.set_cons_zero, List.set_cons_succ]
      refine held_take 1 (v := .agg (scells 0 0).toArray) rfl (by kernel_rfl) (by kernel_rfl) (by kernel_rfl) (fun _ _ _ h => h) (by assumption) (by rfl) (fun W hW => run_load_spot (.tmp 8) rfl _ rfl 0 0 hW) ?_
      simp only [Act.put, List.setIfInBounds_toArray, List.set_cons_zero, List.set_cons_succ]
      refine held_take 2 (v := ?_) rfl (by kernel_rfl) (by kernel_rfl) (by kernel_rfl) (fun _ _ _ h => h) (by assumption) (by rfl) ?_ ?_
      rotate_left
      ·
       (intro W hW; go_simp; try with_reducible rfl)
      simp only [Act.put, List.setIfInBounds_toArray, List.set_cons_zero, List.set_cons_succ]
      refine held_alone 3 (w' := w4.setRow (w.heap.size + 1) (scells 0 0).toArray) rfl (by kernel_rfl) (by rfl) (run_store_spot (.tmp 5) (.tmp 76) rfl (w.heap.size + 1) 0 0 _ rfl rfl hS.2 rfl) (by rw [setRow_other _ _ _ _ (by omega)]; exact hS1) ?_
      simp only [Act.put]
      refine held_done (by kernel_rfl) ?_
      go_wp2
      refine bodyPost_ret (v := .tuple #[.slice ax nm cx, .agg (scells 0 0).toArray]) ?_ rfl ?_
      ·
       exact results_tmp_cell_row Tryz.results18 _ _ (w.heap.size + 1) 30 _ _ _ rfl (setRow_heap _ _ _ _ _ _ hS.2) Tryz.underlying30 rfl infoSpot
      ·
       rw [hZ.out]
       exact ⟨_, rfl, ((iW.kept (grown_row _ _ _) (by omega) (fun _ h => h)).lower (by omega)).mono (fun j _ hj => by have : W2.heap.size ≤ j := hj; show w.heap.size ≤ j; omega), below_setRow (b02.out.trans (bW.mono (by omega))) (by omega) _⟩
   ·
    have e9 : ((m.link : Int) != 9) = true := by rw [c9]; simp [h50]
    have e50 : ((m.link : Int) != 50) = false := by rw [c50]; simp [h50]
    have e204 : ((m.link : Int) != 204) = true := by rw [c204]; simp [h50]
    have HNE : Hid (¬ m.link = 204) := by show ¬ _; omega
    clear h50 hlk
    have mc := fun i (u : Value) (h : (S9.hcells m).toArray[i]? = some u) => (cell_of_row _ _ _ _ _ _ HH2.out.2.1).trans h
    have m3 := mc 3 (.int .u32 (m.link : Int)) rfl
    clear c9 c50 c204
    go_wp2
    clear m3 mc
    generalize (w1.alloc (.cells #[.bool m.big, .bool m.nano, .int .u32 (m.snap : Int), .int .u32 (m.link : Int)] 64)).alloc (.cells #[.int .i64 ((0 : Nat) : Int), .int .i64 ((0 : Nat) : Int)] 30) = W2 at *
    have b02 := Lib.hid (HB0.out.trans ((HB1.out.trans (HH2.out.1.mono hsz1)).mono HB0.out.size))
    have R2 := Lib.hid (block_next (block_next HR0.out HB1.out) HH2.out.1)
    have D2 := block_next (block_next HD0.out HB1.out) HH2.out.1
    rw [HOB.out] at D2
    have D2 := Lib.hid D2
    have M2 := Lib.hid HH2.out.2.1
    have F2 := Lib.hid HH2.out.2.2.1
    have N2 := Lib.hid (HREC.out.next HH2.out.1)
    have hs2 : W2.heap.size = w1.heap.size + 2 := HH2.out.2.2.2
    clear HREC HD0 HR0 HB0 HB1 HH2 HOB H
    go_loopw [9, 10] (fun v i wr => ∃ k : Nat, i = .int .i64 (k : Int) ∧ k ≤ nl ∧ Its wr W2.heap.size (fun j => W2.heap.size ≤ j) v (Cp.recs m.link cd (l.take k)) ∧ Below W2.heap.size W2 wr) (fun _ i _ => nl - (intOf i).toNat)
    case atStart => exact ⟨0, rfl, Nat.zero_le _, by simpa [Cp.recs] using its_none _ _ _, Below.refl _ _⟩
    case round =>
     obtain ⟨k, rfl, hk, hI, hbw⟩ := hrel
     obtain ⟨ax, cx, rfl⟩ := its_slice hI
     by_cases hlt : (k : Int) < (nl : Int)
     ·
      have hk' : k < l.length := by rw [HNL.out]; omega
      obtain ⟨b, off, p, c, rfl, hra⟩ := (N2.out.next hbw).at k hk'
      have hdt := hra.data
      have hrow := RowAt.of9 hra.row
      have hsn := Cp.recs_snoc m.link cd l k hk'
      have hxl := HS.out _ (List.getElem_mem hk')
      have hle := Cp.recs_le m.link cd (l.take k)
      rw [List.length_take] at hle
      generalize l[k] = r at *
      obtain ⟨M, hM⟩ : ∃ M, M = Cp.recs m.link cd (l.take k) := ⟨_, rfl⟩
      rw [← hM] at hI hsn hle ⊢
      obtain ⟨nm, hnm⟩ : ∃ nm, M.length = nm := ⟨_, rfl⟩
      rw [hnm] at hI hle ⊢
      have hsz := hbw.size
      obtain ⟨q, hq⟩ : ∃ q, r.data.length = q := ⟨_, rfl⟩
      rw [hq] at hdt hxl
      have dc : wr.cell? ⟨w.heap.size, 6, none⟩ = some (.int .i64 cd) := cell_of_row _ _ _ _ _ _ (block_next D2.out hbw)
      have mc : wr.cell? ⟨w1.heap.size, 3, none⟩ = some (.int .u32 (m.link : Int)) := cell_of_row _ _ _ _ _ _ (block_next M2.out hbw)
      have HI := Lib.hid hI
      have HBW := Lib.hid hbw
      have HROW := Lib.hid hrow
      have HSN := Lib.hid hsn
      have HNM := Lib.hid hnm
      have HQ := Lib.hid hq
      clear hI hbw hrow hsn hra hnm hM hq hk'
      have CA := Lib.hid (fun (d : Int) (pd : Option Addr) (nd cd' : Nat) (y : List UInt8) (h1 : y.length = nd) (h2 : nd ≤ 90000) (h3 : RowAt wr pd cd' y) => with_any (.slice ax nm cx) d pd nd cd' y M W2.heap.size (fun j => W2.heap.size ≤ j) wr h1 h2 h3 HI.out hsz (fun j hj => Nat.le_trans hsz hj) (by rw [HNM.out]; omega))
      have HFIN := Lib.hid (fun (dd : Int) (y : List UInt8) (hy : Cp.rec1 m.link cd r.data = Cp.item dd y) (W4 : World) (v4 : Value) (i4 : Its W4 W2.heap.size (fun j => W2.heap.size ≤ j) v4 (M ++ Cp.item dd y)) (g4 : Grew wr W4 (.slice ax nm cx) v4) => (show Its W4 W2.heap.size (fun j => W2.heap.size ≤ j) v4 (Cp.recs m.link cd (l.take (k + 1))) ∧ Below W2.heap.size W2 W4 by
       rw [HSN.out, hy]
       exact ⟨i4, g4.below HBW.out (fun j hj => (HI.out.lt j hj).1)⟩))
      go_wp2_with fail
      refine (CA.out cd p q c r.data HQ.out hxl HROW.out).mono ?_
      rintro e w6 ⟨v6, rfl, i6, g6⟩
      have HF := Lib.hid (HFIN.out cd r.data (Cp.rec1_plain _ _ _ HNE.out) w6 v6 i6 g6)
      clear i6 g6 CA HFIN
      go_wp2
      go_roundw
      case rel => exact ⟨k + 1, by go_num, by omega, HF.out.1, HF.out.2⟩
      case measure => simp [intOf]; omega
     ·
      have hks : l.take k = l := List.take_of_length_le (by rw [HNL.out]; omega)
      rw [hks] at hI ⊢
      have HI := Lib.hid hI
      have HBW := Lib.hid hbw
      clear hI hbw hks
      have hsz := HBW.out.size
      obtain ⟨nm, hnm⟩ : ∃ nm, (Cp.recs m.link cd l).length = nm := ⟨_, rfl⟩
      rw [hnm] at HI ⊢
      go_wp2_with fail
      have hS : wr.drew.heap[w1.heap.size + 1]? = some (.cells (scells 0 0).toArray 30 (0, 0)) ∧ wr.drew.heap[w.heap.size + 1]? = some (.cells #[.int .i64 0, .int .i64 0] 30 (0, 0)) := ⟨block_next F2.out HBW.out.drew, block_next R2.out HBW.out.drew⟩
      have bW : Below W2.heap.size W2 wr.drew := HBW.out.drew
      have iW : Its wr.drew W2.heap.size (fun j => W2.heap.size ≤ j) (.slice ax nm cx) (Cp.recs m.link cd l) := HI.out.next (Below.refl _ _).drew
      refine held_start (S := fun W => W.heap[w1.heap.size + 1]? = some (.cells (scells 0 0).toArray 30 (0, 0))) 4 (by kernel_rfl) rfl ?_
      generalize wr.drew = w4 at hS bW iW ⊢
      have hS1 := hS.1
      refine held_take 0 (v := ?_) rfl (by kernel_rfl) (by kernel_rfl) (by kernel_rfl) (fun _ _ _ h => h) (by assumption) (by rfl) ?_ ?_
      rotate_left
      ·
       (intro W hW; go_simp; try with_reducible rfl)
      simp only [Act.put, List.setIfInBounds_toArray, List.set_cons_zero, List.set_cons_succ]
      refine held_take 1 (v := .agg (scells 0 0).toArray) rfl (by kernel_rfl) (by kernel_rfl) (by kernel_rfl) (fun _ _ _ h => h) (by assumption) (by rfl) (fun W hW => run_load_spot (.tmp 8) rfl _ rfl 0 0 hW) ?_
      simp only [Act.put, List.setIfInBounds_toArray, List.set_cons_zero, List.set_cons_succ]
      refine held_take 2 (v := ?_) rfl (by kernel_rfl) (by kernel_rfl) (by kernel_rfl) (fun _ _ _ h => h) (by assumption) (by rfl) ?_ ?_
      rotate_left
      ·
       (intro W hW; go_simp; try with_reducible rfl)
      simp only [Act.put, List.setIfInBounds_toArray, List.set_cons_zero, List.set_cons_succ]
      refine held_alone 3 (w' := w4.setRow (w.heap.size + 1) (scells 0 0).toArray) rfl (by kernel_rfl) (by rfl) (run_store_spot (.tmp 5) (.tmp 76) rfl (w.heap.size + 1) 0 0 _ rfl rfl hS.2 rfl) (by rw [setRow_other _ _ _ _ (by omega)]; exact hS1) ?_
      simp only [Act.put]
      refine held_done (by kernel_rfl) ?_
      go_wp2
      refine bodyPost_ret (v := .tuple #[.slice ax nm cx, .agg (scells 0 0).toArray]) ?_ rfl ?_
      ·
       exact results_tmp_cell_row Tryz.results18 _ _ (w.heap.size + 1) 30 _ _ _ rfl (setRow_heap _ _ _ _ _ _ hS.2) Tryz.underlying30 rfl infoSpot
      ·
       rw [hZ.out]
       exact ⟨_, rfl, ((iW.kept (grown_row _ _ _) (by omega) (fun _ h => h)).lower (by omega)).mono (fun j _ hj => by have : W2.heap.size ≤ j := hj; show w.heap.size ≤ j; omega), below_setRow (b02.out.trans (bW.mono (by omega))) (by omega) _⟩
   ·
    have e9 : ((m.link : Int) != 9) = true := by rw [c9]; simp [h204]
    have e50 : ((m.link : Int) != 50) = true := by rw [c50]; simp [h204]
    have e204 : ((m.link : Int) != 204) = false := by rw [c204]; simp [h204]
    have H204 := Lib.hid h204
    clear h204 hlk
    have mc := fun i (u : Value) (h : (S9.hcells m).toArray[i]? = some u) => (cell_of_row _ _ _ _ _ _ HH2.out.2.1).trans h
    have m3 := mc 3 (.int .u32 (m.link : Int)) rfl
    clear c9 c50 c204
    go_wp2
    clear m3 mc
    generalize (w1.alloc (.cells #[.bool m.big, .bool m.nano, .int .u32 (m.snap : Int), .int .u32 (m.link : Int)] 64)).alloc (.cells #[.int .i64 ((0 : Nat) : Int), .int .i64 ((0 : Nat) : Int)] 30) = W2 at *
    have b02 := Lib.hid (HB0.out.trans ((HB1.out.trans (HH2.out.1.mono hsz1)).mono HB0.out.size))
    have R2 := Lib.hid (block_next (block_next HR0.out HB1.out) HH2.out.1)
    have D2 := block_next (block_next HD0.out HB1.out) HH2.out.1
    rw [HOB.out] at D2
    have D2 := Lib.hid D2
    have M2 := Lib.hid HH2.out.2.1
    have F2 := Lib.hid HH2.out.2.2.1
    have N2 := Lib.hid (HREC.out.next HH2.out.1)
    have hs2 : W2.heap.size = w1.heap.size + 2 := HH2.out.2.2.2
    clear HREC HD0 HR0 HB0 HB1 HH2 HOB H
    go_loopw [9, 10] (fun v i wr => ∃ k : Nat, i = .int .i64 (k : Int) ∧ k ≤ nl ∧ Its wr W2.heap.size (fun j => W2.heap.size ≤ j) v (Cp.recs m.link cd (l.take k)) ∧ Below W2.heap.size W2 wr) (fun _ i _ => nl - (intOf i).toNat)
    case atStart => exact ⟨0, rfl, Nat.zero_le _, by simpa [Cp.recs] using its_none _ _ _, Below.refl _ _⟩
    case round =>
     obtain ⟨k, rfl, hk, hI, hbw⟩ := hrel
     obtain ⟨ax, cx, rfl⟩ := its_slice hI
     by_cases hlt : (k : Int) < (nl : Int)
     ·
      have hk' : k < l.length := by rw [HNL.out]; omega
      obtain ⟨b, off, p, c, rfl, hra⟩ := (N2.out.next hbw).at k hk'
      have hdt := hra.data
      have hrow := RowAt.of9 hra.row
      have hsn := Cp.recs_snoc m.link cd l k hk'
      have hxl := HS.out _ (List.getElem_mem hk')
      have hle := Cp.recs_le m.link cd (l.take k)
      rw [List.length_take] at hle
      generalize l[k] = r at *
      obtain ⟨M, hM⟩ : ∃ M, M = Cp.recs m.link cd (l.take k) := ⟨_, rfl⟩
      rw [← hM] at hI hsn hle ⊢
      obtain ⟨nm, hnm⟩ : ∃ nm, M.length = nm := ⟨_, rfl⟩
      rw [hnm] at hI hle ⊢
      have hsz := hbw.size
      obtain ⟨q, hq⟩ : ∃ q, r.data.length = q := ⟨_, rfl⟩
      rw [hq] at hdt hxl
      have dc : wr.cell? ⟨w.heap.size, 6, none⟩ = some (.int .i64 cd) := cell_of_row _ _ _ _ _ _ (block_next D2.out hbw)
      have mc : wr.cell? ⟨w1.heap.size, 3, none⟩ = some (.int .u32 (m.link : Int)) := cell_of_row _ _ _ _ _ _ (block_next M2.out hbw)
      have HI := Lib.hid hI
      have HBW := Lib.hid hbw
      have HROW := Lib.hid hrow
      have HSN := Lib.hid hsn
      have HNM := Lib.hid hnm
      have HQ := Lib.hid hq
      clear hI hbw hrow hsn hra hnm hM hq hk'
      have CA := Lib.hid (fun (d : Int) (pd : Option Addr) (nd cd' : Nat) (y : List UInt8) (h1 : y.length = nd) (h2 : nd ≤ 90000) (h3 : RowAt wr pd cd' y) => with_any (.slice ax nm cx) d pd nd cd' y M W2.heap.size (fun j => W2.heap.size ≤ j) wr h1 h2 h3 HI.out hsz (fun j hj => Nat.le_trans hsz hj) (by rw [HNM.out]; omega))
      have HFIN := Lib.hid (fun (dd : Int) (y : List UInt8) (hy : Cp.rec1 m.link cd r.data = Cp.item dd y) (W4 : World) (v4 : Value) (i4 : Its W4 W2.heap.size (fun j => W2.heap.size ≤ j) v4 (M ++ Cp.item dd y)) (g4 : Grew wr W4 (.slice ax nm cx) v4) => (show Its W4 W2.heap.size (fun j => W2.heap.size ≤ j) v4 (Cp.recs m.link cd (l.take (k + 1))) ∧ Below W2.heap.size W2 W4 by
       rw [HSN.out, hy]
       exact ⟨i4, g4.below HBW.out (fun j hj => (HI.out.lt j hj).1)⟩))
      obtain ⟨ys, hys⟩ : ∃ ys, r.data = ys := ⟨_, rfl⟩
      rw [hys] at HROW HQ
      cases ys with
      | nil =>
       have hq0 : q = 0 := by have := HQ.out; simpa using this.symm
       have HEND := Lib.hid (show Its wr W2.heap.size (fun j => W2.heap.size ≤ j) (.slice ax nm cx) (Cp.recs m.link cd (l.take (k + 1))) by rw [HSN.out, hys, H204.out, Cp.rec1_nil, List.append_nil]; exact HI.out)
       subst hq0
       clear CA HFIN hys
       go_wp2
       go_roundw
       case rel => exact ⟨k + 1, by go_num, by omega, HEND.out, HBW.out⟩
       case measure => simp [intOf]; omega
      | cons y ys =>
       have hle := HROW.out.le
       rw [HQ.out] at hle
       have hq1 : ys.length + 1 = q := by have := HQ.out; simpa using this
       have hpos : (0 : Int) < (q : Int) := by omega
       obtain ⟨ad, rfl⟩ : ∃ ad, p = some ad := by
        cases p with
        | none => have := HROW.out.nil rfl; omega
        | some ad => exact ⟨ad, rfl⟩
       have hc0 : wr.cell? ad = some (.int .u8 (y.toNat : Int)) := by
        have := HROW.out.cell ad rfl 0 (.int .u8 (y.toNat : Int)) (by simp [Lib.byteCells])
        simpa [Addr.add] using this
       have hcut := HROW.out.cut 1 q (by omega) (by rw [HQ.out]; exact Nat.le_refl _)
       rw [List.take_of_length_le (by rw [HQ.out]; exact Nat.le_refl _)] at hcut
       have hl : ((y :: ys).drop 1).length = q - 1 := by simp; omega
       have hrow2 : RowAt wr (if c = 1 then some ad else some (ad.add 1)) (c - 1) ((y :: ys).drop 1) := by
        split
        ·
         rename_i e; rw [if_pos e] at hcut; exact hcut
        ·
         rename_i e; rw [if_neg e] at hcut; exact hcut
       have hy : Cp.rec1 m.link cd r.data = Cp.item (Cp.mark y) ((y :: ys).drop 1) := by rw [hys, H204.out]; exact Cp.rec1_drop cd _ _ (.inr ⟨y, ys, rfl, rfl⟩)
       have HY := Lib.hid hy
       have HL := Lib.hid hl
       have HROW2 := Lib.hid hrow2
       have j1 : (1 : Int) ≤ (q : Int) := by omega
       have j2 : (q : Int) ≤ (c : Int) := by omega
       have j3 : (1 : Int) ≤ (c : Int) := by omega
       have hxl2 : q - 1 ≤ 90000 := by omega
       clear hcut hl hrow2 hy hys HROW HQ
       by_cases hy0 : y.toNat = 0
       ·
        have hmk : Cp.mark y = 1 := by simp [Cp.mark, hy0]
        rw [hmk] at HY
        rw [hy0] at hc0
        by_cases hc1 : c = 1
        ·
         subst hc1
         rw [if_pos rfl] at HROW2
         obtain rfl : q = 1 := by omega
         go_wp2_with fail
         refine (CA.out 1 _ 0 _ ((y :: ys).drop 1) HL.out hxl2 HROW2.out).mono ?_
         rintro e w6 ⟨v6, rfl, i6, g6⟩
         have HF := Lib.hid (HFIN.out 1 _ HY.out w6 v6 i6 g6)
         clear i6 g6 CA HFIN
         go_wp2
         go_roundw
         case rel => exact ⟨k + 1, by go_num, by omega, HF.out.1, HF.out.2⟩
         case measure => simp [intOf]; omega
        ·
         have hc2 : ¬ (c : Int) = 1 := by omega
         rw [if_neg hc1] at HROW2
         go_wp2_with fail
         refine (CA.out 1 _ (q - 1) _ ((y :: ys).drop 1) HL.out hxl2 HROW2.out).mono ?_
         rintro e w6 ⟨v6, rfl, i6, g6⟩
         have HF := Lib.hid (HFIN.out 1 _ HY.out w6 v6 i6 g6)
         clear i6 g6 CA HFIN
         go_wp2
         go_roundw
         case rel => exact ⟨k + 1, by go_num, by omega, HF.out.1, HF.out.2⟩
         case measure => simp [intOf]; omega
       ·
        have hmk : Cp.mark y = 2 := by simp [Cp.mark, hy0]
        rw [hmk] at HY
        have hyi : ((y.toNat : Int) == 0) = false := by simp; omega
        by_cases hc1 : c = 1
        ·
         subst hc1
         rw [if_pos rfl] at HROW2
         obtain rfl : q = 1 := by omega
         go_wp2_with fail
         refine (CA.out 2 _ 0 _ ((y :: ys).drop 1) HL.out hxl2 HROW2.out).mono ?_
         rintro e w6 ⟨v6, rfl, i6, g6⟩
         have HF := Lib.hid (HFIN.out 2 _ HY.out w6 v6 i6 g6)
         clear i6 g6 CA HFIN
         go_wp2
         go_roundw
         case rel => exact ⟨k + 1, by go_num, by omega, HF.out.1, HF.out.2⟩
         case measure => simp [intOf]; omega
        ·
         have hc2 : ¬ (c : Int) = 1 := by omega
         rw [if_neg hc1] at HROW2
         go_wp2_with fail
         refine (CA.out 2 _ (q - 1) _ ((y :: ys).drop 1) HL.out hxl2 HROW2.out).mono ?_
         rintro e w6 ⟨v6, rfl, i6, g6⟩
         have HF := Lib.hid (HFIN.out 2 _ HY.out w6 v6 i6 g6)
         clear i6 g6 CA HFIN
         go_wp2
         go_roundw
         case rel => exact ⟨k + 1, by go_num, by omega, HF.out.1, HF.out.2⟩
         case measure => simp [intOf]; omega
     ·
      have hks : l.take k = l := List.take_of_length_le (by rw [HNL.out]; omega)
      rw [hks] at hI ⊢
      have HI := Lib.hid hI
      have HBW := Lib.hid hbw
      clear hI hbw hks
      have hsz := HBW.out.size
      obtain ⟨nm, hnm⟩ : ∃ nm, (Cp.recs m.link cd l).length = nm := ⟨_, rfl⟩
      rw [hnm] at HI ⊢
      go_wp2_with fail
      have hS : wr.drew.heap[w1.heap.size + 1]? = some (.cells (scells 0 0).toArray 30 (0, 0)) ∧ wr.drew.heap[w.heap.size + 1]? = some (.cells #[.int .i64 0, .int .i64 0] 30 (0, 0)) := ⟨block_next F2.out HBW.out.drew, block_next R2.out HBW.out.drew⟩
      have bW : Below W2.heap.size W2 wr.drew := HBW.out.drew
      have iW : Its wr.drew W2.heap.size (fun j => W2.heap.size ≤ j) (.slice ax nm cx) (Cp.recs m.link cd l) := HI.out.next (Below.refl _ _).drew
      refine held_start (S := fun W => W.heap[w1.heap.size + 1]? = some (.cells (scells 0 0).toArray 30 (0, 0))) 4 (by kernel_rfl) rfl ?_
      generalize wr.drew = w4 at hS bW iW ⊢
      have hS1 := hS.1
      refine held_take 0 (v := ?_) rfl (by kernel_rfl) (by kernel_rfl) (by kernel_rfl) (fun _ _ _ h => h) (by assumption) (by rfl) ?_ ?_
      rotate_left
      ·
       (intro W hW; go_simp; try with_reducible rfl)
      simp only [Act.put, List.setIfInBounds_toArray, List.set_cons_zero, List.set_cons_succ]
      refine held_take 1 (v := .agg (scells 0 0).toArray) rfl (by kernel_rfl) (by kernel_rfl) (by kernel_rfl) (fun _ _ _ h => h) (by assumption) (by rfl) (fun W hW => run_load_spot (.tmp 8) rfl _ rfl 0 0 hW) ?_
      simp only [Act.put, List.setIfInBounds_toArray, List.set_cons_zero, List.set_cons_succ]
      refine held_take 2 (v := ?_) rfl (by kernel_rfl) (by kernel_rfl) (by kernel_rfl) (fun _ _ _ h => h) (by assumption) (by rfl) ?_ ?_
      rotate_left
      ·
       (intro W hW; go_simp; try with_reducible rfl)
      simp only [Act.put, List.setIfInBounds_toArray, List.set_cons_zero, List.set_cons_succ]
      refine held_alone 3 (w' := w4.setRow (w.heap.size + 1) (scells 0 0).toArray) rfl (by kernel_rfl) (by rfl) (run_store_spot (.tmp 5) (.tmp 76) rfl (w.heap.size + 1) 0 0 _ rfl rfl hS.2 rfl) (by rw [setRow_other _ _ _ _ (by omega)]; exact hS1) ?_
      simp only [Act.put]
      refine held_done (by kernel_rfl) ?_
      go_wp2
      refine bodyPost_ret (v := .tuple #[.slice ax nm cx, .agg (scells 0 0).toArray]) ?_ rfl ?_
      ·
       exact results_tmp_cell_row Tryz.results18 _ _ (w.heap.size + 1) 30 _ _ _ rfl (setRow_heap _ _ _ _ _ _ hS.2) Tryz.underlying30 rfl infoSpot
      ·
       rw [hZ.out]
       exact ⟨_, rfl, ((iW.kept (grown_row _ _ _) (by omega) (fun _ h => h)).lower (by omega)).mono (fun j _ hj => by have : W2.heap.size ≤ j := hj; show w.heap.size ≤ j; omega), below_setRow (b02.out.trans (bW.mono (by omega))) (by omega) _⟩
  ·
   have hlf : Cp.isLink m.link = false := by simpa using hlk
   have hZ := Lib.hid (HK.out rfl hlf)
   have h3 : ¬ m.link = 9 ∧ ¬ m.link = 50 ∧ ¬ m.link = 204 := by
    refine ⟨fun h => hlk ((Cp.link_cases _).2 (.inl h)), fun h => hlk ((Cp.link_cases _).2 (.inr (.inl h))), fun h => hlk ((Cp.link_cases _).2 (.inr (.inr h)))⟩
   have e9 : ((m.link : Int) != 9) = true := by rw [c9]; simp [h3.1]
   have e50 : ((m.link : Int) != 50) = true := by rw [c50]; simp [h3.2.1]
   have e204 : ((m.link : Int) != 204) = true := by rw [c204]; simp [h3.2.2]
   have b02 := HB0.out.trans ((HB1.out.trans (HH2.out.1.mono hsz1)).mono HB0.out.size)
   have R2 := block_next (block_next HR0.out HB1.out) HH2.out.1
   have mc := fun i (u : Value) (h : (S9.hcells m).toArray[i]? = some u) => (cell_of_row _ _ _ _ _ _ HH2.out.2.1).trans h
   have m3 := mc 3 (.int .u32 (m.link : Int)) rfl
   clear HBD HK HG HM HS hlk h3 hlf c9 c50 c204 mc
   go_wp2_with (refine wpList_store_spot rfl (.tmp 5) (.tmp 35) rfl (w.heap.size + 1) 20 7 _ rfl rfl R2 rfl ?_)
   refine bodyPost_ret (v := .tuple #[.slice none 0 0, .agg (scells 20 7).toArray]) ?_ rfl ?_
   ·
    exact results_tmp_cell_row Tryz.results18 _ _ (w.heap.size + 1) 30 _ _ _ rfl (setRow_heap _ _ _ _ _ _ R2) Tryz.underlying30 rfl infoSpot
   ·
    rw [hZ.out]
    exact ⟨_, rfl, its_none _ _ _, below_setRow b02 (by omega) _⟩
 ·
  have hZ := HBD.out he
  have i1 : ((er : Int) != 0) = true := by simp; omega
  have i2 : ¬ (er : Int) = 0 := by omega
  clear HK HG HM HS HBD
  go_wp2_with fail
  generalize (w1.alloc (.cells #[.bool m.big, .bool m.nano, .int .u32 (m.snap : Int), .int .u32 (m.link : Int)] 64)).alloc (.cells #[.int .i64 (s : Int), .int .i64 (er : Int)] 30) = W2 at *
  have b02 := HB0.out.trans ((HB1.out.trans (HH2.out.1.mono hsz1)).mono HB0.out.size)
  have R2 := block_next (block_next HR0.out HB1.out) HH2.out.1
  have F2 := HH2.out.2.2.1
  have hS : W2.drew.heap[w1.heap.size + 1]? = some (.cells (scells s er).toArray 30 (0, 0)) ∧ W2.drew.heap[w.heap.size + 1]? = some (.cells #[.int .i64 0, .int .i64 0] 30 (0, 0)) := ⟨F2, R2⟩
  have bW : Below w.heap.size w W2.drew := b02.drew
  refine held_start (S := fun W => W.heap[w1.heap.size + 1]? = some (.cells (scells s er).toArray 30 (0, 0))) 3 (by kernel_rfl) rfl ?_
  generalize W2.drew = w4 at hS bW ⊢
  have hS1 := hS.1
  refine held_take 0 (v := .agg (scells s er).toArray) rfl (by kernel_rfl) (by kernel_rfl) (by kernel_rfl) (fun _ _ _ h => h) (by assumption) (by rfl) (fun W hW => run_load_spot (.tmp 8) rfl _ rfl s er hW) ?_
  simp only [Act.put, List.setIfInBounds_toArray, List.set_cons_zero, List.set_cons_succ]
  refine held_take 1 (v := ?_) rfl (by kernel_rfl) (by kernel_rfl) (by kernel_rfl) (fun _ _ _ h => h) (by assumption) (by rfl) ?_ ?_
  rotate_left
  ·
   (intro W hW; go_simp; try with_reducible rfl)
  simp only [Act.put, List.setIfInBounds_toArray, List.set_cons_zero, List.set_cons_succ]
  refine held_alone 2 (w' := w4.setRow (w.heap.size + 1) (scells s er).toArray) rfl (by kernel_rfl) (by rfl) (run_store_spot (.tmp 5) (.tmp 21) rfl (w.heap.size + 1) s er _ rfl rfl hS.2 rfl) (by rw [setRow_other _ _ _ _ (by omega)]; exact hS1) ?_
  simp only [Act.put]
  refine held_done (by kernel_rfl) ?_
  go_wp2
  refine bodyPost_ret (v := .tuple #[.slice none 0 0, .agg (scells s er).toArray]) ?_ rfl ?_
  ·
   exact results_tmp_cell_row Tryz.results18 _ _ (w.heap.size + 1) 30 _ _ _ rfl (setRow_heap _ _ _ _ _ _ hS.2) Tryz.underlying30 rfl infoSpot
  ·
   rw [hZ]
   exact ⟨_, rfl, its_none _ _ _, below_setRow bW (by omega) _⟩
end Go.Proofs.YtbbnkmhlgfoacaaGreatDoor
