/- The law of what follows. -/
import Derived.Test.YtacnlancncmpmaaReadsWalk
import Derived.Test.YtacnlancncmpmaaUb
import Derived.Test.YtacnlancncmpmaaOj
import Derived.Deep.CutRange
namespace Go.Proofs.Ytacnlancncmpmaa
open Go.RowKit Go.Maps S2 S12

theorem Ad.read_back (P : Int) {t : T} (h : may P t = true) : read P (opts t) = (t, true) := by
  obtain ⟨_, h1, h2⟩ := (put_may P t).2 h
  rw [read_yes P h1, h2]
theorem mended_small (P : Int) (L : List Ot.O) (hd : ∀ x ∈ L, x.data.length ≤ 300000) (hw : ∀ x ∈ L, (Lit.int .i64 x.ty).wf = true) : ∀ x ∈ Ad.mended P L ++ Ad.changed P L, x.data.length ≤ 300000 ∧ (Lit.int .i64 x.ty).wf = true := by
  intro x hx
  simp only [List.mem_append] at hx
  rcases hx with hx | hx
  · have := (Ot.left_sub _ L 0).subset hx
    exact ⟨hd x this, hw x this⟩
  · obtain ⟨y, hy, rfl⟩ := List.mem_map.1 hx
    have := (Ot.left_sub _ L 0).subset hy
    refine ⟨?_, hw y this⟩
    have := Ad.usualD_le y.ty
    show (Ad.usualD y.ty).length ≤ _
    omega

set_option maxRecDepth 100000 in
set_option maxHeartbeats 2000000 in
theorem back_walk (P : Int) (t : Ad.T) (a : Option Addr) (n cap : Nat) (L : List Ot.O) (w : World) (hL : L.length = n) (hc : n ≤ cap) (hw : ∀ x ∈ L, (Lit.int .i64 x.ty).wf = true) (h : OptsAt w a L) :
    Calls Try.prog 7 #[.int .i64 P, .agg (acells t).toArray, .slice a n cap] w fun e w' => e = .returned (.bool true) ∧ Below w.heap.size w w' := by
  have T0 : Hid (TmAt (w.alloc (.cells (acells t).toArray 35)) w.heap.size t) := heap_alloc_new w _
  have B0 := Lib.hid (below_one w (.cells (acells t).toArray 35))
  have H := Lib.hid h
  have HL := Lib.hid hL
  have HW := Lib.hid hw
  clear h hL hw
  by_cases hf : Ot.few L = true
  · obtain ⟨hn, hd⟩ := few_small hf
    have hn2 : n ≤ 50 := by have := HL.out; omega
    have HF := Lib.hid hf
    have HD := Lib.hid hd
    clear hf hn hd
    by_cases hy : Ad.may P t = true
    · have HP := Lib.hid (Ad.put_yes P hy)
      have HRB := Lib.hid (Ad.read_back P hy)
      clear hy
      go_enter Try.func7, Try.ntmps7
      go_wp2_with fail
      refine (awake_any _).mono ?_
      rintro e w1 ⟨rfl, b1⟩
      have B1 := Lib.hid (Below.chain B0.out b1)
      have T1 := Lib.hid (T0.out.next b1)
      clear b1 B0 T0
      go_wp2_with fail
      refine (few_any a n cap L w1 HL.out (H.out.next B1.out)).mono ?_
      rintro e w2 ⟨rfl, h2⟩; rw [h2]; clear h2
      rw [HF.out]
      go_wp2_with (refine wpList_load_row rfl 35 (.tmp 4) rfl w.heap.size rfl 35 (acells t).toArray (0, 0) _ T1.out Try.underlying35 rfl infoAd ?_)
      have C1 := Lib.hid (put_any P t w1)
      rw [HP.out] at C1
      refine C1.out.mono ?_
      rintro e w2 ⟨v, rfl, o2, b2⟩
      have B2 := Lib.hid (Below.chain B1.out b2)
      have T2 := Lib.hid (T1.out.next b2)
      obtain ⟨ap, cp, rfl, hp⟩ := o2.at
      have P2 := Lib.hid hp
      clear b2 B1 T1 o2 hp C1
      obtain ⟨nl, hnl⟩ : ∃ nl, (Ad.opts t).length = nl := ⟨_, rfl⟩
      have HNL := Lib.hid hnl
      have hnl7 : nl ≤ 7 := by have := Ad.opts_le t; omega
      simp only [hnl]
      clear hnl
      have C2 := Lib.hid (read_any P ap nl cp (Ad.opts t) w2 HNL.out (by omega) (opts_wf t) P2.out)
      rw [HRB.out] at C2
      go_wp2_with fail
      refine C2.out.mono ?_
      rintro e w3 ⟨rfl, b3⟩
      have B3 := Lib.hid (Below.chain B2.out b3)
      have T3 := Lib.hid (T2.out.next b3)
      have bt := below_one w3 (.cells (acells Ad.z).toArray 35)
      have GZ := Lib.hid (heap_alloc_new w3 (.cells (acells Ad.z).toArray 35))
      have hs3 := B3.out.size
      have b4 := below_setRow bt (Nat.le_refl _) (acells t).toArray
      have U4 : Hid (TmAt ((w3.alloc (.cells (acells Ad.z).toArray 35)).setRow w3.heap.size (acells t).toArray) w3.heap.size t) := setRow_heap _ _ _ _ _ _ GZ.out
      have T4 := Lib.hid (T3.out.next b4)
      have BX := Lib.hid (Below.chain B3.out b4)
      clear bt b3 b4 B2 T2 P2 B3 T3 C2
      go_upto_region 6 with (refine wpList_store_ad rfl _ _ rfl w3.heap.size t _ rfl rfl GZ.out rfl ?_; show wpList _ _ _ _ _ ((w3.alloc (.cells (acells Ad.z).toArray 35)).setRow w3.heap.size (acells t).toArray); generalize (w3.alloc (.cells (acells Ad.z).toArray 35)).setRow w3.heap.size (acells t).toArray = wx at U4 T4 BX ⊢)
      generalize w3.heap.size = g at *
      clear GZ
      have C4 := Lib.hid (bad_any P a n cap L wx HL.out (by omega) HD.out HW.out (H.out.next BX.out))
      have hx1 : (Ad.away P L).length ≤ 50 := by have := Ad.away_le P L n; rw [Ad.away_all P (by rw [HL.out]; exact Nat.le_refl _)] at this; omega
      have hx2 : (Ad.changed P L).length ≤ 50 := by have := Ad.changed_le P L n; rw [Ad.changed_all P (by rw [HL.out]; exact Nat.le_refl _)] at this; omega
      obtain ⟨na, hna⟩ : ∃ na, (Ad.away P L).length = na := ⟨_, rfl⟩
      obtain ⟨nc, hnc⟩ : ∃ nc, (Ad.changed P L).length = nc := ⟨_, rfl⟩
      have HNA := Lib.hid hna
      have HNC := Lib.hid hnc
      rw [hna] at hx1
      rw [hnc] at hx2
      clear hna hnc
      go_wp2_with (first
        | (refine wpList_value (by rfl) (run_load_arr (.tmp 9) rfl g 0 rfl (acells t) _ Try.underlying35 rfl infoAd (range_block U4.out)) ?_)
        | (refine wpList_value (by rfl) (run_load_arr (.tmp 4) rfl w.heap.size 0 rfl (acells t) _ Try.underlying35 rfl infoAd (range_block T4.out)) ?_)
        | (refine wpList_value (by rfl) (run_neq_same (.tmp 43) (.tmp 44) rfl t rfl rfl _) ?_))
      clear U4 T4
      refine C4.out.mono ?_
      rintro e wy ⟨u, v, rfl, ou, ov, by'⟩
      obtain ⟨aa, ca, ea, ha⟩ := ou.at
      rw [HNA.out] at ea
      subst ea
      obtain ⟨ac, cc, ec⟩ := opts_slice ov
      rw [HNC.out] at ec
      subst ec
      have BY := Lib.hid (Below.chain BX.out by')
      have AY := Lib.hid ha
      have OV := Lib.hid ov
      have sxy := by'.size
      have hsx := BX.out.size
      clear ou ov ha by' C4 BX
      have C5 := Lib.hid (read_any P a n cap L wy HL.out (by omega) HW.out (H.out.next BY.out))
      have HK := Lib.hid (Ad.okl_count P L)
      have HRL : Hid ((Ad.read P L).2 = Ad.oklB P L) := by
        show _ = _
        by_cases e : Ad.okl P L
        · rw [Ad.read_yes P e]; exact (decide_eq_true (p := (∀ x ∈ L, Ad.right P x = true) ∧ (L.map Ot.O.ty).Nodup) e).symm
        · rw [Ad.read_no P e]; exact (decide_eq_false (p := (∀ x ∈ L, Ad.right P x = true) ∧ (L.map Ot.O.ty).Nodup) e).symm
      obtain ⟨R, hR⟩ : ∃ R, Ad.read P L = R := ⟨_, rfl⟩
      rw [hR] at C5 HRL
      clear hR
      go_wp2_with fail
      refine C5.out.mono ?_
      rintro e wz ⟨rfl, bz⟩
      rw [HRL.out, HK.out, HNA.out, HNC.out]
      obtain ⟨ba, hba⟩ : ∃ b, decide (na = 0) = b := ⟨_, rfl⟩
      obtain ⟨bb, hbb⟩ : ∃ b, decide (nc = 0) = b := ⟨_, rfl⟩
      rw [hba, hbb]
      have i1 : ((na : Int) == 0) = ba := by rw [← hba]; exact lit_dec na 0
      have i2 : ((nc : Int) == 0) = bb := by rw [← hbb]; exact lit_dec nc 0
      clear hba hbb
      have BZ := Lib.hid (Below.chain BY.out bz)
      have AZ := Lib.hid (AY.out.next bz)
      have OZ := Lib.hid (OV.out.next bz)
      have bt := below_one wz (.cells (acells Ad.z).toArray 35)
      have GZ := Lib.hid (heap_alloc_new wz (.cells (acells Ad.z).toArray 35))
      have hsz := BZ.out.size
      have sxz := Nat.le_trans sxy bz.size
      have B6 := Lib.hid (below_setRow (Below.chain BZ.out bt) hsz (acells R.1).toArray)
      have A6 := Lib.hid (AZ.out.next (below_setRow bt (Nat.le_refl _) (acells R.1).toArray))
      have O6 := Lib.hid (OZ.out.next (below_setRow bt (Nat.le_refl _) (acells R.1).toArray))
      have s6 := (below_setRow bt (Nat.le_refl _) (acells R.1).toArray).size
      clear bt bz BY AY OV BZ AZ OZ C5 HRL
      go_upto_region 10 with (refine wpList_store_ad rfl _ _ rfl wz.heap.size R.1 _ rfl rfl GZ.out rfl ?_; show wpList _ _ _ _ _ ((wz.alloc (.cells (acells Ad.z).toArray 35)).setRow wz.heap.size (acells R.1).toArray); generalize (wz.alloc (.cells (acells Ad.z).toArray 35)).setRow wz.heap.size (acells R.1).toArray = ws at A6 O6 B6 s6 ⊢)
      have CW := Lib.hid (refWithin_any aa a na n ca cap (Ad.away P L) L ws HNA.out HL.out (by omega) (by omega) A6.out (H.out.next B6.out))
      rw [Ad.away_within P L] at CW
      generalize wz.heap.size = gz at *
      clear A6 GZ
      go_cut [14, 74] from 59 (fun _ x wv => x = .bool false ∧ Hid (Below ws.heap.size ws wv))
      case first =>
        cases ba <;> cases bb <;> (go_wp2_with (refine CW.out.mono ?_; rintro e wv ⟨rfl, bv⟩); go_meet; case rel => exact ⟨rfl, bv⟩)
      case rest =>
        obtain ⟨rfl, BV⟩ := hcut
        obtain ⟨wv, hwv⟩ : ∃ x, x = wc := ⟨_, rfl⟩
        rw [← hwv] at BV ⊢
        have BVV := Lib.hid (Below.chain B6.out BV.out)
        have OV2 := Lib.hid (O6.out.next BV.out)
        have sxv := Nat.le_trans (Nat.le_trans sxz s6) BV.out.size
        clear hwv BV B6 O6 CW s6 sxz sxy
        go_wp2
        go_loopw [15, 16] (fun v i wr => ∃ k : Nat, i = .int .i64 (k : Int) ∧ k ≤ n ∧ Hid (Lopts True wr w wv.heap.size v (Ad.mendedTo P L k)) ∧ Below wv.heap.size wv wr) (fun _ i _ => n - (intOf i).toNat)
        case atStart => exact ⟨0, rfl, Nat.zero_le _, by rw [Ad.mended_nil P]; exact lopts_none _ _ _ _, Below.refl _ _⟩
        case round =>
          obtain ⟨k, rfl, hk, HMM, hbw⟩ := hrel
          by_cases hlt : (k : Int) < (n : Int)
          · have hkc : k ≤ cap := by omega
            have hkn : k < n := by omega
            have hkL : k < L.length := by rw [HL.out]; omega
            obtain ⟨b, off, q, d, rfl, r1, hb1⟩ := H.out.at k hkL
            have HFF := Lib.hid (Ad.first_iff hkL)
            have HMD := Lib.hid (Ad.arm_mend P hkL)
            have HLV := Lib.hid (Ad.arm_leave P hkL)
            have hml := Ad.mended_le P L k
            have hwx := Lib.hid (HW.out L[k] (List.getElem_mem hkL))
            have hdx := HD.out L[k] (List.getElem_mem hkL)
            have hxf : Ad.first L k = false → ∃ x ∈ L.take k, x.ty = L[k].ty := fun e => by
              by_cases hx : ∃ x ∈ L.take k, x.ty = L[k].ty
              · exact hx
              · rw [(Ad.first_iff hkL).2 (fun x hm e' => hx ⟨x, hm, e'⟩)] at e; cases e
            generalize L[k] = r at *
            generalize Ad.first L k = fi at *
            generalize Ad.mendedTo P L k = ML at *
            obtain ⟨m, hmm⟩ : ∃ m, r.data.length = m := ⟨_, rfl⟩
            rw [hmm] at hdx
            have BWR := Lib.hid (Below.chain BVV.out hbw)
            have rng := (r1.next hb1 BWR.out).range
            rw [hmm] at rng
            have R1 := Lib.hid r1.row
            have HMX := Lib.hid hmm
            have hbr : b < wr.heap.size := Nat.lt_of_lt_of_le hb1 BWR.out.size
            go_wp2_with fail
            have hS : wr.drew.rangeAt b (off + k * 2) (ocells r (.slice q m d)) := rng
            have BD := Lib.hid BWR.out.drew
            have bd : Below wv.heap.size wv wr.drew := hbw.drew
            have MD := Lib.hid (HMM.out.next (Below.refl _ wr).drew)
            have hbd : b < wr.drew.heap.size := hbr
            refine held_start (S := fun W => W.rangeAt b (off + k * 2) (ocells r (.slice q m d))) 18 (by kernel_rfl) rfl ?_
            generalize wr.drew = WD at *
            clear rng hbr HMM BWR hbw r1 hmm
            refine held_take 0 (v := ?_) rfl (by kernel_rfl) (by kernel_rfl) (by kernel_rfl) (fun _ _ _ h => h) (by assumption) (by rfl) ?_ ?_
            rotate_left
            · (intro W hW; go_simp; try with_reducible rfl)
            simp only [Act.put, List.setIfInBounds_toArray, List.set_cons_zero, List.set_cons_succ]
            refine held_take 1 (v := ?_) rfl (by kernel_rfl) (by kernel_rfl) (by kernel_rfl) (fun _ _ _ h => h) (by assumption) (by rfl) ?_ ?_
            rotate_left
            · (intro W hW; go_simp; try with_reducible rfl)
            simp only [Act.put, List.setIfInBounds_toArray, List.set_cons_zero, List.set_cons_succ]
            refine held_take 2 (v := ?_) rfl (by kernel_rfl) (by kernel_rfl) (by kernel_rfl) (fun _ _ _ h => h) (by assumption) (by rfl) ?_ ?_
            rotate_left
            · (intro W hW; go_simp; try with_reducible rfl)
            simp only [Act.put, List.setIfInBounds_toArray, List.set_cons_zero, List.set_cons_succ]
            refine held_take 3 (v := ?_) rfl (by kernel_rfl) (by kernel_rfl) (by kernel_rfl) (fun _ _ _ h => h) (by assumption) (by rfl) ?_ ?_
            rotate_left
            · (intro W hW; go_simp; try with_reducible rfl)
            simp only [Act.put, List.setIfInBounds_toArray, List.set_cons_zero, List.set_cons_succ]
            refine held_take 4 (v := .agg (ocells r (.slice q m d)).toArray) rfl (by kernel_rfl) (by kernel_rfl) (by kernel_rfl) (fun _ _ _ h => h) (by assumption) (by rfl) (fun W hW => run_load_mid (.tmp 84) rfl b (off + k * 2) rfl r q m d hW) ?_
            simp only [Act.put, List.setIfInBounds_toArray, List.set_cons_zero, List.set_cons_succ]
            refine held_call 5 (f := 12) (args := #[.int .i64 P, .agg (ocells r (.slice q m d)).toArray]) rfl (by kernel_rfl) (by rfl) (by go_simp) ?_
            refine (right_any P r q m d WD HMX.out (R1.out.next BD.out)).mono ?_
            rintro e wq ⟨rfl, bq⟩
            have hSq : wq.rangeAt b (off + k * 2) (ocells r (.slice q m d)) := range_next hS hbd bq
            refine ⟨_, rfl, hSq, ?_⟩
            simp only [Act.put, List.setIfInBounds_toArray, List.set_cons_zero, List.set_cons_succ]
            have BQ := Lib.hid (Below.chain BD.out bq)
            have bqv := Lib.hid (Below.chain bd bq)
            have MQ := Lib.hid (MD.out.next bq)
            clear hS hbd bq bd BD MD
            by_cases hr : Ad.right P r = true
            · rw [hr]
              cases hfv : fi with
              | true =>
                have hff := HFF.out.1 hfv
                have HJ := Lib.hid (find_first (some ⟨b, off, none⟩) k cap (L.take k) r.ty wq (by rw [List.length_take]; omega) (by omega) ((H.out.next BQ.out).take k) hff)
                have HE := Lib.hid (HMD.out hr hfv)
                clear hff hxf hfv HFF HMD HLV hr
                refine held_take 6 (v := ?_) rfl (by kernel_rfl) (by kernel_rfl) (by kernel_rfl) (fun _ _ _ h => h) (by assumption) (by rfl) ?_ ?_
                rotate_left
                · (intro W hW; go_simp; try with_reducible rfl)
                simp only [Act.put, List.setIfInBounds_toArray, List.set_cons_zero, List.set_cons_succ]
                refine held_take 7 (v := ?_) rfl (by kernel_rfl) (by kernel_rfl) (by kernel_rfl) (fun _ _ _ h => h) (by assumption) (by rfl) ?_ ?_
                rotate_left
                · (intro W hW; go_simp; try with_reducible rfl)
                simp only [Act.put, List.setIfInBounds_toArray, List.set_cons_zero, List.set_cons_succ]
                refine held_take 8 (v := ?_) rfl (by kernel_rfl) (by kernel_rfl) (by kernel_rfl) (fun _ _ _ h => h) (by assumption) (by rfl) ?_ ?_
                rotate_left
                · (intro W hW; go_simp; try with_reducible rfl)
                simp only [Act.put, List.setIfInBounds_toArray, List.set_cons_zero, List.set_cons_succ]
                refine held_take 9 (v := ?_) rfl (by kernel_rfl) (by kernel_rfl) (by kernel_rfl) (fun _ _ _ h => h) (by assumption) (by rfl) ?_ ?_
                rotate_left
                · (intro W hW; go_simp; try with_reducible rfl)
                simp only [Act.put, List.setIfInBounds_toArray, List.set_cons_zero, List.set_cons_succ]
                refine held_take 10 (v := ?_) rfl (by kernel_rfl) (by kernel_rfl) (by kernel_rfl) (fun _ _ _ h => h) (by assumption) (by rfl) ?_ ?_
                rotate_left
                · (intro W hW; go_simp; try with_reducible rfl)
                simp only [Act.put, List.setIfInBounds_toArray, List.set_cons_zero, List.set_cons_succ]
                refine held_take 11 (v := ?_) rfl (by kernel_rfl) (by kernel_rfl) (by kernel_rfl) (fun _ _ _ h => h) (by assumption) (by rfl) ?_ ?_
                rotate_left
                · (intro W hW; go_simp; try with_reducible rfl)
                simp only [Act.put, List.setIfInBounds_toArray, List.set_cons_zero, List.set_cons_succ]
                refine held_take 12 (v := ?_) rfl (by kernel_rfl) (by kernel_rfl) (by kernel_rfl) (fun _ _ _ h => h) (by assumption) (by rfl) ?_ ?_
                rotate_left
                · (intro W hW; go_simp; try with_reducible rfl)
                simp only [Act.put, List.setIfInBounds_toArray, List.set_cons_zero, List.set_cons_succ]
                refine held_take 13 (v := ?_) rfl (by kernel_rfl) (by kernel_rfl) (by kernel_rfl) (fun _ _ _ h => h) (by assumption) (by rfl) ?_ ?_
                rotate_left
                · (intro W hW; go_simp; try with_reducible rfl)
                simp only [Act.put, List.setIfInBounds_toArray, List.set_cons_zero, List.set_cons_succ]
                refine held_take 14 (v := ?_) rfl (by kernel_rfl) (by kernel_rfl) (by kernel_rfl) (fun _ _ _ h => h) (by assumption) (by rfl) ?_ ?_
                rotate_left
                · (intro W hW; have e0 : W.cell? ⟨b, off + k * 2, none⟩ = some (.int .i64 r.ty) := hW 0 _ rfl; go_simp; try with_reducible rfl)
                simp only [Act.put, List.setIfInBounds_toArray, List.set_cons_zero, List.set_cons_succ]
                refine held_call 15 (f := 24) (args := #[.slice (some ⟨b, off, none⟩) k cap, .int .i64 r.ty]) rfl (by kernel_rfl) (by rfl) (by go_simp) ?_
                refine HJ.out.mono ?_
                rintro e w2 ⟨rfl, h2⟩; rw [h2]; clear h2
                refine ⟨_, rfl, hSq, ?_⟩
                simp only [Act.put, List.setIfInBounds_toArray, List.set_cons_zero, List.set_cons_succ]
                refine held_take 16 (v := ?_) rfl (by kernel_rfl) (by kernel_rfl) (by kernel_rfl) (fun _ _ _ h => h) (by assumption) (by rfl) ?_ ?_
                rotate_left
                · (intro W hW; go_simp; try with_reducible rfl)
                simp only [Act.put, List.setIfInBounds_toArray, List.set_cons_zero, List.set_cons_succ]
                refine held_take 17 (v := ?_) rfl (by kernel_rfl) (by kernel_rfl) (by kernel_rfl) (fun _ _ _ h => h) (by assumption) (by rfl) ?_ ?_
                rotate_left
                · (intro W hW; go_simp; try with_reducible rfl)
                simp only [Act.put, List.setIfInBounds_toArray, List.set_cons_zero, List.set_cons_succ]
                refine held_done (by kernel_rfl) ?_
                have RG := Lib.hid hSq
                have G7 := Lib.hid (heap_alloc_new wq (.cells #[.int .i64 r.ty, .slice q m d] 24))
                have b7 := below_one wq (.cells #[.int .i64 r.ty, .slice q m d] 24)
                have M7 := Lib.hid (MQ.out.next b7)
                have D7 : Hid (DataIs True (wq.alloc (.cells #[.int .i64 r.ty, .slice q m d] 24)) w wv.heap.size (.slice q m d) r.data) := .inr ⟨trivial, q, d, by rw [HMX.out], R1.out⟩
                have Q7 := Lib.hid (Below.chain bqv.out b7)
                have s7 := Lib.hid Q7.out.size
                have ML7 := Lib.hid M7.out.lt
                clear b7 hSq MQ bqv BQ HJ R1
                go_wp2_with (first
                  | (refine wpList_load_mid rfl 24 (.tmp 102) rfl b (off + k * 2) rfl (ocells r (.slice q m d)) _ RG.out Try.underlying24 rfl (infoOptN _ _) ?_; simp only [ocells])
                  | (at_builtin; refine wpList_append_lopts rfl (.tmp 99) (.tmp 104) rfl wv.heap.size _ ML r (.slice q m d) wq.heap.size rfl rfl M7.out D7.out G7.out s7.out (by omega) ?_; intro v8 w8 L8 g8 x8))
                go_roundw
                case rel =>
                  refine ⟨k + 1, by simp, by omega, ?_, Below.grown Q7.out g8 s7.out (fun j hj => (ML7.out j hj).1)⟩
                  show Lopts _ _ _ _ _ _
                  rw [HE.out]; exact L8
                case measure => simp [intOf]; omega
              | false =>
                obtain ⟨j, hj⟩ := find_again (L.take k) r.ty (hxf hfv)
                have HJ := Lib.hid (hj (some ⟨b, off, none⟩) k cap wq (by rw [List.length_take]; omega) (by omega) ((H.out.next BQ.out).take k))
                have HE := Lib.hid (HLV.out (.inr hfv))
                clear hj hxf hfv HFF HMD HLV hr
                refine held_take 6 (v := ?_) rfl (by kernel_rfl) (by kernel_rfl) (by kernel_rfl) (fun _ _ _ h => h) (by assumption) (by rfl) ?_ ?_
                rotate_left
                · (intro W hW; go_simp; try with_reducible rfl)
                simp only [Act.put, List.setIfInBounds_toArray, List.set_cons_zero, List.set_cons_succ]
                refine held_take 7 (v := ?_) rfl (by kernel_rfl) (by kernel_rfl) (by kernel_rfl) (fun _ _ _ h => h) (by assumption) (by rfl) ?_ ?_
                rotate_left
                · (intro W hW; go_simp; try with_reducible rfl)
                simp only [Act.put, List.setIfInBounds_toArray, List.set_cons_zero, List.set_cons_succ]
                refine held_take 8 (v := ?_) rfl (by kernel_rfl) (by kernel_rfl) (by kernel_rfl) (fun _ _ _ h => h) (by assumption) (by rfl) ?_ ?_
                rotate_left
                · (intro W hW; go_simp; try with_reducible rfl)
                simp only [Act.put, List.setIfInBounds_toArray, List.set_cons_zero, List.set_cons_succ]
                refine held_take 9 (v := ?_) rfl (by kernel_rfl) (by kernel_rfl) (by kernel_rfl) (fun _ _ _ h => h) (by assumption) (by rfl) ?_ ?_
                rotate_left
                · (intro W hW; go_simp; try with_reducible rfl)
                simp only [Act.put, List.setIfInBounds_toArray, List.set_cons_zero, List.set_cons_succ]
                refine held_take 10 (v := ?_) rfl (by kernel_rfl) (by kernel_rfl) (by kernel_rfl) (fun _ _ _ h => h) (by assumption) (by rfl) ?_ ?_
                rotate_left
                · (intro W hW; go_simp; try with_reducible rfl)
                simp only [Act.put, List.setIfInBounds_toArray, List.set_cons_zero, List.set_cons_succ]
                refine held_take 11 (v := ?_) rfl (by kernel_rfl) (by kernel_rfl) (by kernel_rfl) (fun _ _ _ h => h) (by assumption) (by rfl) ?_ ?_
                rotate_left
                · (intro W hW; go_simp; try with_reducible rfl)
                simp only [Act.put, List.setIfInBounds_toArray, List.set_cons_zero, List.set_cons_succ]
                refine held_take 12 (v := ?_) rfl (by kernel_rfl) (by kernel_rfl) (by kernel_rfl) (fun _ _ _ h => h) (by assumption) (by rfl) ?_ ?_
                rotate_left
                · (intro W hW; go_simp; try with_reducible rfl)
                simp only [Act.put, List.setIfInBounds_toArray, List.set_cons_zero, List.set_cons_succ]
                refine held_take 13 (v := ?_) rfl (by kernel_rfl) (by kernel_rfl) (by kernel_rfl) (fun _ _ _ h => h) (by assumption) (by rfl) ?_ ?_
                rotate_left
                · (intro W hW; go_simp; try with_reducible rfl)
                simp only [Act.put, List.setIfInBounds_toArray, List.set_cons_zero, List.set_cons_succ]
                refine held_take 14 (v := ?_) rfl (by kernel_rfl) (by kernel_rfl) (by kernel_rfl) (fun _ _ _ h => h) (by assumption) (by rfl) ?_ ?_
                rotate_left
                · (intro W hW; have e0 : W.cell? ⟨b, off + k * 2, none⟩ = some (.int .i64 r.ty) := hW 0 _ rfl; go_simp; try with_reducible rfl)
                simp only [Act.put, List.setIfInBounds_toArray, List.set_cons_zero, List.set_cons_succ]
                refine held_call 15 (f := 24) (args := #[.slice (some ⟨b, off, none⟩) k cap, .int .i64 r.ty]) rfl (by kernel_rfl) (by rfl) (by go_simp) ?_
                refine HJ.out.mono ?_
                rintro e w2 ⟨rfl, h2⟩; rw [h2]; clear h2
                refine ⟨_, rfl, hSq, ?_⟩
                simp only [Act.put, List.setIfInBounds_toArray, List.set_cons_zero, List.set_cons_succ]
                refine held_take 16 (v := ?_) rfl (by kernel_rfl) (by kernel_rfl) (by kernel_rfl) (fun _ _ _ h => h) (by assumption) (by rfl) ?_ ?_
                rotate_left
                · (intro W hW; go_simp; try with_reducible rfl)
                simp only [Act.put, List.setIfInBounds_toArray, List.set_cons_zero, List.set_cons_succ]
                refine held_take 17 (v := ?_) rfl (by kernel_rfl) (by kernel_rfl) (by kernel_rfl) (fun _ _ _ h => h) (by assumption) (by rfl) ?_ ?_
                rotate_left
                · (intro W hW; go_simp; try with_reducible rfl)
                simp only [Act.put, List.setIfInBounds_toArray, List.set_cons_zero, List.set_cons_succ]
                refine held_done (by kernel_rfl) ?_
                clear hSq HJ
                go_wp2
                go_roundw
                case rel =>
                  refine ⟨k + 1, by simp, by omega, ?_, bqv.out⟩
                  show Lopts _ _ _ _ _ _
                  rw [HE.out]; exact MQ.out
                case measure => simp [intOf]; omega
            · rw [Bool.not_eq_true] at hr
              have HE := Lib.hid (HLV.out (.inl hr))
              rw [hr]
              clear hxf HFF HMD HLV hr
              refine held_take 6 (v := ?_) rfl (by kernel_rfl) (by kernel_rfl) (by kernel_rfl) (fun _ _ _ h => h) (by assumption) (by rfl) ?_ ?_
              rotate_left
              · (intro W hW; go_simp; try with_reducible rfl)
              simp only [Act.put, List.setIfInBounds_toArray, List.set_cons_zero, List.set_cons_succ]
              refine held_skip 7 rfl (by kernel_rfl) (by kernel_rfl) (by kernel_rfl) (fun _ _ _ h => h) (by assumption) (by rfl) ?_
              simp only [Act.put, List.setIfInBounds_toArray, List.set_cons_zero, List.set_cons_succ]
              refine held_skip 8 rfl (by kernel_rfl) (by kernel_rfl) (by kernel_rfl) (fun _ _ _ h => h) (by assumption) (by rfl) ?_
              simp only [Act.put, List.setIfInBounds_toArray, List.set_cons_zero, List.set_cons_succ]
              refine held_skip 9 rfl (by kernel_rfl) (by kernel_rfl) (by kernel_rfl) (fun _ _ _ h => h) (by assumption) (by rfl) ?_
              simp only [Act.put, List.setIfInBounds_toArray, List.set_cons_zero, List.set_cons_succ]
              refine held_skip 10 rfl (by kernel_rfl) (by kernel_rfl) (by kernel_rfl) (fun _ _ _ h => h) (by assumption) (by rfl) ?_
              simp only [Act.put, List.setIfInBounds_toArray, List.set_cons_zero, List.set_cons_succ]
              refine held_skip 11 rfl (by kernel_rfl) (by kernel_rfl) (by kernel_rfl) (fun _ _ _ h => h) (by assumption) (by rfl) ?_
              simp only [Act.put, List.setIfInBounds_toArray, List.set_cons_zero, List.set_cons_succ]
              refine held_skip 12 rfl (by kernel_rfl) (by kernel_rfl) (by kernel_rfl) (fun _ _ _ h => h) (by assumption) (by rfl) ?_
              simp only [Act.put, List.setIfInBounds_toArray, List.set_cons_zero, List.set_cons_succ]
              refine held_skip 13 rfl (by kernel_rfl) (by kernel_rfl) (by kernel_rfl) (fun _ _ _ h => h) (by assumption) (by rfl) ?_
              simp only [Act.put, List.setIfInBounds_toArray, List.set_cons_zero, List.set_cons_succ]
              refine held_skip 14 rfl (by kernel_rfl) (by kernel_rfl) (by kernel_rfl) (fun _ _ _ h => h) (by assumption) (by rfl) ?_
              simp only [Act.put, List.setIfInBounds_toArray, List.set_cons_zero, List.set_cons_succ]
              refine held_skip 15 rfl (by kernel_rfl) (by kernel_rfl) (by kernel_rfl) (fun _ _ _ h => h) (by assumption) (by rfl) ?_
              simp only [Act.put, List.setIfInBounds_toArray, List.set_cons_zero, List.set_cons_succ]
              refine held_skip 16 rfl (by kernel_rfl) (by kernel_rfl) (by kernel_rfl) (fun _ _ _ h => h) (by assumption) (by rfl) ?_
              simp only [Act.put, List.setIfInBounds_toArray, List.set_cons_zero, List.set_cons_succ]
              refine held_take 17 (v := ?_) rfl (by kernel_rfl) (by kernel_rfl) (by kernel_rfl) (fun _ _ _ h => h) (by assumption) (by rfl) ?_ ?_
              rotate_left
              · (intro W hW; go_simp; try with_reducible rfl)
              simp only [Act.put, List.setIfInBounds_toArray, List.set_cons_zero, List.set_cons_succ]
              refine held_done (by kernel_rfl) ?_
              clear hSq
              go_wp2
              go_roundw
              case rel =>
                refine ⟨k + 1, by simp, by omega, ?_, bqv.out⟩
                show Lopts _ _ _ _ _ _
                rw [HE.out]; exact MQ.out
              case measure => simp [intOf]; omega
          · have hk2 : L.length ≤ k := by rw [HL.out]; omega
            rw [Ad.mended_all P hk2] at HMM
            have hcount := Ad.counted P L
            rw [HNA.out, HNC.out, HL.out] at hcount
            have HSM := Lib.hid (mended_small P L HD.out HW.out)
            have HMR := Lib.hid (Ad.read_yes P (Ad.mended_right P L))
            obtain ⟨am, cm, em⟩ := HMM.out.slice
            obtain ⟨nm, hnm⟩ : ∃ nm, (Ad.mended P L).length = nm := ⟨_, rfl⟩
            rw [hnm] at em hcount
            subst em
            have HNM := Lib.hid hnm
            have M8 := Lib.hid (HMM.out.lower (B' := wx.heap.size) sxv)
            have O8 := Lib.hid (OV2.out.next (hbw.mono (Nat.le_refl _)))
            have B8 := Lib.hid (Below.chain BVV.out hbw)
            have s8 : wx.heap.size ≤ wr.heap.size := Nat.le_trans sxv hbw.size
            have hlm : (Ad.mended P L).length + (Ad.changed P L).length ≤ 1000000 := by rw [hnm, HNC.out]; omega
            have ML8 := Lib.hid M8.out.lt
            have hnm50 : nm ≤ 50 := by omega
            have hsum : (nm : Int) + (na : Int) + (nc : Int) = (n : Int) := by omega
            generalize Ad.told (Ad.mended P L ++ Ad.changed P L) = R2 at *
            clear hnm hbw HMM OV2 BVV
            go_wp2_with (at_builtin; refine wpList_append_lists rfl (.tmp 108) (.tmp 109) rfl wx.heap.size wx.heap.size (.slice am nm cm) (.slice ac nc cc) (Ad.mended P L) (Ad.changed P L) rfl rfl M8.out O8.out (Nat.le_refl _) s8 hlm ?_; intro v9 w9 L9 g9; have B9 := Lib.hid (Below.grown B8.out g9 B8.out.size (fun j hj => by have := (ML8.out j hj).1; omega)); obtain ⟨a9, c9, e9, h9⟩ := L9.at B9.out; obtain ⟨n9, hn9⟩ : ∃ x, (Ad.mended P L ++ Ad.changed P L).length = x := ⟨_, rfl⟩; rw [hn9] at e9; subst e9)
            have C9 := Lib.hid (read_any P a9 n9 c9 (Ad.mended P L ++ Ad.changed P L) w9 hn9 (by rw [List.length_append] at hn9; omega) (fun x hx => (HSM.out x hx).2) h9)
            rw [HMR.out] at C9
            clear hn9 h9 L9 g9 M8 O8 B8 ML8
            refine C9.out.mono ?_
            rintro e w10 ⟨rfl, b10⟩
            have B10 := Lib.hid (Below.chain B9.out b10)
            have bt := below_one w10 (.cells (acells Ad.z).toArray 35)
            have GZ := Lib.hid (heap_alloc_new w10 (.cells (acells Ad.z).toArray 35))
            have hs10 := B10.out.size
            have B11 := Lib.hid (below_setRow (Below.chain B10.out bt) hs10 (acells R2).toArray)
            clear bt b10 B9 B10 C9
            go_wp2_with (refine wpList_store_ad rfl _ _ rfl w10.heap.size R2 _ rfl rfl GZ.out rfl ?_; show wpList _ _ _ _ _ ((w10.alloc (.cells (acells Ad.z).toArray 35)).setRow w10.heap.size (acells R2).toArray); generalize (w10.alloc (.cells (acells Ad.z).toArray 35)).setRow w10.heap.size (acells R2).toArray = w11 at B11 ⊢)
            go_ret
            exact ⟨rfl, B11.out⟩
    · rw [Bool.not_eq_true] at hy
      have HP := Lib.hid (Ad.put_no P hy)
      clear hy
      go_enter Try.func7, Try.ntmps7
      go_wp2_with fail
      refine (awake_any _).mono ?_
      rintro e w1 ⟨rfl, b1⟩
      have B1 := Lib.hid (Below.chain B0.out b1)
      have T1 := Lib.hid (T0.out.next b1)
      clear b1 B0 T0
      go_wp2_with fail
      refine (few_any a n cap L w1 HL.out (H.out.next B1.out)).mono ?_
      rintro e w2 ⟨rfl, h2⟩; rw [h2]; clear h2
      rw [HF.out]
      go_wp2_with (refine wpList_load_row rfl 35 (.tmp 4) rfl w.heap.size rfl 35 (acells t).toArray (0, 0) _ T1.out Try.underlying35 rfl infoAd ?_)
      have C1 := Lib.hid (put_any P t w1)
      rw [HP.out] at C1
      refine C1.out.mono ?_
      rintro e w2 ⟨v, rfl, o2, b2⟩
      have B2 := Lib.hid (Below.chain B1.out b2)
      have T2 := Lib.hid (T1.out.next b2)
      obtain ⟨ap, cp, rfl, hp⟩ := o2.at
      have P2 := Lib.hid hp
      clear b2 B1 T1 o2 hp C1
      simp only [List.length_nil]
      obtain ⟨wx, hwx⟩ : ∃ x, x = w2 := ⟨_, rfl⟩
      rw [← hwx] at B2 ⊢
      have BX := B2
      clear hwx B2 T2 P2
      have C4 := Lib.hid (bad_any P a n cap L wx HL.out (by omega) HD.out HW.out (H.out.next BX.out))
      have hx1 : (Ad.away P L).length ≤ 50 := by have := Ad.away_le P L n; rw [Ad.away_all P (by rw [HL.out]; exact Nat.le_refl _)] at this; omega
      have hx2 : (Ad.changed P L).length ≤ 50 := by have := Ad.changed_le P L n; rw [Ad.changed_all P (by rw [HL.out]; exact Nat.le_refl _)] at this; omega
      obtain ⟨na, hna⟩ : ∃ na, (Ad.away P L).length = na := ⟨_, rfl⟩
      obtain ⟨nc, hnc⟩ : ∃ nc, (Ad.changed P L).length = nc := ⟨_, rfl⟩
      have HNA := Lib.hid hna
      have HNC := Lib.hid hnc
      rw [hna] at hx1
      rw [hnc] at hx2
      clear hna hnc
      go_wp2_with fail
      refine C4.out.mono ?_
      rintro e wy ⟨u, v, rfl, ou, ov, by'⟩
      obtain ⟨aa, ca, ea, ha⟩ := ou.at
      rw [HNA.out] at ea
      subst ea
      obtain ⟨ac, cc, ec⟩ := opts_slice ov
      rw [HNC.out] at ec
      subst ec
      have BY := Lib.hid (Below.chain BX.out by')
      have AY := Lib.hid ha
      have OV := Lib.hid ov
      have sxy := by'.size
      have hsx := BX.out.size
      clear ou ov ha by' C4 BX
      have C5 := Lib.hid (read_any P a n cap L wy HL.out (by omega) HW.out (H.out.next BY.out))
      have HK := Lib.hid (Ad.okl_count P L)
      have HRL : Hid ((Ad.read P L).2 = Ad.oklB P L) := by
        show _ = _
        by_cases e : Ad.okl P L
        · rw [Ad.read_yes P e]; exact (decide_eq_true (p := (∀ x ∈ L, Ad.right P x = true) ∧ (L.map Ot.O.ty).Nodup) e).symm
        · rw [Ad.read_no P e]; exact (decide_eq_false (p := (∀ x ∈ L, Ad.right P x = true) ∧ (L.map Ot.O.ty).Nodup) e).symm
      obtain ⟨R, hR⟩ : ∃ R, Ad.read P L = R := ⟨_, rfl⟩
      rw [hR] at C5 HRL
      clear hR
      go_wp2_with fail
      refine C5.out.mono ?_
      rintro e wz ⟨rfl, bz⟩
      rw [HRL.out, HK.out, HNA.out, HNC.out]
      obtain ⟨ba, hba⟩ : ∃ b, decide (na = 0) = b := ⟨_, rfl⟩
      obtain ⟨bb, hbb⟩ : ∃ b, decide (nc = 0) = b := ⟨_, rfl⟩
      rw [hba, hbb]
      have i1 : ((na : Int) == 0) = ba := by rw [← hba]; exact lit_dec na 0
      have i2 : ((nc : Int) == 0) = bb := by rw [← hbb]; exact lit_dec nc 0
      clear hba hbb
      have BZ := Lib.hid (Below.chain BY.out bz)
      have AZ := Lib.hid (AY.out.next bz)
      have OZ := Lib.hid (OV.out.next bz)
      have bt := below_one wz (.cells (acells Ad.z).toArray 35)
      have GZ := Lib.hid (heap_alloc_new wz (.cells (acells Ad.z).toArray 35))
      have hsz := BZ.out.size
      have sxz := Nat.le_trans sxy bz.size
      have B6 := Lib.hid (below_setRow (Below.chain BZ.out bt) hsz (acells R.1).toArray)
      have A6 := Lib.hid (AZ.out.next (below_setRow bt (Nat.le_refl _) (acells R.1).toArray))
      have O6 := Lib.hid (OZ.out.next (below_setRow bt (Nat.le_refl _) (acells R.1).toArray))
      have s6 := (below_setRow bt (Nat.le_refl _) (acells R.1).toArray).size
      clear bt bz BY AY OV BZ AZ OZ C5 HRL
      go_upto_region 10 with (refine wpList_store_ad rfl _ _ rfl wz.heap.size R.1 _ rfl rfl GZ.out rfl ?_; show wpList _ _ _ _ _ ((wz.alloc (.cells (acells Ad.z).toArray 35)).setRow wz.heap.size (acells R.1).toArray); generalize (wz.alloc (.cells (acells Ad.z).toArray 35)).setRow wz.heap.size (acells R.1).toArray = ws at A6 O6 B6 s6 ⊢)
      have CW := Lib.hid (refWithin_any aa a na n ca cap (Ad.away P L) L ws HNA.out HL.out (by omega) (by omega) A6.out (H.out.next B6.out))
      rw [Ad.away_within P L] at CW
      generalize wz.heap.size = gz at *
      clear A6 GZ
      go_cut [14, 74] from 59 (fun _ x wv => x = .bool false ∧ Hid (Below ws.heap.size ws wv))
      case first =>
        cases ba <;> cases bb <;> (go_wp2_with (refine CW.out.mono ?_; rintro e wv ⟨rfl, bv⟩); go_meet; case rel => exact ⟨rfl, bv⟩)
      case rest =>
        obtain ⟨rfl, BV⟩ := hcut
        obtain ⟨wv, hwv⟩ : ∃ x, x = wc := ⟨_, rfl⟩
        rw [← hwv] at BV ⊢
        have BVV := Lib.hid (Below.chain B6.out BV.out)
        have OV2 := Lib.hid (O6.out.next BV.out)
        have sxv := Nat.le_trans (Nat.le_trans sxz s6) BV.out.size
        clear hwv BV B6 O6 CW s6 sxz sxy
        go_wp2
        go_loopw [15, 16] (fun v i wr => ∃ k : Nat, i = .int .i64 (k : Int) ∧ k ≤ n ∧ Hid (Lopts True wr w wv.heap.size v (Ad.mendedTo P L k)) ∧ Below wv.heap.size wv wr) (fun _ i _ => n - (intOf i).toNat)
        case atStart => exact ⟨0, rfl, Nat.zero_le _, by rw [Ad.mended_nil P]; exact lopts_none _ _ _ _, Below.refl _ _⟩
        case round =>
          obtain ⟨k, rfl, hk, HMM, hbw⟩ := hrel
          by_cases hlt : (k : Int) < (n : Int)
          · have hkc : k ≤ cap := by omega
            have hkn : k < n := by omega
            have hkL : k < L.length := by rw [HL.out]; omega
            obtain ⟨b, off, q, d, rfl, r1, hb1⟩ := H.out.at k hkL
            have HFF := Lib.hid (Ad.first_iff hkL)
            have HMD := Lib.hid (Ad.arm_mend P hkL)
            have HLV := Lib.hid (Ad.arm_leave P hkL)
            have hml := Ad.mended_le P L k
            have hwx := Lib.hid (HW.out L[k] (List.getElem_mem hkL))
            have hdx := HD.out L[k] (List.getElem_mem hkL)
            have hxf : Ad.first L k = false → ∃ x ∈ L.take k, x.ty = L[k].ty := fun e => by
              by_cases hx : ∃ x ∈ L.take k, x.ty = L[k].ty
              · exact hx
              · rw [(Ad.first_iff hkL).2 (fun x hm e' => hx ⟨x, hm, e'⟩)] at e; cases e
            generalize L[k] = r at *
            generalize Ad.first L k = fi at *
            generalize Ad.mendedTo P L k = ML at *
            obtain ⟨m, hmm⟩ : ∃ m, r.data.length = m := ⟨_, rfl⟩
            rw [hmm] at hdx
            have BWR := Lib.hid (Below.chain BVV.out hbw)
            have rng := (r1.next hb1 BWR.out).range
            rw [hmm] at rng
            have R1 := Lib.hid r1.row
            have HMX := Lib.hid hmm
            have hbr : b < wr.heap.size := Nat.lt_of_lt_of_le hb1 BWR.out.size
            go_wp2_with fail
            have hS : wr.drew.rangeAt b (off + k * 2) (ocells r (.slice q m d)) := rng
            have BD := Lib.hid BWR.out.drew
            have bd : Below wv.heap.size wv wr.drew := hbw.drew
            have MD := Lib.hid (HMM.out.next (Below.refl _ wr).drew)
            have hbd : b < wr.drew.heap.size := hbr
            refine held_start (S := fun W => W.rangeAt b (off + k * 2) (ocells r (.slice q m d))) 18 (by kernel_rfl) rfl ?_
            generalize wr.drew = WD at *
            clear rng hbr HMM BWR hbw r1 hmm
            refine held_take 0 (v := ?_) rfl (by kernel_rfl) (by kernel_rfl) (by kernel_rfl) (fun _ _ _ h => h) (by assumption) (by rfl) ?_ ?_
            rotate_left
            · (intro W hW; go_simp; try with_reducible rfl)
            simp only [Act.put, List.setIfInBounds_toArray, List.set_cons_zero, List.set_cons_succ]
            refine held_take 1 (v := ?_) rfl (by kernel_rfl) (by kernel_rfl) (by kernel_rfl) (fun _ _ _ h => h) (by assumption) (by rfl) ?_ ?_
            rotate_left
            · (intro W hW; go_simp; try with_reducible rfl)
            simp only [Act.put, List.setIfInBounds_toArray, List.set_cons_zero, List.set_cons_succ]
            refine held_take 2 (v := ?_) rfl (by kernel_rfl) (by kernel_rfl) (by kernel_rfl) (fun _ _ _ h => h) (by assumption) (by rfl) ?_ ?_
            rotate_left
            · (intro W hW; go_simp; try with_reducible rfl)
            simp only [Act.put, List.setIfInBounds_toArray, List.set_cons_zero, List.set_cons_succ]
            refine held_take 3 (v := ?_) rfl (by kernel_rfl) (by kernel_rfl) (by kernel_rfl) (fun _ _ _ h => h) (by assumption) (by rfl) ?_ ?_
            rotate_left
            · (intro W hW; go_simp; try with_reducible rfl)
            simp only [Act.put, List.setIfInBounds_toArray, List.set_cons_zero, List.set_cons_succ]
            refine held_take 4 (v := .agg (ocells r (.slice q m d)).toArray) rfl (by kernel_rfl) (by kernel_rfl) (by kernel_rfl) (fun _ _ _ h => h) (by assumption) (by rfl) (fun W hW => run_load_mid (.tmp 84) rfl b (off + k * 2) rfl r q m d hW) ?_
            simp only [Act.put, List.setIfInBounds_toArray, List.set_cons_zero, List.set_cons_succ]
            refine held_call 5 (f := 12) (args := #[.int .i64 P, .agg (ocells r (.slice q m d)).toArray]) rfl (by kernel_rfl) (by rfl) (by go_simp) ?_
            refine (right_any P r q m d WD HMX.out (R1.out.next BD.out)).mono ?_
            rintro e wq ⟨rfl, bq⟩
            have hSq : wq.rangeAt b (off + k * 2) (ocells r (.slice q m d)) := range_next hS hbd bq
            refine ⟨_, rfl, hSq, ?_⟩
            simp only [Act.put, List.setIfInBounds_toArray, List.set_cons_zero, List.set_cons_succ]
            have BQ := Lib.hid (Below.chain BD.out bq)
            have bqv := Lib.hid (Below.chain bd bq)
            have MQ := Lib.hid (MD.out.next bq)
            clear hS hbd bq bd BD MD
            by_cases hr : Ad.right P r = true
            · rw [hr]
              cases hfv : fi with
              | true =>
                have hff := HFF.out.1 hfv
                have HJ := Lib.hid (find_first (some ⟨b, off, none⟩) k cap (L.take k) r.ty wq (by rw [List.length_take]; omega) (by omega) ((H.out.next BQ.out).take k) hff)
                have HE := Lib.hid (HMD.out hr hfv)
                clear hff hxf hfv HFF HMD HLV hr
                refine held_take 6 (v := ?_) rfl (by kernel_rfl) (by kernel_rfl) (by kernel_rfl) (fun _ _ _ h => h) (by assumption) (by rfl) ?_ ?_
                rotate_left
                · (intro W hW; go_simp; try with_reducible rfl)
                simp only [Act.put, List.setIfInBounds_toArray, List.set_cons_zero, List.set_cons_succ]
                refine held_take 7 (v := ?_) rfl (by kernel_rfl) (by kernel_rfl) (by kernel_rfl) (fun _ _ _ h => h) (by assumption) (by rfl) ?_ ?_
                rotate_left
                · (intro W hW; go_simp; try with_reducible rfl)
                simp only [Act.put, List.setIfInBounds_toArray, List.set_cons_zero, List.set_cons_succ]
                refine held_take 8 (v := ?_) rfl (by kernel_rfl) (by kernel_rfl) (by kernel_rfl) (fun _ _ _ h => h) (by assumption) (by rfl) ?_ ?_
                rotate_left
                · (intro W hW; go_simp; try with_reducible rfl)
                simp only [Act.put, List.setIfInBounds_toArray, List.set_cons_zero, List.set_cons_succ]
                refine held_take 9 (v := ?_) rfl (by kernel_rfl) (by kernel_rfl) (by kernel_rfl) (fun _ _ _ h => h) (by assumption) (by rfl) ?_ ?_
                rotate_left
                · (intro W hW; go_simp; try with_reducible rfl)
                simp only [Act.put, List.setIfInBounds_toArray, List.set_cons_zero, List.set_cons_succ]
                refine held_take 10 (v := ?_) rfl (by kernel_rfl) (by kernel_rfl) (by kernel_rfl) (fun _ _ _ h => h) (by assumption) (by rfl) ?_ ?_
                rotate_left
                · (intro W hW; go_simp; try with_reducible rfl)
                simp only [Act.put, List.setIfInBounds_toArray, List.set_cons_zero, List.set_cons_succ]
                refine held_take 11 (v := ?_) rfl (by kernel_rfl) (by kernel_rfl) (by kernel_rfl) (fun _ _ _ h => h) (by assumption) (by rfl) ?_ ?_
                rotate_left
                · (intro W hW; go_simp; try with_reducible rfl)
                simp only [Act.put, List.setIfInBounds_toArray, List.set_cons_zero, List.set_cons_succ]
                refine held_take 12 (v := ?_) rfl (by kernel_rfl) (by kernel_rfl) (by kernel_rfl) (fun _ _ _ h => h) (by assumption) (by rfl) ?_ ?_
                rotate_left
                · (intro W hW; go_simp; try with_reducible rfl)
                simp only [Act.put, List.setIfInBounds_toArray, List.set_cons_zero, List.set_cons_succ]
                refine held_take 13 (v := ?_) rfl (by kernel_rfl) (by kernel_rfl) (by kernel_rfl) (fun _ _ _ h => h) (by assumption) (by rfl) ?_ ?_
                rotate_left
                · (intro W hW; go_simp; try with_reducible rfl)
                simp only [Act.put, List.setIfInBounds_toArray, List.set_cons_zero, List.set_cons_succ]
                refine held_take 14 (v := ?_) rfl (by kernel_rfl) (by kernel_rfl) (by kernel_rfl) (fun _ _ _ h => h) (by assumption) (by rfl) ?_ ?_
                rotate_left
                · (intro W hW; have e0 : W.cell? ⟨b, off + k * 2, none⟩ = some (.int .i64 r.ty) := hW 0 _ rfl; go_simp; try with_reducible rfl)
                simp only [Act.put, List.setIfInBounds_toArray, List.set_cons_zero, List.set_cons_succ]
                refine held_call 15 (f := 24) (args := #[.slice (some ⟨b, off, none⟩) k cap, .int .i64 r.ty]) rfl (by kernel_rfl) (by rfl) (by go_simp) ?_
                refine HJ.out.mono ?_
                rintro e w2 ⟨rfl, h2⟩; rw [h2]; clear h2
                refine ⟨_, rfl, hSq, ?_⟩
                simp only [Act.put, List.setIfInBounds_toArray, List.set_cons_zero, List.set_cons_succ]
                refine held_take 16 (v := ?_) rfl (by kernel_rfl) (by kernel_rfl) (by kernel_rfl) (fun _ _ _ h => h) (by assumption) (by rfl) ?_ ?_
                rotate_left
                · (intro W hW; go_simp; try with_reducible rfl)
                simp only [Act.put, List.setIfInBounds_toArray, List.set_cons_zero, List.set_cons_succ]
                refine held_take 17 (v := ?_) rfl (by kernel_rfl) (by kernel_rfl) (by kernel_rfl) (fun _ _ _ h => h) (by assumption) (by rfl) ?_ ?_
                rotate_left
                · (intro W hW; go_simp; try with_reducible rfl)
                simp only [Act.put, List.setIfInBounds_toArray, List.set_cons_zero, List.set_cons_succ]
                refine held_done (by kernel_rfl) ?_
                have RG := Lib.hid hSq
                have G7 := Lib.hid (heap_alloc_new wq (.cells #[.int .i64 r.ty, .slice q m d] 24))
                have b7 := below_one wq (.cells #[.int .i64 r.ty, .slice q m d] 24)
                have M7 := Lib.hid (MQ.out.next b7)
                have D7 : Hid (DataIs True (wq.alloc (.cells #[.int .i64 r.ty, .slice q m d] 24)) w wv.heap.size (.slice q m d) r.data) := .inr ⟨trivial, q, d, by rw [HMX.out], R1.out⟩
                have Q7 := Lib.hid (Below.chain bqv.out b7)
                have s7 := Lib.hid Q7.out.size
                have ML7 := Lib.hid M7.out.lt
                clear b7 hSq MQ bqv BQ HJ R1
                go_wp2_with (first
                  | (refine wpList_load_mid rfl 24 (.tmp 102) rfl b (off + k * 2) rfl (ocells r (.slice q m d)) _ RG.out Try.underlying24 rfl (infoOptN _ _) ?_; simp only [ocells])
                  | (at_builtin; refine wpList_append_lopts rfl (.tmp 99) (.tmp 104) rfl wv.heap.size _ ML r (.slice q m d) wq.heap.size rfl rfl M7.out D7.out G7.out s7.out (by omega) ?_; intro v8 w8 L8 g8 x8))
                go_roundw
                case rel =>
                  refine ⟨k + 1, by simp, by omega, ?_, Below.grown Q7.out g8 s7.out (fun j hj => (ML7.out j hj).1)⟩
                  show Lopts _ _ _ _ _ _
                  rw [HE.out]; exact L8
                case measure => simp [intOf]; omega
              | false =>
                obtain ⟨j, hj⟩ := find_again (L.take k) r.ty (hxf hfv)
                have HJ := Lib.hid (hj (some ⟨b, off, none⟩) k cap wq (by rw [List.length_take]; omega) (by omega) ((H.out.next BQ.out).take k))
                have HE := Lib.hid (HLV.out (.inr hfv))
                clear hj hxf hfv HFF HMD HLV hr
                refine held_take 6 (v := ?_) rfl (by kernel_rfl) (by kernel_rfl) (by kernel_rfl) (fun _ _ _ h => h) (by assumption) (by rfl) ?_ ?_
                rotate_left
                · (intro W hW; go_simp; try with_reducible rfl)
                simp only [Act.put, List.setIfInBounds_toArray, List.set_cons_zero, List.set_cons_succ]
                refine held_take 7 (v := ?_) rfl (by kernel_rfl) (by kernel_rfl) (by kernel_rfl) (fun _ _ _ h => h) (by assumption) (by rfl) ?_ ?_
                rotate_left
                · (intro W hW; go_simp; try with_reducible rfl)
                simp only [Act.put, List.setIfInBounds_toArray, List.set_cons_zero, List.set_cons_succ]
                refine held_take 8 (v := ?_) rfl (by kernel_rfl) (by kernel_rfl) (by kernel_rfl) (fun _ _ _ h => h) (by assumption) (by rfl) ?_ ?_
                rotate_left
                · (intro W hW; go_simp; try with_reducible rfl)
                simp only [Act.put, List.setIfInBounds_toArray, List.set_cons_zero, List.set_cons_succ]
                refine held_take 9 (v := ?_) rfl (by kernel_rfl) (by kernel_rfl) (by kernel_rfl) (fun _ _ _ h => h) (by assumption) (by rfl) ?_ ?_
                rotate_left
                · (intro W hW; go_simp; try with_reducible rfl)
                simp only [Act.put, List.setIfInBounds_toArray, List.set_cons_zero, List.set_cons_succ]
                refine held_take 10 (v := ?_) rfl (by kernel_rfl) (by kernel_rfl) (by kernel_rfl) (fun _ _ _ h => h) (by assumption) (by rfl) ?_ ?_
                rotate_left
                · (intro W hW; go_simp; try with_reducible rfl)
                simp only [Act.put, List.setIfInBounds_toArray, List.set_cons_zero, List.set_cons_succ]
                refine held_take 11 (v := ?_) rfl (by kernel_rfl) (by kernel_rfl) (by kernel_rfl) (fun _ _ _ h => h) (by assumption) (by rfl) ?_ ?_
                rotate_left
                · (intro W hW; go_simp; try with_reducible rfl)
                simp only [Act.put, List.setIfInBounds_toArray, List.set_cons_zero, List.set_cons_succ]
                refine held_take 12 (v := ?_) rfl (by kernel_rfl) (by kernel_rfl) (by kernel_rfl) (fun _ _ _ h => h) (by assumption) (by rfl) ?_ ?_
                rotate_left
                · (intro W hW; go_simp; try with_reducible rfl)
                simp only [Act.put, List.setIfInBounds_toArray, List.set_cons_zero, List.set_cons_succ]
                refine held_take 13 (v := ?_) rfl (by kernel_rfl) (by kernel_rfl) (by kernel_rfl) (fun _ _ _ h => h) (by assumption) (by rfl) ?_ ?_
                rotate_left
                · (intro W hW; go_simp; try with_reducible rfl)
                simp only [Act.put, List.setIfInBounds_toArray, List.set_cons_zero, List.set_cons_succ]
                refine held_take 14 (v := ?_) rfl (by kernel_rfl) (by kernel_rfl) (by kernel_rfl) (fun _ _ _ h => h) (by assumption) (by rfl) ?_ ?_
                rotate_left
                · (intro W hW; have e0 : W.cell? ⟨b, off + k * 2, none⟩ = some (.int .i64 r.ty) := hW 0 _ rfl; go_simp; try with_reducible rfl)
                simp only [Act.put, List.setIfInBounds_toArray, List.set_cons_zero, List.set_cons_succ]
                refine held_call 15 (f := 24) (args := #[.slice (some ⟨b, off, none⟩) k cap, .int .i64 r.ty]) rfl (by kernel_rfl) (by rfl) (by go_simp) ?_
                refine HJ.out.mono ?_
                rintro e w2 ⟨rfl, h2⟩; rw [h2]; clear h2
                refine ⟨_, rfl, hSq, ?_⟩
                simp only [Act.put, List.setIfInBounds_toArray, List.set_cons_zero, List.set_cons_succ]
                refine held_take 16 (v := ?_) rfl (by kernel_rfl) (by kernel_rfl) (by kernel_rfl) (fun _ _ _ h => h) (by assumption) (by rfl) ?_ ?_
                rotate_left
                · (intro W hW; go_simp; try with_reducible rfl)
                simp only [Act.put, List.setIfInBounds_toArray, List.set_cons_zero, List.set_cons_succ]
                refine held_take 17 (v := ?_) rfl (by kernel_rfl) (by kernel_rfl) (by kernel_rfl) (fun _ _ _ h => h) (by assumption) (by rfl) ?_ ?_
                rotate_left
                · (intro W hW; go_simp; try with_reducible rfl)
                simp only [Act.put, List.setIfInBounds_toArray, List.set_cons_zero, List.set_cons_succ]
                refine held_done (by kernel_rfl) ?_
                clear hSq HJ
                go_wp2
                go_roundw
                case rel =>
                  refine ⟨k + 1, by simp, by omega, ?_, bqv.out⟩
                  show Lopts _ _ _ _ _ _
                  rw [HE.out]; exact MQ.out
                case measure => simp [intOf]; omega
            · rw [Bool.not_eq_true] at hr
              have HE := Lib.hid (HLV.out (.inl hr))
              rw [hr]
              clear hxf HFF HMD HLV hr
              refine held_take 6 (v := ?_) rfl (by kernel_rfl) (by kernel_rfl) (by kernel_rfl) (fun _ _ _ h => h) (by assumption) (by rfl) ?_ ?_
              rotate_left
              · (intro W hW; go_simp; try with_reducible rfl)
              simp only [Act.put, List.setIfInBounds_toArray, List.set_cons_zero, List.set_cons_succ]
              refine held_skip 7 rfl (by kernel_rfl) (by kernel_rfl) (by kernel_rfl) (fun _ _ _ h => h) (by assumption) (by rfl) ?_
              simp only [Act.put, List.setIfInBounds_toArray, List.set_cons_zero, List.set_cons_succ]
              refine held_skip 8 rfl (by kernel_rfl) (by kernel_rfl) (by kernel_rfl) (fun _ _ _ h => h) (by assumption) (by rfl) ?_
              simp only [Act.put, List.setIfInBounds_toArray, List.set_cons_zero, List.set_cons_succ]
              refine held_skip 9 rfl (by kernel_rfl) (by kernel_rfl) (by kernel_rfl) (fun _ _ _ h => h) (by assumption) (by rfl) ?_
              simp only [Act.put, List.setIfInBounds_toArray, List.set_cons_zero, List.set_cons_succ]
              refine held_skip 10 rfl (by kernel_rfl) (by kernel_rfl) (by kernel_rfl) (fun _ _ _ h => h) (by assumption) (by rfl) ?_
              simp only [Act.put, List.setIfInBounds_toArray, List.set_cons_zero, List.set_cons_succ]
              refine held_skip 11 rfl (by kernel_rfl) (by kernel_rfl) (by kernel_rfl) (fun _ _ _ h => h) (by assumption) (by rfl) ?_
              simp only [Act.put, List.setIfInBounds_toArray, List.set_cons_zero, List.set_cons_succ]
              refine held_skip 12 rfl (by kernel_rfl) (by kernel_rfl) (by kernel_rfl) (fun _ _ _ h => h) (by assumption) (by rfl) ?_
              simp only [Act.put, List.setIfInBounds_toArray, List.set_cons_zero, List.set_cons_succ]
              refine held_skip 13 rfl (by kernel_rfl) (by kernel_rfl) (by kernel_rfl) (fun _ _ _ h => h) (by assumption) (by rfl) ?_
              simp only [Act.put, List.setIfInBounds_toArray, List.set_cons_zero, List.set_cons_succ]
              refine held_skip 14 rfl (by kernel_rfl) (by kernel_rfl) (by kernel_rfl) (fun _ _ _ h => h) (by assumption) (by rfl) ?_
              simp only [Act.put, List.setIfInBounds_toArray, List.set_cons_zero, List.set_cons_succ]
              refine held_skip 15 rfl (by kernel_rfl) (by kernel_rfl) (by kernel_rfl) (fun _ _ _ h => h) (by assumption) (by rfl) ?_
              simp only [Act.put, List.setIfInBounds_toArray, List.set_cons_zero, List.set_cons_succ]
              refine held_skip 16 rfl (by kernel_rfl) (by kernel_rfl) (by kernel_rfl) (fun _ _ _ h => h) (by assumption) (by rfl) ?_
              simp only [Act.put, List.setIfInBounds_toArray, List.set_cons_zero, List.set_cons_succ]
              refine held_take 17 (v := ?_) rfl (by kernel_rfl) (by kernel_rfl) (by kernel_rfl) (fun _ _ _ h => h) (by assumption) (by rfl) ?_ ?_
              rotate_left
              · (intro W hW; go_simp; try with_reducible rfl)
              simp only [Act.put, List.setIfInBounds_toArray, List.set_cons_zero, List.set_cons_succ]
              refine held_done (by kernel_rfl) ?_
              clear hSq
              go_wp2
              go_roundw
              case rel =>
                refine ⟨k + 1, by simp, by omega, ?_, bqv.out⟩
                show Lopts _ _ _ _ _ _
                rw [HE.out]; exact MQ.out
              case measure => simp [intOf]; omega
          · have hk2 : L.length ≤ k := by rw [HL.out]; omega
            rw [Ad.mended_all P hk2] at HMM
            have hcount := Ad.counted P L
            rw [HNA.out, HNC.out, HL.out] at hcount
            have HSM := Lib.hid (mended_small P L HD.out HW.out)
            have HMR := Lib.hid (Ad.read_yes P (Ad.mended_right P L))
            obtain ⟨am, cm, em⟩ := HMM.out.slice
            obtain ⟨nm, hnm⟩ : ∃ nm, (Ad.mended P L).length = nm := ⟨_, rfl⟩
            rw [hnm] at em hcount
            subst em
            have HNM := Lib.hid hnm
            have M8 := Lib.hid (HMM.out.lower (B' := wx.heap.size) sxv)
            have O8 := Lib.hid (OV2.out.next (hbw.mono (Nat.le_refl _)))
            have B8 := Lib.hid (Below.chain BVV.out hbw)
            have s8 : wx.heap.size ≤ wr.heap.size := Nat.le_trans sxv hbw.size
            have hlm : (Ad.mended P L).length + (Ad.changed P L).length ≤ 1000000 := by rw [hnm, HNC.out]; omega
            have ML8 := Lib.hid M8.out.lt
            have hnm50 : nm ≤ 50 := by omega
            have hsum : (nm : Int) + (na : Int) + (nc : Int) = (n : Int) := by omega
            generalize Ad.told (Ad.mended P L ++ Ad.changed P L) = R2 at *
            clear hnm hbw HMM OV2 BVV
            go_wp2_with (at_builtin; refine wpList_append_lists rfl (.tmp 108) (.tmp 109) rfl wx.heap.size wx.heap.size (.slice am nm cm) (.slice ac nc cc) (Ad.mended P L) (Ad.changed P L) rfl rfl M8.out O8.out (Nat.le_refl _) s8 hlm ?_; intro v9 w9 L9 g9; have B9 := Lib.hid (Below.grown B8.out g9 B8.out.size (fun j hj => by have := (ML8.out j hj).1; omega)); obtain ⟨a9, c9, e9, h9⟩ := L9.at B9.out; obtain ⟨n9, hn9⟩ : ∃ x, (Ad.mended P L ++ Ad.changed P L).length = x := ⟨_, rfl⟩; rw [hn9] at e9; subst e9)
            have C9 := Lib.hid (read_any P a9 n9 c9 (Ad.mended P L ++ Ad.changed P L) w9 hn9 (by rw [List.length_append] at hn9; omega) (fun x hx => (HSM.out x hx).2) h9)
            rw [HMR.out] at C9
            clear hn9 h9 L9 g9 M8 O8 B8 ML8
            refine C9.out.mono ?_
            rintro e w10 ⟨rfl, b10⟩
            have B10 := Lib.hid (Below.chain B9.out b10)
            have bt := below_one w10 (.cells (acells Ad.z).toArray 35)
            have GZ := Lib.hid (heap_alloc_new w10 (.cells (acells Ad.z).toArray 35))
            have hs10 := B10.out.size
            have B11 := Lib.hid (below_setRow (Below.chain B10.out bt) hs10 (acells R2).toArray)
            clear bt b10 B9 B10 C9
            go_wp2_with (refine wpList_store_ad rfl _ _ rfl w10.heap.size R2 _ rfl rfl GZ.out rfl ?_; show wpList _ _ _ _ _ ((w10.alloc (.cells (acells Ad.z).toArray 35)).setRow w10.heap.size (acells R2).toArray); generalize (w10.alloc (.cells (acells Ad.z).toArray 35)).setRow w10.heap.size (acells R2).toArray = w11 at B11 ⊢)
            go_ret
            exact ⟨rfl, B11.out⟩
  · rw [Bool.not_eq_true] at hf
    have HF := Lib.hid hf
    clear hf
    go_enter Try.func7, Try.ntmps7
    go_wp2_with fail
    refine (awake_any _).mono ?_
    rintro e w1 ⟨rfl, b1⟩
    have B1 := Lib.hid (Below.chain B0.out b1)
    have T1 := Lib.hid (T0.out.next b1)
    clear b1 B0 T0
    go_wp2_with fail
    refine (few_any a n cap L w1 HL.out (H.out.next B1.out)).mono ?_
    rintro e w2 ⟨rfl, h2⟩; rw [h2]; clear h2
    rw [HF.out]
    go_wp2_with fail
    refine (awake_any _).mono ?_
    rintro e w3 ⟨rfl, b3⟩
    have B3 := Lib.hid (Below.chain B1.out b3)
    clear b3 B1
    go_wp2
    go_ret
    exact ⟨rfl, B3.out⟩
end Go.Proofs.Ytacnlancncmpmaa
