/- The law of what stays. -/
import Derived.Test.YtnhjpbhndckfgaaReadsWalk
import Derived.Test.YtnhjpbhndckfgaaKs
namespace Go.Proofs.Ytnhjpbhndckfgaa
open Go.RowKit Go.Maps S2 S12

theorem byte_up (y : UInt8) : ((y + 1).toNat : Int) = ((y.toNat : Int) + 1) % 256 := by simp
set_option maxRecDepth 100000 in
set_option maxHeartbeats 2000000 in
theorem keeps_walk (a : Option Addr) (n cap : Nat) (L : List Ot.O) (w : World) (hL : L.length = n) (hc : n ≤ cap) (hw : ∀ x ∈ L, (Lit.int .i64 x.ty).wf = true) (h : OptsAt w a L) :
    Calls Try.prog 8 #[.slice a n cap] w fun e w' => e = .returned (.bool true) ∧ Below w.heap.size w w' := by
  have H := Lib.hid h
  have HL := Lib.hid hL
  have HW := Lib.hid hw
  clear h hL hw
  by_cases hf : Ot.few L = true
  · obtain ⟨hn, hd⟩ := few_small hf
    have hn2 : n ≤ 50 := by have := HL.out; omega
    have HF := Lib.hid hf
    have HD := Lib.hid hd
    clear hf hn hd
    go_enter Try.func8, Try.ntmps8
    go_wp2_with fail
    refine (awake_any _).mono ?_
    rintro e w1 ⟨rfl, b1⟩
    have B1 := Lib.hid b1
    clear b1
    go_wp2_with fail
    refine (few_any a n cap L w1 HL.out (H.out.next B1.out)).mono ?_
    rintro e w2 ⟨rfl, h2⟩; rw [h2]; clear h2
    rw [HF.out]
    clear HF
    have hs1 := B1.out.size
    go_wp2
    go_loopw [3, 4] (fun u i wr => ∃ k : Nat, i = .int .i64 (k : Int) ∧ k ≤ n ∧ Hid (Lopts False wr w w1.heap.size u (L.take k)) ∧ Below w1.heap.size w1 wr) (fun _ i _ => n - (intOf i).toNat)
    case atStart => exact ⟨0, rfl, Nat.zero_le _, by rw [List.take_zero]; exact lopts_none _ _ _ _, Below.refl _ _⟩
    case round =>
      obtain ⟨k, rfl, hk, HA, hbw⟩ := hrel
      by_cases hlt : (k : Int) < (n : Int)
      · have hkn : k < n := by omega
        have hkL : k < L.length := by rw [HL.out]; omega
        have BWR := Lib.hid (Below.trans B1.out (hbw.mono hs1))
        obtain ⟨b, off, q, d, rfl, r0, hb0⟩ := H.out.at k hkL
        have r1 := r0.next hb0 BWR.out
        have hb1 : b < wr.heap.size := Nat.lt_of_lt_of_le hb0 BWR.out.size
        have HE := Lib.hid (List.take_succ_eq_append_getElem hkL)
        have hdx := HD.out L[k] (List.getElem_mem hkL)
        generalize L[k] = r at *
        obtain ⟨m, hm⟩ : ∃ m, r.data.length = m := ⟨_, rfl⟩
        have x0 := r1.ty
        have x1 := r1.data
        have R1 := Lib.hid r1.row
        rw [hm] at x1 hdx
        have HM := Lib.hid hm
        have hbs := hbw.size
        go_wp2_with fail
        have hS : wr.drew.cell? ⟨b, off + k * 2, none⟩ = some (.int .i64 r.ty) ∧ wr.drew.cell? ⟨b, off + k * 2 + 1, none⟩ = some (.slice q m d) := ⟨x0, x1⟩
        have AD := Lib.hid (HA.out.next (Below.refl _ wr).drew)
        have RD := Lib.hid (R1.out.next (Below.refl _ wr).drew)
        have BD := Lib.hid hbw.drew
        have hsD : w1.heap.size ≤ wr.drew.heap.size := hbs
        have hbD : b < wr.drew.heap.size := hb1
        refine held_start (S := fun W => W.cell? ⟨b, off + k * 2, none⟩ = some (.int .i64 r.ty) ∧ W.cell? ⟨b, off + k * 2 + 1, none⟩ = some (.slice q m d)) 17 (by kernel_rfl) rfl ?_
        generalize wr.drew = WD at *
        clear x0 x1 hm r0 r1 HA hbw hbs hb1 R1 BWR
        have stay : ∀ W, Below WD.heap.size WD W → W.cell? ⟨b, off + k * 2, none⟩ = some (.int .i64 r.ty) ∧ W.cell? ⟨b, off + k * 2 + 1, none⟩ = some (.slice q m d) := fun W hW => ⟨(hW.cell (p := ⟨b, off + k * 2, none⟩) hbD).trans hS.1, (hW.cell (p := ⟨b, off + k * 2 + 1, none⟩) hbD).trans hS.2⟩
        have STAY := Lib.hid stay
        clear stay
        refine held_take 0 (v := ?_) rfl (by kernel_rfl) (by kernel_rfl) (by kernel_rfl) (fun _ _ _ h => h) (by assumption) (by rfl) ?_ ?_
        rotate_left
        · (intro W hW; go_simp; try with_reducible rfl)
        simp only [Act.put, List.setIfInBounds_toArray, List.set_cons_zero, List.set_cons_succ]
        refine held_take 1 (v := ?_) rfl (by kernel_rfl) (by kernel_rfl) (by kernel_rfl) (fun _ _ _ h => h) (by assumption) (by rfl) ?_ ?_
        rotate_left
        · (intro W hW; go_simp; try with_reducible rfl)
        simp only [Act.put, List.setIfInBounds_toArray, List.set_cons_zero, List.set_cons_succ]
        refine held_take 2 (v := ?_) rfl (by kernel_rfl) (by kernel_rfl) (by kernel_rfl) (fun _ _ _ h => h) (by assumption) (by rfl) ?_ ?_
        rotate_left
        · (intro W hW; go_simp; try with_reducible rfl)
        simp only [Act.put, List.setIfInBounds_toArray, List.set_cons_zero, List.set_cons_succ]
        refine held_take 3 (v := ?_) rfl (by kernel_rfl) (by kernel_rfl) (by kernel_rfl) (fun _ _ _ h => h) (by assumption) (by rfl) ?_ ?_
        rotate_left
        · (intro W hW; go_simp; try with_reducible rfl)
        simp only [Act.put, List.setIfInBounds_toArray, List.set_cons_zero, List.set_cons_succ]
        refine held_take 4 (v := ?_) rfl (by kernel_rfl) (by kernel_rfl) (by kernel_rfl) (fun _ _ _ h => h) (by assumption) (by rfl) ?_ ?_
        rotate_left
        · (intro W hW; go_simp; try with_reducible rfl)
        simp only [Act.put, List.setIfInBounds_toArray, List.set_cons_zero, List.set_cons_succ]
        refine held_take 5 (v := ?_) rfl (by kernel_rfl) (by kernel_rfl) (by kernel_rfl) (fun _ _ _ h => h) (by assumption) (by rfl) ?_ ?_
        rotate_left
        · (intro W hW; have e0 := hW.1; go_simp; try with_reducible rfl)
        simp only [Act.put, List.setIfInBounds_toArray, List.set_cons_zero, List.set_cons_succ]
        refine held_take 7 (v := ?_) rfl (by kernel_rfl) (by kernel_rfl) (by kernel_rfl) (fun _ _ _ h => h) (by assumption) (by rfl) ?_ ?_
        rotate_left
        · (intro W hW; go_simp; try with_reducible rfl)
        simp only [Act.put, List.setIfInBounds_toArray, List.set_cons_zero, List.set_cons_succ]
        refine held_take 8 (v := ?_) rfl (by kernel_rfl) (by kernel_rfl) (by kernel_rfl) (fun _ _ _ h => h) (by assumption) (by rfl) ?_ ?_
        rotate_left
        · (intro W hW; go_simp; try with_reducible rfl)
        simp only [Act.put, List.setIfInBounds_toArray, List.set_cons_zero, List.set_cons_succ]
        refine held_take 9 (v := ?_) rfl (by kernel_rfl) (by kernel_rfl) (by kernel_rfl) (fun _ _ _ h => h) (by assumption) (by rfl) ?_ ?_
        rotate_left
        · (intro W hW; go_simp; try with_reducible rfl)
        simp only [Act.put, List.setIfInBounds_toArray, List.set_cons_zero, List.set_cons_succ]
        refine held_take 10 (v := ?_) rfl (by kernel_rfl) (by kernel_rfl) (by kernel_rfl) (fun _ _ _ h => h) (by assumption) (by rfl) ?_ ?_
        rotate_left
        · (intro W hW; go_simp; try with_reducible rfl)
        simp only [Act.put, List.setIfInBounds_toArray, List.set_cons_zero, List.set_cons_succ]
        refine held_take 11 (v := ?_) rfl (by kernel_rfl) (by kernel_rfl) (by kernel_rfl) (fun _ _ _ h => h) (by assumption) (by rfl) ?_ ?_
        rotate_left
        · (intro W hW; have e0 := hW.2; go_simp; try with_reducible rfl)
        simp only [Act.put, List.setIfInBounds_toArray, List.set_cons_zero, List.set_cons_succ]
        have bE := below_one WD (.cells #[] 5)
        have hSE := STAY.out _ bE
        refine held_makes 6 (v := .slice (some ⟨WD.heap.size, 0, none⟩) 0 0) (w' := WD.alloc (.cells #[] 5)) rfl (by kernel_rfl) (by rfl) (by go_simp) hSE ?_
        simp only [Act.put, List.setIfInBounds_toArray, List.set_cons_zero, List.set_cons_succ]
        refine held_one 12 rfl (by kernel_rfl) (by rfl) ?_
        refine wp_append_row (.tmp 35) (.tmp 40) rfl WD.heap.size (.slice (some ⟨WD.heap.size, 0, none⟩) 0 0) 0 [] rfl (World.ownsRow_made WD #[] 0 (Nat.le_refl _) (Nat.zero_le _) rfl) q m d r.data rfl HM.out (RD.out.next bE) (by omega) (by simp) ?_
        intro v5 w5 o5 g5
        rw [Nat.zero_add, List.nil_append] at o5
        obtain ⟨p5, c5, rfl⟩ := own_slice o5
        have b5 : Below WD.heap.size WD w5 := Below.grown bE g5 (by simp) (fun j hj => ((World.ownsRow_made (base := WD.heap.size) (e := 5) (size := 1) WD #[] 0 (Nat.le_refl _) (Nat.zero_le _) rfl).lt j hj).1)
        have hS5 := STAY.out _ b5
        refine ⟨hS5, ?_⟩
        simp only [Act.put, List.setIfInBounds_toArray, List.set_cons_zero, List.set_cons_succ]
        clear hSE bE g5
        have b7 := below_one w5 (.cells #[.int .i64 r.ty, .slice p5 m c5] 24)
        have A7 := Lib.hid ((AD.out.next b5).next b7)
        have D7 : Hid (DataIs False (w5.alloc (.cells #[.int .i64 r.ty, .slice p5 m c5] 24)) w w1.heap.size (.slice p5 m c5) r.data) := by
          refine .inl ?_
          rw [HM.out]
          exact ownsRow_next (ownsRow_lower o5 hsD) b7
        have G7 := Lib.hid (heap_alloc_new w5 (.cells #[.int .i64 r.ty, .slice p5 m c5] 24))
        have Q7 := Lib.hid (Below.chain (Below.chain BD.out b5) b7)
        have hS7 := STAY.out _ (Below.chain b5 b7)
        have s7 := Lib.hid (show w1.heap.size ≤ (w5.alloc (.cells #[.int .i64 r.ty, .slice p5 m c5] 24)).heap.size from Nat.le_trans hsD (Nat.le_trans b5.size b7.size))
        have AL7 := Lib.hid A7.out.lt
        have hb7 : b < (w5.alloc (.cells #[.int .i64 r.ty, .slice p5 m c5] 24)).heap.size := Nat.lt_of_lt_of_le hbD (Nat.le_trans b5.size b7.size)
        have U7 := Lib.hid (Below.chain b5 b7)
        clear o5 b5 b7 AD BD RD hS
        refine held_take 13 (v := ?_) rfl (by kernel_rfl) (by kernel_rfl) (by kernel_rfl) (fun _ _ _ h => h) (by assumption) (by rfl) ?_ ?_
        rotate_left
        · (intro W hW; go_simp; try with_reducible rfl)
        simp only [Act.put, List.setIfInBounds_toArray, List.set_cons_zero, List.set_cons_succ]
        refine held_makes 14 (v := .slice (some ⟨w5.heap.size, 0, none⟩) 1 1) (w' := w5.alloc (.cells #[.int .i64 r.ty, .slice p5 m c5] 24)) rfl (by kernel_rfl) (by rfl) (by go_simp) hS7 ?_
        simp only [Act.put, List.setIfInBounds_toArray, List.set_cons_zero, List.set_cons_succ]
        clear hS5
        refine held_one 15 rfl (by kernel_rfl) (by rfl) ?_
        refine wp_append_lopts (.tmp 29) (.tmp 43) rfl w1.heap.size _ (L.take k) r (.slice p5 m c5) w5.heap.size rfl rfl A7.out D7.out G7.out s7.out (by rw [List.length_take]; omega) ?_
        intro v8 w8 L8 g8 x8
        have hne : some b ≠ u3.ownBlock := fun e => by have := (AL7.out b e.symm).1; omega
        have hS8 : w8.cell? ⟨b, off + k * 2, none⟩ = some (.int .i64 r.ty) ∧ w8.cell? ⟨b, off + k * 2 + 1, none⟩ = some (.slice q m d) := ⟨g8.cell hS7.1 hne, g8.cell hS7.2 hne⟩
        refine ⟨hS8, ?_⟩
        simp only [Act.put, List.setIfInBounds_toArray, List.set_cons_zero, List.set_cons_succ]
        clear hS7
        refine held_take 16 (v := ?_) rfl (by kernel_rfl) (by kernel_rfl) (by kernel_rfl) (fun _ _ _ h => h) (by assumption) (by rfl) ?_ ?_
        rotate_left
        · (intro W hW; go_simp; try with_reducible rfl)
        simp only [Act.put, List.setIfInBounds_toArray, List.set_cons_zero, List.set_cons_succ]
        refine held_done (by kernel_rfl) ?_
        clear hS8
        go_wp2
        go_roundw
        case rel =>
          refine ⟨k + 1, by simp, by omega, ?_, Below.grown Q7.out g8 s7.out (fun j hj => (AL7.out j hj).1)⟩
          show Lopts _ _ _ _ _ _
          rw [HE.out]; exact L8
        case measure => simp [intOf]; omega
      · have hall : L.take k = L := List.take_of_length_le (by rw [HL.out]; omega)
        rw [hall] at HA
        obtain ⟨w3, hw3⟩ : ∃ x, x = wr := ⟨_, rfl⟩
        rw [← hw3] at HA hbw ⊢
        clear hw3
        have O3 := Lib.hid HA.out.opts
        have SCR := Lib.hid (Opts.scr O3.out (Nat.le_refl _))
        have hbs := hbw.size
        have B3 := Lib.hid (Below.trans B1.out (hbw.mono hs1))
        obtain ⟨au, cu, eu, hu⟩ := O3.out.at
        rw [HL.out] at eu
        subst eu
        have C3 := Lib.hid (bad_any au n cu L w3 HL.out (by omega) HD.out HW.out hu)
        have hx1 : (Tm.away L).length ≤ 50 := by have := Tm.away_le L n; rw [Tm.away_all (by rw [HL.out]; exact Nat.le_refl _)] at this; omega
        have hx2 : (Tm.changed L).length ≤ 50 := by have := Tm.changed_le L n; rw [Tm.changed_all (by rw [HL.out]; exact Nat.le_refl _)] at this; omega
        have CL := Lib.hid (fun W (hB : Below w.heap.size w W) => refBad_from a n cap L w W HL.out (by omega) hc H.out hB)
        have CM := Lib.hid (fun W (hB : Below w.heap.size w W) => bad_any a n cap L W HL.out (by omega) HD.out HW.out (H.out.next hB))
        have HCB : Hid (∀ x ∈ Tm.changed L, x.data.length ≤ 300000) := fun x hx => by
          obtain ⟨y, _, rfl⟩ := List.mem_map.1 hx
          have := Tm.usualD_le y.ty
          show (Tm.usualD y.ty).length ≤ _
          omega
        generalize Tm.away L = A at *
        generalize Tm.changed L = C at *
        obtain ⟨na, hna⟩ : ∃ na, A.length = na := ⟨_, rfl⟩
        obtain ⟨nc, hnc⟩ : ∃ nc, C.length = nc := ⟨_, rfl⟩
        have HNA := Lib.hid hna
        have HNC := Lib.hid hnc
        rw [hna] at hx1
        rw [hnc] at hx2
        clear hna hnc hall HA hbw hu
        go_wp2_with fail
        refine C3.out.mono ?_
        rintro e w4 ⟨va, vb, rfl, oa, ob, b4⟩
        obtain ⟨aa, ca, ea⟩ := opts_slice oa
        rw [HNA.out] at ea
        subst ea
        obtain ⟨ab, cb, eb⟩ := opts_slice ob
        rw [HNC.out] at eb
        subst eb
        have A4 := Lib.hid oa
        have Bb4 := Lib.hid ob
        have O4 := Lib.hid (O3.out.next b4)
        have SC4 := Lib.hid (SCR.out.next b4)
        have B4 := Lib.hid (Below.chain B3.out b4)
        have s4 := b4.size
        obtain ⟨au', cu', eu', hu4⟩ := O4.out.at
        rw [HL.out] at eu'
        simp only [Value.slice.injEq, true_and] at eu'
        obtain ⟨rfl, rfl⟩ := eu'
        have S4 := Lib.hid (refSame_any au a n n cu cap L L w4 HL.out HL.out (by omega) hu4 (H.out.next B4.out))
        rw [decide_eq_true rfl] at S4
        clear oa ob b4 hu4 C3 O3 B3
        go_wp2_with fail
        refine S4.out.mono ?_
        rintro e w5 ⟨rfl, b5⟩
        have A5 := Lib.hid (A4.out.next b5)
        have Bb5 := Lib.hid (Bb4.out.next b5)
        have O5 := Lib.hid (O4.out.next b5)
        have B5 := Lib.hid (Below.chain B4.out b5)
        have s5 := Nat.le_trans s4 b5.size
        have hs5 : w1.heap.size ≤ w5.heap.size := Nat.le_trans hbs s5
        have SC0 := Lib.hid (SC4.out.next b5)
        clear b5 S4 A4 Bb4 B4 O4 O5 SC4 SCR
        generalize hns : L.map (fun x => x.data.length) = ns at SC0
        have hnl : ns.length = n := by rw [← hns, List.length_map]; exact HL.out
        have HNS := Lib.hid hnl
        have HNB : Hid (∀ x ∈ ns, x ≤ 300000) := fun x hx => by rw [← hns] at hx; obtain ⟨y, hy, rfl⟩ := List.mem_map.1 hx; exact HD.out y hy
        clear hns hnl
        go_wp2
        go_loopw [7] (fun i wr => ∃ i' : Nat, i = .int .i64 (i' : Int) ∧ i' ≤ n ∧ Hid (Scr wr w1.heap.size w3.heap.size (.slice au n cu) ns) ∧ Hid (Mid w1.heap.size w3.heap.size w5 wr)) (fun i _ => n - (intOf i).toNat)
        case atStart => exact ⟨0, rfl, Nat.zero_le _, SC0, Mid.refl _ _ _⟩
        case round =>
          obtain ⟨i', rfl, hi, HSC, HMD⟩ := hrel
          by_cases hlt2 : (i' : Int) < (n : Int)
          · have hin : i' < n := by omega
            have hiL : i' < ns.length := by rw [HNS.out]; exact hin
            obtain ⟨mi, hmi⟩ : ∃ mi, ns[i'] = mi := ⟨_, rfl⟩
            have HMI := Lib.hid hmi
            have hmb : mi ≤ 300000 := by rw [← hmi]; exact HNB.out _ (List.getElem_mem hiL)
            clear hmi
            go_wp2
            go_loopw [8] (fun q wr => ∃ j : Nat, q = .int .i64 (j : Int) ∧ j ≤ mi ∧ Hid (Scr wr w1.heap.size w3.heap.size (.slice au n cu) ns) ∧ Hid (Mid w1.heap.size w3.heap.size w5 wr)) (fun q _ => mi - (intOf q).toNat)
            case atStart => exact ⟨0, rfl, Nat.zero_le _, HSC, HMD⟩
            case round =>
              obtain ⟨j, rfl, hj, HS2, HM2⟩ := hrel
              obtain ⟨gl, p, m, kc, curl, rfl, k1, hm, hwr, hgl⟩ := HS2.out.at HNS.out i' hiL
              rw [HMI.out] at hm
              subst hm
              by_cases hjl : (j : Int) < (mi : Int)
              · obtain ⟨g, y, cur, rfl, c1, f1, hg, hB, hS⟩ := hwr.at j (by omega)
                go_wp2_with fail
                have hS0 : wr.drew.cell? ⟨gl, i' * 2 + 1, none⟩ = some (.slice (some ⟨g, 0, none⟩) mi kc) := k1
                have cD : wr.drew.cell? ⟨g, j, none⟩ = some (.int .u8 (y.toNat : Int)) := c1
                have fD : wr.drew.frozen? ⟨g, j, none⟩ = false := f1
                have gD : Hid (wr.drew.heap[g]? = some (.cells cur 5 (0, 0))) := hg
                have lD : Hid (wr.drew.heap[gl]? = some (.cells curl 24 (0, 0))) := hgl
                have SD : Hid (Scr wr.drew w1.heap.size w3.heap.size (.slice (some ⟨gl, 0, none⟩) n cu) ns) := HS2.out
                have MD := Lib.hid HM2.out.drew
                refine held_start (S := fun W => W.cell? ⟨gl, i' * 2 + 1, none⟩ = some (.slice (some ⟨g, 0, none⟩) mi kc)) 17 (by kernel_rfl) rfl ?_
                generalize wr.drew = WD at *
                clear k1 c1 f1 hg hgl HS2 HM2 hwr
                have SE := Lib.hid (SD.out.set gD.out j (y + 1))
                have ME := Lib.hid (MD.out.set hB hS j (.int .u8 ((y + 1).toNat : Int)))
                rw [byte_up] at SE ME
                have hS9 : (WD.setCell ⟨g, j, none⟩ (.int .u8 (((y.toNat : Int) + 1) % 256))).cell? ⟨gl, i' * 2 + 1, none⟩ = some (.slice (some ⟨g, 0, none⟩) mi kc) := cell_aside gD.out lD.out hS0
                have hwy : IntKind.u8.wrap ((y.toNat : Int) + 1) = ((y.toNat : Int) + 1) % 256 := by rw [IntKind.wrap_u8]
                refine held_take 0 (v := ?_) rfl (by kernel_rfl) (by kernel_rfl) (by kernel_rfl) (fun _ _ _ h => h) (by assumption) (by rfl) ?_ ?_
                rotate_left
                · (intro W hW; go_simp; try with_reducible rfl)
                simp only [Act.put, List.setIfInBounds_toArray, List.set_cons_zero, List.set_cons_succ]
                refine held_take 1 (v := ?_) rfl (by kernel_rfl) (by kernel_rfl) (by kernel_rfl) (fun _ _ _ h => h) (by assumption) (by rfl) ?_ ?_
                rotate_left
                · (intro W hW; go_simp; try with_reducible rfl)
                simp only [Act.put, List.setIfInBounds_toArray, List.set_cons_zero, List.set_cons_succ]
                refine held_take 2 (v := ?_) rfl (by kernel_rfl) (by kernel_rfl) (by kernel_rfl) (fun _ _ _ h => h) (by assumption) (by rfl) ?_ ?_
                rotate_left
                · (intro W hW; go_simp; try with_reducible rfl)
                simp only [Act.put, List.setIfInBounds_toArray, List.set_cons_zero, List.set_cons_succ]
                refine held_take 3 (v := ?_) rfl (by kernel_rfl) (by kernel_rfl) (by kernel_rfl) (fun _ _ _ h => h) (by assumption) (by rfl) ?_ ?_
                rotate_left
                · (intro W hW; go_simp; try with_reducible rfl)
                simp only [Act.put, List.setIfInBounds_toArray, List.set_cons_zero, List.set_cons_succ]
                refine held_take 4 (v := ?_) rfl (by kernel_rfl) (by kernel_rfl) (by kernel_rfl) (fun _ _ _ h => h) (by assumption) (by rfl) ?_ ?_
                rotate_left
                · (intro W hW; have e0 := hW; go_simp; try with_reducible rfl)
                simp only [Act.put, List.setIfInBounds_toArray, List.set_cons_zero, List.set_cons_succ]
                refine held_take 5 (v := ?_) rfl (by kernel_rfl) (by kernel_rfl) (by kernel_rfl) (fun _ _ _ h => h) (by assumption) (by rfl) ?_ ?_
                rotate_left
                · (intro W hW; go_simp; try with_reducible rfl)
                simp only [Act.put, List.setIfInBounds_toArray, List.set_cons_zero, List.set_cons_succ]
                refine held_take 6 (v := ?_) rfl (by kernel_rfl) (by kernel_rfl) (by kernel_rfl) (fun _ _ _ h => h) (by assumption) (by rfl) ?_ ?_
                rotate_left
                · (intro W hW; go_simp; try with_reducible rfl)
                simp only [Act.put, List.setIfInBounds_toArray, List.set_cons_zero, List.set_cons_succ]
                refine held_take 7 (v := ?_) rfl (by kernel_rfl) (by kernel_rfl) (by kernel_rfl) (fun _ _ _ h => h) (by assumption) (by rfl) ?_ ?_
                rotate_left
                · (intro W hW; go_simp; try with_reducible rfl)
                simp only [Act.put, List.setIfInBounds_toArray, List.set_cons_zero, List.set_cons_succ]
                refine held_take 8 (v := ?_) rfl (by kernel_rfl) (by kernel_rfl) (by kernel_rfl) (fun _ _ _ h => h) (by assumption) (by rfl) ?_ ?_
                rotate_left
                · (intro W hW; go_simp; try with_reducible rfl)
                simp only [Act.put, List.setIfInBounds_toArray, List.set_cons_zero, List.set_cons_succ]
                refine held_take 9 (v := ?_) rfl (by kernel_rfl) (by kernel_rfl) (by kernel_rfl) (fun _ _ _ h => h) (by assumption) (by rfl) ?_ ?_
                rotate_left
                · (intro W hW; go_simp; try with_reducible rfl)
                simp only [Act.put, List.setIfInBounds_toArray, List.set_cons_zero, List.set_cons_succ]
                refine held_take 10 (v := ?_) rfl (by kernel_rfl) (by kernel_rfl) (by kernel_rfl) (fun _ _ _ h => h) (by assumption) (by rfl) ?_ ?_
                rotate_left
                · (intro W hW; have e0 := hW; go_simp; try with_reducible rfl)
                simp only [Act.put, List.setIfInBounds_toArray, List.set_cons_zero, List.set_cons_succ]
                refine held_take 11 (v := ?_) rfl (by kernel_rfl) (by kernel_rfl) (by kernel_rfl) (fun _ _ _ h => h) (by assumption) (by rfl) ?_ ?_
                rotate_left
                · (intro W hW; go_simp; try with_reducible rfl)
                simp only [Act.put, List.setIfInBounds_toArray, List.set_cons_zero, List.set_cons_succ]
                refine held_take 12 (v := ?_) rfl (by kernel_rfl) (by kernel_rfl) (by kernel_rfl) (fun _ _ _ h => h) (by assumption) (by rfl) ?_ ?_
                rotate_left
                · (intro W hW; go_simp; try with_reducible rfl)
                simp only [Act.put, List.setIfInBounds_toArray, List.set_cons_zero, List.set_cons_succ]
                refine held_one 13 rfl (by kernel_rfl) (by rfl) ?_
                refine wp_value (v := .int .u8 (y.toNat : Int)) (w' := WD) (by go_simp) ⟨hS0, ?_⟩
                simp only [Act.put, List.setIfInBounds_toArray, List.set_cons_zero, List.set_cons_succ]
                refine held_take 14 (v := ?_) rfl (by kernel_rfl) (by kernel_rfl) (by kernel_rfl) (fun _ _ _ h => h) (by assumption) (by rfl) ?_ ?_
                rotate_left
                · (intro W hW; go_simp; try with_reducible rfl)
                simp only [Act.put, List.setIfInBounds_toArray, List.set_cons_zero, List.set_cons_succ]
                refine held_take 15 (v := ?_) rfl (by kernel_rfl) (by kernel_rfl) (by kernel_rfl) (fun _ _ _ h => h) (by assumption) (by rfl) ?_ ?_
                rotate_left
                · (intro W hW; go_simp; try with_reducible rfl)
                simp only [Act.put, List.setIfInBounds_toArray, List.set_cons_zero, List.set_cons_succ]
                refine held_alone 16 (w' := WD.setCell ⟨g, j, none⟩ (.int .u8 (((y.toNat : Int) + 1) % 256))) rfl (by kernel_rfl) (by rfl) (by go_simp) hS9 ?_
                simp only [Act.put]
                refine held_done (by kernel_rfl) ?_
                clear hS0 hS9 cD fD hwy
                go_wp2
                go_roundw
                case rel => exact ⟨j + 1, by simp, by omega, SE.out, ME.out⟩
                case measure => simp [intOf]; omega
              · go_wp2
                go_roundw
                case rel => exact ⟨i' + 1, by simp, by omega, HS2, HM2⟩
                case measure => simp [intOf]; omega
          · obtain ⟨w6, hw6⟩ : ∃ x, x = wr := ⟨_, rfl⟩
            rw [← hw6] at HMD ⊢
            have A6 := Lib.hid (Opts.mid A5.out HMD.out (Nat.le_refl _))
            have Bb6 := Lib.hid (Opts.mid Bb5.out HMD.out (Nat.le_refl _))
            have B6 := Lib.hid (Below.trans B5.out (HMD.out.below.mono hs1))
            have SB6 := Lib.hid (Opts.scr Bb6.out (Nat.le_refl _))
            have s36 : w3.heap.size ≤ w6.heap.size := Nat.le_trans s5 HMD.out.below.size
            have s13 : w.heap.size ≤ w3.heap.size := Nat.le_trans hs1 hbs
            clear hw6 HSC HMD A5 Bb5 B5 SC0
            go_wp2_with fail
            refine (CL.out w6 B6.out).mono ?_
            rintro e w7 ⟨vc, vd, rfl, oc, od, b7⟩
            have B7 := Lib.hid (Below.chain B6.out b7)
            obtain ⟨ac, cc, ec, hcc⟩ := oc.at B7.out
            rw [HNA.out] at ec
            subst ec
            obtain ⟨ad, cd, ed⟩ := od.slice
            rw [HNC.out] at ed
            subst ed
            obtain ⟨aa', ca', ea', haa⟩ := (A6.out.next b7).at
            rw [HNA.out] at ea'
            simp only [Value.slice.injEq, true_and] at ea'
            obtain ⟨rfl, rfl⟩ := ea'
            have S7 := Lib.hid (refSame_any aa ac na na ca cc A A w7 HNA.out HNA.out (by omega) haa hcc)
            rw [decide_eq_true rfl] at S7
            have Bb7 := Lib.hid (Bb6.out.next b7)
            have SB7 := Lib.hid (SB6.out.next b7)
            have D7 := Lib.hid od
            clear oc od b7 hcc haa A6 B6 SB6 Bb6
            go_wp2_with fail
            refine S7.out.mono ?_
            rintro e w8 ⟨rfl, b8⟩
            have B8 := Lib.hid (Below.chain B7.out b8)
            have Bb8 := Lib.hid (Bb7.out.next b8)
            have SB8 := Lib.hid (SB7.out.next b8)
            have D8 := Lib.hid (D7.out.next b8)
            obtain ⟨ab', cb', eb', hbb⟩ := Bb8.out.at
            rw [HNC.out] at eb'
            simp only [Value.slice.injEq, true_and] at eb'
            obtain ⟨rfl, rfl⟩ := eb'
            obtain ⟨ad', cd', ed', hdd⟩ := D8.out.at B8.out
            rw [HNC.out] at ed'
            simp only [Value.slice.injEq, true_and] at ed'
            obtain ⟨rfl, rfl⟩ := ed'
            have S8 := Lib.hid (refSame_any ab ad nc nc cb cd C C w8 HNC.out HNC.out (by omega) hbb hdd)
            rw [decide_eq_true rfl] at S8
            clear b8 hbb hdd Bb7 Bb8 SB7 D7 B7 S7
            go_wp2_with fail
            refine S8.out.mono ?_
            rintro e w9 ⟨rfl, b9⟩
            have B9 := Lib.hid (Below.chain B8.out b9)
            have SB9 := Lib.hid (SB8.out.next b9)
            have D9 := Lib.hid (D8.out.next b9)
            clear b9 B8 SB8 D8 S8
            generalize hms : C.map (fun x => x.data.length) = ms at SB9
            have hml : ms.length = nc := by rw [← hms, List.length_map]; exact HNC.out
            have HMS := Lib.hid hml
            have HMB : Hid (∀ x ∈ ms, x ≤ 300000) := fun x hx => by rw [← hms] at hx; obtain ⟨y, hy, rfl⟩ := List.mem_map.1 hx; exact HCB.out y hy
            clear hms hml
            go_wp2
            go_loopw [11] (fun i wr => ∃ i' : Nat, i = .int .i64 (i' : Int) ∧ i' ≤ nc ∧ Hid (Scr wr w3.heap.size w6.heap.size (.slice ab nc cb) ms) ∧ Hid (Mid w3.heap.size w6.heap.size w9 wr)) (fun i _ => nc - (intOf i).toNat)
            case atStart => exact ⟨0, rfl, Nat.zero_le _, SB9, Mid.refl _ _ _⟩
            case round =>
              obtain ⟨i', rfl, hi, HSC, HMD⟩ := hrel
              by_cases hlt2 : (i' : Int) < (nc : Int)
              · have hin : i' < nc := by omega
                have hiL : i' < ms.length := by rw [HMS.out]; exact hin
                obtain ⟨mi, hmi⟩ : ∃ mi, ms[i'] = mi := ⟨_, rfl⟩
                have HMI := Lib.hid hmi
                have hmb : mi ≤ 300000 := by rw [← hmi]; exact HMB.out _ (List.getElem_mem hiL)
                clear hmi
                go_wp2
                go_loopw [12] (fun q wr => ∃ j : Nat, q = .int .i64 (j : Int) ∧ j ≤ mi ∧ Hid (Scr wr w3.heap.size w6.heap.size (.slice ab nc cb) ms) ∧ Hid (Mid w3.heap.size w6.heap.size w9 wr)) (fun q _ => mi - (intOf q).toNat)
                case atStart => exact ⟨0, rfl, Nat.zero_le _, HSC, HMD⟩
                case round =>
                  obtain ⟨j, rfl, hj, HS2, HM2⟩ := hrel
                  obtain ⟨gl, p, m, kc, curl, rfl, k1, hm, hwr, hgl⟩ := HS2.out.at HMS.out i' hiL
                  rw [HMI.out] at hm
                  subst hm
                  by_cases hjl : (j : Int) < (mi : Int)
                  · obtain ⟨g, y, cur, rfl, c1, f1, hg, hB, hS⟩ := hwr.at j (by omega)
                    have SE := Lib.hid (HS2.out.set hg j 99)
                    have ME := Lib.hid (HM2.out.set hB hS j (.int .u8 99))
                    clear hgl hwr HS2 HM2
                    go_wp2
                    go_roundw
                    case rel => exact ⟨j + 1, by simp, by omega, SE.out, ME.out⟩
                    case measure => simp [intOf]; omega
                  · go_wp2
                    go_roundw
                    case rel => exact ⟨i' + 1, by simp, by omega, HS2, HM2⟩
                    case measure => simp [intOf]; omega
              · have B10 := Lib.hid (Below.trans B9.out (HMD.out.below.mono s13))
                have D10 := Lib.hid (D9.out.mid HMD.out (Nat.le_refl _))
                clear HSC HMD B9 D9 SB9
                go_wp2_with fail
                refine (CM.out wr B10.out).mono ?_
                rintro e w11 ⟨ve, vf, rfl, oe, of, b11⟩
                have B11 := Lib.hid (Below.chain B10.out b11)
                obtain ⟨ae, ce, ee⟩ := opts_slice oe
                subst ee
                obtain ⟨af, cf, ef, hff⟩ := of.at
                rw [HNC.out] at ef
                subst ef
                obtain ⟨ad', cd', ed', hdd⟩ := (D10.out.next b11).at B11.out
                rw [HNC.out] at ed'
                simp only [Value.slice.injEq, true_and] at ed'
                obtain ⟨rfl, rfl⟩ := ed'
                have S11 := Lib.hid (refSame_any af ad nc nc cf cd C C w11 HNC.out HNC.out (by omega) hff hdd)
                rw [decide_eq_true rfl] at S11
                rw [HNA.out]
                clear oe of b11 hff hdd B10 D10
                go_wp2_with fail
                refine S11.out.mono ?_
                rintro e w12 ⟨rfl, b12⟩
                have B12 := Lib.hid (Below.chain B11.out b12)
                clear b12 B11 S11
                go_wp2
                go_ret
                exact ⟨rfl, B12.out⟩
  · rw [Bool.not_eq_true] at hf
    have HF := Lib.hid hf
    clear hf
    go_enter Try.func8, Try.ntmps8
    go_wp2_with fail
    refine (awake_any _).mono ?_
    rintro e w1 ⟨rfl, b1⟩
    have B1 := Lib.hid b1
    clear b1
    go_wp2_with fail
    refine (few_any a n cap L w1 HL.out (H.out.next B1.out)).mono ?_
    rintro e w2 ⟨rfl, h2⟩; rw [h2]; clear h2
    rw [HF.out]
    go_wp2_with fail
    refine (awake_any _).mono ?_
    rintro e w3 ⟨rfl, b3⟩
    have B3 := Lib.hid (Below.chain B1.out b3)
    clear b3 B1
    go_wp2
    go_ret
    exact ⟨rfl, B3.out⟩
end Go.Proofs.Ytnhjpbhndckfgaa
