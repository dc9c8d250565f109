/- The law of what stays. -/
import Derived.Test.YtacnlancncmpmaaReadsWalk
import Derived.Test.YtacnlancncmpmaaKs
namespace Go.Proofs.Ytacnlancncmpmaa
open Go.RowKit Go.Maps S2 S12

theorem Ad.may_step (P : Int) {s : T} {x : Ot.O} (h : may P s = true) (hr : right P x = true) : may P (put1 s x) = true := by
  obtain ⟨ty, d⟩ := x
  rcases known_cases P (right_known P hr) with ⟨rfl, ht⟩ | ⟨rfl, ht⟩
  · have ht : ty = 1 := ht
    subst ht
    have hr : good 32855 1 d = true := hr
    have hne : b8 d ≠ o8 := by
      have e : good 32855 1 d = (decide (d.length = 8) && decide (b8 d ≠ o8)) := rfl
      rw [e, Bool.and_eq_true] at hr
      exact of_decide_eq_true hr.2
    rw [may, if_pos rfl, may6, Bool.and_eq_true] at h ⊢
    rw [show put1 s ⟨1, d⟩ = { s with hasId := true, id := b8 d } from rfl]
    exact ⟨h.1, by rw [decide_eq_true hne]; rfl⟩
  · have ht : ty = 2 ∨ ty = 3 ∨ ty = 129 ∨ ty = 130 ∨ ty = 131 ∨ ty = 132 := ht
    rw [may, if_neg (by decide), if_pos rfl, may4] at h ⊢
    simp only [Bool.and_eq_true] at h
    obtain ⟨⟨⟨⟨⟨⟨⟨⟨⟨h1, g4⟩, e2⟩, e3⟩, s1⟩, s2⟩, g0⟩, g1⟩, g2⟩, g3⟩ := h
    simp only [Bool.and_eq_true]
    rcases ht with rfl | rfl | rfl | rfl | rfl | rfl
    · have hb := (b4 d).c.toNat_lt
      rw [show put1 s ⟨2, d⟩ = { s with hasVj := true, slots := ((b4 d).c.toNat : Nat), vjId := decide ((b4 d).d = 1) } from rfl]
      exact ⟨⟨⟨⟨⟨⟨⟨⟨⟨h1, g4⟩, e2⟩, rfl⟩, decide_eq_true (by show (0 : Int) ≤ ((b4 d).c.toNat : Int); omega)⟩, decide_eq_true (by show ((b4 d).c.toNat : Int) ≤ 255; omega)⟩, g0⟩, g1⟩, g2⟩, g3⟩
    · exact ⟨⟨⟨⟨⟨⟨⟨⟨⟨h1, g4⟩, rfl⟩, e3⟩, s1⟩, s2⟩, g0⟩, g1⟩, g2⟩, g3⟩
    · exact ⟨⟨⟨⟨⟨⟨⟨⟨⟨h1, g4⟩, e2⟩, e3⟩, s1⟩, s2⟩, rfl⟩, g1⟩, g2⟩, g3⟩
    · exact ⟨⟨⟨⟨⟨⟨⟨⟨⟨h1, g4⟩, e2⟩, e3⟩, s1⟩, s2⟩, g0⟩, rfl⟩, g2⟩, g3⟩
    · exact ⟨⟨⟨⟨⟨⟨⟨⟨⟨h1, g4⟩, e2⟩, e3⟩, s1⟩, s2⟩, g0⟩, g1⟩, rfl⟩, g3⟩
    · exact ⟨⟨⟨⟨⟨⟨⟨⟨⟨h1, g4⟩, e2⟩, e3⟩, s1⟩, s2⟩, g0⟩, g1⟩, g2⟩, rfl⟩
theorem Ad.may_fold (P : Int) (l : List Ot.O) : ∀ s : T, may P s = true → (∀ x ∈ l, right P x = true) → may P (l.foldl put1 s) = true := by
  induction l with
  | nil => intro s h _; exact h
  | cons x l ih => intro s h hr; exact ih _ (may_step P h (hr x (by simp))) (fun y hy => hr y (by simp [hy]))
/-- What is read of a right list is put. -/
theorem Ad.put_read (P : Int) (L : List Ot.O) (hp : P = 32801 ∨ P = 32855) (h : (read P L).2 = true) : (put P (read P L).1).1 = opts (read P L).1 := by
  by_cases e : okl P L
  · rw [read_yes P e]
    have hz : may P z = true := by rcases hp with rfl | rfl <;> decide
    have hm : may P (told L) = true := may_fold P L z hz e.1
    show (put P (told L)).1 = opts (told L)
    rw [put_yes P hm]
  · rw [read_no P e] at h; cases h
theorem byte_up (y : UInt8) : ((y + 1).toNat : Int) = ((y.toNat : Int) + 1) % 256 := by simp
set_option maxRecDepth 100000 in
set_option maxHeartbeats 2000000 in
theorem keeps_walk (P : Int) (a : Option Addr) (n cap : Nat) (L : List Ot.O) (w : World) (hL : L.length = n) (hc : n ≤ cap) (hw : ∀ x ∈ L, (Lit.int .i64 x.ty).wf = true) (h : OptsAt w a L) :
    Calls Try.prog 8 #[.int .i64 P, .slice a n cap] w fun e w' => e = .returned (.bool true) ∧ Below w.heap.size w w' := by
  have H := Lib.hid h
  have HL := Lib.hid hL
  have HW := Lib.hid hw
  clear h hL hw
  by_cases hf : Ot.few L = true
  · obtain ⟨hn, hd⟩ := few_small hf
    have hn2 : n ≤ 50 := by have := HL.out; omega
    have HF := Lib.hid hf
    have HD := Lib.hid hd
    clear hf hn hd
    go_enter Try.func8, Try.ntmps8
    go_wp2_with fail
    refine (awake_any _).mono ?_
    rintro e w1 ⟨rfl, b1⟩
    have B1 := Lib.hid b1
    clear b1
    go_wp2_with fail
    refine (few_any a n cap L w1 HL.out (H.out.next B1.out)).mono ?_
    rintro e w2 ⟨rfl, h2⟩; rw [h2]; clear h2
    rw [HF.out]
    clear HF
    have hs1 := B1.out.size
    go_wp2
    go_loopw [5, 6] (fun u i wr => ∃ k : Nat, i = .int .i64 (k : Int) ∧ k ≤ n ∧ Hid (Lopts False wr w w1.heap.size u (L.take k)) ∧ Below w1.heap.size w1 wr) (fun _ i _ => n - (intOf i).toNat)
    case atStart => exact ⟨0, rfl, Nat.zero_le _, by rw [List.take_zero]; exact lopts_none _ _ _ _, Below.refl _ _⟩
    case round =>
      obtain ⟨k, rfl, hk, HA, hbw⟩ := hrel
      by_cases hlt : (k : Int) < (n : Int)
      · have hkn : k < n := by omega
        have hkL : k < L.length := by rw [HL.out]; omega
        have BWR := Lib.hid (Below.trans B1.out (hbw.mono hs1))
        obtain ⟨b, off, q, d, rfl, r0, hb0⟩ := H.out.at k hkL
        have r1 := r0.next hb0 BWR.out
        have hb1 : b < wr.heap.size := Nat.lt_of_lt_of_le hb0 BWR.out.size
        have HE := Lib.hid (List.take_succ_eq_append_getElem hkL)
        have hdx := HD.out L[k] (List.getElem_mem hkL)
        generalize L[k] = r at *
        obtain ⟨m, hm⟩ : ∃ m, r.data.length = m := ⟨_, rfl⟩
        have x0 := r1.ty
        have x1 := r1.data
        have R1 := Lib.hid r1.row
        rw [hm] at x1 hdx
        have HM := Lib.hid hm
        have hbs := hbw.size
        go_wp2_with fail
        have hS : wr.drew.cell? ⟨b, off + k * 2, none⟩ = some (.int .i64 r.ty) ∧ wr.drew.cell? ⟨b, off + k * 2 + 1, none⟩ = some (.slice q m d) := ⟨x0, x1⟩
        have AD := Lib.hid (HA.out.next (Below.refl _ wr).drew)
        have RD := Lib.hid (R1.out.next (Below.refl _ wr).drew)
        have BD := Lib.hid hbw.drew
        have hsD : w1.heap.size ≤ wr.drew.heap.size := hbs
        have hbD : b < wr.drew.heap.size := hb1
        refine held_start (S := fun W => W.cell? ⟨b, off + k * 2, none⟩ = some (.int .i64 r.ty) ∧ W.cell? ⟨b, off + k * 2 + 1, none⟩ = some (.slice q m d)) 17 (by kernel_rfl) rfl ?_
        generalize wr.drew = WD at *
        clear x0 x1 hm r0 r1 HA hbw hbs hb1 R1 BWR
        have stay : ∀ W, Below WD.heap.size WD W → W.cell? ⟨b, off + k * 2, none⟩ = some (.int .i64 r.ty) ∧ W.cell? ⟨b, off + k * 2 + 1, none⟩ = some (.slice q m d) := fun W hW => ⟨(hW.cell (p := ⟨b, off + k * 2, none⟩) hbD).trans hS.1, (hW.cell (p := ⟨b, off + k * 2 + 1, none⟩) hbD).trans hS.2⟩
        have STAY := Lib.hid stay
        clear stay
        refine held_take 0 (v := ?_) rfl (by kernel_rfl) (by kernel_rfl) (by kernel_rfl) (fun _ _ _ h => h) (by assumption) (by rfl) ?_ ?_
        rotate_left
        · (intro W hW; go_simp; try with_reducible rfl)
        simp only [Act.put, List.setIfInBounds_toArray, List.set_cons_zero, List.set_cons_succ]
        refine held_take 1 (v := ?_) rfl (by kernel_rfl) (by kernel_rfl) (by kernel_rfl) (fun _ _ _ h => h) (by assumption) (by rfl) ?_ ?_
        rotate_left
        · (intro W hW; go_simp; try with_reducible rfl)
        simp only [Act.put, List.setIfInBounds_toArray, List.set_cons_zero, List.set_cons_succ]
        refine held_take 2 (v := ?_) rfl (by kernel_rfl) (by kernel_rfl) (by kernel_rfl) (fun _ _ _ h => h) (by assumption) (by rfl) ?_ ?_
        rotate_left
        · (intro W hW; go_simp; try with_reducible rfl)
        simp only [Act.put, List.setIfInBounds_toArray, List.set_cons_zero, List.set_cons_succ]
        refine held_take 3 (v := ?_) rfl (by kernel_rfl) (by kernel_rfl) (by kernel_rfl) (fun _ _ _ h => h) (by assumption) (by rfl) ?_ ?_
        rotate_left
        · (intro W hW; go_simp; try with_reducible rfl)
        simp only [Act.put, List.setIfInBounds_toArray, List.set_cons_zero, List.set_cons_succ]
        refine held_take 4 (v := ?_) rfl (by kernel_rfl) (by kernel_rfl) (by kernel_rfl) (fun _ _ _ h => h) (by assumption) (by rfl) ?_ ?_
        rotate_left
        · (intro W hW; go_simp; try with_reducible rfl)
        simp only [Act.put, List.setIfInBounds_toArray, List.set_cons_zero, List.set_cons_succ]
        refine held_take 5 (v := ?_) rfl (by kernel_rfl) (by kernel_rfl) (by kernel_rfl) (fun _ _ _ h => h) (by assumption) (by rfl) ?_ ?_
        rotate_left
        · (intro W hW; have e0 := hW.1; go_simp; try with_reducible rfl)
        simp only [Act.put, List.setIfInBounds_toArray, List.set_cons_zero, List.set_cons_succ]
        refine held_take 7 (v := ?_) rfl (by kernel_rfl) (by kernel_rfl) (by kernel_rfl) (fun _ _ _ h => h) (by assumption) (by rfl) ?_ ?_
        rotate_left
        · (intro W hW; go_simp; try with_reducible rfl)
        simp only [Act.put, List.setIfInBounds_toArray, List.set_cons_zero, List.set_cons_succ]
        refine held_take 8 (v := ?_) rfl (by kernel_rfl) (by kernel_rfl) (by kernel_rfl) (fun _ _ _ h => h) (by assumption) (by rfl) ?_ ?_
        rotate_left
        · (intro W hW; go_simp; try with_reducible rfl)
        simp only [Act.put, List.setIfInBounds_toArray, List.set_cons_zero, List.set_cons_succ]
        refine held_take 9 (v := ?_) rfl (by kernel_rfl) (by kernel_rfl) (by kernel_rfl) (fun _ _ _ h => h) (by assumption) (by rfl) ?_ ?_
        rotate_left
        · (intro W hW; go_simp; try with_reducible rfl)
        simp only [Act.put, List.setIfInBounds_toArray, List.set_cons_zero, List.set_cons_succ]
        refine held_take 10 (v := ?_) rfl (by kernel_rfl) (by kernel_rfl) (by kernel_rfl) (fun _ _ _ h => h) (by assumption) (by rfl) ?_ ?_
        rotate_left
        · (intro W hW; go_simp; try with_reducible rfl)
        simp only [Act.put, List.setIfInBounds_toArray, List.set_cons_zero, List.set_cons_succ]
        refine held_take 11 (v := ?_) rfl (by kernel_rfl) (by kernel_rfl) (by kernel_rfl) (fun _ _ _ h => h) (by assumption) (by rfl) ?_ ?_
        rotate_left
        · (intro W hW; have e0 := hW.2; go_simp; try with_reducible rfl)
        simp only [Act.put, List.setIfInBounds_toArray, List.set_cons_zero, List.set_cons_succ]
        have bE := below_one WD (.cells #[] 5)
        have hSE := STAY.out _ bE
        refine held_makes 6 (v := .slice (some ⟨WD.heap.size, 0, none⟩) 0 0) (w' := WD.alloc (.cells #[] 5)) rfl (by kernel_rfl) (by rfl) (by go_simp) hSE ?_
        simp only [Act.put, List.setIfInBounds_toArray, List.set_cons_zero, List.set_cons_succ]
        refine held_one 12 rfl (by kernel_rfl) (by rfl) ?_
        refine wp_append_row (.tmp 37) (.tmp 42) rfl WD.heap.size (.slice (some ⟨WD.heap.size, 0, none⟩) 0 0) 0 [] rfl (World.ownsRow_made WD #[] 0 (Nat.le_refl _) (Nat.zero_le _) rfl) q m d r.data rfl HM.out (RD.out.next bE) (by omega) (by simp) ?_
        intro v5 w5 o5 g5
        rw [Nat.zero_add, List.nil_append] at o5
        obtain ⟨p5, c5, rfl⟩ := own_slice o5
        have b5 : Below WD.heap.size WD w5 := Below.grown bE g5 (by simp) (fun j hj => ((World.ownsRow_made (base := WD.heap.size) (e := 5) (size := 1) WD #[] 0 (Nat.le_refl _) (Nat.zero_le _) rfl).lt j hj).1)
        have hS5 := STAY.out _ b5
        refine ⟨hS5, ?_⟩
        simp only [Act.put, List.setIfInBounds_toArray, List.set_cons_zero, List.set_cons_succ]
        clear hSE bE g5
        have b7 := below_one w5 (.cells #[.int .i64 r.ty, .slice p5 m c5] 24)
        have A7 := Lib.hid ((AD.out.next b5).next b7)
        have D7 : Hid (DataIs False (w5.alloc (.cells #[.int .i64 r.ty, .slice p5 m c5] 24)) w w1.heap.size (.slice p5 m c5) r.data) := by
          refine .inl ?_
          rw [HM.out]
          exact ownsRow_next (ownsRow_lower o5 hsD) b7
        have G7 := Lib.hid (heap_alloc_new w5 (.cells #[.int .i64 r.ty, .slice p5 m c5] 24))
        have Q7 := Lib.hid (Below.chain (Below.chain BD.out b5) b7)
        have hS7 := STAY.out _ (Below.chain b5 b7)
        have s7 := Lib.hid (show w1.heap.size ≤ (w5.alloc (.cells #[.int .i64 r.ty, .slice p5 m c5] 24)).heap.size from Nat.le_trans hsD (Nat.le_trans b5.size b7.size))
        have AL7 := Lib.hid A7.out.lt
        have hb7 : b < (w5.alloc (.cells #[.int .i64 r.ty, .slice p5 m c5] 24)).heap.size := Nat.lt_of_lt_of_le hbD (Nat.le_trans b5.size b7.size)
        have U7 := Lib.hid (Below.chain b5 b7)
        clear o5 b5 b7 AD BD RD hS
        refine held_take 13 (v := ?_) rfl (by kernel_rfl) (by kernel_rfl) (by kernel_rfl) (fun _ _ _ h => h) (by assumption) (by rfl) ?_ ?_
        rotate_left
        · (intro W hW; go_simp; try with_reducible rfl)
        simp only [Act.put, List.setIfInBounds_toArray, List.set_cons_zero, List.set_cons_succ]
        refine held_makes 14 (v := .slice (some ⟨w5.heap.size, 0, none⟩) 1 1) (w' := w5.alloc (.cells #[.int .i64 r.ty, .slice p5 m c5] 24)) rfl (by kernel_rfl) (by rfl) (by go_simp) hS7 ?_
        simp only [Act.put, List.setIfInBounds_toArray, List.set_cons_zero, List.set_cons_succ]
        clear hS5
        refine held_one 15 rfl (by kernel_rfl) (by rfl) ?_
        refine wp_append_lopts (.tmp 31) (.tmp 45) rfl w1.heap.size _ (L.take k) r (.slice p5 m c5) w5.heap.size rfl rfl A7.out D7.out G7.out s7.out (by rw [List.length_take]; omega) ?_
        intro v8 w8 L8 g8 x8
        have hne : some b ≠ u5.ownBlock := fun e => by have := (AL7.out b e.symm).1; omega
        have hS8 : w8.cell? ⟨b, off + k * 2, none⟩ = some (.int .i64 r.ty) ∧ w8.cell? ⟨b, off + k * 2 + 1, none⟩ = some (.slice q m d) := ⟨g8.cell hS7.1 hne, g8.cell hS7.2 hne⟩
        refine ⟨hS8, ?_⟩
        simp only [Act.put, List.setIfInBounds_toArray, List.set_cons_zero, List.set_cons_succ]
        clear hS7
        refine held_take 16 (v := ?_) rfl (by kernel_rfl) (by kernel_rfl) (by kernel_rfl) (fun _ _ _ h => h) (by assumption) (by rfl) ?_ ?_
        rotate_left
        · (intro W hW; go_simp; try with_reducible rfl)
        simp only [Act.put, List.setIfInBounds_toArray, List.set_cons_zero, List.set_cons_succ]
        refine held_done (by kernel_rfl) ?_
        clear hS8
        go_wp2
        go_roundw
        case rel =>
          refine ⟨k + 1, by simp, by omega, ?_, Below.grown Q7.out g8 s7.out (fun j hj => (AL7.out j hj).1)⟩
          show Lopts _ _ _ _ _ _
          rw [HE.out]; exact L8
        case measure => simp [intOf]; omega
      · have hall : L.take k = L := List.take_of_length_le (by rw [HL.out]; omega)
        rw [hall] at HA
        obtain ⟨w3, hw3⟩ : ∃ x, x = wr := ⟨_, rfl⟩
        rw [← hw3] at HA hbw ⊢
        clear hw3
        have O3 := Lib.hid HA.out.opts
        have SCR := Lib.hid (Opts.scr O3.out (Nat.le_refl _))
        have hbs := hbw.size
        have B3 := Lib.hid (Below.trans B1.out (hbw.mono hs1))
        obtain ⟨au, cu, eu, hu⟩ := O3.out.at
        rw [HL.out] at eu
        subst eu
        have C3 := Lib.hid (bad_any P au n cu L w3 HL.out (by omega) HD.out HW.out hu)
        have hx1 : (Ad.away P L).length ≤ 50 := by have := Ad.away_le P L n; rw [Ad.away_all P (by rw [HL.out]; exact Nat.le_refl _)] at this; omega
        have hx2 : (Ad.changed P L).length ≤ 50 := by have := Ad.changed_le P L n; rw [Ad.changed_all P (by rw [HL.out]; exact Nat.le_refl _)] at this; omega
        have CL := Lib.hid (fun W (hB : Below w.heap.size w W) => refBad_from P a n cap L w W HL.out (by omega) hc H.out hB)
        have CR := Lib.hid (fun W (hO : OptsAt W au L) => read_any P au n cu L W HL.out (by omega) HW.out hO)
        obtain ⟨X, hX⟩ : ∃ X, (Ad.read P L).1 = X := ⟨_, rfl⟩
        obtain ⟨ok, hok⟩ : ∃ b, (Ad.read P L).2 = b := ⟨_, rfl⟩
        obtain ⟨Y, hY⟩ : ∃ Y, (Ad.put P X).1 = Y := ⟨_, rfl⟩
        have CP := Lib.hid (fun W => put_any P X W)
        have HPY : Hid (ok = true → (P = 32801 ∨ P = 32855) → Y = Ad.opts X) := fun h1 h2 => by
          rw [← hY, ← hX]; exact Ad.put_read P L h2 (hok.trans h1)
        simp only [ToldRes, hX, hok] at CR
        simp only [TermPutRes, hY] at CP
        generalize (Ad.put P X).2 = pk at CP
        clear hX hok hY
        generalize Ad.away P L = A at *
        generalize Ad.changed P L = C at *
        obtain ⟨na, hna⟩ : ∃ na, A.length = na := ⟨_, rfl⟩
        obtain ⟨nc, hnc⟩ : ∃ nc, C.length = nc := ⟨_, rfl⟩
        have HNA := Lib.hid hna
        have HNC := Lib.hid hnc
        rw [hna] at hx1
        rw [hnc] at hx2
        clear hna hnc hall HA hbw hu
        go_wp2_with fail
        refine C3.out.mono ?_
        rintro e w4 ⟨va, vb, rfl, oa, ob, b4⟩
        obtain ⟨aa, ca, ea⟩ := opts_slice oa
        rw [HNA.out] at ea
        subst ea
        obtain ⟨ab, cb, eb⟩ := opts_slice ob
        rw [HNC.out] at eb
        subst eb
        have A4 := Lib.hid oa
        have Bb4 := Lib.hid ob
        have O4 := Lib.hid (O3.out.next b4)
        have SC4 := Lib.hid (SCR.out.next b4)
        have B4 := Lib.hid (Below.chain B3.out b4)
        have s4 := b4.size
        obtain ⟨au', cu', eu', hu4⟩ := O4.out.at
        rw [HL.out] at eu'
        simp only [Value.slice.injEq, true_and] at eu'
        obtain ⟨rfl, rfl⟩ := eu'
        clear oa ob b4 C3 O3 B3 SCR
        go_wp2_with fail
        refine (CR.out w4 hu4).mono ?_
        rintro e w5 ⟨rfl, b5⟩
        have bt := below_one w5 (.cells (acells Ad.z).toArray 35)
        have GZ := Lib.hid (heap_alloc_new w5 (.cells (acells Ad.z).toArray 35))
        have b6 := Below.chain b5 (below_setRow bt (Nat.le_refl _) (acells X).toArray)
        have T6 : Hid (TmAt ((w5.alloc (.cells (acells Ad.z).toArray 35)).setRow w5.heap.size (acells X).toArray) w5.heap.size X) := setRow_heap _ _ _ _ _ _ GZ.out
        have A6 := Lib.hid (A4.out.next b6)
        have Bb6 := Lib.hid (Bb4.out.next b6)
        have SC6 := Lib.hid (SC4.out.next b6)
        have B6 := Lib.hid (Below.chain B4.out b6)
        have O6 := Lib.hid (O4.out.next b6)
        have s6 := Nat.le_trans s4 b6.size
        have hg5 := Nat.le_trans s4 b5.size
        clear bt b5 b6 hu4 CR A4 Bb4 B4 O4 SC4
        go_wp2_with (first
          | (refine wpList_store_ad rfl _ _ rfl w5.heap.size X _ rfl rfl GZ.out rfl ?_; show wpList _ _ _ _ _ ((w5.alloc (.cells (acells Ad.z).toArray 35)).setRow w5.heap.size (acells X).toArray); generalize (w5.alloc (.cells (acells Ad.z).toArray 35)).setRow w5.heap.size (acells X).toArray = w6 at T6 A6 Bb6 SC6 B6 O6 s6 ⊢)
          | (refine wpList_load_row rfl 35 (.tmp 9) rfl w5.heap.size rfl 35 (acells X).toArray (0, 0) _ T6.out Try.underlying35 rfl infoAd ?_))
        generalize w5.heap.size = g at *
        clear GZ
        refine (CP.out w6).mono ?_
        rintro e w7 ⟨vy, rfl, oy, b7⟩
        obtain ⟨ay, cy, ey⟩ := opts_slice oy
        obtain ⟨ny, hny⟩ : ∃ ny, Y.length = ny := ⟨_, rfl⟩
        rw [hny] at ey
        subst ey
        have HNY := Lib.hid hny
        have Y7 := Lib.hid oy
        have T7 := Lib.hid (T6.out.next b7)
        have A7 := Lib.hid (A6.out.next b7)
        have Bb7 := Lib.hid (Bb6.out.next b7)
        have SC7 := Lib.hid (SC6.out.next b7)
        have B7 := Lib.hid (Below.chain B6.out b7)
        have O7 := Lib.hid (O6.out.next b7)
        have s7 := Nat.le_trans s6 b7.size
        obtain ⟨au', cu', eu', hu7⟩ := O7.out.at
        rw [HL.out] at eu'
        simp only [Value.slice.injEq, true_and] at eu'
        obtain ⟨rfl, rfl⟩ := eu'
        have S7 := Lib.hid (refSame_any au a n n cu cap L L w7 HL.out HL.out (by omega) hu7 (H.out.next B7.out))
        rw [decide_eq_true rfl] at S7
        clear oy b7 hny hu7 CP T6 A6 Bb6 SC6 B6 O6 O7
        go_wp2_with fail
        refine S7.out.mono ?_
        rintro e w8 ⟨rfl, b8⟩
        have A8 := Lib.hid (A7.out.next b8)
        have Bb8 := Lib.hid (Bb7.out.next b8)
        have Y8 := Lib.hid (Y7.out.next b8)
        have T8 := Lib.hid (T7.out.next b8)
        have B8 := Lib.hid (Below.chain B7.out b8)
        have s8 := Nat.le_trans s7 b8.size
        have hs8 : w1.heap.size ≤ w8.heap.size := Nat.le_trans hbs s8
        have SC0 := Lib.hid (SC7.out.next b8)
        clear b8 S7 A7 Bb7 Y7 T7 B7 SC7
        generalize hns : L.map (fun x => x.data.length) = ns at SC0
        have hnl : ns.length = n := by rw [← hns, List.length_map]; exact HL.out
        have HNS := Lib.hid hnl
        have HNB : Hid (∀ x ∈ ns, x ≤ 300000) := fun x hx => by rw [← hns] at hx; obtain ⟨y, hy, rfl⟩ := List.mem_map.1 hx; exact HD.out y hy
        clear hns hnl
        go_wp2
        go_loopw [13] (fun i wr => ∃ i' : Nat, i = .int .i64 (i' : Int) ∧ i' ≤ n ∧ Hid (Scr wr w1.heap.size w3.heap.size (.slice au n cu) ns) ∧ Hid (Mid w1.heap.size w3.heap.size w8 wr)) (fun i _ => n - (intOf i).toNat)
        case atStart => exact ⟨0, rfl, Nat.zero_le _, SC0, Mid.refl _ _ _⟩
        case round =>
          obtain ⟨i', rfl, hi, HSC, HMD⟩ := hrel
          by_cases hlt2 : (i' : Int) < (n : Int)
          · have hin : i' < n := by omega
            have hiL : i' < ns.length := by rw [HNS.out]; exact hin
            obtain ⟨mi, hmi⟩ : ∃ mi, ns[i'] = mi := ⟨_, rfl⟩
            have HMI := Lib.hid hmi
            have hmb : mi ≤ 300000 := by rw [← hmi]; exact HNB.out _ (List.getElem_mem hiL)
            clear hmi
            go_wp2
            go_loopw [14] (fun q wr => ∃ j : Nat, q = .int .i64 (j : Int) ∧ j ≤ mi ∧ Hid (Scr wr w1.heap.size w3.heap.size (.slice au n cu) ns) ∧ Hid (Mid w1.heap.size w3.heap.size w8 wr)) (fun q _ => mi - (intOf q).toNat)
            case atStart => exact ⟨0, rfl, Nat.zero_le _, HSC, HMD⟩
            case round =>
              obtain ⟨j, rfl, hj, HS2, HM2⟩ := hrel
              obtain ⟨gl, p, m, kc, curl, rfl, k1, hm, hwr, hgl⟩ := HS2.out.at HNS.out i' hiL
              rw [HMI.out] at hm
              subst hm
              by_cases hjl : (j : Int) < (mi : Int)
              · obtain ⟨g, y, cur, rfl, c1, f1, hg, hB, hS⟩ := hwr.at j (by omega)
                go_wp2_with fail
                have hS0 : wr.drew.cell? ⟨gl, i' * 2 + 1, none⟩ = some (.slice (some ⟨g, 0, none⟩) mi kc) := k1
                have cD : wr.drew.cell? ⟨g, j, none⟩ = some (.int .u8 (y.toNat : Int)) := c1
                have fD : wr.drew.frozen? ⟨g, j, none⟩ = false := f1
                have gD : Hid (wr.drew.heap[g]? = some (.cells cur 5 (0, 0))) := hg
                have lD : Hid (wr.drew.heap[gl]? = some (.cells curl 24 (0, 0))) := hgl
                have SD : Hid (Scr wr.drew w1.heap.size w3.heap.size (.slice (some ⟨gl, 0, none⟩) n cu) ns) := HS2.out
                have MD := Lib.hid HM2.out.drew
                refine held_start (S := fun W => W.cell? ⟨gl, i' * 2 + 1, none⟩ = some (.slice (some ⟨g, 0, none⟩) mi kc)) 17 (by kernel_rfl) rfl ?_
                generalize wr.drew = WD at *
                clear k1 c1 f1 hg hgl HS2 HM2 hwr
                have SE := Lib.hid (SD.out.set gD.out j (y + 1))
                have ME := Lib.hid (MD.out.set hB hS j (.int .u8 ((y + 1).toNat : Int)))
                rw [byte_up] at SE ME
                have hS9 : (WD.setCell ⟨g, j, none⟩ (.int .u8 (((y.toNat : Int) + 1) % 256))).cell? ⟨gl, i' * 2 + 1, none⟩ = some (.slice (some ⟨g, 0, none⟩) mi kc) := cell_aside gD.out lD.out hS0
                have hwy : IntKind.u8.wrap ((y.toNat : Int) + 1) = ((y.toNat : Int) + 1) % 256 := by rw [IntKind.wrap_u8]
                refine held_take 0 (v := ?_) rfl (by kernel_rfl) (by kernel_rfl) (by kernel_rfl) (fun _ _ _ h => h) (by assumption) (by rfl) ?_ ?_
                rotate_left
                · (intro W hW; go_simp; try with_reducible rfl)
                simp only [Act.put, List.setIfInBounds_toArray, List.set_cons_zero, List.set_cons_succ]
                refine held_take 1 (v := ?_) rfl (by kernel_rfl) (by kernel_rfl) (by kernel_rfl) (fun _ _ _ h => h) (by assumption) (by rfl) ?_ ?_
                rotate_left
                · (intro W hW; go_simp; try with_reducible rfl)
                simp only [Act.put, List.setIfInBounds_toArray, List.set_cons_zero, List.set_cons_succ]
                refine held_take 2 (v := ?_) rfl (by kernel_rfl) (by kernel_rfl) (by kernel_rfl) (fun _ _ _ h => h) (by assumption) (by rfl) ?_ ?_
                rotate_left
                · (intro W hW; go_simp; try with_reducible rfl)
                simp only [Act.put, List.setIfInBounds_toArray, List.set_cons_zero, List.set_cons_succ]
                refine held_take 3 (v := ?_) rfl (by kernel_rfl) (by kernel_rfl) (by kernel_rfl) (fun _ _ _ h => h) (by assumption) (by rfl) ?_ ?_
                rotate_left
                · (intro W hW; go_simp; try with_reducible rfl)
                simp only [Act.put, List.setIfInBounds_toArray, List.set_cons_zero, List.set_cons_succ]
                refine held_take 4 (v := ?_) rfl (by kernel_rfl) (by kernel_rfl) (by kernel_rfl) (fun _ _ _ h => h) (by assumption) (by rfl) ?_ ?_
                rotate_left
                · (intro W hW; have e0 := hW; go_simp; try with_reducible rfl)
                simp only [Act.put, List.setIfInBounds_toArray, List.set_cons_zero, List.set_cons_succ]
                refine held_take 5 (v := ?_) rfl (by kernel_rfl) (by kernel_rfl) (by kernel_rfl) (fun _ _ _ h => h) (by assumption) (by rfl) ?_ ?_
                rotate_left
                · (intro W hW; go_simp; try with_reducible rfl)
                simp only [Act.put, List.setIfInBounds_toArray, List.set_cons_zero, List.set_cons_succ]
                refine held_take 6 (v := ?_) rfl (by kernel_rfl) (by kernel_rfl) (by kernel_rfl) (fun _ _ _ h => h) (by assumption) (by rfl) ?_ ?_
                rotate_left
                · (intro W hW; go_simp; try with_reducible rfl)
                simp only [Act.put, List.setIfInBounds_toArray, List.set_cons_zero, List.set_cons_succ]
                refine held_take 7 (v := ?_) rfl (by kernel_rfl) (by kernel_rfl) (by kernel_rfl) (fun _ _ _ h => h) (by assumption) (by rfl) ?_ ?_
                rotate_left
                · (intro W hW; go_simp; try with_reducible rfl)
                simp only [Act.put, List.setIfInBounds_toArray, List.set_cons_zero, List.set_cons_succ]
                refine held_take 8 (v := ?_) rfl (by kernel_rfl) (by kernel_rfl) (by kernel_rfl) (fun _ _ _ h => h) (by assumption) (by rfl) ?_ ?_
                rotate_left
                · (intro W hW; go_simp; try with_reducible rfl)
                simp only [Act.put, List.setIfInBounds_toArray, List.set_cons_zero, List.set_cons_succ]
                refine held_take 9 (v := ?_) rfl (by kernel_rfl) (by kernel_rfl) (by kernel_rfl) (fun _ _ _ h => h) (by assumption) (by rfl) ?_ ?_
                rotate_left
                · (intro W hW; go_simp; try with_reducible rfl)
                simp only [Act.put, List.setIfInBounds_toArray, List.set_cons_zero, List.set_cons_succ]
                refine held_take 10 (v := ?_) rfl (by kernel_rfl) (by kernel_rfl) (by kernel_rfl) (fun _ _ _ h => h) (by assumption) (by rfl) ?_ ?_
                rotate_left
                · (intro W hW; have e0 := hW; go_simp; try with_reducible rfl)
                simp only [Act.put, List.setIfInBounds_toArray, List.set_cons_zero, List.set_cons_succ]
                refine held_take 11 (v := ?_) rfl (by kernel_rfl) (by kernel_rfl) (by kernel_rfl) (fun _ _ _ h => h) (by assumption) (by rfl) ?_ ?_
                rotate_left
                · (intro W hW; go_simp; try with_reducible rfl)
                simp only [Act.put, List.setIfInBounds_toArray, List.set_cons_zero, List.set_cons_succ]
                refine held_take 12 (v := ?_) rfl (by kernel_rfl) (by kernel_rfl) (by kernel_rfl) (fun _ _ _ h => h) (by assumption) (by rfl) ?_ ?_
                rotate_left
                · (intro W hW; go_simp; try with_reducible rfl)
                simp only [Act.put, List.setIfInBounds_toArray, List.set_cons_zero, List.set_cons_succ]
                refine held_one 13 rfl (by kernel_rfl) (by rfl) ?_
                refine wp_value (v := .int .u8 (y.toNat : Int)) (w' := WD) (by go_simp) ⟨hS0, ?_⟩
                simp only [Act.put, List.setIfInBounds_toArray, List.set_cons_zero, List.set_cons_succ]
                refine held_take 14 (v := ?_) rfl (by kernel_rfl) (by kernel_rfl) (by kernel_rfl) (fun _ _ _ h => h) (by assumption) (by rfl) ?_ ?_
                rotate_left
                · (intro W hW; go_simp; try with_reducible rfl)
                simp only [Act.put, List.setIfInBounds_toArray, List.set_cons_zero, List.set_cons_succ]
                refine held_take 15 (v := ?_) rfl (by kernel_rfl) (by kernel_rfl) (by kernel_rfl) (fun _ _ _ h => h) (by assumption) (by rfl) ?_ ?_
                rotate_left
                · (intro W hW; go_simp; try with_reducible rfl)
                simp only [Act.put, List.setIfInBounds_toArray, List.set_cons_zero, List.set_cons_succ]
                refine held_alone 16 (w' := WD.setCell ⟨g, j, none⟩ (.int .u8 (((y.toNat : Int) + 1) % 256))) rfl (by kernel_rfl) (by rfl) (by go_simp) hS9 ?_
                simp only [Act.put]
                refine held_done (by kernel_rfl) ?_
                clear hS0 hS9 cD fD hwy
                go_wp2
                go_roundw
                case rel => exact ⟨j + 1, by simp, by omega, SE.out, ME.out⟩
                case measure => simp [intOf]; omega
              · go_wp2
                go_roundw
                case rel => exact ⟨i' + 1, by simp, by omega, HS2, HM2⟩
                case measure => simp [intOf]; omega
          · obtain ⟨w9, hw9⟩ : ∃ x, x = wr := ⟨_, rfl⟩
            rw [← hw9] at HMD ⊢
            have A9 := Lib.hid (Opts.mid A8.out HMD.out (Nat.le_refl _))
            have Bb9 := Lib.hid (Opts.mid Bb8.out HMD.out (Nat.le_refl _))
            have Y9 := Lib.hid (Opts.mid Y8.out HMD.out s6)
            have T9 : Hid (TmAt w9 g X) := (HMD.out.up g hg5 (lt_of_block T8.out)).trans T8.out
            have B9 := Lib.hid (Below.trans B8.out (HMD.out.below.mono hs1))
            clear hw9 HSC HMD A8 Bb8 Y8 T8 B8 SC0
            go_wp2_with fail
            refine (CL.out w9 B9.out).mono ?_
            rintro e w10 ⟨vc, vd, rfl, oc, od, b10⟩
            have B10 := Lib.hid (Below.chain B9.out b10)
            obtain ⟨ac, cc, ec, hcc⟩ := oc.at B10.out
            rw [HNA.out] at ec
            subst ec
            obtain ⟨ad, cd, ed⟩ := od.slice
            rw [HNC.out] at ed
            subst ed
            obtain ⟨aa', ca', ea', haa⟩ := (A9.out.next b10).at
            rw [HNA.out] at ea'
            simp only [Value.slice.injEq, true_and] at ea'
            obtain ⟨rfl, rfl⟩ := ea'
            have S10 := Lib.hid (refSame_any aa ac na na ca cc A A w10 HNA.out HNA.out (by omega) haa hcc)
            rw [decide_eq_true rfl] at S10
            have Bb10 := Lib.hid (Bb9.out.next b10)
            have Y10 := Lib.hid (Y9.out.next b10)
            have T10 := Lib.hid (T9.out.next b10)
            have D10 := Lib.hid od
            clear oc od b10 hcc haa A9 B9 Bb9 Y9 T9
            go_wp2_with fail
            refine S10.out.mono ?_
            rintro e w11 ⟨rfl, b11⟩
            have B11 := Lib.hid (Below.chain B10.out b11)
            have Y11 := Lib.hid (Y10.out.next b11)
            have T11 := Lib.hid (T10.out.next b11)
            obtain ⟨ab', cb', eb', hbb⟩ := (Bb10.out.next b11).at
            rw [HNC.out] at eb'
            simp only [Value.slice.injEq, true_and] at eb'
            obtain ⟨rfl, rfl⟩ := eb'
            obtain ⟨ad', cd', ed', hdd⟩ := (D10.out.next b11).at B11.out
            rw [HNC.out] at ed'
            simp only [Value.slice.injEq, true_and] at ed'
            obtain ⟨rfl, rfl⟩ := ed'
            have S11 := Lib.hid (refSame_any ab ad nc nc cb cd C C w11 HNC.out HNC.out (by omega) hbb hdd)
            rw [decide_eq_true rfl] at S11
            clear b11 hbb hdd Bb10 D10 B10 Y10 T10 S10
            go_wp2_with fail
            refine S11.out.mono ?_
            rintro e w12 ⟨rfl, b12⟩
            have B12 := Lib.hid (Below.chain B11.out b12)
            have Y12 := Lib.hid (Y11.out.next b12)
            have T12 := Lib.hid (T11.out.next b12)
            clear b12 B11 Y11 T11 S11
            cases hok : ok with
            | false =>
              go_wp2
              go_ret
              exact ⟨rfl, B12.out⟩
            | true =>
              by_cases p4 : P = 32801
              · subst p4
                have hyo := HPY.out hok (.inl rfl)
                subst hyo
                have hn7 : ny ≤ 7 := by have := Ad.opts_le X; have := HNY.out; omega
                have C12 := Lib.hid (refPut_any 32801 X w12)
                go_wp2_with (refine wpList_value (by rfl) (run_load_arr (.tmp 9) rfl g 0 rfl (acells X) _ Try.underlying35 rfl infoAd (range_block T12.out)) ?_)
                refine C12.out.mono ?_
                rintro e w13 ⟨v, rfl, o13, b13⟩
                obtain ⟨a13, c13, e13, h13⟩ := o13.at
                rw [HNY.out] at e13
                subst e13
                have B13 := Lib.hid (Below.chain B12.out b13)
                obtain ⟨ay', cy', ey', hyy⟩ := (Y12.out.next b13).at
                rw [HNY.out] at ey'
                simp only [Value.slice.injEq, true_and] at ey'
                obtain ⟨rfl, rfl⟩ := ey'
                have S13 := Lib.hid (refSame_any ay a13 ny ny cy c13 (Ad.opts X) (Ad.opts X) w13 HNY.out HNY.out (by omega) hyy h13)
                rw [decide_eq_true rfl] at S13
                clear o13 b13 h13 hyy B12 Y12 T12 C12
                go_wp2_with fail
                refine S13.out.mono ?_
                rintro e w14 ⟨rfl, b14⟩
                have B14 := Lib.hid (Below.chain B13.out b14)
                clear b14 B13 S13
                go_wp2
                go_ret
                exact ⟨rfl, B14.out⟩
              · by_cases p6 : P = 32855
                · subst p6
                  have hyo := HPY.out hok (.inr rfl)
                  subst hyo
                  have hn7 : ny ≤ 7 := by have := Ad.opts_le X; have := HNY.out; omega
                  have C12 := Lib.hid (refPut_any 32855 X w12)
                  go_wp2_with (refine wpList_value (by rfl) (run_load_arr (.tmp 9) rfl g 0 rfl (acells X) _ Try.underlying35 rfl infoAd (range_block T12.out)) ?_)
                  refine C12.out.mono ?_
                  rintro e w13 ⟨v, rfl, o13, b13⟩
                  obtain ⟨a13, c13, e13, h13⟩ := o13.at
                  rw [HNY.out] at e13
                  subst e13
                  have B13 := Lib.hid (Below.chain B12.out b13)
                  obtain ⟨ay', cy', ey', hyy⟩ := (Y12.out.next b13).at
                  rw [HNY.out] at ey'
                  simp only [Value.slice.injEq, true_and] at ey'
                  obtain ⟨rfl, rfl⟩ := ey'
                  have S13 := Lib.hid (refSame_any ay a13 ny ny cy c13 (Ad.opts X) (Ad.opts X) w13 HNY.out HNY.out (by omega) hyy h13)
                  rw [decide_eq_true rfl] at S13
                  clear o13 b13 h13 hyy B12 Y12 T12 C12
                  go_wp2_with fail
                  refine S13.out.mono ?_
                  rintro e w14 ⟨rfl, b14⟩
                  have B14 := Lib.hid (Below.chain B13.out b14)
                  clear b14 B13 S13
                  go_wp2
                  go_ret
                  exact ⟨rfl, B14.out⟩
                · have e1 : (P != 32801) = true := by simpa using p4
                  have e2 : (P != 32855) = true := by simpa using p6
                  go_wp2
                  go_ret
                  exact ⟨rfl, B12.out⟩
  · rw [Bool.not_eq_true] at hf
    have HF := Lib.hid hf
    clear hf
    go_enter Try.func8, Try.ntmps8
    go_wp2_with fail
    refine (awake_any _).mono ?_
    rintro e w1 ⟨rfl, b1⟩
    have B1 := Lib.hid b1
    clear b1
    go_wp2_with fail
    refine (few_any a n cap L w1 HL.out (H.out.next B1.out)).mono ?_
    rintro e w2 ⟨rfl, h2⟩; rw [h2]; clear h2
    rw [HF.out]
    go_wp2_with fail
    refine (awake_any _).mono ?_
    rintro e w3 ⟨rfl, b3⟩
    have B3 := Lib.hid (Below.chain B1.out b3)
    clear b3 B1
    go_wp2
    go_ret
    exact ⟨rfl, B3.out⟩
end Go.Proofs.Ytacnlancncmpmaa
