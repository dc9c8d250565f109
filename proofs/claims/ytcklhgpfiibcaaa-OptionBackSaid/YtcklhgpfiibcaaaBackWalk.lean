/- The walk of OptionBack. -/
import Derived.Test.YtcklhgpfiibcaaaPutsWalk
import Derived.Test.YtcklhgpfiibcaaaReadsWalk
namespace Go.Proofs.Ytcklhgpfiibcaaa
open Go.RowKit

theorem run_load_spot {o : Oper} {a : Act} {w : World} (x : Operand) (ho : o.op = .load 32 x) (g : Nat) (hx : a.eval x = .pointer (some ⟨g, 0, none⟩)) (k e : Nat) (hg : w.heap[g]? = some (.cells (scells k e).toArray 32 (0, 0))) :
    (execOp a.eval o).run Try.prog w = .ok (.value (.agg (scells k e).toArray)) w := by
  unfold execOp
  simp only [ho, hx, Instr.loadAt, Instr.sureAddr, Sem.run_bind, Sem.run_pure, Result.andThen_ok, run_loadVar_row w g 32 32 _ _ _ hg Try.underlying32 rfl infoSpot]


theorem back_not (a b d : Option Addr) (n m l ca cb cd : Nat) (L M : List Ot.O) (w : World) (hL : L.length = n) (hM : M.length = m) (ha : OptsAt w a L) (hb : OptsAt w b M) (hno : Ot.few L = true → Ot.few M = true → (3000 : Int) < (l : Int)) :
    Calls Try.prog 5 #[.slice a n ca, .slice b m cb, .slice d l cd] w fun e w' => e = .returned (.bool true) ∧ Below w.heap.size w w' := by
  go_enter Try.func5, Try.ntmps5
  go_wp2_with fail
  refine (awake_any w).mono ?_
  rintro e w1 ⟨rfl, b1⟩
  go_wp2_with fail
  refine (few_any a n ca L w1 hL (ha.next b1)).mono ?_
  rintro e w2 ⟨rfl, h2⟩; rw [h2]; clear h2
  cases hf : Ot.few L with
  | false =>
    go_wp2_with fail
    refine (awake_any w1).mono ?_
    rintro e w3 ⟨rfl, b3⟩
    go_wp2
    go_ret
    exact ⟨rfl, Below.chain b1 b3⟩
  | true =>
    go_wp2_with fail
    refine (few_any b m cb M w1 hM (hb.next b1)).mono ?_
    rintro e w2 ⟨rfl, h2⟩; rw [h2]; clear h2
    cases hg : Ot.few M with
    | false =>
      go_wp2_with fail
      refine (awake_any w1).mono ?_
      rintro e w3 ⟨rfl, b3⟩
      go_wp2
      go_ret
      exact ⟨rfl, Below.chain b1 b3⟩
    | true =>
      have i1 := hno hf hg
      clear hno
      go_wp2_with fail
      refine (awake_any w1).mono ?_
      rintro e w3 ⟨rfl, b3⟩
      go_wp2
      go_ret
      exact ⟨rfl, Below.chain b1 b3⟩



set_option maxRecDepth 100000 in
set_option maxHeartbeats 2000000 in
theorem back_few (a b d : Option Addr) (n m l ca cb cd : Nat) (L M : List Ot.O) (xs : List UInt8) (w : World) (hL : L.length = n) (hM : M.length = m) (ha : OptsAt w a L) (hb : OptsAt w b M) (hx : xs.length = l) (hd : RowAt w d cd xs) (hf : Ot.few L = true) (hg : Ot.few M = true) (hl : ¬ (3000 : Int) < (l : Int)) :
    Calls Try.prog 5 #[.slice a n ca, .slice b m cb, .slice d l cd] w fun e w' => e = .returned (.bool true) ∧ Below w.heap.size w w' := by
  obtain ⟨hn, _⟩ := few_short hf hL
  obtain ⟨hm, _⟩ := few_short hg hM
  have c13 := fun W (h : RowAt W d cd xs) => read_any d l cd xs W hx (by omega) h
  have htl := Ot.read_told xs
  have hmany := htl.many
  rw [hx] at hmany
  generalize Ot.read xs = A at *
  obtain ⟨LB, sa, se⟩ := A
  simp only at hmany
  have HTL := Lib.hid htl
  have C13 := Lib.hid c13
  have HA := Lib.hid ha
  have HB := Lib.hid hb
  have HX := Lib.hid hd
  have HXn := Lib.hid hx
  have HL := Lib.hid hL
  have HM := Lib.hid hM
  clear ha hb hd hx c13 htl hL hM
  go_enter Try.func5, Try.ntmps5
  go_wp2_with fail
  refine (awake_any w).mono ?_
  rintro e w1 ⟨rfl, b1⟩
  have B1 := Lib.hid b1
  clear b1
  go_wp2_with fail
  refine (few_any a n ca L w1 HL.out (HA.out.next B1.out)).mono ?_
  rintro e w2 ⟨rfl, h2⟩; rw [h2, hf]; clear h2
  go_wp2_with fail
  refine (few_any b m cb M w1 HM.out (HB.out.next B1.out)).mono ?_
  rintro e w2 ⟨rfl, h2⟩; rw [h2, hg]; clear h2
  go_wp2_with fail
  refine (put_any a n ca L w1 HL.out (by omega) (HA.out.next B1.out)).mono ?_
  intro e w3 h3
  by_cases he : Ot.err L = 0
  · obtain ⟨ax, cx, rfl, rx, b3, _⟩ := put_fine h3 he
    have HFL := Lib.hid ((Ot.err_zero L).1 he)
    have hxr := Lib.hid (Ot.read_put L HFL.out)
    have hinj := Lib.hid (fun hfm => Ot.bytes_inj L M HFL.out hfm)
    have hxb := Ot.bytes_le L HFL.out
    obtain ⟨X, hX⟩ : ∃ X, Ot.bytes L = X := ⟨_, rfl⟩
    obtain ⟨mx, hmx⟩ : ∃ mx, X.length = mx := ⟨_, rfl⟩
    rw [hX] at rx hxr hinj hxb ⊢
    rw [HL.out, hmx] at hxb
    rw [hmx]
    have HMX := Lib.hid hmx
    have RX3 := Lib.hid rx
    have B3 := Lib.hid (Below.chain B1.out b3)
    clear h3 rx b3 hX hmx he
    go_wp2_with fail
    refine (put_any b m cb M w3 HM.out (by omega) (HB.out.next B3.out)).mono ?_
    intro e w4 h4
    have hrd := fun W h => read_any ax mx cx X W HMX.out (by omega) h
    rw [hxr.out] at hrd
    have HRD := Lib.hid hrd
    clear hrd
    by_cases hf4 : Ot.err M = 0
    · obtain ⟨ay, cy, rfl, ry, b4, _⟩ := put_fine h4 hf4
      have HFM := (Ot.err_zero M).1 hf4
      have hq := hinj.out HFM
      obtain ⟨Y, hY⟩ : ∃ Y, Ot.bytes M = Y := ⟨_, rfl⟩
      obtain ⟨my, hmy⟩ : ∃ my, Y.length = my := ⟨_, rfl⟩
      rw [hY] at ry hq ⊢
      rw [hmy]
      have HMY := Lib.hid hmy
      have HQ : Hid ((X == Y) = decide (L = M)) := by show _ = _; rw [texts_eq]; exact decide_eq_decide.2 hq
      have RY4 := Lib.hid ry
      have RX4 := Lib.hid (RX3.out.next b4)
      have B4 := Lib.hid (Below.chain B3.out b4)
      clear h4 ry b4 hY hmy hq HFM hf4 hinj
      go_wp2_with fail
      refine (HRD.out w4 RX4.out).mono ?_
      rintro e w5 ⟨v5, rfl, rec5, b5⟩
      obtain ⟨ak, ck, rfl, opk⟩ := rec5.at
      rw [HL.out]
      have bS := below_one w5 (.cells #[.int .i64 0, .int .i64 0] 32)
      have B6 := Lib.hid (Below.chain (Below.chain B4.out b5) bS)
      have T6 := Lib.hid (heap_alloc_new w5 (.cells #[.int .i64 0, .int .i64 0] 32))
      have RX6 := Lib.hid ((RX4.out.next b5).next bS)
      have RY6 := Lib.hid ((RY4.out.next b5).next bS)
      have O6 := Lib.hid (opk.next bS)
      clear rec5 b5 opk bS RX4 RY4 B4 HRD
      simp only [scells]
      go_wp2_with fail
      generalize w5.alloc (.cells #[.int .i64 0, .int .i64 0] 32) = w6 at *
      generalize w5.heap.size = U at *
      have bd : Below w.heap.size w w6.drew := B6.out.drew
      have hS : w6.drew.heap[U]? = some (.cells (scells 0 0).toArray 32 (0, 0)) ∧ RowAt w6.drew ax cx X ∧ RowAt w6.drew ay cy Y := ⟨T6.out, RX6.out.next (Below.refl _ _).drew, RY6.out.next (Below.refl _ _).drew⟩
      have O7 := O6.out.next ((Below.refl _ _).drew : Below w6.heap.size w6 w6.drew)
      refine held_start (S := fun W => W.heap[U]? = some (.cells (scells 0 0).toArray 32 (0, 0)) ∧ RowAt W ax cx X ∧ RowAt W ay cy Y) 24 (by kernel_rfl) rfl ?_
      generalize w6.drew = Wd at *
      clear T6 RX6 RY6 O6 B6
      refine held_take 0 (v := .agg (scells 0 0).toArray) rfl (by kernel_rfl) (by kernel_rfl) (by kernel_rfl) (fun _ _ _ h => h) (by assumption) (by rfl) (fun W hW => run_load_spot (.tmp 12) rfl _ rfl 0 0 hW.1) ?_
      simp only [Act.put, List.setIfInBounds_toArray, List.set_cons_zero, List.set_cons_succ]
      simp only [scells]
      refine held_take 1 (v := ?_) rfl (by kernel_rfl) (by kernel_rfl) (by kernel_rfl) (fun _ _ _ h => h) (by assumption) (by rfl) ?_ ?_
      rotate_left
      · (intro W hW; go_simp; try with_reducible rfl)
      simp only [Act.put, List.setIfInBounds_toArray, List.set_cons_zero, List.set_cons_succ]
      refine held_take 2 (v := ?_) rfl (by kernel_rfl) (by kernel_rfl) (by kernel_rfl) (fun _ _ _ h => h) (by assumption) (by rfl) ?_ ?_
      rotate_left
      · (intro W hW; go_simp; try with_reducible rfl)
      simp only [Act.put, List.setIfInBounds_toArray, List.set_cons_zero, List.set_cons_succ]
      refine held_take 3 (v := ?_) rfl (by kernel_rfl) (by kernel_rfl) (by kernel_rfl) (fun _ _ _ h => h) (by assumption) (by rfl) ?_ ?_
      rotate_left
      · (intro W hW; go_simp; try with_reducible rfl)
      simp only [Act.put, List.setIfInBounds_toArray, List.set_cons_zero, List.set_cons_succ]
      refine held_take 4 (v := ?_) rfl (by kernel_rfl) (by kernel_rfl) (by kernel_rfl) (fun _ _ _ h => h) (by assumption) (by rfl) ?_ ?_
      rotate_left
      · (intro W hW; go_simp; try with_reducible rfl)
      simp only [Act.put, List.setIfInBounds_toArray, List.set_cons_zero, List.set_cons_succ]
      refine held_take 5 (v := ?_) rfl (by kernel_rfl) (by kernel_rfl) (by kernel_rfl) (fun _ _ _ h => h) (by assumption) (by rfl) ?_ ?_
      rotate_left
      · (intro W hW; go_simp; try with_reducible rfl)
      simp only [Act.put, List.setIfInBounds_toArray, List.set_cons_zero, List.set_cons_succ]
      refine held_call 6 (f := 17) (args := #[.slice ak n ck, .slice a n ca]) rfl (by kernel_rfl) (by rfl) (by go_simp) ?_
      refine (same_any ak a n n ck ca L L Wd HL.out HL.out (by omega) O7 (HA.out.next bd)).mono ?_
      rintro e w8 ⟨rfl, b8⟩
      rw [decide_eq_true (rfl : L = L)]
      have hS8 : w8.heap[U]? = some (.cells (scells 0 0).toArray 32 (0, 0)) ∧ RowAt w8 ax cx X ∧ RowAt w8 ay cy Y := ⟨block_next hS.1 b8, hS.2.1.next b8, hS.2.2.next b8⟩
      have bd8 := Below.chain bd b8
      refine ⟨_, rfl, hS8, ?_⟩
      simp only [Act.put, List.setIfInBounds_toArray, List.set_cons_zero, List.set_cons_succ]
      clear hS b8 bd O7
      refine held_take 7 (v := ?_) rfl (by kernel_rfl) (by kernel_rfl) (by kernel_rfl) (fun _ _ _ h => h) (by assumption) (by rfl) ?_ ?_
      rotate_left
      · (intro W hW; go_simp; try with_reducible rfl)
      simp only [Act.put, List.setIfInBounds_toArray, List.set_cons_zero, List.set_cons_succ]
      refine held_take 8 (v := ?_) rfl (by kernel_rfl) (by kernel_rfl) (by kernel_rfl) (fun _ _ _ h => h) (by assumption) (by rfl) ?_ ?_
      rotate_left
      · (intro W hW; go_simp; try with_reducible rfl)
      simp only [Act.put, List.setIfInBounds_toArray, List.set_cons_zero, List.set_cons_succ]
      refine held_take 9 (v := ?_) rfl (by kernel_rfl) (by kernel_rfl) (by kernel_rfl) (fun _ _ _ h => h) (by assumption) (by rfl) ?_ ?_
      rotate_left
      · (intro W hW; go_simp; try with_reducible rfl)
      simp only [Act.put, List.setIfInBounds_toArray, List.set_cons_zero, List.set_cons_succ]
      refine held_take 10 (v := ?_) rfl (by kernel_rfl) (by kernel_rfl) (by kernel_rfl) (fun _ _ _ h => h) (by assumption) (by rfl) ?_ ?_
      rotate_left
      · (intro W hW; go_simp; try with_reducible rfl)
      simp only [Act.put, List.setIfInBounds_toArray, List.set_cons_zero, List.set_cons_succ]
      refine held_take 11 (v := ?_) rfl (by kernel_rfl) (by kernel_rfl) (by kernel_rfl) (fun _ _ _ h => h) (by assumption) (by rfl) ?_ ?_
      rotate_left
      · (intro W hW; go_simp; try with_reducible rfl)
      simp only [Act.put, List.setIfInBounds_toArray, List.set_cons_zero, List.set_cons_succ]
      refine held_take 12 (v := ?_) rfl (by kernel_rfl) (by kernel_rfl) (by kernel_rfl) (fun _ _ _ h => h) (by assumption) (by rfl) ?_ ?_
      rotate_left
      · (intro W hW; go_simp; try with_reducible rfl)
      simp only [Act.put, List.setIfInBounds_toArray, List.set_cons_zero, List.set_cons_succ]
      obtain ⟨Z, hZ⟩ : ∃ Z, decide (L = M) = Z := ⟨_, rfl⟩
      have hXY : (X == Y) = Z := HQ.out.trans hZ
      have HZ := Lib.hid hZ
      clear hZ HQ
      refine held_take 13 (v := ?_) rfl (by kernel_rfl) (by kernel_rfl) (by kernel_rfl) (fun _ _ _ h => h) (by assumption) (by rfl) ?_ ?_
      rotate_left
      · (intro W hW; go_simp; try with_reducible rfl)
      simp only [Act.put, List.setIfInBounds_toArray, List.set_cons_zero, List.set_cons_succ]
      refine held_take 14 (v := ?_) rfl (by kernel_rfl) (by kernel_rfl) (by kernel_rfl) (fun _ _ _ h => h) (by assumption) (by rfl) ?_ ?_
      rotate_left
      · (intro W hW; have hc := conv_row HMX.out hW.2.1; go_simp; try with_reducible rfl)
      simp only [Act.put, List.setIfInBounds_toArray, List.set_cons_zero, List.set_cons_succ]
      refine held_take 15 (v := ?_) rfl (by kernel_rfl) (by kernel_rfl) (by kernel_rfl) (fun _ _ _ h => h) (by assumption) (by rfl) ?_ ?_
      rotate_left
      · (intro W hW; go_simp; try with_reducible rfl)
      simp only [Act.put, List.setIfInBounds_toArray, List.set_cons_zero, List.set_cons_succ]
      refine held_take 16 (v := ?_) rfl (by kernel_rfl) (by kernel_rfl) (by kernel_rfl) (fun _ _ _ h => h) (by assumption) (by rfl) ?_ ?_
      rotate_left
      · (intro W hW; have hc := conv_row HMY.out hW.2.2; go_simp; try with_reducible rfl)
      simp only [Act.put, List.setIfInBounds_toArray, List.set_cons_zero, List.set_cons_succ]
      refine held_take 17 (v := ?_) rfl (by kernel_rfl) (by kernel_rfl) (by kernel_rfl) (fun _ _ _ h => h) (by assumption) (by rfl) ?_ ?_
      rotate_left
      · (intro W hW; go_simp; try with_reducible rfl)
      simp only [Act.put, List.setIfInBounds_toArray, List.set_cons_zero, List.set_cons_succ]
      refine held_take 18 (v := ?_) rfl (by kernel_rfl) (by kernel_rfl) (by kernel_rfl) (fun _ _ _ h => h) (by assumption) (by rfl) ?_ ?_
      rotate_left
      · (intro W hW; go_simp; try with_reducible rfl)
      simp only [Act.put, List.setIfInBounds_toArray, List.set_cons_zero, List.set_cons_succ]
      refine held_take 19 (v := ?_) rfl (by kernel_rfl) (by kernel_rfl) (by kernel_rfl) (fun _ _ _ h => h) (by assumption) (by rfl) ?_ ?_
      rotate_left
      · (intro W hW; go_simp; try with_reducible rfl)
      simp only [Act.put, List.setIfInBounds_toArray, List.set_cons_zero, List.set_cons_succ]
      refine held_call 20 (f := 17) (args := #[.slice a n ca, .slice b m cb]) rfl (by kernel_rfl) (by rfl) (by go_simp) ?_
      refine (same_any a b n m ca cb L M w8 HL.out HM.out (by omega) (HA.out.next bd8) (HB.out.next bd8)).mono ?_
      rintro e w9 ⟨rfl, b9⟩
      rw [HZ.out]
      have hS9 : w9.heap[U]? = some (.cells (scells 0 0).toArray 32 (0, 0)) ∧ RowAt w9 ax cx X ∧ RowAt w9 ay cy Y := ⟨block_next hS8.1 b9, hS8.2.1.next b9, hS8.2.2.next b9⟩
      have BB := Lib.hid (Below.chain bd8 b9)
      refine ⟨_, rfl, hS9, ?_⟩
      simp only [Act.put, List.setIfInBounds_toArray, List.set_cons_zero, List.set_cons_succ]
      clear hS8 b9 bd8
      refine held_take 21 (v := ?_) rfl (by kernel_rfl) (by kernel_rfl) (by kernel_rfl) (fun _ _ _ h => h) (by assumption) (by rfl) ?_ ?_
      rotate_left
      · (intro W hW; go_simp; try with_reducible rfl)
      simp only [Act.put, List.setIfInBounds_toArray, List.set_cons_zero, List.set_cons_succ]
      refine held_take 22 (v := ?_) rfl (by kernel_rfl) (by kernel_rfl) (by kernel_rfl) (fun _ _ _ h => h) (by assumption) (by rfl) ?_ ?_
      rotate_left
      · (intro W hW; go_simp; try with_reducible rfl)
      simp only [Act.put, List.setIfInBounds_toArray, List.set_cons_zero, List.set_cons_succ]
      refine held_take 23 (v := ?_) rfl (by kernel_rfl) (by kernel_rfl) (by kernel_rfl) (fun _ _ _ h => h) (by assumption) (by rfl) ?_ ?_
      rotate_left
      · (intro W hW; go_simp; try with_reducible rfl)
      simp only [Act.put, List.setIfInBounds_toArray, List.set_cons_zero, List.set_cons_succ]
      refine held_done (by kernel_rfl) ?_
      clear hS9 hXY HZ
      go_wp2_with fail
      refine (C13.out _ (HX.out.next BB.out)).mono ?_
      rintro e w13 ⟨v13, rfl, rec13, b13⟩
      obtain ⟨ak, ck, rfl, opk⟩ := rec13.at
      have B14 := Lib.hid (Below.chain (Below.chain BB.out b13) (below_one w13 (.cells #[.int .i64 (sa : Int), .int .i64 (se : Int)] 32)))
      have T14 := Lib.hid (heap_alloc_new w13 (.cells #[.int .i64 (sa : Int), .int .i64 (se : Int)] 32))
      have O14 := Lib.hid (opk.next (below_one w13 (.cells #[.int .i64 (sa : Int), .int .i64 (se : Int)] 32)))
      clear rec13 b13 opk BB
      simp only [scells]
      have s0 : (w13.alloc (.cells #[.int .i64 (sa : Int), .int .i64 (se : Int)] 32)).cell? ⟨w13.heap.size, 0, none⟩ = some (.int .i64 (sa : Int)) := cell_of_row _ _ _ _ _ _ T14.out
      have s1 : (w13.alloc (.cells #[.int .i64 (sa : Int), .int .i64 (se : Int)] 32)).cell? ⟨w13.heap.size, 1, none⟩ = some (.int .i64 (se : Int)) := cell_of_row _ _ _ _ _ _ T14.out
      by_cases hse : se = 0
      · subst hse
        obtain ⟨rfl, hbk⟩ := HTL.out.none rfl
        simp only at hbk
        have HBK := Lib.hid hbk
        have HFI := Lib.hid HTL.out.fine
        clear hbk
        go_wp2_with fail
        generalize w13.alloc (.cells #[.int .i64 ((0 : Nat) : Int), .int .i64 ((0 : Nat) : Int)] 32) = w14 at *
        refine (put_any ak LB.length ck LB w14 rfl (by omega) O14.out).mono ?_
        intro e w15 h15
        obtain ⟨az, cz, rfl, rz, b15, _⟩ := put_fine h15 ((Ot.err_zero LB).2 HFI.out)
        rw [HBK.out] at rz ⊢
        rw [HXn.out]
        have z1 := conv_row HXn.out rz
        have z2 := conv_row HXn.out (HX.out.next (Below.chain B14.out b15))
        have BZ := Lib.hid (Below.chain B14.out b15)
        generalize (⟨xs.toArray⟩ : ByteArray) = Z at z1 z2
        clear h15 rz b15 O14 T14 B14 s0 s1
        go_wp2
        go_ret
        exact ⟨rfl, BZ.out⟩
      · obtain ⟨hLB, hsa, _⟩ := HTL.out.some hse
        simp only at hLB hsa
        subst hLB
        rw [HXn.out] at hsa
        have i1 : ((se : Int) == 0) = false := by simp; omega
        have i2 : (sa : Int) < (l : Int) := by omega
        clear hse
        simp only [List.length_nil]
        go_wp2
        go_ret
        exact ⟨rfl, B14.out⟩
    · obtain ⟨rfl, b4⟩ := put_bad h4 hf4
      have RX4 := Lib.hid (RX3.out.next b4)
      have B4 := Lib.hid (Below.chain B3.out b4)
      have i1 : ((Ot.err M : Int) == 0) = false := by simp; omega
      generalize Ot.err M = fr at *
      clear h4 b4 hf4 hinj
      go_wp2_with fail
      refine (HRD.out w4 RX4.out).mono ?_
      rintro e w5 ⟨v5, rfl, rec5, b5⟩
      obtain ⟨ak, ck, rfl, opk⟩ := rec5.at
      rw [HL.out]
      have bS := below_one w5 (.cells #[.int .i64 0, .int .i64 0] 32)
      have B6 := Lib.hid (Below.chain (Below.chain B4.out b5) bS)
      have T6 := Lib.hid (heap_alloc_new w5 (.cells #[.int .i64 0, .int .i64 0] 32))
      have RX6 := Lib.hid ((RX4.out.next b5).next bS)
      have RY6 := Lib.hid (rowAt_nil (w5.alloc (.cells #[.int .i64 0, .int .i64 0] 32)))
      have O6 := Lib.hid (opk.next bS)
      clear rec5 b5 opk bS RX4 B4 HRD
      simp only [scells]
      go_wp2_with fail
      generalize w5.alloc (.cells #[.int .i64 0, .int .i64 0] 32) = w6 at *
      generalize w5.heap.size = U at *
      have bd : Below w.heap.size w w6.drew := B6.out.drew
      have hS : w6.drew.heap[U]? = some (.cells (scells 0 0).toArray 32 (0, 0)) ∧ RowAt w6.drew ax cx X ∧ RowAt w6.drew none 0 [] := ⟨T6.out, RX6.out.next (Below.refl _ _).drew, RY6.out.next (Below.refl _ _).drew⟩
      have O7 := O6.out.next ((Below.refl _ _).drew : Below w6.heap.size w6 w6.drew)
      refine held_start (S := fun W => W.heap[U]? = some (.cells (scells 0 0).toArray 32 (0, 0)) ∧ RowAt W ax cx X ∧ RowAt W none 0 []) 24 (by kernel_rfl) rfl ?_
      generalize w6.drew = Wd at *
      clear T6 RX6 RY6 O6 B6
      refine held_take 0 (v := .agg (scells 0 0).toArray) rfl (by kernel_rfl) (by kernel_rfl) (by kernel_rfl) (fun _ _ _ h => h) (by assumption) (by rfl) (fun W hW => run_load_spot (.tmp 12) rfl _ rfl 0 0 hW.1) ?_
      simp only [Act.put, List.setIfInBounds_toArray, List.set_cons_zero, List.set_cons_succ]
      simp only [scells]
      refine held_take 1 (v := ?_) rfl (by kernel_rfl) (by kernel_rfl) (by kernel_rfl) (fun _ _ _ h => h) (by assumption) (by rfl) ?_ ?_
      rotate_left
      · (intro W hW; go_simp; try with_reducible rfl)
      simp only [Act.put, List.setIfInBounds_toArray, List.set_cons_zero, List.set_cons_succ]
      refine held_take 2 (v := ?_) rfl (by kernel_rfl) (by kernel_rfl) (by kernel_rfl) (fun _ _ _ h => h) (by assumption) (by rfl) ?_ ?_
      rotate_left
      · (intro W hW; go_simp; try with_reducible rfl)
      simp only [Act.put, List.setIfInBounds_toArray, List.set_cons_zero, List.set_cons_succ]
      refine held_take 3 (v := ?_) rfl (by kernel_rfl) (by kernel_rfl) (by kernel_rfl) (fun _ _ _ h => h) (by assumption) (by rfl) ?_ ?_
      rotate_left
      · (intro W hW; go_simp; try with_reducible rfl)
      simp only [Act.put, List.setIfInBounds_toArray, List.set_cons_zero, List.set_cons_succ]
      refine held_take 4 (v := ?_) rfl (by kernel_rfl) (by kernel_rfl) (by kernel_rfl) (fun _ _ _ h => h) (by assumption) (by rfl) ?_ ?_
      rotate_left
      · (intro W hW; go_simp; try with_reducible rfl)
      simp only [Act.put, List.setIfInBounds_toArray, List.set_cons_zero, List.set_cons_succ]
      refine held_take 5 (v := ?_) rfl (by kernel_rfl) (by kernel_rfl) (by kernel_rfl) (fun _ _ _ h => h) (by assumption) (by rfl) ?_ ?_
      rotate_left
      · (intro W hW; go_simp; try with_reducible rfl)
      simp only [Act.put, List.setIfInBounds_toArray, List.set_cons_zero, List.set_cons_succ]
      refine held_call 6 (f := 17) (args := #[.slice ak n ck, .slice a n ca]) rfl (by kernel_rfl) (by rfl) (by go_simp) ?_
      refine (same_any ak a n n ck ca L L Wd HL.out HL.out (by omega) O7 (HA.out.next bd)).mono ?_
      rintro e w8 ⟨rfl, b8⟩
      rw [decide_eq_true (rfl : L = L)]
      have hS8 : w8.heap[U]? = some (.cells (scells 0 0).toArray 32 (0, 0)) ∧ RowAt w8 ax cx X ∧ RowAt w8 none 0 [] := ⟨block_next hS.1 b8, hS.2.1.next b8, hS.2.2.next b8⟩
      have bd8 := Below.chain bd b8
      refine ⟨_, rfl, hS8, ?_⟩
      simp only [Act.put, List.setIfInBounds_toArray, List.set_cons_zero, List.set_cons_succ]
      clear hS b8 bd O7
      refine held_take 7 (v := ?_) rfl (by kernel_rfl) (by kernel_rfl) (by kernel_rfl) (fun _ _ _ h => h) (by assumption) (by rfl) ?_ ?_
      rotate_left
      · (intro W hW; go_simp; try with_reducible rfl)
      simp only [Act.put, List.setIfInBounds_toArray, List.set_cons_zero, List.set_cons_succ]
      refine held_take 8 (v := ?_) rfl (by kernel_rfl) (by kernel_rfl) (by kernel_rfl) (fun _ _ _ h => h) (by assumption) (by rfl) ?_ ?_
      rotate_left
      · (intro W hW; go_simp; try with_reducible rfl)
      simp only [Act.put, List.setIfInBounds_toArray, List.set_cons_zero, List.set_cons_succ]
      refine held_take 9 (v := ?_) rfl (by kernel_rfl) (by kernel_rfl) (by kernel_rfl) (fun _ _ _ h => h) (by assumption) (by rfl) ?_ ?_
      rotate_left
      · (intro W hW; go_simp; try with_reducible rfl)
      simp only [Act.put, List.setIfInBounds_toArray, List.set_cons_zero, List.set_cons_succ]
      refine held_take 10 (v := ?_) rfl (by kernel_rfl) (by kernel_rfl) (by kernel_rfl) (fun _ _ _ h => h) (by assumption) (by rfl) ?_ ?_
      rotate_left
      · (intro W hW; go_simp; try with_reducible rfl)
      simp only [Act.put, List.setIfInBounds_toArray, List.set_cons_zero, List.set_cons_succ]
      refine held_take 11 (v := ?_) rfl (by kernel_rfl) (by kernel_rfl) (by kernel_rfl) (fun _ _ _ h => h) (by assumption) (by rfl) ?_ ?_
      rotate_left
      · (intro W hW; go_simp; try with_reducible rfl)
      simp only [Act.put, List.setIfInBounds_toArray, List.set_cons_zero, List.set_cons_succ]
      refine held_take 12 (v := ?_) rfl (by kernel_rfl) (by kernel_rfl) (by kernel_rfl) (fun _ _ _ h => h) (by assumption) (by rfl) ?_ ?_
      rotate_left
      · (intro W hW; go_simp; try with_reducible rfl)
      simp only [Act.put, List.setIfInBounds_toArray, List.set_cons_zero, List.set_cons_succ]
      refine held_skip 13 rfl (by kernel_rfl) (by kernel_rfl) (by kernel_rfl) (fun _ _ _ h => h) (by assumption) (by rfl) ?_
      simp only [Act.put, List.setIfInBounds_toArray, List.set_cons_zero, List.set_cons_succ]
      refine held_skip 14 rfl (by kernel_rfl) (by kernel_rfl) (by kernel_rfl) (fun _ _ _ h => h) (by assumption) (by rfl) ?_
      simp only [Act.put, List.setIfInBounds_toArray, List.set_cons_zero, List.set_cons_succ]
      refine held_skip 15 rfl (by kernel_rfl) (by kernel_rfl) (by kernel_rfl) (fun _ _ _ h => h) (by assumption) (by rfl) ?_
      simp only [Act.put, List.setIfInBounds_toArray, List.set_cons_zero, List.set_cons_succ]
      refine held_skip 16 rfl (by kernel_rfl) (by kernel_rfl) (by kernel_rfl) (fun _ _ _ h => h) (by assumption) (by rfl) ?_
      simp only [Act.put, List.setIfInBounds_toArray, List.set_cons_zero, List.set_cons_succ]
      refine held_skip 17 rfl (by kernel_rfl) (by kernel_rfl) (by kernel_rfl) (fun _ _ _ h => h) (by assumption) (by rfl) ?_
      simp only [Act.put, List.setIfInBounds_toArray, List.set_cons_zero, List.set_cons_succ]
      refine held_skip 18 rfl (by kernel_rfl) (by kernel_rfl) (by kernel_rfl) (fun _ _ _ h => h) (by assumption) (by rfl) ?_
      simp only [Act.put, List.setIfInBounds_toArray, List.set_cons_zero, List.set_cons_succ]
      refine held_skip 19 rfl (by kernel_rfl) (by kernel_rfl) (by kernel_rfl) (fun _ _ _ h => h) (by assumption) (by rfl) ?_
      simp only [Act.put, List.setIfInBounds_toArray, List.set_cons_zero, List.set_cons_succ]
      refine held_skip 20 rfl (by kernel_rfl) (by kernel_rfl) (by kernel_rfl) (fun _ _ _ h => h) (by assumption) (by rfl) ?_
      simp only [Act.put, List.setIfInBounds_toArray, List.set_cons_zero, List.set_cons_succ]
      refine held_skip 21 rfl (by kernel_rfl) (by kernel_rfl) (by kernel_rfl) (fun _ _ _ h => h) (by assumption) (by rfl) ?_
      simp only [Act.put, List.setIfInBounds_toArray, List.set_cons_zero, List.set_cons_succ]
      refine held_take 22 (v := ?_) rfl (by kernel_rfl) (by kernel_rfl) (by kernel_rfl) (fun _ _ _ h => h) (by assumption) (by rfl) ?_ ?_
      rotate_left
      · (intro W hW; go_simp; try with_reducible rfl)
      simp only [Act.put, List.setIfInBounds_toArray, List.set_cons_zero, List.set_cons_succ]
      refine held_take 23 (v := ?_) rfl (by kernel_rfl) (by kernel_rfl) (by kernel_rfl) (fun _ _ _ h => h) (by assumption) (by rfl) ?_ ?_
      rotate_left
      · (intro W hW; go_simp; try with_reducible rfl)
      simp only [Act.put, List.setIfInBounds_toArray, List.set_cons_zero, List.set_cons_succ]
      refine held_done (by kernel_rfl) ?_
      have BB := Lib.hid bd8
      clear hS8 bd8 i1
      go_wp2_with fail
      refine (C13.out _ (HX.out.next BB.out)).mono ?_
      rintro e w13 ⟨v13, rfl, rec13, b13⟩
      obtain ⟨ak, ck, rfl, opk⟩ := rec13.at
      have B14 := Lib.hid (Below.chain (Below.chain BB.out b13) (below_one w13 (.cells #[.int .i64 (sa : Int), .int .i64 (se : Int)] 32)))
      have T14 := Lib.hid (heap_alloc_new w13 (.cells #[.int .i64 (sa : Int), .int .i64 (se : Int)] 32))
      have O14 := Lib.hid (opk.next (below_one w13 (.cells #[.int .i64 (sa : Int), .int .i64 (se : Int)] 32)))
      clear rec13 b13 opk BB
      simp only [scells]
      have s0 : (w13.alloc (.cells #[.int .i64 (sa : Int), .int .i64 (se : Int)] 32)).cell? ⟨w13.heap.size, 0, none⟩ = some (.int .i64 (sa : Int)) := cell_of_row _ _ _ _ _ _ T14.out
      have s1 : (w13.alloc (.cells #[.int .i64 (sa : Int), .int .i64 (se : Int)] 32)).cell? ⟨w13.heap.size, 1, none⟩ = some (.int .i64 (se : Int)) := cell_of_row _ _ _ _ _ _ T14.out
      by_cases hse : se = 0
      · subst hse
        obtain ⟨rfl, hbk⟩ := HTL.out.none rfl
        simp only at hbk
        have HBK := Lib.hid hbk
        have HFI := Lib.hid HTL.out.fine
        clear hbk
        go_wp2_with fail
        generalize w13.alloc (.cells #[.int .i64 ((0 : Nat) : Int), .int .i64 ((0 : Nat) : Int)] 32) = w14 at *
        refine (put_any ak LB.length ck LB w14 rfl (by omega) O14.out).mono ?_
        intro e w15 h15
        obtain ⟨az, cz, rfl, rz, b15, _⟩ := put_fine h15 ((Ot.err_zero LB).2 HFI.out)
        rw [HBK.out] at rz ⊢
        rw [HXn.out]
        have z1 := conv_row HXn.out rz
        have z2 := conv_row HXn.out (HX.out.next (Below.chain B14.out b15))
        have BZ := Lib.hid (Below.chain B14.out b15)
        generalize (⟨xs.toArray⟩ : ByteArray) = Z at z1 z2
        clear h15 rz b15 O14 T14 B14 s0 s1
        go_wp2
        go_ret
        exact ⟨rfl, BZ.out⟩
      · obtain ⟨hLB, hsa, _⟩ := HTL.out.some hse
        simp only at hLB hsa
        subst hLB
        rw [HXn.out] at hsa
        have i1 : ((se : Int) == 0) = false := by simp; omega
        have i2 : (sa : Int) < (l : Int) := by omega
        clear hse
        simp only [List.length_nil]
        go_wp2
        go_ret
        exact ⟨rfl, B14.out⟩
  · obtain ⟨rfl, b3⟩ := put_bad h3 he
    have B3 := Lib.hid (Below.chain B1.out b3)
    have i1 : ((Ot.err L : Int) == 0) = false := by simp; omega
    generalize Ot.err L = er at *
    clear h3 b3
    go_wp2_with fail
    refine (put_any b m cb M w3 HM.out (by omega) (HB.out.next B3.out)).mono ?_
    intro e w4 h4
    by_cases hf4 : Ot.err M = 0
    · obtain ⟨ay, cy, rfl, ry, b4, _⟩ := put_fine h4 hf4
      have BB := Lib.hid (Below.chain B3.out b4)
      generalize (Ot.bytes M).length = my at *
      clear h4 ry b4 hf4 he
      go_wp2_with fail
      refine (C13.out _ (HX.out.next BB.out)).mono ?_
      rintro e w13 ⟨v13, rfl, rec13, b13⟩
      obtain ⟨ak, ck, rfl, opk⟩ := rec13.at
      have B14 := Lib.hid (Below.chain (Below.chain BB.out b13) (below_one w13 (.cells #[.int .i64 (sa : Int), .int .i64 (se : Int)] 32)))
      have T14 := Lib.hid (heap_alloc_new w13 (.cells #[.int .i64 (sa : Int), .int .i64 (se : Int)] 32))
      have O14 := Lib.hid (opk.next (below_one w13 (.cells #[.int .i64 (sa : Int), .int .i64 (se : Int)] 32)))
      clear rec13 b13 opk BB
      simp only [scells]
      have s0 : (w13.alloc (.cells #[.int .i64 (sa : Int), .int .i64 (se : Int)] 32)).cell? ⟨w13.heap.size, 0, none⟩ = some (.int .i64 (sa : Int)) := cell_of_row _ _ _ _ _ _ T14.out
      have s1 : (w13.alloc (.cells #[.int .i64 (sa : Int), .int .i64 (se : Int)] 32)).cell? ⟨w13.heap.size, 1, none⟩ = some (.int .i64 (se : Int)) := cell_of_row _ _ _ _ _ _ T14.out
      by_cases hse : se = 0
      · subst hse
        obtain ⟨rfl, hbk⟩ := HTL.out.none rfl
        simp only at hbk
        have HBK := Lib.hid hbk
        have HFI := Lib.hid HTL.out.fine
        clear hbk
        go_wp2_with fail
        generalize w13.alloc (.cells #[.int .i64 ((0 : Nat) : Int), .int .i64 ((0 : Nat) : Int)] 32) = w14 at *
        refine (put_any ak LB.length ck LB w14 rfl (by omega) O14.out).mono ?_
        intro e w15 h15
        obtain ⟨az, cz, rfl, rz, b15, _⟩ := put_fine h15 ((Ot.err_zero LB).2 HFI.out)
        rw [HBK.out] at rz ⊢
        rw [HXn.out]
        have z1 := conv_row HXn.out rz
        have z2 := conv_row HXn.out (HX.out.next (Below.chain B14.out b15))
        have BZ := Lib.hid (Below.chain B14.out b15)
        generalize (⟨xs.toArray⟩ : ByteArray) = Z at z1 z2
        clear h15 rz b15 O14 T14 B14 s0 s1
        go_wp2
        go_ret
        exact ⟨rfl, BZ.out⟩
      · obtain ⟨hLB, hsa, _⟩ := HTL.out.some hse
        simp only at hLB hsa
        subst hLB
        rw [HXn.out] at hsa
        have i1 : ((se : Int) == 0) = false := by simp; omega
        have i2 : (sa : Int) < (l : Int) := by omega
        clear hse
        simp only [List.length_nil]
        go_wp2
        go_ret
        exact ⟨rfl, B14.out⟩
    · obtain ⟨rfl, b4⟩ := put_bad h4 hf4
      have BB := Lib.hid (Below.chain B3.out b4)
      generalize Ot.err M = fr at *
      clear h4 b4 hf4 he
      go_wp2_with fail
      refine (C13.out _ (HX.out.next BB.out)).mono ?_
      rintro e w13 ⟨v13, rfl, rec13, b13⟩
      obtain ⟨ak, ck, rfl, opk⟩ := rec13.at
      have B14 := Lib.hid (Below.chain (Below.chain BB.out b13) (below_one w13 (.cells #[.int .i64 (sa : Int), .int .i64 (se : Int)] 32)))
      have T14 := Lib.hid (heap_alloc_new w13 (.cells #[.int .i64 (sa : Int), .int .i64 (se : Int)] 32))
      have O14 := Lib.hid (opk.next (below_one w13 (.cells #[.int .i64 (sa : Int), .int .i64 (se : Int)] 32)))
      clear rec13 b13 opk BB
      simp only [scells]
      have s0 : (w13.alloc (.cells #[.int .i64 (sa : Int), .int .i64 (se : Int)] 32)).cell? ⟨w13.heap.size, 0, none⟩ = some (.int .i64 (sa : Int)) := cell_of_row _ _ _ _ _ _ T14.out
      have s1 : (w13.alloc (.cells #[.int .i64 (sa : Int), .int .i64 (se : Int)] 32)).cell? ⟨w13.heap.size, 1, none⟩ = some (.int .i64 (se : Int)) := cell_of_row _ _ _ _ _ _ T14.out
      by_cases hse : se = 0
      · subst hse
        obtain ⟨rfl, hbk⟩ := HTL.out.none rfl
        simp only at hbk
        have HBK := Lib.hid hbk
        have HFI := Lib.hid HTL.out.fine
        clear hbk
        go_wp2_with fail
        generalize w13.alloc (.cells #[.int .i64 ((0 : Nat) : Int), .int .i64 ((0 : Nat) : Int)] 32) = w14 at *
        refine (put_any ak LB.length ck LB w14 rfl (by omega) O14.out).mono ?_
        intro e w15 h15
        obtain ⟨az, cz, rfl, rz, b15, _⟩ := put_fine h15 ((Ot.err_zero LB).2 HFI.out)
        rw [HBK.out] at rz ⊢
        rw [HXn.out]
        have z1 := conv_row HXn.out rz
        have z2 := conv_row HXn.out (HX.out.next (Below.chain B14.out b15))
        have BZ := Lib.hid (Below.chain B14.out b15)
        generalize (⟨xs.toArray⟩ : ByteArray) = Z at z1 z2
        clear h15 rz b15 O14 T14 B14 s0 s1
        go_wp2
        go_ret
        exact ⟨rfl, BZ.out⟩
      · obtain ⟨hLB, hsa, _⟩ := HTL.out.some hse
        simp only at hLB hsa
        subst hLB
        rw [HXn.out] at hsa
        have i1 : ((se : Int) == 0) = false := by simp; omega
        have i2 : (sa : Int) < (l : Int) := by omega
        clear hse
        simp only [List.length_nil]
        go_wp2
        go_ret
        exact ⟨rfl, B14.out⟩
theorem back_walk (a b d : Option Addr) (n m ca cb cd : Nat) (L M : List Ot.O) (xs : List UInt8) (w : World) (hL : L.length = n) (hM : M.length = m) (ha : OptsAt w a L) (hb : OptsAt w b M) (hd : RowAt w d cd xs) :
    Calls Try.prog 5 #[.slice a n ca, .slice b m cb, .slice d xs.length cd] w fun e w' => e = .returned (.bool true) ∧ Below w.heap.size w w' := by
  by_cases hl : (3000 : Int) < (xs.length : Int)
  · exact back_not a b d n m _ ca cb cd L M w hL hM ha hb (fun _ _ => hl)
  · cases hf : Ot.few L with
    | false => exact back_not a b d n m _ ca cb cd L M w hL hM ha hb (fun h => by rw [hf] at h; cases h)
    | true =>
      cases hg : Ot.few M with
      | false => exact back_not a b d n m _ ca cb cd L M w hL hM ha hb (fun _ h => by rw [hg] at h; cases h)
      | true => exact back_few a b d n m _ ca cb cd L M xs w hL hM ha hb rfl hd hf hg hl
end Go.Proofs.Ytcklhgpfiibcaaa
