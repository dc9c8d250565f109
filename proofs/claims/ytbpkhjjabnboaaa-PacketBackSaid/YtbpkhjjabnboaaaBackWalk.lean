/- The walk of PacketBack. -/
import Derived.Test.YtbpkhjjabnboaaaPj
namespace Go.Proofs.Ytbpkhjjabnboaaa
open Go.RowKit S2 S12


set_option maxRecDepth 100000 in
set_option maxHeartbeats 2000000 in
theorem back_walk (x : Pk.P) (p a1 a3 : Option Addr) (c cap1 cap3 : Nat) (ms bs : List UInt8) (cut : Nat) (w : World) (hcut : cut ≤ 65535) (hx : RowAt w p c x.data) (hms : RowAt w a1 cap1 ms) (hbs : RowAt w a3 cap3 bs) :
    Calls Try.prog 5 #[.agg (pcells x (.slice p x.data.length c)).toArray, .slice a1 ms.length cap1, .int .u16 (cut : Int), .slice a3 bs.length cap3] w fun e w' => e = .returned (.bool true) ∧ Below w.heap.size w w' := by
  obtain ⟨n, hn⟩ : ∃ n, x.data.length = n := ⟨_, rfl⟩
  obtain ⟨m, hm⟩ : ∃ m, ms.length = m := ⟨_, rfl⟩
  obtain ⟨k, hk⟩ : ∃ k, bs.length = k := ⟨_, rfl⟩
  rw [hn, hm, hk]
  have h0 := one_pkt w (pcells x (.slice p n c)).toArray
  have B0 := Lib.hid h0.1
  have T0 := Lib.hid h0.2
  have HX := Lib.hid (hx.next h0.1)
  have HMS := Lib.hid (hms.next h0.1)
  have HBS := Lib.hid (hbs.next h0.1)
  have HN := Lib.hid hn
  have HM := Lib.hid hm
  have HK := Lib.hid hk
  simp only [pcells] at B0 T0 HX HMS HBS ⊢
  clear h0 hx hms hbs hn hm hk
  go_enter Try.func5, Try.ntmps5
  go_wp2_with fail
  generalize w.alloc (.cells #[.int .i64 x.code, .int .i64 x.id, .slice p n c] 24) = w0 at *
  refine (awake_any w0).mono ?_
  rintro e w1 ⟨rfl, b1⟩
  have B1 := Lib.hid (Below.chain B0.out b1)
  have T1 := block_next T0.out b1
  have X1 := Lib.hid (HX.out.next b1)
  have M1 := Lib.hid (HMS.out.next b1)
  have S1 := Lib.hid (HBS.out.next b1)
  have d0 : w1.cell? ⟨w.heap.size, 2, none⟩ = some (.slice p n c) := cell_of_row _ _ 2 _ _ _ T1
  clear b1 B0 T0 HX HMS HBS
  by_cases g1 : (70000 : Int) < (n : Int)
  · clear X1 M1 S1 HN HM HK
    go_wp2_with fail
    refine (awake_any w1).mono ?_
    rintro e w2 ⟨rfl, b2⟩
    have B2 := Lib.hid (Below.chain B1.out b2)
    clear b2 B1 d0 T1
    go_wp2
    go_ret
    exact ⟨rfl, B2.out⟩
  by_cases g2 : (1000 : Int) < (m : Int)
  · clear X1 M1 S1 HN HM HK
    go_wp2_with fail
    refine (awake_any w1).mono ?_
    rintro e w2 ⟨rfl, b2⟩
    have B2 := Lib.hid (Below.chain B1.out b2)
    clear b2 B1 d0 T1
    go_wp2
    go_ret
    exact ⟨rfl, B2.out⟩
  by_cases g3 : (70000 : Int) < (k : Int)
  · clear X1 M1 S1 HN HM HK
    go_wp2_with fail
    refine (awake_any w1).mono ?_
    rintro e w2 ⟨rfl, b2⟩
    have B2 := Lib.hid (Below.chain B1.out b2)
    clear b2 B1 d0 T1
    go_wp2
    go_ret
    exact ⟨rfl, B2.out⟩
  have c1 := Lib.hid (fun (W : World) (r : RowAt W p c x.data) => put_any x p n c W HN.out (by omega) r)
  simp only [pcells] at c1
  by_cases he : Pk.err x = 0
  · go_wp2_with (refine wpList_load_row rfl 24 (.tmp 4) rfl w.heap.size rfl 24 #[.int .i64 x.code, .int .i64 x.id, .slice p n c] (0, 0) _ T1 Try.underlying24 rfl infoPkt ?_)
    refine (c1.out w1 X1.out).mono ?_
    intro e w2 h2
    obtain ⟨ax, cx, rfl, rx, b2, _⟩ := put_fine h2 he
    have hMl := Pk.bytes_len x
    have hsz : Pk.size x = 4 + n := by rw [Pk.size, HN.out]
    have q1 := Pk.get_put x he ms
    have q2 := fun N => Pk.get_cut x he N
    obtain ⟨X, hX⟩ : ∃ X, Pk.bytes x = X := ⟨_, rfl⟩
    rw [hX] at rx hMl q1 q2 ⊢
    obtain ⟨M, hXM⟩ : ∃ M, X.length = M := ⟨_, rfl⟩
    rw [hXM] at hMl q2 ⊢
    have hM4 : 4 ≤ M := by omega
    have hMb : M ≤ 70004 := by omega
    obtain ⟨MM, hMM⟩ : ∃ MM, M + m = MM := ⟨_, rfl⟩
    obtain ⟨N, hN⟩ : ∃ N, cut % M = N := ⟨_, rfl⟩
    have hNM : N < M := by rw [← hN]; exact Nat.mod_lt _ (by omega)
    have hmod : (cut : Int).tmod (M : Int) = (N : Int) := by rw [Int.tmod_eq_emod_of_nonneg (by omega), ← hN]; simp
    have hmod2 : (cut : Int) % (M : Int) = (N : Int) := by rw [← hN]; simp
    have hwc : IntKind.i64.wrap (cut : Int) = (cut : Int) := by rw [IntKind.wrap_i64]; omega
    replace q2 := q2 N hNM
    have hNl : (X.take N).length = N := by rw [List.length_take, hXM]; omega
    have hcx := rx.le
    rw [hXM] at hcx
    have B2 := Lib.hid (Below.chain B1.out b2)
    have T2 := Lib.hid (block_next T1 b2)
    have X2 := Lib.hid (X1.out.next b2)
    have M2 := Lib.hid (M1.out.next b2)
    have S2' := Lib.hid (S1.out.next b2)
    have RX2 := Lib.hid rx
    have HXM := Lib.hid hXM
    have HNL := Lib.hid hNl
    have Q1 := Lib.hid q1
    obtain ⟨A9, hA9⟩ : ∃ A9, Pk.get (X.take N) = A9 := ⟨_, rfl⟩
    have hA1 : A9.1 = Pk.pz := by rw [← hA9] ; exact Pk.get_bad (by rw [q2]; omega)
    rw [hA9] at q2
    obtain ⟨A91, A92⟩ := A9
    simp only at hA1 q2
    subst hA1
    subst q2
    have Q2 := Lib.hid hA9
    have O0 : Hid (Own w2 (w2.alloc (.cells #[] 5)) (some ⟨w2.heap.size, 0, none⟩) 0 0 []) := ⟨rfl, World.ownsRow_made w2 #[] 0 (Nat.le_refl _) (Nat.zero_le _) rfl, below_one _ _⟩
    have i1 : (0 : Int) < (M : Int) := by omega
    have i2 : ¬ (M : Int) = 0 := by omega
    have i3 : (N : Int) ≤ (cx : Int) := by omega
    clear c1 b2 h2 rx B1 T1 X1 M1 S1 d0 hX hXM hNl q1 hA9 hMl hsz hN
    go_wp2_with (at_builtin; first | (refine wpList_append_mine rfl (.tmp 51) (.tmp 52) rfl (some ⟨w2.heap.size, 0, none⟩) 0 0 M [] rfl O0.out ax M cx X rfl HXM.out (RX2.out.next O0.out.bel) (by omega) (by omega) ?_; intro p5 c5 w5 O5'; have O5 : Hid (Own w2 w5 p5 M c5 X) := O5'; clear O5') | (refine wpList_append_mine rfl (.tmp 53) (.tmp 54) rfl p5 M c5 MM X rfl O5.out a1 m cap1 ms rfl HM.out (M2.out.next O5.out.bel) hMM (by omega) ?_; intro p6 c6 w6 O6'; have O6 := Lib.hid O6'; clear O6'))
    have G := get_any p6 MM c6 (X ++ ms) w6 O6.out.len (by omega) O6.out.row
    rw [Q1.out] at G
    refine G.mono ?_
    intro e w7 h7
    obtain ⟨a7, c7, rfl, _, r7, b7⟩ := h7.row
    simp only [pcells, HN.out]
    have b28 : Below w2.heap.size w2 (w7.alloc (.cells #[.int .i64 x.code, .int .i64 x.id, .slice a7 n c7] 24)) := Below.chain (Below.chain O6.out.bel b7) (below_one _ _)
    have B8 := Lib.hid (Below.chain B2.out b28)
    have T8 := Lib.hid (block_next T2.out b28)
    have X8 := Lib.hid (X2.out.next b28)
    have S8 := Lib.hid (S2'.out.next b28)
    have RX8 := Lib.hid (RX2.out.next b28)
    have R8 : Hid (RowAt (w7.alloc (.cells #[.int .i64 x.code, .int .i64 x.id, .slice a7 n c7] 24)) a7 c7 x.data) := r7.next (below_one _ _)
    have V8 := Lib.hid (heap_alloc_new w7 (.cells #[.int .i64 x.code, .int .i64 x.id, .slice a7 n c7] 24))
    clear b28 r7 b7 h7 G O6 O5 O0 Q1 B2 T2 X2 M2 S2' RX2
    go_wp2_with fail
    generalize w7.alloc (.cells #[.int .i64 x.code, .int .i64 x.id, .slice a7 n c7] 24) = w8 at *
    generalize w7.heap.size = V at *
    have G := get_any ax N cx (X.take N) w8 HNL.out (by omega) (RX8.out.head N (by rw [HXM.out]; omega))
    rw [Q2.out] at G
    refine G.mono ?_
    intro e w9 h9
    obtain ⟨a9, c9, rfl, _, r9, b9⟩ := h9.row
    have hz0 : Pk.pz.data.length = 0 := rfl
    simp only [pcells, hz0]
    have b10 : Below w8.heap.size w8 (w9.alloc (.cells #[.int .i64 Pk.pz.code, .int .i64 Pk.pz.id, .slice a9 0 c9] 24)) := Below.chain b9 (below_one _ _)
    have B10 := Lib.hid (Below.chain B8.out b10)
    have T10 := block_next T8.out b10
    have V10 := block_next V8.out b10
    have X10 := Lib.hid (X8.out.next b10)
    have S10 := Lib.hid (S8.out.next b10)
    have R10 := Lib.hid (R8.out.next b10)
    clear b10 r9 b9 h9 G B8 T8 V8 X8 S8 R8 RX8 Q2 HNL hmod hmod2 hwc i1 i2 i3 hcx hz0
    have d0 : (w9.alloc (.cells #[.int .i64 Pk.pz.code, .int .i64 Pk.pz.id, .slice a9 0 c9] 24)).cell? ⟨w.heap.size, 0, none⟩ = some (.int .i64 x.code) := cell_of_row _ _ 0 _ _ _ T10
    have d1 : (w9.alloc (.cells #[.int .i64 Pk.pz.code, .int .i64 Pk.pz.id, .slice a9 0 c9] 24)).cell? ⟨w.heap.size, 1, none⟩ = some (.int .i64 x.id) := cell_of_row _ _ 1 _ _ _ T10
    have d2 : (w9.alloc (.cells #[.int .i64 Pk.pz.code, .int .i64 Pk.pz.id, .slice a9 0 c9] 24)).cell? ⟨w.heap.size, 2, none⟩ = some (.slice p n c) := cell_of_row _ _ 2 _ _ _ T10
    have v0 : (w9.alloc (.cells #[.int .i64 Pk.pz.code, .int .i64 Pk.pz.id, .slice a9 0 c9] 24)).cell? ⟨V, 0, none⟩ = some (.int .i64 x.code) := cell_of_row _ _ 0 _ _ _ V10
    have v1 : (w9.alloc (.cells #[.int .i64 Pk.pz.code, .int .i64 Pk.pz.id, .slice a9 0 c9] 24)).cell? ⟨V, 1, none⟩ = some (.int .i64 x.id) := cell_of_row _ _ 1 _ _ _ V10
    have v2 : (w9.alloc (.cells #[.int .i64 Pk.pz.code, .int .i64 Pk.pz.id, .slice a9 0 c9] 24)).cell? ⟨V, 2, none⟩ = some (.slice a7 n c7) := cell_of_row _ _ 2 _ _ _ V10
    clear T10 V10
    go_wp2_with fail
    clear d0 d1 d2 v0 v1 v2
    generalize w9.alloc (.cells #[.int .i64 Pk.pz.code, .int .i64 Pk.pz.id, .slice a9 0 c9] 24) = w10 at *
    generalize w9.heap.size = U at *
    have G := same_any x x p a7 n n c c7 w10 HN.out HN.out X10.out R10.out
    rw [decide_eq_true (rfl : x = x)] at G
    refine G.mono ?_
    rintro e w11 ⟨rfl, b11⟩
    have B11 := Lib.hid (Below.chain B10.out b11)
    have S11 := Lib.hid (S10.out.next b11)
    clear b11 G B10 X10 S10 R10 HXM HN HM hM4 hMb hMM hNM he hcut
    obtain ⟨A, hA⟩ : ∃ A, Pk.get bs = A := ⟨_, rfl⟩
    have QB := @Lib.hid (A.2 ≠ 0 → A.1 = Pk.pz) (by rw [← hA]; exact Pk.get_bad)
    have QG := @Lib.hid (A.2 = 0 → Pk.err A.1 = 0 ∧ (Pk.bytes A.1).length ≤ bs.length ∧ Pk.bytes A.1 = bs.take (Pk.bytes A.1).length) (by rw [← hA]; exact Pk.put_get bs)
    have QL := @Lib.hid (A.1.data.length ≤ bs.length) (by rw [← hA]; exact Pk.get_one bs)
    rw [HK.out] at QG QL
    have G := get_any a3 k cap3 bs w11 HK.out (by omega) S11.out
    rw [hA] at G
    clear hA
    obtain ⟨y, er⟩ := A
    simp only at QB QG QL
    go_wp2_with fail
    refine G.mono ?_
    intro e wa ha
    obtain ⟨aq, cq, rfl, _, rq, ba⟩ := ha.row
    obtain ⟨ny, hny⟩ : ∃ ny, y.data.length = ny := ⟨_, rfl⟩
    simp only [pcells, hny]
    have HNY := Lib.hid hny
    have bb : Below (w11).heap.size w11 (wa.alloc (.cells #[.int .i64 y.code, .int .i64 y.id, .slice aq ny cq] 24)) := Below.chain ba (below_one _ _)
    have BA := Lib.hid (Below.chain B11.out bb)
    have HA := Lib.hid (S11.out.next bb)
    have RA : Hid (RowAt (wa.alloc (.cells #[.int .i64 y.code, .int .i64 y.id, .slice aq ny cq] 24)) aq cq y.data) := rq.next (below_one _ _)
    have TA := heap_alloc_new wa (.cells #[.int .i64 y.code, .int .i64 y.id, .slice aq ny cq] 24)
    clear bb ba rq ha G hny
    by_cases he : er = 0
    · subst he
      obtain ⟨y1, y2, y3⟩ := QG.out rfl
      have C3 := Lib.hid (fun (W : World) (r : RowAt W aq cq y.data) => put_any y aq ny cq W HNY.out (by have := QL.out; have := HNY.out; omega) r)
      simp only [pcells] at C3
      have Y1 := Lib.hid y1
      have Y3 := Lib.hid y3
      have i2 := y2
      clear y1 y3 QB QG
      go_wp2_with (refine wpList_load_row rfl 24 (.tmp 15) rfl wa.heap.size rfl 24 #[.int .i64 y.code, .int .i64 y.id, .slice aq ny cq] (0, 0) _ TA Try.underlying24 rfl infoPkt ?_)
      refine (C3.out _ RA.out).mono ?_
      intro e wc hc
      obtain ⟨ay, cy, rfl, ry, bc, _⟩ := put_fine hc Y1.out
      have BC := Lib.hid (Below.chain BA.out bc)
      have HC := HA.out.next bc
      obtain ⟨Y, hY⟩ : ∃ Y, Pk.bytes y = Y := ⟨_, rfl⟩
      rw [hY] at Y3 ry i2
      simp only [hY]
      clear hY
      obtain ⟨M2, hM2⟩ : ∃ M2, Y.length = M2 := ⟨_, rfl⟩
      rw [hM2] at Y3 i2
      simp only [hM2]
      have hle := HC.le
      rw [HK.out] at hle
      have j2 : (M2 : Int) ≤ (cap3 : Int) := by omega
      have j3 : (M2 : Int) ≤ (k : Int) := by omega
      have z1 := fun dd => conv_row hM2 (keeps_drewN ry dd)
      have hlt : (bs.take M2).length = M2 := by rw [List.length_take, HK.out]; omega
      have z2 := fun dd => conv_row hlt (keeps_drewN (HC.head M2 (by rw [HK.out]; exact i2)) dd)
      rw [← Y3.out] at z2
      generalize (⟨Y.toArray⟩ : ByteArray) = Z at z1 z2
      clear HC ry hc bc TA RA HA BA C3 hlt hle Y3
      go_wp2_with fail
      go_quiet (fail)
      go_wp2
      go_ret
      exact ⟨rfl, keeps_below BC.out _⟩
    · have i1 : ((er : Int) != 0) = true := by simp; omega
      obtain rfl := QB.out he
      obtain rfl : ny = 0 := HNY.out.symm
      have C3 := Lib.hid (fun (W : World) (r : RowAt W aq cq Pk.pz.data) => by have := same_any Pk.pz Pk.pz aq none 0 0 cq 0 W rfl rfl r (rowAt_nil W); rw [decide_eq_true (rfl : Pk.pz = Pk.pz)] at this; exact this)
      simp only [pcells] at C3
      clear QB QG he
      go_wp2_with (refine wpList_load_row rfl 24 (.tmp 15) rfl wa.heap.size rfl 24 #[.int .i64 Pk.pz.code, .int .i64 Pk.pz.id, .slice aq 0 cq] (0, 0) _ TA Try.underlying24 rfl infoPkt ?_)
      refine (C3.out _ RA.out).mono ?_
      rintro e wc ⟨rfl, bc⟩
      have BC := Lib.hid (Below.chain BA.out bc)
      clear bc TA RA HA BA C3
      go_wp2
      go_ret
      exact ⟨rfl, BC.out⟩
  · go_wp2_with (refine wpList_load_row rfl 24 (.tmp 4) rfl w.heap.size rfl 24 #[.int .i64 x.code, .int .i64 x.id, .slice p n c] (0, 0) _ T1 Try.underlying24 rfl infoPkt ?_)
    refine (c1.out w1 X1.out).mono ?_
    intro e w2 h2
    obtain ⟨rfl, b2⟩ := put_bad h2 he
    have i0 : ((Pk.err x : Int) == 0) = false := by simp; omega
    generalize Pk.err x = ex at *
    have B2 := Lib.hid (Below.chain B1.out b2)
    have S2' := Lib.hid (S1.out.next b2)
    clear b2 h2 c1 B1 T1 X1 M1 S1 d0 he HN HM
    obtain ⟨A, hA⟩ : ∃ A, Pk.get bs = A := ⟨_, rfl⟩
    have QB := @Lib.hid (A.2 ≠ 0 → A.1 = Pk.pz) (by rw [← hA]; exact Pk.get_bad)
    have QG := @Lib.hid (A.2 = 0 → Pk.err A.1 = 0 ∧ (Pk.bytes A.1).length ≤ bs.length ∧ Pk.bytes A.1 = bs.take (Pk.bytes A.1).length) (by rw [← hA]; exact Pk.put_get bs)
    have QL := @Lib.hid (A.1.data.length ≤ bs.length) (by rw [← hA]; exact Pk.get_one bs)
    rw [HK.out] at QG QL
    have G := get_any a3 k cap3 bs w2 HK.out (by omega) S2'.out
    rw [hA] at G
    clear hA
    obtain ⟨y, er⟩ := A
    simp only at QB QG QL
    go_wp2_with fail
    refine G.mono ?_
    intro e wa ha
    obtain ⟨aq, cq, rfl, _, rq, ba⟩ := ha.row
    obtain ⟨ny, hny⟩ : ∃ ny, y.data.length = ny := ⟨_, rfl⟩
    simp only [pcells, hny]
    have HNY := Lib.hid hny
    have bb : Below (w2).heap.size w2 (wa.alloc (.cells #[.int .i64 y.code, .int .i64 y.id, .slice aq ny cq] 24)) := Below.chain ba (below_one _ _)
    have BA := Lib.hid (Below.chain B2.out bb)
    have HA := Lib.hid (S2'.out.next bb)
    have RA : Hid (RowAt (wa.alloc (.cells #[.int .i64 y.code, .int .i64 y.id, .slice aq ny cq] 24)) aq cq y.data) := rq.next (below_one _ _)
    have TA := heap_alloc_new wa (.cells #[.int .i64 y.code, .int .i64 y.id, .slice aq ny cq] 24)
    clear bb ba rq ha G hny
    by_cases he : er = 0
    · subst he
      obtain ⟨y1, y2, y3⟩ := QG.out rfl
      have C3 := Lib.hid (fun (W : World) (r : RowAt W aq cq y.data) => put_any y aq ny cq W HNY.out (by have := QL.out; have := HNY.out; omega) r)
      simp only [pcells] at C3
      have Y1 := Lib.hid y1
      have Y3 := Lib.hid y3
      have i2 := y2
      clear y1 y3 QB QG
      go_wp2_with (refine wpList_load_row rfl 24 (.tmp 15) rfl wa.heap.size rfl 24 #[.int .i64 y.code, .int .i64 y.id, .slice aq ny cq] (0, 0) _ TA Try.underlying24 rfl infoPkt ?_)
      refine (C3.out _ RA.out).mono ?_
      intro e wc hc
      obtain ⟨ay, cy, rfl, ry, bc, _⟩ := put_fine hc Y1.out
      have BC := Lib.hid (Below.chain BA.out bc)
      have HC := HA.out.next bc
      obtain ⟨Y, hY⟩ : ∃ Y, Pk.bytes y = Y := ⟨_, rfl⟩
      rw [hY] at Y3 ry i2
      simp only [hY]
      clear hY
      obtain ⟨M2, hM2⟩ : ∃ M2, Y.length = M2 := ⟨_, rfl⟩
      rw [hM2] at Y3 i2
      simp only [hM2]
      have hle := HC.le
      rw [HK.out] at hle
      have j2 : (M2 : Int) ≤ (cap3 : Int) := by omega
      have j3 : (M2 : Int) ≤ (k : Int) := by omega
      have z1 := fun dd => conv_row hM2 (keeps_drewN ry dd)
      have hlt : (bs.take M2).length = M2 := by rw [List.length_take, HK.out]; omega
      have z2 := fun dd => conv_row hlt (keeps_drewN (HC.head M2 (by rw [HK.out]; exact i2)) dd)
      rw [← Y3.out] at z2
      generalize (⟨Y.toArray⟩ : ByteArray) = Z at z1 z2
      clear HC ry hc bc TA RA HA BA C3 hlt hle Y3
      go_wp2_with fail
      go_quiet (fail)
      go_wp2
      go_ret
      exact ⟨rfl, keeps_below BC.out _⟩
    · have i1 : ((er : Int) != 0) = true := by simp; omega
      obtain rfl := QB.out he
      obtain rfl : ny = 0 := HNY.out.symm
      have C3 := Lib.hid (fun (W : World) (r : RowAt W aq cq Pk.pz.data) => by have := same_any Pk.pz Pk.pz aq none 0 0 cq 0 W rfl rfl r (rowAt_nil W); rw [decide_eq_true (rfl : Pk.pz = Pk.pz)] at this; exact this)
      simp only [pcells] at C3
      clear QB QG he
      go_wp2_with (refine wpList_load_row rfl 24 (.tmp 15) rfl wa.heap.size rfl 24 #[.int .i64 Pk.pz.code, .int .i64 Pk.pz.id, .slice aq 0 cq] (0, 0) _ TA Try.underlying24 rfl infoPkt ?_)
      refine (C3.out _ RA.out).mono ?_
      rintro e wc ⟨rfl, bc⟩
      have BC := Lib.hid (Below.chain BA.out bc)
      clear bc TA RA HA BA C3
      go_wp2
      go_ret
      exact ⟨rfl, BC.out⟩
end Go.Proofs.Ytbpkhjjabnboaaa
