/- The walk of DumpBack. -/
import Derived.Test.YtbmlacmpiaklpaaDoorPutsWalk
import Derived.Test.YtbmlacmpiaklpaaDoorReadsWalk
namespace Go.Proofs.YtbmlacmpiaklpaaDoor
open Go.RowKit

set_option maxRecDepth 100000 in
set_option maxHeartbeats 4000000 in
theorem back_walk (a : Option Addr) (n cap : Nat) (L : List Dm.Nt) (ab : Option Addr) (nb cb : Nat) (xs : List UInt8) (w : World) (hn : L.length = n) (h : NtsAt w a L) (hx : xs.length = nb) (hb : RowAt w ab cb xs) (ht : Tab w) :
    Calls Tryd.prog 5 #[.slice a n cap, .slice ab nb cb] w fun e w' => e = .returned (.bool true) ∧ Below w.heap.size w w' := by
  have HOK := Lib.hid h.ok
  have H := Lib.hid h
  have Hn := Lib.hid hn
  have HX := Lib.hid hb
  have HXn := Lib.hid hx
  have HT := Lib.hid ht
  clear h hn ht hb hx
  go_enter Tryd.func5, Tryd.ntmps5
  go_wp2_with fail
  refine (awake_any w HT.out).mono ?_
  rintro e w1 ⟨rfl, b1⟩
  have B1 := Lib.hid b1
  clear b1
  go_wp2_with fail
  refine (few_any a n cap L w1 Hn.out (H.out.next B1.out)).mono ?_
  rintro e w2 ⟨r, rfl, rfl, hfew⟩
  cases r
  · go_wp2_with fail
    refine (awake_any _ (HT.out.next B1.out)).mono ?_
    rintro e w3 ⟨rfl, b3⟩
    have B3 := Lib.hid (Below.chain B1.out b3)
    clear b3
    go_wp2
    go_ret
    exact ⟨rfl, B3.out⟩
  · obtain ⟨h50, h14⟩ := hfew rfl
    clear hfew
    by_cases hbig : 70000 < nb
    · have i1 : (70000 : Int) < (nb : Int) := by omega
      go_wp2_with fail
      refine (awake_any _ (HT.out.next B1.out)).mono ?_
      rintro e w3 ⟨rfl, b3⟩
      have B3 := Lib.hid (Below.chain B1.out b3)
      clear b3
      go_wp2
      go_ret
      exact ⟨rfl, B3.out⟩
    · have i1 : ¬ (70000 : Int) < (nb : Int) := by omega
      have hble := Dm.bytes_le L
      rw [Hn.out] at hble
      have c13 := fun W h t => read_any ab nb cb xs W HXn.out (by omega) h t
      have bk := Dm.read_back xs
      have hup : (Dm.bytes (Dm.read xs).1).length ≤ nb := by
        rcases Nat.eq_zero_or_pos (Dm.read xs).2.2 with h0 | h0
        · rw [(bk.none h0).2, HXn.out]; exact Nat.le_refl _
        · rw [(bk.some (by omega)).2.2.1, List.length_take, HXn.out]; omega
      have hmany := bk.many
      rw [HXn.out] at hmany
      generalize Dm.read xs = A at *
      obtain ⟨LB, sa, se⟩ := A
      simp only at hup hmany
      have HBK := Lib.hid bk
      have C13 := Lib.hid c13
      clear bk c13
      go_wp2_with fail
      refine (put_any a n cap L w2 Hn.out (by omega) (by omega) (H.out.next B1.out) (HT.out.next B1.out)).mono ?_
      intro e w3 hres
      by_cases h0 : Dm.err L = 0
      · obtain ⟨a3, c3, rfl, r3, b3, _⟩ := put_fine hres h0
        have B3 := Lib.hid (Below.chain B1.out b3)
        have hrd := read_any a3 (Dm.bytes L).length c3 (Dm.bytes L) w3 rfl (by omega) r3 (HT.out.next B3.out)
        rw [Dm.read_put L (Dm.fine_err L h0)] at hrd
        have HRD := Lib.hid hrd
        clear b3 r3 hres h0 hrd B1
        generalize (Dm.bytes L).length = k at *
        go_wp2_with fail
        refine HRD.out.mono ?_
        rintro e w4 ⟨v4, rfl, rec4, b4⟩
        obtain ⟨a4, c4, rfl, ra4⟩ := rec4.at HOK.out
        rw [Hn.out]
        simp only [scells]
        have B5 : Hid (Below w.heap.size w (w4.alloc (.cells #[.int .i64 0, .int .i64 0] 32))) := Below.chain (Below.chain B3.out b4) (below_one _ _)
        have A5 : Hid (NtsAt (w4.alloc (.cells #[.int .i64 0, .int .i64 0] 32)) a4 L) := ra4.next (below_one _ _)
        clear rec4 ra4 b4 B3 HRD
        go_wp2_with fail
        generalize w4.alloc (.cells #[.int .i64 0, .int .i64 0] 32) = w5 at *
        generalize w4.heap.size = U at *
        refine (same_any a4 a c4 cap n L w5 Hn.out (by omega) A5.out (H.out.next B5.out)).mono ?_
        rintro e w6 ⟨rfl, b6⟩
        have B6 := Lib.hid (Below.chain B5.out b6)
        clear b6 B5 A5
        go_wp2_with fail
        refine (C13.out w6 (HX.out.next B6.out) (HT.out.next B6.out)).mono ?_
        rintro e w7 ⟨v7, rfl, rec7, b7⟩
        obtain ⟨a7, c7, rfl, ra7⟩ := rec7.at HBK.out.ok
        have V8 : Hid ((w7.alloc (.cells #[.int .i64 (sa : Int), .int .i64 (se : Int)] 32)).heap[w7.heap.size]? = some (.cells (scells sa se).toArray 32 (0, 0))) := heap_alloc_new w7 _
        have B8 : Hid (Below w.heap.size w (w7.alloc (.cells #[.int .i64 (sa : Int), .int .i64 (se : Int)] 32))) := Below.chain (Below.chain B6.out b7) (below_one _ _)
        have A8 : Hid (NtsAt (w7.alloc (.cells #[.int .i64 (sa : Int), .int .i64 (se : Int)] 32)) a7 LB) := ra7.next (below_one _ _)
        simp only [scells]
        clear rec7 ra7 b7
        go_wp2_with fail
        generalize w7.alloc (.cells #[.int .i64 (sa : Int), .int .i64 (se : Int)] 32) = w8 at *
        generalize w7.heap.size = V at *
        refine (put_any a7 LB.length c7 LB w8 rfl (by omega) (by omega) A8.out (HT.out.next B8.out)).mono ?_
        intro e w9 hres9
        obtain ⟨a9, c9, rfl, r9, b9, _⟩ := put_fine hres9 (Dm.err_fine _ HBK.out.fine)
        have B9 := Lib.hid (Below.chain B8.out b9)
        have hV9 := block_next V8.out b9
        have hx9 := HX.out.next B9.out
        have hx9le := hx9.le
        rw [HXn.out] at hx9le
        clear hres9 b9 V8 A8 B8
        by_cases hse : se = 0
        · subst hse
          obtain ⟨h1, h2⟩ := HBK.out.none rfl
          simp only at h1 h2
          subst h1
          rw [h2] at r9 ⊢
          rw [HXn.out]
          have p0 : w9.cell? ⟨V, 0, none⟩ = some (.int .i64 0) := cell_of_row _ _ _ _ _ _ hV9
          have p1 : w9.cell? ⟨V, 1, none⟩ = some (.int .i64 0) := cell_of_row _ _ _ _ _ _ hV9
          have z1 := conv_row HXn.out r9
          have z2 := conv_row HXn.out hx9
          have P0 : ∀ d, (w9.drewN d).cell? ⟨V, 0, none⟩ = some (.int .i64 0) := fun d => p0
          have P1 : ∀ d, (w9.drewN d).cell? ⟨V, 1, none⟩ = some (.int .i64 0) := fun d => p1
          generalize (⟨xs.toArray⟩ : ByteArray) = Z at z1 z2
          clear r9 hx9 hV9 h2
          go_wp2_with fail
          go_quiet (fail)
          go_wp2
          go_ret
          exact ⟨rfl, keeps_below B9.out _⟩
        · obtain ⟨h1, h2, h3, h4⟩ := HBK.out.some hse
          simp only [Nat.sub_zero] at h1 h2 h3 h4
          rw [HXn.out] at h2
          have hlt : (xs.take sa).length = sa := by rw [List.length_take, HXn.out]; omega
          rw [h3] at r9 ⊢
          rw [hlt]
          have y1 : ((se : Int) == 0) = false := by simp; omega
          have y3 : (sa : Int) ≤ (nb : Int) := by omega
          have y4 : ¬ (se : Int) = 0 := by omega
          have y5 : (sa : Int) ≤ (cb : Int) := by omega
          have y6 : sa ≤ cb := by omega
          have p0 : w9.cell? ⟨V, 0, none⟩ = some (.int .i64 (sa : Int)) := cell_of_row _ _ _ _ _ _ hV9
          have p1 : w9.cell? ⟨V, 1, none⟩ = some (.int .i64 (se : Int)) := cell_of_row _ _ _ _ _ _ hV9
          have z1 := fun d => conv_row hlt (keeps_drewN r9 d)
          have z2 := fun d => conv_row hlt (keeps_drewN (hx9.head sa (by rw [HXn.out]; exact h2)) d)
          generalize (⟨(xs.take sa).toArray⟩ : ByteArray) = Z at z1 z2
          clear r9 hx9 hV9 h3 hlt
          go_wp2_with fail
          go_quiet (fail)
          go_wp2
          go_ret
          exact ⟨rfl, keeps_below B9.out _⟩
      · obtain ⟨rfl, b3⟩ := put_bad hres h0
        have B3 := Lib.hid (Below.chain B1.out b3)
        have i0 : ((Dm.err L : Int) == 0) = false := by simp; omega
        clear b3 hres B1 h0
        generalize Dm.err L = q at *
        go_wp2_with fail
        refine (C13.out w3 (HX.out.next B3.out) (HT.out.next B3.out)).mono ?_
        rintro e w7 ⟨v7, rfl, rec7, b7⟩
        obtain ⟨a7, c7, rfl, ra7⟩ := rec7.at HBK.out.ok
        have V8 : Hid ((w7.alloc (.cells #[.int .i64 (sa : Int), .int .i64 (se : Int)] 32)).heap[w7.heap.size]? = some (.cells (scells sa se).toArray 32 (0, 0))) := heap_alloc_new w7 _
        have B8 : Hid (Below w.heap.size w (w7.alloc (.cells #[.int .i64 (sa : Int), .int .i64 (se : Int)] 32))) := Below.chain (Below.chain B3.out b7) (below_one _ _)
        have A8 : Hid (NtsAt (w7.alloc (.cells #[.int .i64 (sa : Int), .int .i64 (se : Int)] 32)) a7 LB) := ra7.next (below_one _ _)
        simp only [scells]
        clear rec7 ra7 b7
        go_wp2_with fail
        generalize w7.alloc (.cells #[.int .i64 (sa : Int), .int .i64 (se : Int)] 32) = w8 at *
        generalize w7.heap.size = V at *
        refine (put_any a7 LB.length c7 LB w8 rfl (by omega) (by omega) A8.out (HT.out.next B8.out)).mono ?_
        intro e w9 hres9
        obtain ⟨a9, c9, rfl, r9, b9, _⟩ := put_fine hres9 (Dm.err_fine _ HBK.out.fine)
        have B9 := Lib.hid (Below.chain B8.out b9)
        have hV9 := block_next V8.out b9
        have hx9 := HX.out.next B9.out
        have hx9le := hx9.le
        rw [HXn.out] at hx9le
        clear hres9 b9 V8 A8 B8
        by_cases hse : se = 0
        · subst hse
          obtain ⟨h1, h2⟩ := HBK.out.none rfl
          simp only at h1 h2
          subst h1
          rw [h2] at r9 ⊢
          rw [HXn.out]
          have p0 : w9.cell? ⟨V, 0, none⟩ = some (.int .i64 0) := cell_of_row _ _ _ _ _ _ hV9
          have p1 : w9.cell? ⟨V, 1, none⟩ = some (.int .i64 0) := cell_of_row _ _ _ _ _ _ hV9
          have z1 := conv_row HXn.out r9
          have z2 := conv_row HXn.out hx9
          have P0 : ∀ d, (w9.drewN d).cell? ⟨V, 0, none⟩ = some (.int .i64 0) := fun d => p0
          have P1 : ∀ d, (w9.drewN d).cell? ⟨V, 1, none⟩ = some (.int .i64 0) := fun d => p1
          generalize (⟨xs.toArray⟩ : ByteArray) = Z at z1 z2
          clear r9 hx9 hV9 h2
          go_wp2_with fail
          go_quiet (fail)
          go_wp2
          go_ret
          exact ⟨rfl, keeps_below B9.out _⟩
        · obtain ⟨h1, h2, h3, h4⟩ := HBK.out.some hse
          simp only [Nat.sub_zero] at h1 h2 h3 h4
          rw [HXn.out] at h2
          have hlt : (xs.take sa).length = sa := by rw [List.length_take, HXn.out]; omega
          rw [h3] at r9 ⊢
          rw [hlt]
          have y1 : ((se : Int) == 0) = false := by simp; omega
          have y3 : (sa : Int) ≤ (nb : Int) := by omega
          have y4 : ¬ (se : Int) = 0 := by omega
          have y5 : (sa : Int) ≤ (cb : Int) := by omega
          have y6 : sa ≤ cb := by omega
          have p0 : w9.cell? ⟨V, 0, none⟩ = some (.int .i64 (sa : Int)) := cell_of_row _ _ _ _ _ _ hV9
          have p1 : w9.cell? ⟨V, 1, none⟩ = some (.int .i64 (se : Int)) := cell_of_row _ _ _ _ _ _ hV9
          have z1 := fun d => conv_row hlt (keeps_drewN r9 d)
          have z2 := fun d => conv_row hlt (keeps_drewN (hx9.head sa (by rw [HXn.out]; exact h2)) d)
          generalize (⟨(xs.take sa).toArray⟩ : ByteArray) = Z at z1 z2
          clear r9 hx9 hV9 h3 hlt
          go_wp2_with fail
          go_quiet (fail)
          go_wp2
          go_ret
          exact ⟨rfl, keeps_below B9.out _⟩
end Go.Proofs.YtbmlacmpiaklpaaDoor
