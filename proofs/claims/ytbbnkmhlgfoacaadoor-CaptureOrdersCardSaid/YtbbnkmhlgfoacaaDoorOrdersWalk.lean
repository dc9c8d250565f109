/- The walk of CaptureOrders. -/
import Derived.Test.YtbbnkmhlgfoacaaDoorCr
import Derived.Test.YtbbnkmhlgfoacaaDoorCq
import Derived.Test.YtbbnkmhlgfoacaaDoorCx
namespace Go.Proofs.YtbbnkmhlgfoacaaDoor
open Go.RowKit
open S10

set_option maxRecDepth 100000 in
set_option maxHeartbeats 1000000 in
theorem orders_walk (a : Option Addr) (n cap : Nat) (L : List Cp.It) (m : S9.Pc.Hdr) (sec : Nat) (y : Xc) (w : World) (hn : L.length = n) (h : ItsAt w a L) (hnil : a = none → cap = 0) (hmo : m.Ok) (hsec : sec < 4294967296) (hac : y.c.accm < 4294967296) (ht : Tab w) :
  Calls Tryd.prog 4 #[.slice a n cap, .agg (S9.hcells m).toArray, .int .u32 (sec : Int), .agg (ccells y).toArray] w fun e w' => e = .returned (.bool true) ∧ Below w.heap.size w w' := by
 have H := Lib.hid h
 have Hn := Lib.hid hn
 have HT := Lib.hid ht
 have h0 := two_made w (S9.hcells m).toArray (ccells y).toArray 39 25
 clear h hn ht
 go_enter Tryd.func4, Tryd.ntmps4
 simp only [ccells, S9.hcells] at h0 ⊢
 go_wp2_with fail
 generalize (w.alloc (.cells #[.bool m.big, .bool m.nano, .int .u32 (m.snap : Int), .int .u32 (m.link : Int)] 39)).alloc (.cells #[.int .i64 y.n0, .int .i64 y.n1, .int .i64 y.n2, .int .i64 y.n3, .string y.s1, .string y.s2, .int .i64 y.c.dir, .int .u32 (y.c.accm : Int), .bool y.c.wide] 25) = W0 at *
 obtain ⟨hB0, hM0, hD0, hs0⟩ := h0
 refine (awake_any W0 (HT.out.next hB0)).mono ?_
 rintro e w1 ⟨rfl, b1⟩
 have B1 := Lib.hid (Below.chain hB0 b1)
 have M1 := Lib.hid (block_next hM0 b1)
 have D1 := Lib.hid (block_next hD0 b1)
 clear b1 hB0 hD0 hM0
 go_wp2_with fail
 refine (itfew_any a n cap L w1 Hn.out (H.out.next B1.out)).mono ?_
 rintro e w2 ⟨r, rfl, rfl, hfew⟩
 cases r
 ·
  go_wp2_with fail
  refine (awake_any _ (HT.out.next B1.out)).mono ?_
  rintro e w3 ⟨rfl, b3⟩
  have B3 := Lib.hid (Below.chain B1.out b3)
  clear b3
  go_wp2
  go_ret
  exact ⟨rfl, B3.out⟩
 ·
  obtain ⟨h60, htt⟩ := hfew rfl
  clear hfew
  cases hall : decide (∀ x ∈ L, Cp.may x = true) with
  | false =>
   have hbad : Cp.write L 1 y.c = ([], 1) := Cp.write_bad L 1 y.c (by decide) (by simpa using hall)
   go_wp2_with (refine wpList_load_row rfl 25 (.tmp 7) rfl (w.heap.size + 1) rfl 25 (ccells y).toArray (0, 0) _ D1.out Tryd.underlying25 rfl infoConf ?_; simp only [ccells])
   refine (ways_not 1 y a n cap L w2 Hn.out h60 htt hac (H.out.next B1.out) (HT.out.next B1.out) 1 hbad).mono ?_
   rintro e w3 ⟨p3, c3, rfl, _, b3⟩
   go_wp2
   go_ret
   exact ⟨rfl, Below.chain B1.out b3⟩
  | true =>
   have hm : ∀ x ∈ L, Cp.may x = true := by simpa using hall
   have hl6 : L.length ≤ 1000000 := by rw [Hn.out]; omega
   obtain ⟨mX, hX⟩ : ∃ mX, (Cp.write L 1 y.c).1.length = mX := ⟨_, rfl⟩
   have hXl := Cp.write_len L 1 y.c (by rw [Hn.out]; exact h60) htt hm (.inl rfl)
   rw [hX] at hXl
   have hrd : S9.Pc.read (Cp.write L 1 y.c).1 = (Cp.hdr, Cp.rcds L, 0, 0) := by
    rw [Cp.write_one L y.c hm]
    exact S9.Pc.read_put Cp.hdr (Cp.rcds L) ⟨by decide, by decide⟩ (Cp.rcds_ok L hl6 hm).1 (Cp.rcds_ok L hl6 hm).2
   have HRD := Lib.hid hrd
   have HX := Lib.hid hX
   have HALL := Lib.hid hm
   have fit1 := Lib.hid (Cp.stamp_fit sec hsec L hm)
   have fit2 := Lib.hid (Cp.cut_fit sec hsec L hm)
   have siz1 := Cp.stamp_size sec L
   have siz2 := Cp.cut_size ((Cp.rcds L).map (Cp.stamp sec))
   rw [Hn.out] at siz1
   have SZ1 : Hid (S9.Pc.size ((Cp.rcds L).map (Cp.stamp sec)) ≤ 71000) := by show _ ≤ _; omega
   have SZ2 : Hid (S9.Pc.size (((Cp.rcds L).map (Cp.stamp sec)).map Cp.cut1) ≤ 71000) := by show _ ≤ _; omega
   have LEN0 : Hid ((Cp.rcds L).length = n) := by show _ = _; rw [Cp.rcds_length]; exact Hn.out
   have rs1 := Lib.hid (Cp.recs_stamp 204 y.c.dir sec (Cp.rcds L))
   have rs0 := Lib.hid (Cp.recs_rcds L hm y.c.dir)
   have rs2 := Lib.hid (Cp.recs_cut y.c.dir sec L hm)
   clear hrd hX hm siz1 siz2
   go_wp2_with (refine wpList_load_row rfl 25 (.tmp 7) rfl (w.heap.size + 1) rfl 25 (ccells y).toArray (0, 0) _ D1.out Tryd.underlying25 rfl infoConf ?_; simp only [ccells])
   refine (ways_write 1 (.inl rfl) y a n cap L w2 Hn.out h60 htt HALL.out hac (H.out.next B1.out) (HT.out.next B1.out) mX HX.out).mono ?_
   rintro e w3 ⟨p3, c3, rfl, r3, b3⟩
   have B3 := Lib.hid (Below.chain B1.out b3)
   have M3 := Lib.hid (block_next M1.out b3)
   have D3 := Lib.hid (block_next D1.out b3)
   have c11 := S9.refRead_any p3 mX c3 (Cp.write L 1 y.c).1 w3 HX.out (by omega) (RowAt.to9 r3)
   rw [HRD.out] at c11
   have C11 := Lib.hid c11
   clear r3 b3 c11 HRD HX M1 D1 hXl hall
   go_wp2_with fail
   refine C11.out.mono ?_
   intro e w4 h4
   obtain ⟨v4, he4, rec4, b4⟩ : ∃ v, e = .returned (.tuple #[.agg #[.bool false, .bool false, .int .u32 65535, .int .u32 204], v, .agg #[.int .i64 0, .int .i64 0]]) ∧ S9.Recs w4 w3.heap.size v (Cp.rcds L) ∧ Below w3.heap.size w3 w4 := h4
   subst he4
   obtain ⟨ar, cr, rfl⟩ := S9.recs_slice rec4
   rw [LEN0.out] at rec4 ⊢
   have h5 := two_made w4 #[.bool false, .bool false, .int .u32 65535, .int .u32 204] #[.int .i64 0, .int .i64 0] 39 33
   have R4 := Lib.hid (rls_of_recs rec4)
   have B4 := Lib.hid b4
   have s3 := B3.out.size
   have m3 := lt_of_block M3.out
   have d3 := lt_of_block D3.out
   clear rec4 b4 C11
   go_wp2_with fail
   generalize (w4.alloc (.cells #[.bool false, .bool false, .int .u32 65535, .int .u32 204] 39)).alloc (.cells #[.int .i64 0, .int .i64 0] 33) = W5 at *
   obtain ⟨b45, _, _, _⟩ := h5
   have B5 := Lib.hid (Below.chain B4.out b45)
   have R5 := Lib.hid (R4.out.next b45)
   clear b45 R4 B4
   go_loopw [14] (fun i wr => ∃ k : Nat, k ≤ n ∧ i = .int .i64 (k : Int) ∧ Rls wr w3.heap.size (fun j => w3.heap.size ≤ j) (.slice ar n cr) (upd (Cp.stamp sec) (Cp.rcds L) k) ∧ Below w3.heap.size w3 wr) (fun i _ => n - (intOf i).toNat)
   case atStart => exact ⟨0, Nat.zero_le _, rfl, by rw [upd_zero]; exact R5.out, B5.out⟩
   case round =>
    obtain ⟨k, hk, rfl, hR, hbw⟩ := hrel
    by_cases hlt : (k : Int) < (n : Int)
    ·
     have hkR : k < (Cp.rcds L).length := by rw [LEN0.out]; omega
     have hQ : ∃ Q, upd (Cp.stamp sec) (Cp.rcds L) k = Q := ⟨_, rfl⟩
     have hQl : (upd (Cp.stamp sec) (Cp.rcds L) k).length = n := by rw [upd_length]; exact LEN0.out
     have hget := upd_get (Cp.stamp sec) (Cp.rcds L) k hkR
     have hset := upd_set (Cp.stamp sec) (Cp.rcds L) k hkR
     have h1 := Cp.rcds_one L k hkR
     rw [← hget] at hset h1
     obtain ⟨Q, hQ⟩ := hQ
     have hkQ : k < Q.length := by rw [← hQ, upd_length]; exact hkR
     simp only [hQ] at hR hQl hset h1
     clear hget
     obtain ⟨g, rfl⟩ := hR.block (by omega)
     obtain ⟨pd, cd, hc3, hle⟩ := hR.load hQl k hkQ
     obtain ⟨⟨u0, hc0⟩, hf0⟩ := hR.place hQl (k * 4) (by omega)
     have hg3 : w3.heap.size ≤ g := (hR.lt g rfl).1
     have R1 := hR.sec hQl k hkQ sec
     obtain ⟨Q1, hQ1⟩ : ∃ Q1, Q1 = Q.set k { Q[k] with sec := sec } := ⟨_, rfl⟩
     rw [← hQ1] at R1
     have hQl1 : Q1.length = n := by rw [hQ1, List.length_set]; exact hQl
     have hk1 : k < Q1.length := by rw [hQl1]; omega
     have R2 := R1.frac hQl1 k hk1 sec
     obtain ⟨⟨u1, hc1⟩, hf1⟩ := R1.place hQl1 (k * 4 + 1) (by omega)
     obtain ⟨Q2, hQ2⟩ : ∃ Q2, Q2 = Q1.set k { Q1[k] with frac := sec } := ⟨_, rfl⟩
     rw [← hQ2] at R2
     have hQl2 : Q2.length = n := by rw [hQ2, List.length_set]; exact hQl1
     have hk2 : k < Q2.length := by rw [hQl2]; omega
     have R3 := R2.len hQl2 k hk2 sec
     obtain ⟨⟨u2, hc2⟩, hf2⟩ := R2.place hQl2 (k * 4 + 2) (by omega)
     rw [Cp.set_three sec Q Q1 Q2 k hkQ hQ1 hk1 hQ2 hk2, hset] at R3
     have b3 := ((hbw.setCell (p := ⟨g, k * 4, none⟩) hg3 (.int .u32 (sec : Int))).setCell (p := ⟨g, k * 4 + 1, none⟩) hg3 (.int .u32 (sec : Int))).setCell (p := ⟨g, k * 4 + 2, none⟩) hg3 (.int .u32 (sec : Int))
     obtain ⟨dm, hdm⟩ : ∃ dm, Q[k].data.length = dm := ⟨_, rfl⟩
     rw [hdm] at hc3 h1
     have hne : ((dm : Int) == 0) = false := by simp; omega
     have R3 := Lib.hid R3
     have b3 := Lib.hid b3
     clear R1 R2 hQ1 hQ2 hset hQ hR hbw hdm
     go_wp2
     go_roundw
     case rel => exact ⟨k + 1, by omega, by go_num, R3.out, b3.out⟩
     case measure => simp [intOf]; omega
    ·
     have hkn : k = n := by omega
     rw [hkn, upd_all _ _ _ LEN0.out] at hR
     obtain ⟨R1, hR1⟩ : ∃ R1, (Cp.rcds L).map (Cp.stamp sec) = R1 := ⟨_, rfl⟩
     simp only [hR1] at hR fit1 fit2 SZ1 SZ2 rs1 rs2
     have LEN1 : Hid (R1.length = n) := by show _ = _; rw [← hR1, List.length_map]; exact LEN0.out
     have hm6 := block_next M3.out hbw
     have hd6 := block_next D3.out hbw
     have hc6 : wr.cell? ⟨w.heap.size, 3, none⟩ = some (.int .u32 (m.link : Int)) := cell_of_row _ _ _ _ _ _ hm6
     have hf6 : wr.frozen? ⟨w.heap.size, 3, none⟩ = false := frozen_of_row _ _ _ _ _ hm6
     have hm7 : (wr.setCell ⟨w.heap.size, 3, none⟩ (.int .u32 204)).heap[w.heap.size]? = some (.cells (S9.hcells ⟨m.big, m.nano, m.snap, 204⟩).toArray 39 (0, 0)) := heap_setCell_same wr w.heap.size 3 _ _ (.int .u32 204) hm6
     have hd7 := (heap_setCell_other wr ⟨w.heap.size, 3, none⟩ (w.heap.size + 1) (.int .u32 204) (by simp)).trans hd6
     have b7 := (Below.chain B3.out hbw).setCell (p := ⟨w.heap.size, 3, none⟩) (Nat.le_refl _) (.int .u32 204)
     have r7 : Rls (wr.setCell ⟨w.heap.size, 3, none⟩ (.int .u32 204)) w3.heap.size (fun j => w3.heap.size ≤ j) (.slice ar n cr) R1 := hR.stays (by simp [World.setCell]) (fun q _ hor => heap_setCell_other _ _ _ _ (by
      show q ≠ w.heap.size
      rcases hor with h | h
      ·
       have := (hR.lt q h).1; omega
      ·
       have : w3.heap.size ≤ q := h; omega))
     obtain ⟨w7, hw7⟩ : ∃ w7, wr.setCell ⟨w.heap.size, 3, none⟩ (.int .u32 204) = w7 := ⟨_, rfl⟩
     have s7 : w3.heap.size ≤ w7.heap.size := by rw [← hw7]; have := hbw.size; simpa [World.setCell] using this
     rw [hw7] at hm7 hd7 b7 r7
     have HW7 := Lib.hid hw7
     have M7 := Lib.hid hm7
     have D7 := Lib.hid hd7
     have B7 := Lib.hid b7
     have R7 := Lib.hid r7
     obtain ⟨a2, c2, e2, hat⟩ := r7.at (fun r hr => (fit1.out r hr).1)
     rw [LEN1.out] at e2
     simp only [Value.slice.injEq, true_and] at e2
     obtain ⟨rfl, rfl⟩ := e2
     have cP := Lib.hid (S9.refPut_put ⟨m.big, m.nano, m.snap, 204⟩ ar n cr R1 w7 ⟨hmo.snap, by show 204 < _; omega⟩ LEN1.out (by have := SZ1.out; omega) hat)
     clear hR hbw hm6 hd6 hw7 hm7 hd7 b7 r7 hat hR1 M3 D3
     go_wp2_with (rw [HW7.out]; refine wpList_load_row rfl 39 (.tmp 5) rfl w.heap.size rfl 39 (S9.hcells ⟨m.big, m.nano, m.snap, 204⟩).toArray (0, 0) _ M7.out Tryd.underlying39 rfl S9.info24 ?_; simp only [S9.hcells])
     clear hc6 hf6
     refine cP.out.mono ?_
     rintro e w8 ⟨b8, h8⟩
     rcases h8 with ⟨_, v8, rfl, o8⟩ | ⟨hno, _⟩
     rotate_left
     ·
      exact absurd (fun r hr => by have := (fit1.out r hr).2.1; omega) hno
     obtain ⟨mY, hY⟩ : ∃ mY, (S9.Pc.put ⟨m.big, m.nano, m.snap, 204⟩ R1).length = mY := ⟨_, rfl⟩
     have hYl : mY ≤ 100000 := by
      have h1 := S9.Pc.put_length ⟨m.big, m.nano, m.snap, 204⟩ R1
      rw [hY, LEN1.out] at h1
      have := SZ1.out; omega
     rw [hY] at o8
     obtain ⟨p8, c8, rfl, r8⟩ := rowAt_own hY o8
     have rr := Cp.read_recs ⟨m.big, m.nano, m.snap, 204⟩ R1 y.c ⟨hmo.snap, by show 204 < _; omega⟩ (by rfl) (fun r hr => (fit1.out r hr).1) (fun r hr => by have := (fit1.out r hr).2.1; omega)
     have rr1 : Cp.read (S9.Pc.put ⟨m.big, m.nano, m.snap, 204⟩ R1) 1 y.c = (L, 0, 0) := by
      rw [rr.1]; show (Cp.recs 204 y.c.dir R1, 0, 0) = _; rw [rs1.out, rs0.out]
     have B8 := Lib.hid (Below.chain B7.out b8)
     have M8 := Lib.hid (block_next M7.out b8)
     have D8 := Lib.hid (block_next D7.out b8)
     have R8 := Lib.hid (R7.out.next b8)
     have s8 := b8.size
     have cQ := capRead_any 1 y p8 mY c8 (S9.Pc.put ⟨m.big, m.nano, m.snap, 204⟩ R1) w8 hY (by omega) r8 (HT.out.next B8.out) hac (fun _ => rr.2) (fun e => by cases e)
     rw [rr1] at cQ
     have CQ := Lib.hid cQ
     clear cQ rr rr1 r8 o8 b8 M7 D7 R7 B7 HW7 cP hY
     go_wp2_with (refine wpList_load_row rfl 25 (.tmp 7) rfl (w.heap.size + 1) rfl 25 (ccells y).toArray (0, 0) _ D8.out Tryd.underlying25 rfl infoConf ?_; simp only [ccells])
     refine CQ.out.mono ?_
     intro e w9 h9
     obtain ⟨v9, he9, i9, b9⟩ : ∃ v, e = .returned (.tuple #[v, .agg #[.int .i64 0, .int .i64 0]]) ∧ Its w9 w8.heap.size (fun k => w8.heap.size ≤ k) v L ∧ Below w8.heap.size w8 w9 := h9
     subst he9
     obtain ⟨a9, c9, rfl, j9⟩ := Its.at' i9 Hn.out
     have hs10 := heap_alloc_new w9 (.cells #[.int .i64 0, .int .i64 0] 33)
     have ba := below_one w9 (.cells #[.int .i64 0, .int .i64 0] 33)
     have q0 : (w9.alloc (.cells #[.int .i64 0, .int .i64 0] 33)).cell? ⟨w9.heap.size, 0, none⟩ = some (.int .i64 0) := cell_of_row _ _ _ _ _ _ hs10
     have q1 : (w9.alloc (.cells #[.int .i64 0, .int .i64 0] 33)).cell? ⟨w9.heap.size, 1, none⟩ = some (.int .i64 0) := cell_of_row _ _ _ _ _ _ hs10
     have j10 := Lib.hid (j9.next ba)
     have b810 := Below.chain b9 ba
     have B10 := Lib.hid (Below.chain B8.out b810)
     have M10 := Lib.hid (block_next M8.out b810)
     have D10 := Lib.hid (block_next D8.out b810)
     have R10 := Lib.hid (R8.out.next b810)
     have s10 := b810.size
     clear i9 j9 b9 ba b810 M8 D8 R8 B8 CQ hs10
     go_wp2_with fail
     refine (itsame_any a9 a c9 cap n L _ Hn.out (by omega) j10.out (H.out.next B10.out)).mono ?_
     rintro e w11 ⟨rfl, b11⟩
     have B11 := Lib.hid (Below.chain B10.out b11)
     have M11 := Lib.hid (block_next M10.out b11)
     have D11 := Lib.hid (block_next D10.out b11)
     have R11 := Lib.hid ((R10.out.next b11).mono (E' := fun j => j < w11.heap.size ∧ w3.heap.size ≤ j) (fun k h1 h2 => ⟨h1, h2⟩))
     have s11 := b11.size
     clear b11 M10 D10 R10 B10 j10 q0 q1
     go_wp2_with (at_builtin; refine wpList_append_copy rfl (.tmp 109) (.tmp 110) rfl (.slice (some ⟨w11.heap.size, 0, none⟩) 0 0) [] L a n cap rfl rfl (copy_none w11 B11.out) (by simp) Hn.out H.out hnil (by simp; omega) ?_; intro v12 w12 cp12 b12; rw [List.nil_append] at cp12; obtain ⟨ao, co, rfl, _⟩ := cp12.at; rw [Hn.out] at cp12 ⊢; have C12 := Lib.hid cp12; have b112 := (below_one w11 (.cells #[] 48)).trans b12; have M12 := Lib.hid (block_next M11.out b112); have D12 := Lib.hid (block_next D11.out b112); have R12 := Lib.hid (R11.out.next b112); have s12 := b112.size; clear cp12 b12 b112 M11 D11 R11)
     clear B11 hlt
     go_loopw [20] (fun i wr => ∃ k : Nat, k ≤ n ∧ i = .int .i64 (k : Int) ∧ Rls wr w3.heap.size (fun j => j < w11.heap.size ∧ w3.heap.size ≤ j) (.slice ar n cr) (upd Cp.cut1 R1 k) ∧ Copy w w11.heap.size wr (.slice ao n co) (upd (Cp.to y.c.dir) L k) ∧ Below w3.heap.size w12 wr) (fun i _ => n - (intOf i).toNat)
     case atStart => exact ⟨0, Nat.zero_le _, rfl, by rw [upd_zero]; exact R12.out, by rw [upd_zero]; exact C12.out, Below.refl _ _⟩
     case round =>
      obtain ⟨k, hk, rfl, hR, hC, hbw⟩ := hrel
      by_cases hlt : (k : Int) < (n : Int)
      ·
       have hkR : k < R1.length := by rw [LEN1.out]; omega
       have hkL : k < L.length := by rw [Hn.out]; omega
       have hQl : (upd Cp.cut1 R1 k).length = n := by rw [upd_length]; exact LEN1.out
       have hPl : (upd (Cp.to y.c.dir) L k).length = n := by rw [upd_length]; exact Hn.out
       have hget := upd_get Cp.cut1 R1 k hkR
       have hset := upd_set Cp.cut1 R1 k hkR
       have hgetL := upd_get (Cp.to y.c.dir) L k hkL
       have hsetL := upd_set (Cp.to y.c.dir) L k hkL
       have h1 := (fit1.out _ (List.getElem_mem hkR)).2.2
       rw [← hget] at hset h1
       rw [← hgetL] at hsetL
       have hkQ : k < (upd Cp.cut1 R1 k).length := by rw [hQl]; omega
       have hkP : k < (upd (Cp.to y.c.dir) L k).length := by rw [hPl]; omega
       clear hget hgetL
       obtain ⟨Q, hQ⟩ : ∃ Q, upd Cp.cut1 R1 k = Q := ⟨_, rfl⟩
       obtain ⟨V, hV⟩ : ∃ V, upd (Cp.to y.c.dir) L k = V := ⟨_, rfl⟩
       simp only [hQ] at hR hQl hset h1 hkQ
       simp only [hV] at hC hPl hsetL hkP
       obtain ⟨g, rfl⟩ := hR.block (by omega)
       obtain ⟨g2, rfl⟩ := hC.block (by omega)
       have hgg := apart hC hR
       have hg2 := (hC.lt g2 rfl).1
       have hg3 : w3.heap.size ≤ g := (hR.lt g rfl).1
       obtain ⟨pd, cd, hc3, hle⟩ := hR.load hQl k hkQ
       obtain ⟨_, hf3⟩ := hR.place hQl (k * 4 + 3) (by omega)
       have dc : wr.cell? ⟨w.heap.size + 1, 6, none⟩ = some (.int .i64 y.c.dir) := cell_of_row _ _ _ _ _ _ ((hbw.block _ (by omega)).trans D12.out)
       obtain ⟨dm, hdm⟩ : ∃ dm, Q[k].data.length = dm := ⟨_, rfl⟩
       rw [hdm] at hc3 h1 hle
       have RD := hR.data hQl k hkQ pd cd dm hc3 h1
       rw [show Q.set k { Q[k] with data := Q[k].data.drop 1 } = upd Cp.cut1 R1 (k + 1) from hset] at RD
       obtain ⟨P, hP⟩ : ∃ P, (if cd = 1 then pd else pd.map (·.add 1)) = P := ⟨_, rfl⟩
       obtain ⟨cP, hcP⟩ : ∃ cP, cd - 1 = cP := ⟨_, rfl⟩
       obtain ⟨mP, hmP⟩ : ∃ mP, dm - 1 = mP := ⟨_, rfl⟩
       rw [hP, hcP, hmP] at RD
       have j1 : 1 ≤ dm := h1
       have j2 : 1 ≤ cd := by omega
       have j3 : (1 : Int) ≤ (cd : Int) := by omega
       have j4 : (1 : Int) ≤ (dm : Int) := by omega
       have j5 : (dm : Int) ≤ (cd : Int) := by omega
       have b1 := hbw.setCell (p := ⟨g, k * 4 + 3, none⟩) hg3 (.slice P mP cP)
       have ww : w.heap.size ≤ w3.heap.size := s3
       have C1 : Copy w w11.heap.size (wr.setCell ⟨g, k * 4 + 3, none⟩ (.slice P mP cP)) (.slice (some ⟨g2, 0, none⟩) n co) V := hC.stays (hC.bel.setCell (p := ⟨g, k * 4 + 3, none⟩) (by show w.heap.size ≤ g; omega) _) (fun q _ hq => heap_setCell_other _ _ _ _ (by
        have e : g2 = q := Option.some.inj hq
        show q ≠ g; omega))
       obtain ⟨⟨u4, hc4⟩, hf4⟩ := C1.place hPl (k * 3) (by omega)
       have dc1 : (wr.setCell ⟨g, k * 4 + 3, none⟩ (.slice P mP cP)).cell? ⟨w.heap.size + 1, 6, none⟩ = some (.int .i64 y.c.dir) := by
        rw [World.cell?_of_block (w := wr) (heap_setCell_other _ _ _ _ (by show w.heap.size + 1 ≠ g; omega))]; exact dc
       have C2 := C1.dir hPl k hkP y.c.dir
       rw [show V.set k { V[k] with dir := y.c.dir } = upd (Cp.to y.c.dir) L (k + 1) from hsetL] at C2
       have R2 : Rls ((wr.setCell ⟨g, k * 4 + 3, none⟩ (.slice P mP cP)).setCell ⟨g2, k * 3, none⟩ (.int .i64 y.c.dir)) w3.heap.size (fun j => j < w11.heap.size ∧ w3.heap.size ≤ j) (.slice (some ⟨g, 0, none⟩) n cr) (upd Cp.cut1 R1 (k + 1)) := RD.stays (by simp [World.setCell]) (fun q _ hor => heap_setCell_other _ _ _ _ (by
        show q ≠ g2
        rcases hor with h | h
        ·
         have e : g = q := Option.some.inj h
         omega
        ·
         have := h.1; omega))
       have b2 := b1.setCell (p := ⟨g2, k * 3, none⟩) (by show w3.heap.size ≤ g2; omega) (.int .i64 y.c.dir)
       have HR2 := Lib.hid R2
       have HC2 := Lib.hid C2
       have HB2 := Lib.hid b2
       have HPE := Lib.hid hP
       have HCE := Lib.hid hcP
       have HME := Lib.hid hmP
       clear R2 C2 b2 b1 C1 RD hset hsetL hdm hle hR hC hbw hQ hV
       have j6 : ¬ cd < dm := by omega
       by_cases hcd : cd = 1
       ·
        subst hcd
        have hd1 : dm = 1 := by omega
        subst hd1
        have hP1 : pd = P := by rw [← HPE.out, if_pos rfl]
        have e1 : 0 = cP := HCE.out
        have e2 : 0 = mP := HME.out
        subst hP1
        subst e1
        subst e2
        clear HPE HCE HME
        go_wp2
        go_roundw
        case rel => exact ⟨k + 1, by omega, by go_num, HR2.out, HC2.out, HB2.out⟩
        case measure => simp [intOf]; omega
       ·
        have hcd2 : ¬ (cd : Int) = 1 := by omega
        have hP1 : Option.map (fun x : Addr => ({ block := x.block, off := x.off + 1 } : Addr)) pd = P := by rw [← HPE.out, if_neg hcd]; rfl
        have e1 : cd - 1 = cP := HCE.out
        have e2 : dm - 1 = mP := HME.out
        clear HPE HCE HME
        go_wp2
        go_roundw
        case rel => exact ⟨k + 1, by omega, by go_num, HR2.out, HC2.out, HB2.out⟩
        case measure => simp [intOf]; omega
      ·
       have hkn2 : k = n := by omega
       rw [hkn2, upd_all _ _ _ LEN1.out] at hR
       rw [hkn2, upd_all _ _ _ Hn.out] at hC
       obtain ⟨R2, hR2⟩ : ∃ R2, R1.map Cp.cut1 = R2 := ⟨_, rfl⟩
       simp only [hR2] at hR fit2 SZ2 rs2
       obtain ⟨L2, hL2⟩ : ∃ L2, L.map (Cp.to y.c.dir) = L2 := ⟨_, rfl⟩
       rw [hL2] at hC rs2
       have LEN2 : Hid (R2.length = n) := by show _ = _; rw [← hR2, List.length_map]; exact LEN1.out
       have LENL : Hid (L2.length = n) := by show _ = _; rw [← hL2, List.length_map]; exact Hn.out
       have hm6 := (hbw.block _ m3).trans M12.out
       have hd6 := (hbw.block _ d3).trans D12.out
       have hc6 : wr.cell? ⟨w.heap.size, 3, none⟩ = some (.int .u32 204) := cell_of_row _ _ _ _ _ _ hm6
       have hf6 : wr.frozen? ⟨w.heap.size, 3, none⟩ = false := frozen_of_row _ _ _ _ _ hm6
       have hm7 : (wr.setCell ⟨w.heap.size, 3, none⟩ (.int .u32 50)).heap[w.heap.size]? = some (.cells (S9.hcells ⟨m.big, m.nano, m.snap, 50⟩).toArray 39 (0, 0)) := heap_setCell_same wr w.heap.size 3 _ _ (.int .u32 50) hm6
       have hd7 := (heap_setCell_other wr ⟨w.heap.size, 3, none⟩ (w.heap.size + 1) (.int .u32 50) (by simp)).trans hd6
       have b7 := hC.bel.setCell (p := ⟨w.heap.size, 3, none⟩) (Nat.le_refl _) (.int .u32 50)
       have r7 : Rls (wr.setCell ⟨w.heap.size, 3, none⟩ (.int .u32 50)) w3.heap.size (fun j => j < w11.heap.size ∧ w3.heap.size ≤ j) (.slice ar n cr) R2 := hR.stays (by simp [World.setCell]) (fun q _ hor => heap_setCell_other _ _ _ _ (by
        show q ≠ w.heap.size
        rcases hor with h | h
        ·
         have := (hR.lt q h).1; omega
        ·
         have := h.2; omega))
       have k7 : Copy w w11.heap.size (wr.setCell ⟨w.heap.size, 3, none⟩ (.int .u32 50)) (.slice ao n co) L2 := hC.stays b7 (fun q _ h => heap_setCell_other _ _ _ _ (by
        show q ≠ w.heap.size
        have := (hC.lt q h).1; omega))
       obtain ⟨w13, hw13⟩ : ∃ w13, wr.setCell ⟨w.heap.size, 3, none⟩ (.int .u32 50) = w13 := ⟨_, rfl⟩
       rw [hw13] at hm7 hd7 b7 r7 k7
       have HW13 := Lib.hid hw13
       have M13 := Lib.hid hm7
       have D13 := Lib.hid hd7
       have B13 := Lib.hid b7
       have K13 := Lib.hid k7
       obtain ⟨a2, c2, e2, hat⟩ := r7.at (fun r hr => (fit2.out r hr).1)
       rw [LEN2.out] at e2
       simp only [Value.slice.injEq, true_and] at e2
       obtain ⟨rfl, rfl⟩ := e2
       have cP := Lib.hid (S9.refPut_put ⟨m.big, m.nano, m.snap, 50⟩ ar n cr R2 w13 ⟨hmo.snap, by show 50 < _; omega⟩ LEN2.out (by have := SZ2.out; omega) hat)
       clear hR hC hbw hm6 hd6 hw13 hm7 hd7 b7 r7 k7 hat hR2 hL2 M12 D12 R12 C12
       go_wp2_with (rw [HW13.out]; refine wpList_load_row rfl 39 (.tmp 5) rfl w.heap.size rfl 39 (S9.hcells ⟨m.big, m.nano, m.snap, 50⟩).toArray (0, 0) _ M13.out Tryd.underlying39 rfl S9.info24 ?_; simp only [S9.hcells])
       clear hc6 hf6
       refine cP.out.mono ?_
       rintro e w14 ⟨b8, h8⟩
       rcases h8 with ⟨_, v8, rfl, o8⟩ | ⟨hno, _⟩
       rotate_left
       ·
        exact absurd (fun r hr => by have := (fit2.out r hr).2; omega) hno
       obtain ⟨mZ, hZ⟩ : ∃ mZ, (S9.Pc.put ⟨m.big, m.nano, m.snap, 50⟩ R2).length = mZ := ⟨_, rfl⟩
       have hZl : mZ ≤ 100000 := by
        have h1 := S9.Pc.put_length ⟨m.big, m.nano, m.snap, 50⟩ R2
        rw [hZ, LEN2.out] at h1
        have := SZ2.out; omega
       rw [hZ] at o8
       obtain ⟨pz, cz, rfl, r8⟩ := rowAt_own hZ o8
       have rr := Cp.read_recs ⟨m.big, m.nano, m.snap, 50⟩ R2 y.c ⟨hmo.snap, by show 50 < _; omega⟩ (by rfl) (fun r hr => (fit2.out r hr).1) (fun r hr => by have := (fit2.out r hr).2; omega)
       have rr1 : Cp.read (S9.Pc.put ⟨m.big, m.nano, m.snap, 50⟩ R2) 1 y.c = (L2, 0, 0) := by
        rw [rr.1]; show (Cp.recs 50 y.c.dir R2, 0, 0) = _; rw [rs2.out]
       have B14 := Lib.hid (Below.chain B13.out b8)
       have D14 := Lib.hid (block_next D13.out b8)
       have K14 := Lib.hid (K13.out.next b8)
       have s14 := b8.size
       have cQ := capRead_any 1 y pz mZ cz (S9.Pc.put ⟨m.big, m.nano, m.snap, 50⟩ R2) w14 hZ (by omega) r8 (HT.out.next B14.out) hac (fun _ => rr.2) (fun e => by cases e)
       rw [rr1] at cQ
       have CQ := Lib.hid cQ
       clear cQ rr rr1 r8 o8 b8 M13 D13 K13 B13 HW13 cP hZ
       go_wp2_with (refine wpList_load_row rfl 25 (.tmp 7) rfl (w.heap.size + 1) rfl 25 (ccells y).toArray (0, 0) _ D14.out Tryd.underlying25 rfl infoConf ?_; simp only [ccells])
       refine CQ.out.mono ?_
       intro e w15 h9
       obtain ⟨v9, he9, i9, b9⟩ : ∃ v, e = .returned (.tuple #[v, .agg #[.int .i64 0, .int .i64 0]]) ∧ Its w15 w14.heap.size (fun k => w14.heap.size ≤ k) v L2 ∧ Below w14.heap.size w14 w15 := h9
       subst he9
       obtain ⟨az, cz9, rfl, j9⟩ := Its.at' i9 LENL.out
       have hs10 := heap_alloc_new w15 (.cells #[.int .i64 0, .int .i64 0] 33)
       have ba := below_one w15 (.cells #[.int .i64 0, .int .i64 0] 33)
       have q0 : (w15.alloc (.cells #[.int .i64 0, .int .i64 0] 33)).cell? ⟨w15.heap.size, 0, none⟩ = some (.int .i64 0) := cell_of_row _ _ _ _ _ _ hs10
       have q1 : (w15.alloc (.cells #[.int .i64 0, .int .i64 0] 33)).cell? ⟨w15.heap.size, 1, none⟩ = some (.int .i64 0) := cell_of_row _ _ _ _ _ _ hs10
       have j10 := Lib.hid (j9.next ba)
       have b810 := Below.chain b9 ba
       have B16 := Lib.hid (Below.chain B14.out b810)
       obtain ⟨ax, cx, ex, kat⟩ := (K14.out.next b810).at
       rw [LENL.out] at ex
       simp only [Value.slice.injEq, true_and] at ex
       obtain ⟨rfl, rfl⟩ := ex
       have KAT := Lib.hid kat
       clear i9 j9 b9 ba b810 D14 K14 B14 CQ hs10 kat
       go_wp2_with fail
       refine (itsame_any az ao cz9 co n L2 _ LENL.out (by omega) j10.out KAT.out).mono ?_
       rintro e w17 ⟨rfl, b17⟩
       have B17 := Lib.hid (Below.chain B16.out b17)
       clear b17
       go_wp2
       go_ret
       exact ⟨rfl, B17.out⟩
end Go.Proofs.YtbbnkmhlgfoacaaDoor
