/- The walk of CaptureKeeps. -/
import Derived.Test.YtbbnkmhlgfoacaaGreatDoorCr
import Derived.Test.YtbbnkmhlgfoacaaGreatDoorVe
import Derived.Test.YtbbnkmhlgfoacaaGreatDoorLb
namespace Go.Proofs.YtbbnkmhlgfoacaaGreatDoor
open Go.RowKit
open S10

theorem Cp.write_up (L : List Cp.It) (c : Cp.Cf) : (Cp.write L 1 c).1.length ≤ 24 + 21 * L.length + Cp.tot L := by
 by_cases hm : ∀ x ∈ L, Cp.may x = true
 ·
  rw [Cp.write_one L c hm]
  have h1 := S9.Pc.put_length Cp.hdr (Cp.rcds L)
  have h2 := Cp.size_rcds L
  have h3 := Cp.rcds_length L
  simp only
  omega
 ·
  rw [Cp.write_bad L 1 c (.inl rfl) hm]; simp


set_option maxRecDepth 100000 in
set_option maxHeartbeats 1000000 in
theorem keeps_walk (a : Option Addr) (n cap : Nat) (xs : List UInt8) (f : Int) (y : Xc) (w : World) (hn : xs.length = n) (h : RowAt w a cap xs) (hac : y.c.accm < 4294967296) (ht : Tab w) :
  Calls Tryz.prog 5 #[.slice a n cap, .int .i64 f, .agg (ccells y).toArray] w fun e w' => e = .returned (.bool true) ∧ Below w.heap.size w w' := by
 have H := Lib.hid h
 have Hn := Lib.hid hn
 have HT := Lib.hid ht
 have hB0 := below_one w (.cells (ccells y).toArray 25)
 have hD0 := heap_alloc_new w (.cells (ccells y).toArray 25)
 clear h hn ht
 go_enter Tryz.func5, Tryz.ntmps5
 simp only [ccells] at hB0 hD0 ⊢
 go_wp2_with fail
 generalize w.alloc (.cells #[.int .i64 y.n0, .int .i64 y.n1, .int .i64 y.n2, .int .i64 y.n3, .string y.s1, .string y.s2, .int .i64 y.c.dir, .int .u32 (y.c.accm : Int), .bool y.c.wide] 25) = W0 at *
 refine (awake_any W0 (HT.out.next hB0)).mono ?_
 rintro e w1 ⟨rfl, b1⟩
 have B1 := Lib.hid (Below.chain hB0 b1)
 have D1 := Lib.hid (block_next hD0 b1)
 clear b1 hB0 hD0
 by_cases hlt : (4000 : Int) < (n : Int)
 ·
  go_wp2_with fail
  refine (awake_any _ (HT.out.next B1.out)).mono ?_
  rintro e w3 ⟨rfl, b3⟩
  have B3 := Lib.hid (Below.chain B1.out b3)
  clear b3
  go_wp2
  go_ret
  exact ⟨rfl, B3.out⟩
 ·
  have hx4 : xs.length ≤ 4000 := by rw [Hn.out]; omega
  have SH := Lib.hid (Cp.recs_short xs hx4)
  have SF := Lib.hid (Cp.notes_safe y.c xs hx4)
  have cR := Lib.hid (fun W h t => refRead_any f y a n cap xs W Hn.out (by rw [← Hn.out]; exact hx4) h t hac (fun _ => SH.out))
  have cP := Lib.hid (fun p c W h t => capRead_any f y p n c xs W Hn.out (by rw [← Hn.out]; omega) h t hac (fun _ => SH.out) (fun _ => SF.out))
  have few := (Cp.read_few xs f y.c).1
  have fewt := (Cp.read_few xs f y.c).2
  obtain ⟨Z, hZ⟩ : ∃ Z, Cp.read xs f y.c = Z := ⟨_, rfl⟩
  rw [hZ] at cR cP few fewt
  obtain ⟨L, s, er⟩ := Z
  obtain ⟨nl, hnl⟩ : ∃ nl, L.length = nl := ⟨_, rfl⟩
  have NL := Lib.hid hnl
  have FEW := Lib.hid (show nl ≤ 4000 by rw [← hnl]; exact Nat.le_trans few hx4)
  have TOT := Lib.hid (show Cp.tot L ≤ 4000 from Nat.le_trans fewt hx4)
  have cW := Lib.hid (fun (p : Option Addr) (c : Nat) (W : World) h t => capWrite_any 1 y p nl c L W NL.out (by have := FEW.out; omega) (fun x hx => by have := Cp.tot_mem L x hx; have := TOT.out; omega) (fun _ => by have := FEW.out; have := TOT.out; omega) (fun e => by cases e) hac h t)
  have hn4 : n ≤ 4000 := by omega
  clear hZ few fewt hx4 SH SF hnl
  go_wp2_with (first
   | (refine wpList_load_row rfl 25 (.tmp 5) rfl w.heap.size rfl 25 (ccells y).toArray (0, 0) _ D2.out Tryz.underlying25 rfl infoConf ?_; simp only [ccells])
   | (at_builtin; refine wpList_append_row rfl (.tmp 24) (.tmp 25) rfl w1.heap.size _ 0 [] rfl (World.ownsRow_made w1 #[] 0 (Nat.le_refl _) (Nat.zero_le _) rfl) a n cap xs rfl Hn.out (rowAt_alloc (H.out.next B1.out) _) (by omega) (by simp) ?_; intro v2 w2 o2 g2; rw [Nat.zero_add, List.nil_append] at o2; obtain ⟨a2, c2, rfl, r2⟩ := rowAt_own Hn.out o2; have b2 : Below w1.heap.size w1 w2 := Below.grown ((Below.refl _ _).alloc (Nat.le_refl _) _) g2 (by simp) (fun j hj => ((World.ownsRow_made (base := w1.heap.size) (e := 5) (size := 1) w1 #[] 0 (Nat.le_refl _) (Nat.zero_le _) rfl).lt j hj).1); have D2 := Lib.hid (block_next D1.out b2); have B2 := Lib.hid (Below.chain B1.out b2); have s1 := B1.out.size; have s2 := b2.size; have R2 := Lib.hid r2; have O2 := Lib.hid o2; clear r2 o2 g2 b2))
  refine (cP.out a2 c2 w2 R2.out (HT.out.next B2.out)).mono ?_
  rintro e w3 ⟨v3, rfl, i3, b3⟩
  obtain ⟨a3, c3, rfl, _⟩ := Its.at' i3 NL.out
  have hD1lt := lt_of_block D1.out
  have bb : Below w2.heap.size w2 (w3.alloc (.cells (scells s er).toArray 30)) := Below.chain b3 (below_one _ _)
  have i4 := i3.next (below_one w3 (.cells (scells s er).toArray 30))
  simp only [scells] at bb i4 ⊢
  obtain ⟨w4, hw4⟩ : ∃ w4, w3.alloc (.cells #[.int .i64 (s : Int), .int .i64 (er : Int)] 30) = w4 := ⟨_, rfl⟩
  obtain ⟨g4, hg4⟩ : ∃ g4, w3.heap.size = g4 := ⟨_, rfl⟩
  rw [hw4] at bb i4
  have B4 := Lib.hid (Below.chain B2.out bb)
  have D4 := Lib.hid (block_next D2.out bb)
  have O4 := Lib.hid (ownsRow_next O2.out bb)
  have I4 := Lib.hid i4
  have BB := Lib.hid bb
  have y1 : (convert 22 9 (.slice a2 n c2)).run Tryz.prog w4 = .ok (.string ⟨xs.toArray⟩) w4 := conv_row Hn.out (R2.out.next bb)
  have y2 : (convert 22 9 (.slice a n cap)).run Tryz.prog w4 = .ok (.string ⟨xs.toArray⟩) w4 := conv_row Hn.out (H.out.next B4.out)
  generalize (⟨xs.toArray⟩ : ByteArray) = Z at y1 y2
  have HQ := Lib.hid (fun q (hq : (Value.slice a2 n c2).ownBlock = some q) => (O2.out.lt q hq).2)
  have HW4 := Lib.hid hw4
  have HG4 := Lib.hid hg4
  clear i3 b3 bb i4 D2 B2 R2 O2 cP hw4 hg4
  go_wp2_with (rw [HW4.out, HG4.out])
  clear y1 y2
  go_loopw [10] (fun i wr => ∃ (k : Nat) (ys : List UInt8), k ≤ n ∧ i = .int .i64 (k : Int) ∧ ys.length = n ∧ wr.ownsRow w1.heap.size 5 1 (.slice a2 n c2) n (Lib.byteCells ys) ∧ w4.grownBy wr (Value.slice a2 n c2).ownBlock ∧ Below w1.heap.size w4 wr) (fun i _ => n - (intOf i).toNat)
  case atStart => exact ⟨0, xs, Nat.zero_le _, rfl, Hn.out, O4.out, ⟨rfl, rfl, rfl, Nat.le_refl _, fun _ _ _ => rfl⟩, Below.refl _ _⟩
  case round =>
   obtain ⟨k, ys, hk, rfl, hyl, hown, hgr, hbw⟩ := hrel
   by_cases hlt2 : (k : Int) < (n : Int)
   ·
    skip
    have hk' : k < n := by omega
    rcases hown.2 with ⟨hv, h0⟩ | ⟨g, c', cur, hv, hB, _, _, _, _, _⟩
    ·
     omega
    ·
     simp only [Value.slice.injEq, true_and] at hv
     obtain ⟨rfl, rfl⟩ := hv
     have hcell := hown.cellAt k (by omega)
     have hfz := hown.frozenAt k
     have hyk : (Lib.byteCells ys)[k]? = some (.int .u8 ((ys[k]'(by omega)).toNat : Int)) := by simp [Lib.byteCells, hyl, hk']
     rw [hyk] at hcell
     clear hyk
     obtain ⟨y, hy⟩ : ∃ y, y = ys[k]'(by omega) := ⟨_, rfl⟩
     rw [← hy] at hcell
     have hy255 := y.toNat_lt
     clear hy
     have hst := hown.stored k (.int .u8 ((y + 1).toNat : Int))
     rw [← cells_set] at hst
     have Hst := Lib.hid hst
     have hvy : ((y + 1).toNat : Int) = ((y.toNat : Int) + 1) % 256 := by simp
     have Hvy := Lib.hid hvy
     clear hst hvy
     go_wp2
     go_roundw
     case rel => exact ⟨k + 1, ys.set k (y + 1), by omega, by go_num, by simpa using hyl, by rw [← Hvy.out]; exact Hst.out.1, by rw [← Hvy.out]; exact grownBy_trans hgr Hst.out.2, by rw [← Hvy.out]; exact hbw.setCell hB _⟩
     case measure => simp [intOf]; omega
   ·
    have hkl : k = n := by omega
    subst hkl
    have b0r : Below w.heap.size w wr := B4.out.trans (hbw.mono s1)
    have B5 := Lib.hid b0r
    have i5 : Its wr w2.heap.size (fun j => w2.heap.size ≤ j) (.slice a3 nl c3) L := I4.out.stays hgr.size (fun q hq hor => hgr.block q hq (fun e => by
     have h1 := HQ.out q e.symm
     rcases hor with h2 | h2
     ·
      have := (I4.out.lt q h2).1; omega
     ·
      omega))
    obtain ⟨a4, c4, e4, ra4⟩ := Its.at' i5 NL.out
    simp only [Value.slice.injEq, true_and] at e4
    obtain ⟨rfl, rfl⟩ := e4
    have A5 := Lib.hid ra4
    have D5 := Lib.hid ((hbw.block _ hD1lt).trans D4.out)
    clear ra4 b0r hgr hbw hown i5 D4
    go_wp2_with (refine wpList_load_row rfl 25 (.tmp 5) rfl w.heap.size rfl 25 (ccells y).toArray (0, 0) _ D5.out Tryz.underlying25 rfl infoConf ?_; simp only [ccells])
    refine (cR.out wr (H.out.next B5.out) (HT.out.next B5.out)).mono ?_
    rintro e w5 ⟨v5, rfl, i6, b5⟩
    obtain ⟨a6, c6, rfl, ra6⟩ := Its.at' i6 NL.out
    have bb : Below wr.heap.size wr (w5.alloc (.cells (scells s er).toArray 30)) := Below.chain b5 (below_one _ _)
    have d6 := ra6.next (below_one w5 (.cells (scells s er).toArray 30))
    simp only [scells] at bb d6 ⊢
    obtain ⟨w6, hw6⟩ : ∃ w6, w5.alloc (.cells #[.int .i64 (s : Int), .int .i64 (er : Int)] 30) = w6 := ⟨_, rfl⟩
    obtain ⟨g6, hg6⟩ : ∃ g6, w5.heap.size = g6 := ⟨_, rfl⟩
    rw [hw6] at bb d6
    have A6 := Lib.hid (A5.out.next bb)
    have E6 := Lib.hid d6
    have D6 := Lib.hid (block_next D5.out bb)
    have B6 := Lib.hid (Below.chain B5.out bb)
    have HW6 := Lib.hid hw6
    have HG6 := Lib.hid hg6
    clear ra6 i6 b5 bb A5 B5 D5 cR d6 hw6 hg6
    go_wp2_with (rw [HW6.out, HG6.out]; refine wpList_load_row rfl 25 (.tmp 5) rfl w.heap.size rfl 25 (ccells y).toArray (0, 0) _ D6.out Tryz.underlying25 rfl infoConf ?_; simp only [ccells])
    refine (cW.out a3 c3 w6 A6.out (HT.out.next B6.out)).mono ?_
    rintro e w7 ⟨v7, rfl, o7, b7⟩
    have hup := Cp.write_up L y.c
    rw [NL.out] at hup
    obtain ⟨Y, hY⟩ : ∃ Y, Cp.write L 1 y.c = Y := ⟨_, rfl⟩
    rw [hY] at o7 hup ⊢
    obtain ⟨Y, ek⟩ := Y
    simp only at o7 ⊢
    obtain ⟨M, hM⟩ : ∃ M, Y.length = M := ⟨_, rfl⟩
    rw [hM] at o7
    have hM9 : M ≤ 300000 := by have := FEW.out; have := TOT.out; simp only at hup; omega
    obtain ⟨ax, cx, rfl⟩ := own_slice o7
    have O7 := Lib.hid o7
    have A7 := Lib.hid (A6.out.next b7)
    have E7 := Lib.hid (E6.out.next b7)
    have BL7 := Lib.hid b7
    have HM := Lib.hid hM
    have s6 := B6.out.size
    clear b7 o7 hM hY cW hup
    go_wp2_with fail
    go_loopw [15] (fun i wr => ∃ (k : Nat) (ys : List UInt8), k ≤ M ∧ i = .int .i64 (k : Int) ∧ ys.length = M ∧ wr.ownsRow w6.heap.size 5 1 (.slice ax M cx) M (Lib.byteCells ys) ∧ Below w6.heap.size w6 wr) (fun i _ => M - (intOf i).toNat)
    case atStart => exact ⟨0, Y, Nat.zero_le _, rfl, HM.out, O7.out, BL7.out⟩
    case round =>
     obtain ⟨k, ys, hk, rfl, hyl, hown, hbw⟩ := hrel
     by_cases hlt3 : (k : Int) < (M : Int)
     ·
      skip
      have hk' : k < M := by omega
      rcases hown.2 with ⟨hv, h0⟩ | ⟨g, c', cur, hv, hB, _, _, _, _, _⟩
      ·
       omega
      ·
       simp only [Value.slice.injEq, true_and] at hv
       obtain ⟨rfl, rfl⟩ := hv
       have hcell := hown.cellAt k (by omega)
       have hfz := hown.frozenAt k
       have hyk : (Lib.byteCells ys)[k]? = some (.int .u8 ((ys[k]'(by omega)).toNat : Int)) := by simp [Lib.byteCells, hyl, hk']
       rw [hyk] at hcell
       clear hyk
       obtain ⟨y, hy⟩ : ∃ y, y = ys[k]'(by omega) := ⟨_, rfl⟩
       rw [← hy] at hcell
       have hy255 := y.toNat_lt
       clear hy
       have hst := hown.stored k (.int .u8 ((y + 1).toNat : Int))
       rw [← cells_set] at hst
       have Hst := Lib.hid hst
       have hvy : ((y + 1).toNat : Int) = ((y.toNat : Int) + 1) % 256 := by simp
       have Hvy := Lib.hid hvy
       clear hst hvy
       go_wp2
       go_roundw
       case rel => exact ⟨k + 1, ys.set k (y + 1), by omega, by go_num, by simpa using hyl, by rw [← Hvy.out]; exact Hst.out.1, by rw [← Hvy.out]; exact hbw.setCell hB _⟩
       case measure => simp [intOf]; omega
     ·
      have A8 := A6.out.next hbw
      have D8 := E6.out.next hbw
      have B8 := Lib.hid (Below.chain B6.out hbw)
      clear hown hbw
      go_wp2_with fail
      refine (itsame_any a3 a6 c3 c6 nl L _ NL.out (by have := FEW.out; omega) A8 D8).mono ?_
      rintro e w9 ⟨rfl, b9⟩
      have B9 := Lib.hid (Below.chain B8.out b9)
      clear b9
      go_wp2
      go_ret
      exact ⟨rfl, B9.out⟩
end Go.Proofs.YtbbnkmhlgfoacaaGreatDoor
