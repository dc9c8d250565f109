/- Contract of the document's notes. -/
import Derived.Test.YtbbnkmhlgfoacaaGreatDoorVc
namespace Go.Proofs.YtbbnkmhlgfoacaaGreatDoor
open Go.RowKit
open S10


set_option maxRecDepth 100000 in
set_option maxHeartbeats 1000000 in
theorem refNotes_any (x : Xc) (a : Option Addr) (n cap : Nat) (xs : List UInt8) (w : World) (hn : xs.length = n) (hm : n ≤ 4000) (h : RowAt w a cap xs) (ht : Tab w) (hac : x.c.accm < 4294967296) :
  Calls Tryz.prog 19 #[.slice a n cap, .agg (ccells x).toArray] w fun e w' => ItemsRes w w' e (Cp.readD xs x.c) := by
 have c1 := fun W h t => S10.refRead_any a n cap xs W hn (by omega) h t
 have hbk := S10.Dm.read_back xs
 rw [← hn] at hm
 have hb := Cp.readD_bad xs x.c
 have hg := Cp.readD_good xs x.c
 generalize S10.Dm.read xs = A at *
 obtain ⟨l, s, er⟩ := A
 have hok := hbk.ok
 have hsz := hbk.size
 have hmy := hbk.many
 have HBK := Lib.hid hbk
 simp only at hok hsz hmy
 replace hsz : S10.Dm.size l ≤ 4000 := by omega
 replace hmy : l.length ≤ 4000 := by omega
 replace hb := hb l s er rfl
 replace hg := fun (he : er = 0) => hg l s (by rw [he])
 generalize Cp.readD xs x.c = Z at *
 have H := Lib.hid h
 have HT := Lib.hid ht
 have C1 := Lib.hid c1
 have HOK := Lib.hid hok
 have HBD := Lib.hid hb
 have HG := Lib.hid hg
 clear h ht c1 hok hb hg hn hbk hm
 have h0 := two_made w (ccells x).toArray #[.int .i64 0, .int .i64 0] 25 30
 go_enter Tryz.func19, Tryz.ntmps19
 simp only [ccells] at h0 ⊢
 go_wp2_with fail
 generalize (w.alloc (.cells #[.int .i64 x.n0, .int .i64 x.n1, .int .i64 x.n2, .int .i64 x.n3, .string x.s1, .string x.s2, .int .i64 x.c.dir, .int .u32 (x.c.accm : Int), .bool x.c.wide] 25)).alloc (.cells #[.int .i64 0, .int .i64 0] 30) = W0 at *
 obtain ⟨hB0, hD0, hR0, hs0⟩ := h0
 refine (C1.out W0 (H.out.next hB0) (HT.out.next hB0)).mono ?_
 rintro e w1 ⟨v, rfl, nts1, b1⟩
 obtain ⟨av, cv, rfl, hnt⟩ := nts1.at HOK.out
 have hsz1 := b1.size
 have b2 := below_one w1 (.cells #[.int .i64 (s : Int), .int .i64 (er : Int)] 30)
 have hF2 := heap_alloc_new w1 (.cells #[.int .i64 (s : Int), .int .i64 (er : Int)] 30)
 have hs2 : (w1.alloc (.cells #[.int .i64 (s : Int), .int .i64 (er : Int)] 30)).heap.size = w1.heap.size + 1 := by simp
 simp only [scells]
 have b12 := Lib.hid (Below.chain b1 b2)
 have HN2 := Lib.hid (hnt.next b2)
 have HB0 := Lib.hid hB0
 have D2 := Lib.hid (block_next hD0 b12.out)
 have R2 := Lib.hid (block_next hR0 b12.out)
 have F2 := Lib.hid hF2
 clear b1 hnt hB0 hD0 hR0 nts1 C1 b2 hF2 H HT
 by_cases he : er = 0
 ·
  subst he
  have hZ := Lib.hid (HG.out rfl)
  clear HBD HG
  obtain ⟨nl, hnl⟩ : ∃ nl, l.length = nl := ⟨_, rfl⟩
  rw [hnl] at hmy ⊢
  have HNL := Lib.hid hnl
  clear hnl
  have hz0 : s = 0 := by
   have := HBK.out.none rfl
   exact this.1
  subst hz0
  go_wp2
  generalize w1.alloc (.cells #[.int .i64 ((0 : Nat) : Int), .int .i64 ((0 : Nat) : Int)] 30) = W2 at *
  have b02 := Lib.hid (HB0.out.trans (b12.out.mono HB0.out.size))
  have hsmz := S10.Dm.size_take l
  have HSZ := Lib.hid hsmz
  clear HB0 b12 hsmz HBK
  go_loopw [8, 9, 10, 11] (fun v h1 h2 i wr => ∃ k : Nat, i = .int .i64 (k : Int) ∧ k ≤ nl ∧ Acc W2 wr h1 h2 v (Cp.sm x.c (l.take k)).out (Cp.sm x.c (l.take k)).inn (Cp.sm x.c (l.take k)).its) (fun _ _ _ i _ => nl - (intOf i).toNat)
  case atStart => exact ⟨0, rfl, Nat.zero_le _, acc_none W2⟩
  case round =>
   obtain ⟨k, rfl, hk, hT⟩ := hrel
   obtain ⟨ax, cx, rfl⟩ := its_slice hT.its
   by_cases hlt : (k : Int) < (nl : Int)
   ·
    have hk' : k < l.length := by rw [HNL.out]; omega
    obtain ⟨b, off, p, c, rfl, hna, hbl⟩ := HN2.out.at k hk'
    have hrow := hna.row
    have hKC := fun (W : World) (hb : Below W2.heap.size W2 W) => (hna.next hbl hb).kind
    have hDC := fun (W : World) (hb : Below W2.heap.size W2 W) => (hna.next hbl hb).data
    have hCW : ∀ (W : World) (_ : Below W2.heap.size W2 W), W.cell? ⟨w.heap.size, 8, none⟩ = some (.bool x.c.wide) := fun W hb => cell_of_row _ _ _ _ _ _ (block_next D2.out hb)
    have hCA : ∀ (W : World) (_ : Below W2.heap.size W2 W), W.cell? ⟨w.heap.size, 7, none⟩ = some (.int .u32 (x.c.accm : Int)) := fun W hb => cell_of_row _ _ _ _ _ _ (block_next D2.out hb)
    have hst := Cp.sm_take x.c l k hk'
    have hle := Cp.sm_le x.c (l.take k)
    have hle2 := HSZ.out k
    have hle3 := HSZ.out (k + 1)
    have hlz := Cp.sm_le x.c (l.take (k + 1))
    have hdl : l[k].data.length ≤ 4000 := Nat.le_trans (S10.Dm.size_mem k hk') hsz
    rw [hst] at hlz
    generalize l[k] = r at *
    generalize hsg : Cp.sm x.c (l.take k) = sg at *
    obtain ⟨kd, nn, dat⟩ := r
    simp only at hrow hKC hDC hdl
    obtain ⟨nm, hnm⟩ : ∃ nm, sg.its.length = nm := ⟨_, rfl⟩
    obtain ⟨q, hq⟩ : ∃ q, dat.length = q := ⟨_, rfl⟩
    rw [hnm] at hT hle ⊢
    rw [hq] at hDC hdl
    have k0 := hKC wr hT.below
    have cw0 := hCW wr hT.below
    have ca0 := hCA wr hT.below
    have HRW := Lib.hid hrow
    have KC := Lib.hid hKC
    have DC := Lib.hid hDC
    have CW := Lib.hid hCW
    have CAc := Lib.hid hCA
    have HST := Lib.hid hst
    have HNM := Lib.hid hnm
    have HQ := Lib.hid hq
    replace hlz := And.intro (Nat.le_trans hlz.1 (Nat.le_trans hle3 hsz)) (Nat.le_trans hlz.2.1 (Nat.le_trans hle3 hsz))
    have hkn : k + 1 ≤ nl := by omega
    have hol : sg.out.length ≤ 4000 := by omega
    have hil : sg.inn.length ≤ 4000 := by omega
    have hnmm : nm ≤ 4000 := by omega
    clear hrow hKC hDC hCW hCA hst hle hle2 hle3 hna hk' hnm hq hsg hbl
    by_cases h1' : kd = 1
    ·
     subst h1'
     have hst1 := Cp.step_one x.c sg ⟨1, nn, dat⟩ rfl
     rw [hst1] at hlz
     have hol2 : sg.out.length + q ≤ 4000 := by have := hlz.1; simp only [List.length_append, HQ.out] at this; omega
     have hst1 := Lib.hid hst1
     clear hlz
     have hT1 := hT
     obtain ⟨p1, c1, e1, row1⟩ := rowAt_own rfl hT1.o1
     subst e1
     have o1 := hT1.o1
     obtain ⟨n1, hn1⟩ : ∃ n1, sg.out.length = n1 := ⟨_, rfl⟩
     rw [hn1] at o1 hT1 hol hol2
     have cE := ended_any 0 x.c.wide p1 n1 c1 sg.out wr hn1 (by omega) (by omega) row1
     have hnew := Cp.all_new 0 x.c.wide sg.out dat
     have hl1 := S7.Fr.all_len 0 x.c.wide sg.out S7.Fr.init
     have hl2 := S7.Fr.all_len 0 x.c.wide (sg.out ++ dat) S7.Fr.init
     have hsh := Cp.all_short 0 x.c.wide (sg.out ++ dat) S7.Fr.init
     have cE2 := fun (p : Option Addr) (m c : Nat) (W : World) (h1 : (sg.out ++ dat).length = m) (h2 : m ≤ 4000) (h3 : RowAt W p c (sg.out ++ dat)) => ended_any 0 x.c.wide p m c (sg.out ++ dat) W h1 (by omega) h2 h3
     generalize S7.Fr.all 0 x.c.wide S7.Fr.init sg.out = A1 at *
     generalize S7.Fr.all 0 x.c.wide S7.Fr.init (sg.out ++ dat) = A2 at *
     generalize S7.Fr.all 0 x.c.wide (Cp.st 0 x.c.wide sg.out) dat = BS at *
     rw [List.length_append, hn1, HQ.out] at hl2
     rw [hn1] at hl1 ⊢
     obtain ⟨la, hla⟩ : ∃ la, A1.length = la := ⟨_, rfl⟩
     obtain ⟨lb, hlb⟩ : ∃ lb, A2.length = lb := ⟨_, rfl⟩
     rw [hla] at cE hnew hl1
     rw [hlb] at cE2 hl2
     have hbl : BS.length = lb - la := by rw [← hnew, List.length_drop, hlb]
     have HT1 := Lib.hid hT1
     have HO1 := Lib.hid o1
     have HNEW := Lib.hid hnew
     have HSH := Lib.hid hsh
     have HN1 := Lib.hid hn1
     have HE2 := Lib.hid cE2
     have HBL := Lib.hid hbl
     have HLB := Lib.hid hlb
     clear hT1 o1 hnew hsh hn1 cE2 hbl hla hlb row1 hT
     go_wp2_with fail
     refine cE.mono ?_
     rintro e w4 ⟨p4, c4, rfl, _, b4⟩
     have T4 := Lib.hid (HT1.out.next b4)
     have O4 := Lib.hid (ownsRow_next HO1.out b4)
     have DC4 := DC.out w4 T4.out.below
     have R4 := Lib.hid (HRW.out.next T4.out.below)
     clear cE b4 HT1 HO1
     go_wp2_with (at_builtin; refine wpList_append_bytes rfl (.tmp 56) (.tmp 61) rfl W2.heap.size (.slice p1 n1 c1) n1 (Lib.byteCells sg.out) rfl O4.out p q c dat rfl HQ.out R4.out (by omega) T4.out.below.size ?_; intro v5 w5 o5 g5; obtain ⟨p5, c5, rfl⟩ := own_slice o5; rw [← Lib.byteCells_append] at o5; have hsl : (sg.out ++ dat).length = n1 + q := (by rw [List.length_append, HN1.out, HQ.out]); have T5 := Lib.hid (T4.out.fed (s1' := sg.out ++ dat) g5 (by rw [hsl]; exact o5)); have CW5 := CW.out w5 T5.out.below; have CA5 := CAc.out w5 T5.out.below; have R5 := Lib.hid o5; have HSL := Lib.hid hsl; clear o5 g5 hsl)
     obtain ⟨p5', c5', e5, row5⟩ := rowAt_own HSL.out R5.out
     simp only [Value.slice.injEq, true_and] at e5
     obtain ⟨rfl, rfl⟩ := e5
     refine (HE2.out p5 (n1 + q) c5 w5 HSL.out (by omega) row5).mono ?_
     rintro e w6 ⟨p6, c6, rfl, bs6, b6⟩
     have T6 := Lib.hid (T5.out.next b6)
     have hv5 := fun k => T5.out.its.lt k
     have BS6 := Lib.hid (show BodsAt w6 p6 A2 (fun k => (Value.slice ax nm cx).ownBlock ≠ some k) by
      rcases bs6 with h | ⟨bb, oo, h1, h2, h3, h4⟩
      ·
       exact .inl h
      ·
       refine .inr ⟨bb, oo, h1, h2, fun e => by have := (hv5 _ e).2; omega, fun j hj => ?_⟩
       obtain ⟨pp, cc, h5, h6, h7⟩ := h4 j hj
       exact ⟨pp, cc, h5, h6, fun ad e => ⟨(h7 ad e).1, fun e2 => by have := (hv5 _ e2).2; have := (h7 ad e).2; omega⟩⟩)
     clear bs6 b6 T5 T4 O4 DC4 R4 R5 row5 hv5 CW5 CA5
     go_wp2
     go_loopw [8, 14] (fun v2 i2 wr2 => ∃ j : Nat, i2 = .int .i64 ((la + j : Nat) : Int) ∧ (j ≤ lb - la ∧ la ≤ 4000) ∧ Its wr2 W2.heap.size (OffA W2.heap.size (.slice p5 (n1 + q) c5) u10) v2 (sg.its ++ Cp.its 2 (BS.take j)) ∧ Grew w6 wr2 (.slice ax nm cx) v2) (fun _ i2 _ => lb - (intOf i2).toNat)
     case atStart => exact ⟨0, by simp, ⟨Nat.zero_le _, by omega⟩, by simpa [Cp.its] using T6.out.its, Grew.refl _ _⟩
     case round =>
      obtain ⟨j, rfl, ⟨hj, hla4⟩, hI2, hg2⟩ := hrel
      by_cases hlt2 : ((la + j : Nat) : Int) < (lb : Int)
      ·
       have hj2 : la + j < A2.length := by rw [HLB.out]; omega
       have hjb : j < BS.length := by rw [HBL.out]; omega
       obtain ⟨bb, oo, pp, cc, rfl, hcell, hrow7, _⟩ := (BS6.out.grew hg2).at (la + j) hj2
       have hsn := Cp.its_snoc 2 BS j hjb
       have hxl := HSH.out _ (List.getElem_mem hj2)
       have heq : BS[j] = A2[la + j] := by
        have : BS[j]? = A2[la + j]? := by rw [← HNEW.out, List.getElem?_drop]
        rw [List.getElem?_eq_getElem hjb, List.getElem?_eq_getElem hj2] at this
        exact Option.some.inj this
       rw [heq] at hsn
       have hle := Cp.its_le 2 (BS.take j)
       rw [List.length_take] at hle
       generalize A2[la + j] = y at *
       obtain ⟨qy, hqy⟩ : ∃ qy, y.length = qy := ⟨_, rfl⟩
       rw [hqy] at hcell hxl
       obtain ⟨M, hM⟩ : ∃ M, M = sg.its ++ Cp.its 2 (BS.take j) := ⟨_, rfl⟩
       have hM2 : sg.its ++ Cp.its 2 (BS.take (j + 1)) = M ++ Cp.item 2 y := by rw [hsn, hM, List.append_assoc]
       have hMl : M.length ≤ 1000000 := by rw [hM, List.length_append, HNM.out]; omega
       rw [← hM] at hI2
       have hsz2 := hg2.by'.size
       obtain ⟨a7, c7, rfl⟩ := its_slice hI2
       have C1 := Lib.hid (with_any _ 2 pp qy cc y M W2.heap.size _ wr hqy (by omega) hrow7 hI2 (Nat.le_trans T6.out.below.size hsz2) (fun i hi => T6.out.off i (Nat.le_trans hsz2 hi)) hMl)
       have HG2 := Lib.hid hg2
       have HM2 := Lib.hid hM2
       clear hI2 hg2 hM hM2 hsn hrow7 hle hxl hqy hj2 hjb heq
       have hla5 : ((la : Int) + (j : Int)) < (lb : Int) := by omega
       go_wp2_with fail
       refine C1.out.mono ?_
       rintro e w8 ⟨v8, rfl, i8, g8⟩
       have I8 := Lib.hid i8
       have G8 := Lib.hid g8
       clear i8 g8 C1
       go_wp2
       go_roundw
       case rel => exact ⟨j + 1, by go_num, ⟨by omega, hla4⟩, by rw [HM2.out]; exact I8.out, HG2.out.trans G8.out⟩
       case measure => simp [intOf]; omega
      ·
       have hks : BS.take j = BS := List.take_of_length_le (by rw [HBL.out]; omega)
       rw [hks] at hI2
       have T8 := Lib.hid (T6.out.grew hg2 hI2)
       have KC8 := KC.out _ T8.out.below
       clear hI2 hg2 hks
       have hla5 : ¬ ((la : Int) + (j : Int)) < (lb : Int) := by omega
       go_wp2
       go_roundw
       case rel => exact ⟨k + 1, by go_num, by omega, by rw [HST.out, hst1.out]; exact T8.out⟩
       case measure => simp [intOf]; omega
    ·
     by_cases h2' : kd = 2
     ·
      subst h2'
      have hst1 := Cp.step_two x.c sg ⟨2, nn, dat⟩ rfl
      rw [hst1] at hlz
      have hil2 : sg.inn.length + q ≤ 4000 := by have := hlz.2; simp only [List.length_append, HQ.out] at this; omega
      have hst1 := Lib.hid hst1
      clear hlz
      have hT1 := hT.swap
      obtain ⟨p1, c1, e1, row1⟩ := rowAt_own rfl hT1.o1
      subst e1
      have o1 := hT1.o1
      obtain ⟨n1, hn1⟩ : ∃ n1, sg.inn.length = n1 := ⟨_, rfl⟩
      rw [hn1] at o1 hT1 hil hil2
      have cE := ended_any x.c.accm x.c.wide p1 n1 c1 sg.inn wr hn1 hac (by omega) row1
      have hnew := Cp.all_new x.c.accm x.c.wide sg.inn dat
      have hl1 := S7.Fr.all_len x.c.accm x.c.wide sg.inn S7.Fr.init
      have hl2 := S7.Fr.all_len x.c.accm x.c.wide (sg.inn ++ dat) S7.Fr.init
      have hsh := Cp.all_short x.c.accm x.c.wide (sg.inn ++ dat) S7.Fr.init
      have cE2 := fun (p : Option Addr) (m c : Nat) (W : World) (h1 : (sg.inn ++ dat).length = m) (h2 : m ≤ 4000) (h3 : RowAt W p c (sg.inn ++ dat)) => ended_any x.c.accm x.c.wide p m c (sg.inn ++ dat) W h1 hac h2 h3
      generalize S7.Fr.all x.c.accm x.c.wide S7.Fr.init sg.inn = A1 at *
      generalize S7.Fr.all x.c.accm x.c.wide S7.Fr.init (sg.inn ++ dat) = A2 at *
      generalize S7.Fr.all x.c.accm x.c.wide (Cp.st x.c.accm x.c.wide sg.inn) dat = BS at *
      rw [List.length_append, hn1, HQ.out] at hl2
      rw [hn1] at hl1 ⊢
      obtain ⟨la, hla⟩ : ∃ la, A1.length = la := ⟨_, rfl⟩
      obtain ⟨lb, hlb⟩ : ∃ lb, A2.length = lb := ⟨_, rfl⟩
      rw [hla] at cE hnew hl1
      rw [hlb] at cE2 hl2
      have hbl : BS.length = lb - la := by rw [← hnew, List.length_drop, hlb]
      have HT1 := Lib.hid hT1
      have HO1 := Lib.hid o1
      have HNEW := Lib.hid hnew
      have HSH := Lib.hid hsh
      have HN1 := Lib.hid hn1
      have HE2 := Lib.hid cE2
      have HBL := Lib.hid hbl
      have HLB := Lib.hid hlb
      clear hT1 o1 hnew hsh hn1 cE2 hbl hla hlb row1 hT
      go_wp2_with fail
      refine cE.mono ?_
      rintro e w4 ⟨p4, c4, rfl, _, b4⟩
      have T4 := Lib.hid (HT1.out.next b4)
      have O4 := Lib.hid (ownsRow_next HO1.out b4)
      have DC4 := DC.out w4 T4.out.below
      have R4 := Lib.hid (HRW.out.next T4.out.below)
      clear cE b4 HT1 HO1
      go_wp2_with (at_builtin; refine wpList_append_bytes rfl (.tmp 93) (.tmp 98) rfl W2.heap.size (.slice p1 n1 c1) n1 (Lib.byteCells sg.inn) rfl O4.out p q c dat rfl HQ.out R4.out (by omega) T4.out.below.size ?_; intro v5 w5 o5 g5; obtain ⟨p5, c5, rfl⟩ := own_slice o5; rw [← Lib.byteCells_append] at o5; have hsl : (sg.inn ++ dat).length = n1 + q := (by rw [List.length_append, HN1.out, HQ.out]); have T5 := Lib.hid (T4.out.fed (s1' := sg.inn ++ dat) g5 (by rw [hsl]; exact o5)); have CW5 := CW.out w5 T5.out.below; have CA5 := CAc.out w5 T5.out.below; have R5 := Lib.hid o5; have HSL := Lib.hid hsl; clear o5 g5 hsl)
      obtain ⟨p5', c5', e5, row5⟩ := rowAt_own HSL.out R5.out
      simp only [Value.slice.injEq, true_and] at e5
      obtain ⟨rfl, rfl⟩ := e5
      refine (HE2.out p5 (n1 + q) c5 w5 HSL.out (by omega) row5).mono ?_
      rintro e w6 ⟨p6, c6, rfl, bs6, b6⟩
      have T6 := Lib.hid (T5.out.next b6)
      have hv5 := fun k => T5.out.its.lt k
      have BS6 := Lib.hid (show BodsAt w6 p6 A2 (fun k => (Value.slice ax nm cx).ownBlock ≠ some k) by
       rcases bs6 with h | ⟨bb, oo, h1, h2, h3, h4⟩
       ·
        exact .inl h
       ·
        refine .inr ⟨bb, oo, h1, h2, fun e => by have := (hv5 _ e).2; omega, fun j hj => ?_⟩
        obtain ⟨pp, cc, h5, h6, h7⟩ := h4 j hj
        exact ⟨pp, cc, h5, h6, fun ad e => ⟨(h7 ad e).1, fun e2 => by have := (hv5 _ e2).2; have := (h7 ad e).2; omega⟩⟩)
      clear bs6 b6 T5 T4 O4 DC4 R4 R5 row5 hv5 CW5 CA5
      go_wp2
      go_loopw [8, 17] (fun v2 i2 wr2 => ∃ j : Nat, i2 = .int .i64 ((la + j : Nat) : Int) ∧ (j ≤ lb - la ∧ la ≤ 4000) ∧ Its wr2 W2.heap.size (OffA W2.heap.size (.slice p5 (n1 + q) c5) u9) v2 (sg.its ++ Cp.its 1 (BS.take j)) ∧ Grew w6 wr2 (.slice ax nm cx) v2) (fun _ i2 _ => lb - (intOf i2).toNat)
      case atStart => exact ⟨0, by simp, ⟨Nat.zero_le _, by omega⟩, by simpa [Cp.its] using T6.out.its, Grew.refl _ _⟩
      case round =>
       obtain ⟨j, rfl, ⟨hj, hla4⟩, hI2, hg2⟩ := hrel
       by_cases hlt2 : ((la + j : Nat) : Int) < (lb : Int)
       ·
        have hj2 : la + j < A2.length := by rw [HLB.out]; omega
        have hjb : j < BS.length := by rw [HBL.out]; omega
        obtain ⟨bb, oo, pp, cc, rfl, hcell, hrow7, _⟩ := (BS6.out.grew hg2).at (la + j) hj2
        have hsn := Cp.its_snoc 1 BS j hjb
        have hxl := HSH.out _ (List.getElem_mem hj2)
        have heq : BS[j] = A2[la + j] := by
         have : BS[j]? = A2[la + j]? := by rw [← HNEW.out, List.getElem?_drop]
         rw [List.getElem?_eq_getElem hjb, List.getElem?_eq_getElem hj2] at this
         exact Option.some.inj this
        rw [heq] at hsn
        have hle := Cp.its_le 1 (BS.take j)
        rw [List.length_take] at hle
        generalize A2[la + j] = y at *
        obtain ⟨qy, hqy⟩ : ∃ qy, y.length = qy := ⟨_, rfl⟩
        rw [hqy] at hcell hxl
        obtain ⟨M, hM⟩ : ∃ M, M = sg.its ++ Cp.its 1 (BS.take j) := ⟨_, rfl⟩
        have hM2 : sg.its ++ Cp.its 1 (BS.take (j + 1)) = M ++ Cp.item 1 y := by rw [hsn, hM, List.append_assoc]
        have hMl : M.length ≤ 1000000 := by rw [hM, List.length_append, HNM.out]; omega
        rw [← hM] at hI2
        have hsz2 := hg2.by'.size
        obtain ⟨a7, c7, rfl⟩ := its_slice hI2
        have C1 := Lib.hid (with_any _ 1 pp qy cc y M W2.heap.size _ wr hqy (by omega) hrow7 hI2 (Nat.le_trans T6.out.below.size hsz2) (fun i hi => T6.out.off i (Nat.le_trans hsz2 hi)) hMl)
        have HG2 := Lib.hid hg2
        have HM2 := Lib.hid hM2
        clear hI2 hg2 hM hM2 hsn hrow7 hle hxl hqy hj2 hjb heq
        have hla5 : ((la : Int) + (j : Int)) < (lb : Int) := by omega
        go_wp2_with fail
        refine C1.out.mono ?_
        rintro e w8 ⟨v8, rfl, i8, g8⟩
        have I8 := Lib.hid i8
        have G8 := Lib.hid g8
        clear i8 g8 C1
        go_wp2
        go_roundw
        case rel => exact ⟨j + 1, by go_num, ⟨by omega, hla4⟩, by rw [HM2.out]; exact I8.out, HG2.out.trans G8.out⟩
        case measure => simp [intOf]; omega
       ·
        have hks : BS.take j = BS := List.take_of_length_le (by rw [HBL.out]; omega)
        rw [hks] at hI2
        have T8 := Lib.hid (T6.out.grew hg2 hI2)
        have KC8 := KC.out _ T8.out.below
        clear hI2 hg2 hks
        have hla5 : ¬ ((la : Int) + (j : Int)) < (lb : Int) := by omega
        go_wp2
        go_roundw
        case rel => exact ⟨k + 1, by go_num, by omega, by rw [HST.out, hst1.out]; exact T8.out.swap⟩
        case measure => simp [intOf]; omega
     ·
      have i1 : (kd == 1) = false := by simp [h1']
      have i2 : (kd == 2) = false := by simp [h2']
      by_cases h3' : kd = 3
      ·
       subst h3'
       have hst1 := Cp.step_three x.c sg ⟨3, nn, dat⟩ rfl
       have T5 := Lib.hid hT.clear
       clear hT hlz
       go_wp2
       go_roundw
       case rel => exact ⟨k + 1, by go_num, by omega, by rw [HST.out, hst1]; exact T5.out⟩
       case measure => simp [intOf]; omega
      ·
       have i3 : (kd == 3) = false := by simp [h3']
       by_cases h4' : kd = 4
       ·
        subst h4'
        have hst1 := Cp.step_four x.c sg ⟨4, nn, dat⟩ rfl
        have T5 := Lib.hid hT.swap.clear.swap
        clear hT hlz
        go_wp2
        go_roundw
        case rel => exact ⟨k + 1, by go_num, by omega, by rw [HST.out, hst1]; exact T5.out⟩
        case measure => simp [intOf]; omega
       ·
        have i4 : (kd == 4) = false := by simp [h4']
        have hst1 := Lib.hid (Cp.step_else x.c sg ⟨kd, nn, dat⟩ h1' h2' h3' h4')
        have T5 := Lib.hid hT
        clear h1' h2' h3' h4' hT hlz
        go_wp2
        go_roundw
        case rel => exact ⟨k + 1, by go_num, by omega, by rw [HST.out, hst1.out]; exact T5.out⟩
        case measure => simp [intOf]; omega
   ·
    have hks : l.take k = l := List.take_of_length_le (by rw [HNL.out]; omega)
    rw [hks] at hT ⊢
    have HT2 := Lib.hid hT
    have hb3 := hT.below.size
    have hs20 := b02.out.size
    clear hT hks
    obtain ⟨nm, hnm⟩ : ∃ nm, (Cp.sm x.c l).its.length = nm := ⟨_, rfl⟩
    rw [hnm] at HT2 ⊢
    go_wp2_with fail
    have hS : wr.drew.heap[w1.heap.size]? = some (.cells (scells 0 0).toArray 30 (0, 0)) ∧ wr.drew.heap[w.heap.size + 1]? = some (.cells #[.int .i64 0, .int .i64 0] 30 (0, 0)) := ⟨block_next F2.out HT2.out.below.drew, block_next R2.out HT2.out.below.drew⟩
    have bW : Below W2.heap.size W2 wr.drew := HT2.out.below.drew
    have iW := HT2.out.its.next (Below.refl _ _).drew
    refine held_start (S := fun W => W.heap[w1.heap.size]? = some (.cells (scells 0 0).toArray 30 (0, 0))) 4 (by kernel_rfl) rfl ?_
    generalize wr.drew = w4 at hS bW iW ⊢
    have hS1 := hS.1
    refine held_take 0 (v := ?_) rfl (by kernel_rfl) (by kernel_rfl) (by kernel_rfl) (fun _ _ _ h => h) (by assumption) (by rfl) ?_ ?_
    rotate_left
    ·
     (intro W hW; go_simp; try with_reducible rfl)
    simp only [Act.put, List.setIfInBounds_toArray, List.set_cons_zero, List.set_cons_succ]
    refine held_take 1 (v := .agg (scells 0 0).toArray) rfl (by kernel_rfl) (by kernel_rfl) (by kernel_rfl) (fun _ _ _ h => h) (by assumption) (by rfl) (fun W hW => run_load_spot (.tmp 7) rfl _ rfl 0 0 hW) ?_
    simp only [Act.put, List.setIfInBounds_toArray, List.set_cons_zero, List.set_cons_succ]
    refine held_take 2 (v := ?_) rfl (by kernel_rfl) (by kernel_rfl) (by kernel_rfl) (fun _ _ _ h => h) (by assumption) (by rfl) ?_ ?_
    rotate_left
    ·
     (intro W hW; go_simp; try with_reducible rfl)
    simp only [Act.put, List.setIfInBounds_toArray, List.set_cons_zero, List.set_cons_succ]
    refine held_alone 3 (w' := w4.setRow (w.heap.size + 1) (scells 0 0).toArray) rfl (by kernel_rfl) (by rfl) (run_store_spot (.tmp 5) (.tmp 120) rfl (w.heap.size + 1) 0 0 _ rfl rfl hS.2 rfl) (by rw [setRow_other _ _ _ _ (by omega)]; exact hS1) ?_
    simp only [Act.put]
    refine held_done (by kernel_rfl) ?_
    go_wp2
    refine bodyPost_ret (v := .tuple #[.slice ax nm cx, .agg (scells 0 0).toArray]) ?_ rfl ?_
    ·
     exact results_tmp_cell_row Tryz.results19 _ _ (w.heap.size + 1) 30 _ _ _ rfl (setRow_heap _ _ _ _ _ _ hS.2) Tryz.underlying30 rfl infoSpot
    ·
     rw [hZ.out]
     exact ⟨_, rfl, ((iW.kept (grown_row _ _ _) (by omega) (fun _ e => e.1)).lower (by omega)).mono (fun j _ hj => by have := hj.1; show w.heap.size ≤ j; omega), below_setRow (b02.out.trans (bW.mono (by omega))) (by omega) _⟩
 ·
  have hZ := HBD.out he
  have i1 : ((er : Int) != 0) = true := by simp; omega
  have i2 : ¬ (er : Int) = 0 := by omega
  clear HG HBD
  go_wp2_with fail
  generalize w1.alloc (.cells #[.int .i64 (s : Int), .int .i64 (er : Int)] 30) = W2 at *
  have b02 := HB0.out.trans (b12.out.mono HB0.out.size)
  have hS : W2.drew.heap[w1.heap.size]? = some (.cells (scells s er).toArray 30 (0, 0)) ∧ W2.drew.heap[w.heap.size + 1]? = some (.cells #[.int .i64 0, .int .i64 0] 30 (0, 0)) := ⟨F2.out, R2.out⟩
  have bW : Below w.heap.size w W2.drew := b02.drew
  refine held_start (S := fun W => W.heap[w1.heap.size]? = some (.cells (scells s er).toArray 30 (0, 0))) 3 (by kernel_rfl) rfl ?_
  generalize W2.drew = w4 at hS bW ⊢
  have hS1 := hS.1
  refine held_take 0 (v := .agg (scells s er).toArray) rfl (by kernel_rfl) (by kernel_rfl) (by kernel_rfl) (fun _ _ _ h => h) (by assumption) (by rfl) (fun W hW => run_load_spot (.tmp 7) rfl _ rfl s er hW) ?_
  simp only [Act.put, List.setIfInBounds_toArray, List.set_cons_zero, List.set_cons_succ]
  refine held_take 1 (v := ?_) rfl (by kernel_rfl) (by kernel_rfl) (by kernel_rfl) (fun _ _ _ h => h) (by assumption) (by rfl) ?_ ?_
  rotate_left
  ·
   (intro W hW; go_simp; try with_reducible rfl)
  simp only [Act.put, List.setIfInBounds_toArray, List.set_cons_zero, List.set_cons_succ]
  refine held_alone 2 (w' := w4.setRow (w.heap.size + 1) (scells s er).toArray) rfl (by kernel_rfl) (by rfl) (run_store_spot (.tmp 5) (.tmp 26) rfl (w.heap.size + 1) s er _ rfl rfl hS.2 rfl) (by rw [setRow_other _ _ _ _ (by omega)]; exact hS1) ?_
  simp only [Act.put]
  refine held_done (by kernel_rfl) ?_
  go_wp2
  refine bodyPost_ret (v := .tuple #[.slice none 0 0, .agg (scells s er).toArray]) ?_ rfl ?_
  ·
   exact results_tmp_cell_row Tryz.results19 _ _ (w.heap.size + 1) 30 _ _ _ rfl (setRow_heap _ _ _ _ _ _ hS.2) Tryz.underlying30 rfl infoSpot
  ·
   rw [hZ]
   exact ⟨_, rfl, its_none _ _ _, below_setRow bW (by omega) _⟩
end Go.Proofs.YtbbnkmhlgfoacaaGreatDoor
