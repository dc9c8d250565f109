/- Contract of readRecords. -/
import Derived.Test.YtbbnkmhlgfoacaaDoorCd
namespace Go.Proofs.YtbbnkmhlgfoacaaDoor
open Go.RowKit
open S10

/-- What reading tells: items, all of them new, and a place. -/
def ItemsRes (w w' : World) (e : Ending) (A : List Cp.It × Nat × Nat) : Prop :=
  ∃ v, e = .returned (.tuple #[v, .agg (scells A.2.1 A.2.2).toArray]) ∧ Its w' w.heap.size (fun k => w.heap.size ≤ k) v A.1 ∧ Below w.heap.size w w'
theorem Cp.readP_bad (b : List UInt8) (d : Int) (m : S9.Pc.Hdr) (l : List S9.Pc.Rcd) (s e : Nat) (h : S9.Pc.read b = (m, l, s, e)) (he : e ≠ 0) : Cp.readP b d = ([], s, e) := by
  unfold Cp.readP; rw [h]; exact if_neg he
theorem Cp.readP_link (b : List UInt8) (d : Int) (m : S9.Pc.Hdr) (l : List S9.Pc.Rcd) (s : Nat) (h : S9.Pc.read b = (m, l, s, 0)) (he : Cp.isLink m.link = false) : Cp.readP b d = ([], 20, 7) := by
  unfold Cp.readP; rw [h]; simp [he]
theorem Cp.readP_good (b : List UInt8) (d : Int) (m : S9.Pc.Hdr) (l : List S9.Pc.Rcd) (s : Nat) (h : S9.Pc.read b = (m, l, s, 0)) (he : Cp.isLink m.link = true) : Cp.readP b d = (Cp.recs m.link d l, 0, 0) := by
  unfold Cp.readP; rw [h]; simp [he]
theorem Cp.read_many (b : List UInt8) (m : S9.Pc.Hdr) (l : List S9.Pc.Rcd) (s : Nat) (h : S9.Pc.read b = (m, l, s, 0)) : l.length ≤ b.length := by
  have h1 := (S9.Pc.read_known b).spot
  rw [h] at h1
  have hs : s = 0 := by
    rcases h1 with h1 | h1
    · simpa using h1
    · exact absurd rfl h1.2.1
  subst hs
  have h2 := S9.Pc.read_back b m l h
  have h3 := S9.Pc.put_length m l
  omega
/-- The config's copy, and a place that is answered. -/
theorem two_made (w : World) (cs ds : Array Value) (t u : TypeId) :
    Below w.heap.size w ((w.alloc (.cells cs t)).alloc (.cells ds u)) ∧ ((w.alloc (.cells cs t)).alloc (.cells ds u)).heap[w.heap.size]? = some (.cells cs t (0, 0)) ∧
    ((w.alloc (.cells cs t)).alloc (.cells ds u)).heap[w.heap.size + 1]? = some (.cells ds u (0, 0)) ∧ ((w.alloc (.cells cs t)).alloc (.cells ds u)).heap.size = w.heap.size + 2 := by
  refine ⟨below_two _ _ _, ?_, ?_, by simp⟩
  · rw [Below.heap_alloc _ _ _ (by simp)]; exact heap_alloc_new w _
  · have := heap_alloc_new (w.alloc (.cells cs t)) (.cells ds u); simpa using this
theorem run_load_spot {o : Oper} {a : Act} {w : World} (x : Operand) (ho : o.op = .load 33 x) (g : Nat) (hx : a.eval x = .pointer (some ⟨g, 0, none⟩)) (k e : Nat) (hg : w.heap[g]? = some (.cells (scells k e).toArray 33 (0, 0))) : (execOp a.eval o).run Tryd.prog w = .ok (.value (.agg (scells k e).toArray)) w := by
  unfold execOp
  simp only [ho, hx, Instr.loadAt, Instr.sureAddr, Sem.run_bind, Sem.run_pure, Result.andThen_ok, run_loadVar_row w g 33 33 _ _ _ hg Tryd.underlying33 rfl infoSpot]
theorem run_store_spot {w : World} {o : Oper} {a : Act} (x y : Operand) (ho : o.op = .store 33 x y) (R k e : Nat) (cur : Array Value)
    (hx : a.eval x = .pointer (some ⟨R, 0, none⟩)) (hy : a.eval y = .agg (scells k e).toArray) (hR : w.heap[R]? = some (.cells cur 33 (0, 0))) (hcur : cur.size = 2) :
    (execOp a.eval o).run Tryd.prog w = .ok .skip (w.setRow R (scells k e).toArray) := by
  have h := run_storeVar_row (P := Tryd.prog) w R 33 33 cur (scells k e).toArray hR infoSpot hcur (scells_one k e)
  unfold execOp
  simp only [ho, hx, hy, Instr.storeAt, Instr.sureAddr, Sem.run_bind, Sem.run_pure, Result.andThen_ok, h]

theorem Its.kept {w w' : World} {B q : Nat} {E : Nat → Prop} {v : Value} {L : List Cp.It} (h : Its w B E v L) (hg : w.grownBy w' (some q)) (hq : q < B) (he : ∀ k, E k → B ≤ k) : Its w' B E v L :=
  h.stays hg.size (fun k hk ho => hg.block k hk (fun e => by
    have e2 : q = k := by cases e; rfl
    rcases ho with ho | ho
    · have := (h.lt k ho).1; omega
    · have := he k ho; omega))
theorem Cp.item_nil (d : Int) : Cp.item d [] = [] := Cp.item_bad d [] (by decide)
theorem Cp.rec1_drop (d dm : Int) (xs : List UInt8) (h : xs = [] ∨ ∃ y r, xs = y :: r ∧ dm = Cp.mark y) : Cp.rec1 204 d xs = Cp.item dm (xs.drop 1) := by
  rcases h with rfl | ⟨y, r, rfl, rfl⟩
  · rw [Cp.rec1_nil]; exact (Cp.item_nil dm).symm
  · rw [Cp.rec1_cons]; rfl
theorem info44r (r : S9.Pc.Rcd) (v : Value) : (Tryd.prog.info? 44).map (·.size) = some (S9.rcells r v).length := S9.info46

set_option maxRecDepth 100000 in
set_option maxHeartbeats 1000000 in
theorem readRecords_any (x : Xc) (a : Option Addr) (n cap : Nat) (xs : List UInt8) (w : World) (hn : xs.length = n) (hm : n ≤ 300000) (h : RowAt w a cap xs) (hs : ∀ r ∈ (S9.Pc.read xs).2.1, r.data.length ≤ 90000) :
    Calls Tryd.prog 20 #[.slice a n cap, .agg (ccells x).toArray] w fun e w' => ItemsRes w w' e (Cp.readP xs x.c.dir) := by
  have c1 := fun W h => S9.read_any a n cap xs W hn hm (RowAt.to9 h)
  have hok := S9.Pc.read_recs xs
  have hb := Cp.readP_bad xs x.c.dir
  have hk := Cp.readP_link xs x.c.dir
  have hg := Cp.readP_good xs x.c.dir
  have hmn := Cp.read_many xs
  rw [hn] at hmn
  generalize S9.Pc.read xs = A at *
  obtain ⟨m, l, s, er⟩ := A
  simp only at hok hs
  replace hb := hb m l s er rfl
  replace hk := fun (he : er = 0) => hk m l s (by rw [he])
  replace hg := fun (he : er = 0) => hg m l s (by rw [he])
  replace hmn := fun (he : er = 0) => hmn m l s (by rw [he])
  obtain ⟨ob, hob⟩ : ∃ ob, ob = Obj.cells (ccells x).toArray 25 (0, 0) := ⟨_, rfl⟩
  obtain ⟨n0, n1, n2, n3, s1, s2, ⟨cd, ma, wd⟩⟩ := x
  simp only [ccells] at *
  generalize Cp.readP xs cd = Z at *
  have H := Lib.hid h
  have C1 := Lib.hid c1
  have HS := Lib.hid hs
  have HOK := Lib.hid hok
  have HBD := Lib.hid hb
  have HK := Lib.hid hk
  have HG := Lib.hid hg
  have HM := Lib.hid hmn
  have HOB := Lib.hid hob
  clear h c1 hs hok hb hk hg hmn hob hn
  have h0 := two_made w #[.int .i64 n0, .int .i64 n1, .int .i64 n2, .int .i64 n3, .string s1, .string s2, .int .i64 cd, .int .u32 (ma : Int), .bool wd] #[.int .i64 0, .int .i64 0] 25 33
  go_enter Tryd.func20, Tryd.ntmps20
  go_wp2_with fail
  generalize (w.alloc (.cells #[.int .i64 n0, .int .i64 n1, .int .i64 n2, .int .i64 n3, .string s1, .string s2, .int .i64 cd, .int .u32 (ma : Int), .bool wd] 25)).alloc (.cells #[.int .i64 0, .int .i64 0] 33) = W0 at *
  rw [← HOB.out] at h0
  obtain ⟨hB0, hD0, hR0, hs0⟩ := h0
  refine (C1.out W0 (H.out.next hB0)).mono ?_
  rintro e w1 ⟨v, rfl, rec1, b1⟩
  obtain ⟨av, cv, rfl, hrec⟩ := rec1.at HOK.out
  have hsz1 := b1.size
  have h2 := two_made w1 (S9.hcells m).toArray (S9.scells s er).toArray 39 33
  simp only [S9.hcells, S9.scells] at h2 ⊢
  have HB1 := Lib.hid b1
  have HREC := Lib.hid hrec
  have HB0 := Lib.hid hB0
  have HD0 := Lib.hid hD0
  have HR0 := Lib.hid hR0
  have HH2 := Lib.hid h2
  clear b1 hrec hB0 hD0 hR0 rec1 C1 h2
  by_cases he : er = 0
  · subst he
    have hmn := HM.out rfl
    have c3 := fun W => isRead_any m.link W
    cases hlk : Cp.isLink m.link with
    | false =>
      rw [hlk] at c3
      have hZ := HK.out rfl hlk
      clear HBD HK HG HM HS
      go_wp2_with fail
      generalize (w1.alloc (.cells #[.bool m.big, .bool m.nano, .int .u32 (m.snap : Int), .int .u32 (m.link : Int)] 39)).alloc (.cells #[.int .i64 (s : Int), .int .i64 ((0 : Nat) : Int)] 33) = W2 at *
      refine (c3 W2).mono ?_
      rintro e w2 ⟨rfl, h⟩
      rw [h]
      clear h c3
      have b02 := HB0.out.trans ((HB1.out.trans (HH2.out.1.mono hsz1)).mono HB0.out.size)
      have R2 := block_next (block_next HR0.out HB1.out) HH2.out.1
      go_wp2_with (refine wpList_store_spot rfl (.tmp 5) (.tmp 30) rfl (w.heap.size + 1) 20 7 _ rfl rfl R2 rfl ?_)
      refine bodyPost_ret (v := .tuple #[.slice none 0 0, .agg (scells 20 7).toArray]) ?_ rfl ?_
      · exact results_tmp_cell_row Tryd.results20 _ _ (w.heap.size + 1) 33 _ _ _ rfl (setRow_heap _ _ _ _ _ _ R2) Tryd.underlying33 rfl infoSpot
      · rw [hZ]
        exact ⟨_, rfl, its_none _ _ _, below_setRow b02 (by omega) _⟩
    | true =>
      rw [hlk] at c3
      have hZ := Lib.hid (HG.out rfl hlk)
      clear HBD HK HG HM hlk
      obtain ⟨nl, hnl⟩ : ∃ nl, l.length = nl := ⟨_, rfl⟩
      rw [hnl] at hmn ⊢
      have HNL := Lib.hid hnl
      clear hnl
      go_wp2_with fail
      generalize (w1.alloc (.cells #[.bool m.big, .bool m.nano, .int .u32 (m.snap : Int), .int .u32 (m.link : Int)] 39)).alloc (.cells #[.int .i64 (s : Int), .int .i64 ((0 : Nat) : Int)] 33) = W2 at *
      refine (c3 W2).mono ?_
      rintro e w2 ⟨rfl, h⟩
      rw [h]
      clear h c3
      have b02 := Lib.hid (HB0.out.trans ((HB1.out.trans (HH2.out.1.mono hsz1)).mono HB0.out.size))
      have R2 := Lib.hid (block_next (block_next HR0.out HB1.out) HH2.out.1)
      have D2 := block_next (block_next HD0.out HB1.out) HH2.out.1
      rw [HOB.out] at D2
      have D2 := Lib.hid D2
      have M2 := Lib.hid HH2.out.2.1
      have N2 := Lib.hid (HREC.out.next HH2.out.1)
      have hs2 : W2.heap.size = w1.heap.size + 2 := HH2.out.2.2.2
      clear HREC HD0 HR0 HB0 HB1 HH2 HOB H
      go_wp2
      go_loopw [9, 33] (fun v i wr => ∃ k : Nat, i = .int .i64 (k : Int) ∧ k ≤ nl ∧ Its wr W2.heap.size (fun j => W2.heap.size ≤ j) v (Cp.recs m.link cd (l.take k)) ∧ Below W2.heap.size W2 wr) (fun _ i _ => nl - (intOf i).toNat)
      case atStart => exact ⟨0, rfl, Nat.zero_le _, by simpa [Cp.recs] using its_none _ _ _, Below.refl _ _⟩
      case round =>
        obtain ⟨k, rfl, hk, hI, hbw⟩ := hrel
        obtain ⟨ax, cx, rfl⟩ := its_slice hI
        by_cases hlt : (k : Int) < (nl : Int)
        · have hk' : k < l.length := by rw [HNL.out]; omega
          obtain ⟨b, off, p, c, rfl, hra⟩ := (N2.out.next hbw).at k hk'
          have hrg := hra.range
          have hrow := RowAt.of9 hra.row
          have hsn := Cp.recs_snoc m.link cd l k hk'
          have hxl := HS.out _ (List.getElem_mem hk')
          have hle := Cp.recs_le m.link cd (l.take k)
          rw [List.length_take] at hle
          generalize l[k] = r at *
          obtain ⟨M, hM⟩ : ∃ M, M = Cp.recs m.link cd (l.take k) := ⟨_, rfl⟩
          rw [← hM] at hI hsn hle ⊢
          obtain ⟨nm, hnm⟩ : ∃ nm, M.length = nm := ⟨_, rfl⟩
          rw [hnm] at hI hle ⊢
          have hsz := hbw.size
          have hb3 : Below wr.heap.size wr (wr.alloc (.cells #[.int .u32 (r.sec : Int), .int .u32 (r.frac : Int), .int .u32 (r.len : Int), .slice p r.data.length c] 44)) := below_one _ _
          have hg3 : (wr.alloc (.cells #[.int .u32 (r.sec : Int), .int .u32 (r.frac : Int), .int .u32 (r.len : Int), .slice p r.data.length c] 44)).heap[wr.heap.size]? = _ := heap_alloc_new wr _
          have hs3 : (wr.alloc (.cells #[.int .u32 (r.sec : Int), .int .u32 (r.frac : Int), .int .u32 (r.len : Int), .slice p r.data.length c] 44)).heap.size = wr.heap.size + 1 := by simp
          have HI := Lib.hid hI
          have HBW := Lib.hid hbw
          have HRG := Lib.hid hrg
          have HROW := Lib.hid hrow
          have HSN := Lib.hid hsn
          have HNM := Lib.hid hnm
          have HMM := Lib.hid hM
          clear hI hbw hrg hrow hsn hra hnm hM
          obtain ⟨q, hq⟩ : ∃ q, r.data.length = q := ⟨_, rfl⟩
          have HQ := Lib.hid hq
          clear hq
          go_wp2_with (refine wpList_load_mid rfl 44 (.tmp 35) rfl b (off + k * 4) rfl (S9.rcells r (.slice p r.data.length c)) _ HRG.out Tryd.underlying44 rfl (info44r _ _) ?_; simp only [S9.rcells])
          generalize wr.alloc (.cells #[.int .u32 (r.sec : Int), .int .u32 (r.frac : Int), .int .u32 (r.len : Int), .slice p r.data.length c] 44) = W3 at *
          have B3 := Lib.hid (Below.chain HBW.out hb3)
          have I3 := Lib.hid (HI.out.next hb3)
          have ROW3 := Lib.hid (HROW.out.next hb3)
          rw [HQ.out] at hg3 hxl ⊢
          have dc : W3.cell? ⟨w.heap.size, 6, none⟩ = some (.int .i64 cd) := cell_of_row _ _ _ _ _ _ (block_next D2.out B3.out)
          have rc : W3.cell? ⟨wr.heap.size, 3, none⟩ = some (.slice p q c) := cell_of_row _ _ _ _ _ _ hg3
          have mc : W3.cell? ⟨w1.heap.size, 3, none⟩ = some (.int .u32 (m.link : Int)) := cell_of_row _ _ _ _ _ _ (block_next M2.out B3.out)
          have hW3 : W2.heap.size ≤ W3.heap.size := B3.out.size
          have CA := Lib.hid (fun (d : Int) (pd : Option Addr) (nd cd' : Nat) (y : List UInt8) (W : World) (b3 : Below W3.heap.size W3 W) (h1 : y.length = nd) (h2 : nd ≤ 90000) (h3 : RowAt W pd cd' y) => addItem_any (.slice ax nm cx) d pd nd cd' y M W2.heap.size (fun j => W2.heap.size ≤ j) W h1 h2 h3 (I3.out.next b3) (Nat.le_trans hW3 b3.size) (fun j hj => Nat.le_trans hW3 (Nat.le_trans b3.size hj)) (by rw [HNM.out]; omega))
          have HFIN := Lib.hid (fun (dd : Int) (y : List UInt8) (hy : Cp.rec1 m.link cd r.data = Cp.item dd y) (W W4 : World) (v4 : Value) (b3 : Below W3.heap.size W3 W) (i4 : Its W4 W2.heap.size (fun j => W2.heap.size ≤ j) v4 (M ++ Cp.item dd y)) (g4 : Grew W W4 (.slice ax nm cx) v4) => (show Its W4 W2.heap.size (fun j => W2.heap.size ≤ j) v4 (Cp.recs m.link cd (l.take (k + 1))) ∧ Below W2.heap.size W2 W4 by
            rw [HSN.out, hy]
            exact ⟨i4, g4.below (Below.chain B3.out b3) (fun j hj => (I3.out.lt j hj).1)⟩))
          clear HBW HI HROW HRG hb3 hg3 I3 B3
          by_cases h204 : m.link = 204
          · have e204 : ((m.link : Int) == 204) = true := by simp [h204]
            have H204 := Lib.hid h204
            clear h204
            have hdl : (r.data.drop 1).length ≤ 90000 := by rw [List.length_drop, HQ.out]; omega
            go_quiet (fail)
            go_wp2_with fail
            refine (takeMark_any p q c r.data _ HQ.out (by omega) (keeps_drewN ROW3.out _)).mono ?_
            rintro e w5 ⟨⟨dm, p5, m5, c5, rfl, hl5, row5, hx5⟩, b5⟩
            have B5 := Lib.hid (Below.chain (keeps_below (Below.refl W3.heap.size W3) _) b5)
            have HX5 := Lib.hid hx5
            have R5 := Lib.hid row5
            have L5 := Lib.hid hl5
            clear hx5 row5 hl5 b5
            go_wp2_with fail
            refine (CA.out dm p5 m5 c5 (r.data.drop 1) w5 B5.out L5.out (by rw [← L5.out]; exact hdl) R5.out).mono ?_
            rintro e w6 ⟨v6, rfl, i6, g6⟩
            have hf := HFIN.out dm (r.data.drop 1) (by rw [H204.out]; exact Cp.rec1_drop cd dm _ HX5.out) w5 w6 v6 B5.out i6 g6
            have HF := Lib.hid hf
            clear hf i6 g6 hdl CA HFIN
            go_wp2
            go_roundw
            case rel => exact ⟨k + 1, by go_num, by omega, HF.out.1, HF.out.2⟩
            case measure => simp [intOf]; omega
          · have e204 : ((m.link : Int) == 204) = false := by simp; omega
            go_quiet (fail)
            go_wp2_with fail
            have b5 := keeps_below (Below.refl W3.heap.size W3)
            refine (CA.out cd p q c r.data _ (b5 _) HQ.out hxl (keeps_drewN ROW3.out _)).mono ?_
            rintro e w6 ⟨v6, rfl, i6, g6⟩
            have hf := HFIN.out cd r.data (Cp.rec1_plain _ _ _ h204) _ w6 v6 (b5 _) i6 g6
            have HF := Lib.hid hf
            clear hf i6 g6 b5 CA HFIN
            go_wp2
            go_roundw
            case rel => exact ⟨k + 1, by go_num, by omega, HF.out.1, HF.out.2⟩
            case measure => simp [intOf]; omega
        · have hks : l.take k = l := List.take_of_length_le (by rw [HNL.out]; omega)
          rw [hks] at hI ⊢
          have HI := Lib.hid hI
          have HBW := Lib.hid hbw
          clear hI hbw hks
          have R3 := block_next R2.out HBW.out
          have hsz := HBW.out.size
          obtain ⟨nm, hnm⟩ : ∃ nm, (Cp.recs m.link cd l).length = nm := ⟨_, rfl⟩
          rw [hnm] at HI ⊢
          go_wp2_with (refine wpList_store_spot rfl (.tmp 5) (.tmp 56) rfl (w.heap.size + 1) 0 0 _ rfl rfl R3 rfl ?_)
          refine bodyPost_ret (v := .tuple #[.slice ax nm cx, .agg (scells 0 0).toArray]) ?_ rfl ?_
          · exact results_tmp_cell_row Tryd.results20 _ _ (w.heap.size + 1) 33 _ _ _ rfl (setRow_heap _ _ _ _ _ _ R3) Tryd.underlying33 rfl infoSpot
          · rw [hZ.out]
            exact ⟨_, rfl, ((HI.out.kept (grown_row _ _ _) (by omega) (fun _ h => h)).lower (by omega)).mono (fun j _ hj => by have : W2.heap.size ≤ j := hj; show w.heap.size ≤ j; omega), below_setRow (b02.out.trans (HBW.out.mono (by omega))) (by omega) _⟩
  · have hZ := HBD.out he
    have i1 : ((er : Int) != 0) = true := by simp; omega
    have i2 : ¬ (er : Int) = 0 := by omega
    clear HK HG HM HS HBD
    go_wp2_with fail
    generalize (w1.alloc (.cells #[.bool m.big, .bool m.nano, .int .u32 (m.snap : Int), .int .u32 (m.link : Int)] 39)).alloc (.cells #[.int .i64 (s : Int), .int .i64 (er : Int)] 33) = W2 at *
    have b02 := HB0.out.trans ((HB1.out.trans (HH2.out.1.mono hsz1)).mono HB0.out.size)
    have R2 := block_next (block_next HR0.out HB1.out) HH2.out.1
    have F2 := HH2.out.2.2.1
    have hS : W2.drew.heap[w1.heap.size + 1]? = some (.cells (scells s er).toArray 33 (0, 0)) ∧ W2.drew.heap[w.heap.size + 1]? = some (.cells #[.int .i64 0, .int .i64 0] 33 (0, 0)) := ⟨F2, R2⟩
    have bW : Below w.heap.size w W2.drew := b02.drew
    refine held_start (S := fun W => W.heap[w1.heap.size + 1]? = some (.cells (scells s er).toArray 33 (0, 0))) 3 (by kernel_rfl) rfl ?_
    generalize W2.drew = w4 at hS bW ⊢
    have hS1 := hS.1
    refine held_take 0 (v := .agg (scells s er).toArray) rfl (by kernel_rfl) (by kernel_rfl) (by kernel_rfl) (fun _ _ _ h => h) (by assumption) (by rfl) (fun W hW => run_load_spot (.tmp 8) rfl _ rfl s er hW) ?_
    simp only [Act.put, List.setIfInBounds_toArray, List.set_cons_zero, List.set_cons_succ]
    refine held_take 1 (v := ?_) rfl (by kernel_rfl) (by kernel_rfl) (by kernel_rfl) (fun _ _ _ h => h) (by assumption) (by rfl) ?_ ?_
    rotate_left
    · (intro W hW; go_simp; try with_reducible rfl)
    simp only [Act.put, List.setIfInBounds_toArray, List.set_cons_zero, List.set_cons_succ]
    refine held_alone 2 (w' := w4.setRow (w.heap.size + 1) (scells s er).toArray) rfl (by kernel_rfl) (by rfl) (run_store_spot (.tmp 5) (.tmp 24) rfl (w.heap.size + 1) s er _ rfl rfl hS.2 rfl) (by rw [setRow_other _ _ _ _ (by omega)]; exact hS1) ?_
    simp only [Act.put]
    refine held_done (by kernel_rfl) ?_
    go_wp2
    refine bodyPost_ret (v := .tuple #[.slice none 0 0, .agg (scells s er).toArray]) ?_ rfl ?_
    · exact results_tmp_cell_row Tryd.results20 _ _ (w.heap.size + 1) 33 _ _ _ rfl (setRow_heap _ _ _ _ _ _ hS.2) Tryd.underlying33 rfl infoSpot
    · rw [hZ]
      exact ⟨_, rfl, its_none _ _ _, below_setRow bW (by omega) _⟩
end Go.Proofs.YtbbnkmhlgfoacaaDoor
