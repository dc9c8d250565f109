/- Contract of readNotes. -/
import Derived.Test.YtbbnkmhlgfoacaaDoorCh
namespace Go.Proofs.YtbbnkmhlgfoacaaDoor
open Go.RowKit
open S10

theorem run_load_conf {o : Oper} {a : Act} {w : World} (y : Operand) (ho : o.op = .load 25 y) (g : Nat) (hx : a.eval y = .pointer (some ⟨g, 0, none⟩)) (x : Xc) (hg : w.heap[g]? = some (.cells (ccells x).toArray 25 (0, 0))) : (execOp a.eval o).run Tryd.prog w = .ok (.value (.agg (ccells x).toArray)) w := by
  unfold execOp
  simp only [ho, hx, Instr.loadAt, Instr.sureAddr, Sem.run_bind, Sem.run_pure, Result.andThen_ok, run_loadVar_row w g 25 25 _ _ _ hg Tryd.underlying25 rfl infoConf]
theorem Two.off {W w : World} {wide : Bool} {m1 m2 D1 D2 : Nat} {h1 h2 v : Value} {s1 s2 : S7.Fr.DS} {L : List Cp.It} (h : Two W w wide m1 m2 D1 D2 h1 h2 v s1 s2 L) (k : Nat) (hk : w.heap.size ≤ k) : Off W.heap.size D1 D2 h1 h2 k := by
  have a := h.below.size
  have b := h.d1.lt
  have c := h.d2.lt
  exact ⟨by omega, by omega, by omega, fun e => by have := (h.d1.own.lt k e).2; omega, fun e => by have := (h.d2.own.lt k e).2; omega⟩
theorem two_start {W V1 V2 : World} {wide : Bool} {m1 m2 D1 D2 : Nat} (h1 : S7.DefAt V1 m1 wide D1 (.slice none 0 0) S7.Fr.init) (h2 : S7.DefAt V2 m2 wide D2 (.slice none 0 0) S7.Fr.init) (b1 : Below W.heap.size W V1) (b2 : Below V1.heap.size V1 V2) (l1 : W.heap.size ≤ D1) (l2 : V1.heap.size ≤ D2) :
    Two W V2 wide m1 m2 D1 D2 (.slice none 0 0) (.slice none 0 0) (.slice none 0 0) S7.Fr.init S7.Fr.init [] := by
  have n : ∀ k, (Value.slice none 0 0).ownBlock ≠ some k := fun k e => by simp [Value.ownBlock] at e
  have := h1.lt
  have := b1.size
  exact ⟨h1.next b2, h2, by omega, n _, n _, fun k _ => n k, n _, n _, fun k _ => n k, fun k _ => n k, l1, by omega, its_none _ _ _, Below.chain b1 b2⟩
/-- A row in one world lies below its end. -/
theorem row_lt {w : World} {a : Option Addr} {c : Nat} {xs : List UInt8} (h : RowAt w a c xs) : xs = [] ∨ ∀ ad, a = some ad → ad.block < w.heap.size := S7.RowAt.lt (RowAt.to7 h)
theorem Cp.safe_one (c : Cp.Cf) (s : Cp.Sm) (n : S10.Dm.Nt) (h : Cp.Safe c (Cp.step c s n)) (hk : n.kind = 1) : S7.Fr.safe 0 c.wide (Cp.st 0 c.wide s.out) n.data := by
  rw [Cp.step_one c s n hk] at h
  exact S7.Fr.safe_left 0 c.wide s.out n.data _ h.1
theorem Cp.safe_two (c : Cp.Cf) (s : Cp.Sm) (n : S10.Dm.Nt) (h : Cp.Safe c (Cp.step c s n)) (hk : n.kind = 2) : S7.Fr.safe c.accm c.wide (Cp.st c.accm c.wide s.inn) n.data := by
  rw [Cp.step_two c s n hk] at h
  exact S7.Fr.safe_left c.accm c.wide s.inn n.data _ h.2
theorem Cp.readD_bad (b : List UInt8) (c : Cp.Cf) (l : List S10.Dm.Nt) (s e : Nat) (h : S10.Dm.read b = (l, s, e)) (he : e ≠ 0) : Cp.readD b c = ([], s, e) := by
  unfold Cp.readD; rw [h]; exact if_neg he
theorem Cp.readD_good (b : List UInt8) (c : Cp.Cf) (l : List S10.Dm.Nt) (s : Nat) (h : S10.Dm.read b = (l, s, 0)) : Cp.readD b c = ((Cp.sm c l).its, 0, 0) := by
  unfold Cp.readD; rw [h]; simp



set_option maxRecDepth 100000 in
set_option maxHeartbeats 1000000 in
theorem readNotes_any (x : Xc) (a : Option Addr) (n cap : Nat) (xs : List UInt8) (w : World) (hn : xs.length = n) (hm : n ≤ 300000) (h : RowAt w a cap xs) (ht : Tab w) (hac : x.c.accm < 4294967296) (hsf : Cp.SafeN x.c (S10.Dm.read xs).1) :
    Calls Tryd.prog 21 #[.slice a n cap, .agg (ccells x).toArray] w fun e w' => ItemsRes w w' e (Cp.readD xs x.c) := by
  have c1 := fun W h t => S10.read_any a n cap xs W hn hm h t
  have hbk := S10.Dm.read_back xs
  rw [← hn] at hm
  have hb := Cp.readD_bad xs x.c
  have hg := Cp.readD_good xs x.c
  generalize S10.Dm.read xs = A at *
  obtain ⟨l, s, er⟩ := A
  simp only at hsf
  have hok := hbk.ok
  have hsz := hbk.size
  have hmy := hbk.many
  simp only at hok hsz hmy
  replace hsz : S10.Dm.size l ≤ 300000 := by omega
  replace hmy : l.length ≤ 300000 := by omega
  replace hb := hb l s er rfl
  replace hg := fun (he : er = 0) => hg l s (by rw [he])
  generalize Cp.readD xs x.c = Z at *
  have H := Lib.hid h
  have HT := Lib.hid ht
  have C1 := Lib.hid c1
  have HSF := Lib.hid hsf
  have HOK := Lib.hid hok
  have HBD := Lib.hid hb
  have HG := Lib.hid hg
  clear h ht c1 hsf hok hb hg hn hbk hm
  have h0 := two_made w (ccells x).toArray #[.int .i64 0, .int .i64 0] 25 33
  go_enter Tryd.func21, Tryd.ntmps21
  simp only [ccells] at h0 ⊢
  go_wp2_with fail
  generalize (w.alloc (.cells #[.int .i64 x.n0, .int .i64 x.n1, .int .i64 x.n2, .int .i64 x.n3, .string x.s1, .string x.s2, .int .i64 x.c.dir, .int .u32 (x.c.accm : Int), .bool x.c.wide] 25)).alloc (.cells #[.int .i64 0, .int .i64 0] 33) = W0 at *
  obtain ⟨hB0, hD0, hR0, hs0⟩ := h0
  refine (C1.out W0 (H.out.next hB0) (HT.out.next hB0)).mono ?_
  rintro e w1 ⟨v, rfl, nts1, b1⟩
  obtain ⟨av, cv, rfl, hnt⟩ := nts1.at HOK.out
  have hsz1 := b1.size
  have b2 := below_one w1 (.cells #[.int .i64 (s : Int), .int .i64 (er : Int)] 33)
  have hF2 := heap_alloc_new w1 (.cells #[.int .i64 (s : Int), .int .i64 (er : Int)] 33)
  have hs2 : (w1.alloc (.cells #[.int .i64 (s : Int), .int .i64 (er : Int)] 33)).heap.size = w1.heap.size + 1 := by simp
  simp only [scells]
  have b12 := Lib.hid (Below.chain b1 b2)
  have HN2 := Lib.hid (hnt.next b2)
  have HB0 := Lib.hid hB0
  have D2 := Lib.hid (block_next hD0 b12.out)
  have R2 := Lib.hid (block_next hR0 b12.out)
  have F2 := Lib.hid hF2
  clear b1 hnt hB0 hD0 hR0 nts1 C1 b2 hF2 H HT
  by_cases he : er = 0
  · subst he
    have hZ := Lib.hid (HG.out rfl)
    clear HBD HG
    obtain ⟨nl, hnl⟩ : ∃ nl, l.length = nl := ⟨_, rfl⟩
    rw [hnl] at hmy ⊢
    have HNL := Lib.hid hnl
    clear hnl
    go_wp2_with fail
    generalize w1.alloc (.cells #[.int .i64 (s : Int), .int .i64 ((0 : Nat) : Int)] 33) = W2 at *
    have b02 := Lib.hid (HB0.out.trans (b12.out.mono HB0.out.size))
    clear HB0 b12
    have hSd : W2.drew.heap[w.heap.size]? = some (.cells (ccells x).toArray 25 (0, 0)) := D2.out
    have bd : Below W2.heap.size W2 W2.drew := (Below.refl _ _).drew
    refine held_start (S := fun W => W.heap[w.heap.size]? = some (.cells (ccells x).toArray 25 (0, 0))) 6 (by kernel_rfl) rfl ?_
    generalize W2.drew = Wd at hSd bd ⊢
    refine held_take 0 (v := .agg (ccells x).toArray) rfl (by kernel_rfl) (by kernel_rfl) (by kernel_rfl) (fun _ _ _ h => h) (by assumption) (by rfl) (fun W hW => run_load_conf (.tmp 3) rfl _ rfl x hW) ?_
    simp only [Act.put, List.setIfInBounds_toArray, List.set_cons_zero, List.set_cons_succ]
    refine held_take 2 (v := ?_) rfl (by kernel_rfl) (by kernel_rfl) (by kernel_rfl) (fun _ _ _ h => h) (by assumption) (by rfl) ?_ ?_
    rotate_left
    · (intro W hW; go_simp; try with_reducible rfl)
    simp only [Act.put, List.setIfInBounds_toArray, List.set_cons_zero, List.set_cons_succ]
    refine held_take 3 (v := ?_) rfl (by kernel_rfl) (by kernel_rfl) (by kernel_rfl) (fun _ _ _ h => h) (by assumption) (by rfl) ?_ ?_
    rotate_left
    · (intro W hW; have hc : W.cell? ⟨w.heap.size, 8, none⟩ = some (.bool x.c.wide) := cell_of_row _ _ _ _ _ _ hW; go_simp; try with_reducible rfl)
    simp only [Act.put, List.setIfInBounds_toArray, List.set_cons_zero, List.set_cons_succ]
    refine held_call 1 (f := 34) (args := #[.int .i64 2, .agg (ccells x).toArray]) rfl (by kernel_rfl) (by rfl) (by go_simp) ?_
    refine (mapOf_any 2 x Wd).mono ?_
    rintro e Wm ⟨rfl, bm⟩
    have hSm := block_next hSd bm
    refine ⟨_, rfl, hSm, ?_⟩
    simp only [Act.put, List.setIfInBounds_toArray, List.set_cons_zero, List.set_cons_succ]
    refine held_call 4 (f := 43) (args := #[.int .u32 (mapAt 2 x.c : Int), .bool x.c.wide]) rfl (by kernel_rfl) (by rfl) (by go_simp) ?_
    refine (S7.new_any (mapAt 2 x.c) x.c.wide Wm).mono ?_
    rintro e Va ⟨rfl, hdVa, bn, _⟩
    have hSn := block_next hSm bn
    refine ⟨_, rfl, hSn, ?_⟩
    simp only [Act.put, List.setIfInBounds_toArray, List.set_cons_zero, List.set_cons_succ]
    refine held_take 5 (v := ?_) rfl (by kernel_rfl) (by kernel_rfl) (by kernel_rfl) (fun _ _ _ h => h) (by assumption) (by rfl) ?_ ?_
    rotate_left
    · (intro W hW; go_simp; try with_reducible rfl)
    simp only [Act.put, List.setIfInBounds_toArray, List.set_cons_zero, List.set_cons_succ]
    refine held_done (by kernel_rfl) ?_
    have bXVa : Below W2.heap.size W2 Va := Below.chain (Below.chain bd bm) bn
    have lDVa : W2.heap.size ≤ Wm.heap.size := (Below.chain bd bm).size
    generalize Wm.heap.size = DVa at *
    clear hSd bd bm hSm bn hSn
    go_wp2_with fail
    have hDa := block_next D2.out bXVa
    have hSd : Va.drew.heap[w.heap.size]? = some (.cells (ccells x).toArray 25 (0, 0)) := hDa
    have bd : Below Va.heap.size Va Va.drew := (Below.refl _ _).drew
    refine held_start (S := fun W => W.heap[w.heap.size]? = some (.cells (ccells x).toArray 25 (0, 0))) 6 (by kernel_rfl) rfl ?_
    generalize Va.drew = Wd at hSd bd ⊢
    refine held_take 0 (v := .agg (ccells x).toArray) rfl (by kernel_rfl) (by kernel_rfl) (by kernel_rfl) (fun _ _ _ h => h) (by assumption) (by rfl) (fun W hW => run_load_conf (.tmp 3) rfl _ rfl x hW) ?_
    simp only [Act.put, List.setIfInBounds_toArray, List.set_cons_zero, List.set_cons_succ]
    refine held_take 2 (v := ?_) rfl (by kernel_rfl) (by kernel_rfl) (by kernel_rfl) (fun _ _ _ h => h) (by assumption) (by rfl) ?_ ?_
    rotate_left
    · (intro W hW; go_simp; try with_reducible rfl)
    simp only [Act.put, List.setIfInBounds_toArray, List.set_cons_zero, List.set_cons_succ]
    refine held_take 3 (v := ?_) rfl (by kernel_rfl) (by kernel_rfl) (by kernel_rfl) (fun _ _ _ h => h) (by assumption) (by rfl) ?_ ?_
    rotate_left
    · (intro W hW; have hc : W.cell? ⟨w.heap.size, 8, none⟩ = some (.bool x.c.wide) := cell_of_row _ _ _ _ _ _ hW; go_simp; try with_reducible rfl)
    simp only [Act.put, List.setIfInBounds_toArray, List.set_cons_zero, List.set_cons_succ]
    refine held_call 1 (f := 34) (args := #[.int .i64 1, .agg (ccells x).toArray]) rfl (by kernel_rfl) (by rfl) (by go_simp) ?_
    refine (mapOf_any 1 x Wd).mono ?_
    rintro e Wm ⟨rfl, bm⟩
    have hSm := block_next hSd bm
    refine ⟨_, rfl, hSm, ?_⟩
    simp only [Act.put, List.setIfInBounds_toArray, List.set_cons_zero, List.set_cons_succ]
    refine held_call 4 (f := 43) (args := #[.int .u32 (mapAt 1 x.c : Int), .bool x.c.wide]) rfl (by kernel_rfl) (by rfl) (by go_simp) ?_
    refine (S7.new_any (mapAt 1 x.c) x.c.wide Wm).mono ?_
    rintro e Vb ⟨rfl, hdVb, bn, _⟩
    have hSn := block_next hSm bn
    refine ⟨_, rfl, hSn, ?_⟩
    simp only [Act.put, List.setIfInBounds_toArray, List.set_cons_zero, List.set_cons_succ]
    refine held_take 5 (v := ?_) rfl (by kernel_rfl) (by kernel_rfl) (by kernel_rfl) (fun _ _ _ h => h) (by assumption) (by rfl) ?_ ?_
    rotate_left
    · (intro W hW; go_simp; try with_reducible rfl)
    simp only [Act.put, List.setIfInBounds_toArray, List.set_cons_zero, List.set_cons_succ]
    refine held_done (by kernel_rfl) ?_
    have bXVb : Below Va.heap.size Va Vb := Below.chain (Below.chain bd bm) bn
    have lDVb : Va.heap.size ≤ Wm.heap.size := (Below.chain bd bm).size
    generalize Wm.heap.size = DVb at *
    clear hSd bd bm hSm bn hSn
    have hT0 := two_start hdVa hdVb bXVa bXVb lDVa lDVb
    have e2 : mapAt 2 x.c = 0 := rfl
    have e1 : mapAt 1 x.c = x.c.accm := rfl
    rw [e1, e2] at hT0
    have HT0 := Lib.hid hT0
    have hsmz := S10.Dm.size_take l
    have HSZ := Lib.hid hsmz
    clear hT0 hdVa hdVb lDVa lDVb bXVa bXVb e1 e2 hsmz
    go_wp2_with fail
    go_loopw [8, 9, 10, 34] (fun p1 p2 v i wr => ∃ (k D1 D2 : Nat) (h1 h2 : Value), i = .int .i64 (k : Int) ∧ k ≤ nl ∧ p1 = .pointer (some ⟨D1, 0, none⟩) ∧ p2 = .pointer (some ⟨D2, 0, none⟩) ∧
      Two W2 wr x.c.wide 0 x.c.accm D1 D2 h1 h2 v (Cp.st 0 x.c.wide (Cp.sm x.c (l.take k)).out) (Cp.st x.c.accm x.c.wide (Cp.sm x.c (l.take k)).inn) (Cp.sm x.c (l.take k)).its) (fun _ _ _ i _ => nl - (intOf i).toNat)
    case atStart => exact ⟨0, _, _, _, _, rfl, Nat.zero_le _, rfl, rfl, HT0.out⟩
    case round =>
      obtain ⟨k, D1, D2', h1, h2, rfl, hk, rfl, rfl, hT⟩ := hrel
      obtain ⟨ax, cx, rfl⟩ := its_slice hT.its
      by_cases hlt : (k : Int) < (nl : Int)
      · have hk' : k < l.length := by rw [HNL.out]; omega
        obtain ⟨b, off, p, c, rfl, hna, hbl⟩ := HN2.out.at k hk'
        have hrow := hna.row
        have hrl := row_lt hna.row
        have hrg := (hna.next hbl hT.below).range
        have hrow' := hrow.next hT.below
        have hst := Cp.sm_take x.c l k hk'
        have hle := Cp.sm_le x.c (l.take k)
        have hle2 := HSZ.out k
        have hsf := HSF.out (k + 1)
        have hdl : l[k].data.length ≤ 300000 := Nat.le_trans (S10.Dm.size_mem k hk') hsz
        generalize l[k] = r at *
        generalize hsg : Cp.sm x.c (l.take k) = sg at *
        rw [hst] at hsf
        obtain ⟨kd, nn, dat⟩ := r
        simp only at hrow hrl hrow' hdl hrg
        obtain ⟨nm, hnm⟩ : ∃ nm, sg.its.length = nm := ⟨_, rfl⟩
        obtain ⟨q, hq⟩ : ∃ q, dat.length = q := ⟨_, rfl⟩
        rw [hnm] at hT hle ⊢
        rw [hq] at hrg hdl
        have hb3 := below_one wr (.cells #[.int .i64 kd, .int .u32 (nn : Int), .slice p q c] 54)
        have hg3 := heap_alloc_new wr (.cells #[.int .i64 kd, .int .u32 (nn : Int), .slice p q c] 54)
        have T3 := Lib.hid (hT.next hb3)
        have ROW3 := Lib.hid (hrow'.next hb3)
        have HRL := Lib.hid hrl
        have HRG := Lib.hid hrg
        have HST := Lib.hid hst
        have HSF1 := Lib.hid hsf
        have HNM := Lib.hid hnm
        have HQ := Lib.hid hq
        have HSG := Lib.hid hsg
        have hkn : k + 1 ≤ nl := by omega
        have hcl : nm + q ≤ 1000000 := by omega
        have hol : sg.out.length ≤ 500000 := by omega
        have hil : sg.inn.length ≤ 500000 := by omega
        have hql : q ≤ 400000 := by omega
        clear hT hrow hrl hrow' hrg hst hle hle2 hsf hna hk' hnm hq hsg hdl hb3
        by_cases h1' : kd = 1
        · subst h1'
          have hst1 := Cp.step_one x.c sg ⟨1, nn, dat⟩ rfl
          simp only at hst1
          have k0 : (wr.alloc (.cells #[.int .i64 1, .int .u32 (nn : Int), .slice p q c] 54)).cell? ⟨wr.heap.size, 0, none⟩ = some (.int .i64 1) := cell_of_row _ _ _ _ _ _ hg3
          have k2 : (wr.alloc (.cells #[.int .i64 1, .int .u32 (nn : Int), .slice p q c] 54)).cell? ⟨wr.heap.size, 2, none⟩ = some (.slice p q c) := cell_of_row _ _ _ _ _ _ hg3
          go_wp2_with (refine wpList_load_mid rfl 54 (.tmp 36) rfl b (off + k * 3) rfl (ncells ⟨1, nn, dat⟩ (.slice p q c)) _ HRG.out Tryd.underlying54 rfl (info37n _ _) ?_; simp only [ncells])
          generalize wr.alloc (.cells #[.int .i64 1, .int .u32 (nn : Int), .slice p q c] 54) = W3 at *
          have hT3 := T3.out
          have hlv := fun j => hT3.its.lt j
          have hoff : dat = [] ∨ ∀ ad, p = some ad → ad.block ≠ D1 ∧ h1.ownBlock ≠ some ad.block := by
            rcases HRL.out with e | e
            · exact .inl e
            · refine .inr (fun ad e2 => ⟨?_, fun e3 => ?_⟩)
              · have := e ad e2; have := hT3.b1; omega
              · have := e ad e2; have := hT3.b1; have := (hT3.d1.own.lt _ e3).1; omega
          have hsh := Cp.all_short 0 x.c.wide dat (Cp.st 0 x.c.wide sg.out)
          have hln := S7.Fr.all_len 0 x.c.wide dat (Cp.st 0 x.c.wide sg.out)
          have hFeed := S7.feed_any hT3.d1 p q c dat HQ.out hql (RowAt.to7 ROW3.out) (by omega) (Cp.safe_one _ _ _ HSF1.out rfl) (by have := (tal_st 0 x.c.wide sg.out).mono hol; exact this) hoff
          rw [HQ.out] at hln
          generalize S7.Fr.all 0 x.c.wide (Cp.st 0 x.c.wide sg.out) dat = BS at *
          have hT3 := Lib.hid hT3
          have hlv := Lib.hid hlv
          have hsh := Lib.hid hsh
          have hst1 := Lib.hid hst1
          clear hoff
          refine hFeed.mono ?_
          rintro e w4 ⟨hv', v', rfl, outs, hd', fed⟩
          obtain ⟨bv, cbv, rfl⟩ := S7.outs_slice outs
          have hbs := outs_bods (F := fun k => (Value.slice ax nm cx).ownBlock ≠ some k) outs (fun k hk e => by have := (hlv.out k e).2; omega)
          obtain ⟨nb, hnb⟩ : ∃ nb, BS.length = nb := ⟨_, rfl⟩
          rw [hnb] at hln ⊢
          have T4 := Lib.hid (hT3.out.fed fed hd')
          have hbs := Lib.hid hbs
          have hnb := Lib.hid hnb
          clear hFeed outs hd' fed hT3 hlv T3 ROW3
          go_wp2_with fail
          refine (addItems_any _ 2 bv nb cbv BS sg.its W2.heap.size _ w4 hnb.out (fun b hb => by have := hsh.out b hb; omega) hbs.out T4.out.its T4.out.below.size T4.out.off (by rw [HNM.out]; omega)).mono ?_
          rintro e w5 ⟨v5, rfl, i5, g5⟩
          have T5 := Lib.hid (T4.out.grew g5 i5)
          clear i5 g5 T4 hbs hsh
          go_wp2
          go_roundw
          case rel => exact ⟨k + 1, D1, D2', hv', h2, by go_num, by omega, rfl, rfl, by rw [HST.out, hst1.out]; simp only [Cp.st_append]; exact T5.out⟩
          case measure => simp [intOf]; omega
        · by_cases h2' : kd = 2
          · subst h2'
            have hst1 := Cp.step_two x.c sg ⟨2, nn, dat⟩ rfl
            simp only at hst1
            have k0 : (wr.alloc (.cells #[.int .i64 2, .int .u32 (nn : Int), .slice p q c] 54)).cell? ⟨wr.heap.size, 0, none⟩ = some (.int .i64 2) := cell_of_row _ _ _ _ _ _ hg3
            have k2 : (wr.alloc (.cells #[.int .i64 2, .int .u32 (nn : Int), .slice p q c] 54)).cell? ⟨wr.heap.size, 2, none⟩ = some (.slice p q c) := cell_of_row _ _ _ _ _ _ hg3
            go_wp2_with (refine wpList_load_mid rfl 54 (.tmp 36) rfl b (off + k * 3) rfl (ncells ⟨2, nn, dat⟩ (.slice p q c)) _ HRG.out Tryd.underlying54 rfl (info37n _ _) ?_; simp only [ncells])
            generalize wr.alloc (.cells #[.int .i64 2, .int .u32 (nn : Int), .slice p q c] 54) = W3 at *
            have hT3 := T3.out.swap
            have hlv := fun j => hT3.its.lt j
            have hoff : dat = [] ∨ ∀ ad, p = some ad → ad.block ≠ D2' ∧ h2.ownBlock ≠ some ad.block := by
              rcases HRL.out with e | e
              · exact .inl e
              · refine .inr (fun ad e2 => ⟨?_, fun e3 => ?_⟩)
                · have := e ad e2; have := hT3.b1; omega
                · have := e ad e2; have := hT3.b1; have := (hT3.d1.own.lt _ e3).1; omega
            have hsh := Cp.all_short x.c.accm x.c.wide dat (Cp.st x.c.accm x.c.wide sg.inn)
            have hln := S7.Fr.all_len x.c.accm x.c.wide dat (Cp.st x.c.accm x.c.wide sg.inn)
            have hFeed := S7.feed_any hT3.d1 p q c dat HQ.out hql (RowAt.to7 ROW3.out) hac (Cp.safe_two _ _ _ HSF1.out rfl) (by have := (tal_st x.c.accm x.c.wide sg.inn).mono hil; exact this) hoff
            rw [HQ.out] at hln
            generalize S7.Fr.all x.c.accm x.c.wide (Cp.st x.c.accm x.c.wide sg.inn) dat = BS at *
            have hT3 := Lib.hid hT3
            have hlv := Lib.hid hlv
            have hsh := Lib.hid hsh
            have hst1 := Lib.hid hst1
            clear hoff
            refine hFeed.mono ?_
            rintro e w4 ⟨hv', v', rfl, outs, hd', fed⟩
            obtain ⟨bv, cbv, rfl⟩ := S7.outs_slice outs
            have hbs := outs_bods (F := fun k => (Value.slice ax nm cx).ownBlock ≠ some k) outs (fun k hk e => by have := (hlv.out k e).2; omega)
            obtain ⟨nb, hnb⟩ : ∃ nb, BS.length = nb := ⟨_, rfl⟩
            rw [hnb] at hln ⊢
            have T4 := Lib.hid (hT3.out.fed fed hd')
            have hbs := Lib.hid hbs
            have hnb := Lib.hid hnb
            clear hFeed outs hd' fed hT3 hlv T3 ROW3
            go_wp2_with fail
            refine (addItems_any _ 1 bv nb cbv BS sg.its W2.heap.size _ w4 hnb.out (fun b hb => by have := hsh.out b hb; omega) hbs.out T4.out.its T4.out.below.size T4.out.off (by rw [HNM.out]; omega)).mono ?_
            rintro e w5 ⟨v5, rfl, i5, g5⟩
            have T5 := Lib.hid (T4.out.grew g5 i5)
            clear i5 g5 T4 hbs hsh
            go_wp2
            go_roundw
            case rel => exact ⟨k + 1, D1, D2', h1, hv', by go_num, by omega, rfl, rfl, by rw [HST.out, hst1.out]; simp only [Cp.st_append]; exact T5.out.swap⟩
            case measure => simp [intOf]; omega
          · have i1 : (kd == 1) = false := by simp [h1']
            have i2 : (kd == 2) = false := by simp [h2']
            by_cases h3' : kd = 3
            · subst h3'
              have hst1 := Cp.step_three x.c sg ⟨3, nn, dat⟩ rfl
              have hD3 := block_next D2.out T3.out.below
              have k0 : (wr.alloc (.cells #[.int .i64 3, .int .u32 (nn : Int), .slice p q c] 54)).cell? ⟨wr.heap.size, 0, none⟩ = some (.int .i64 3) := cell_of_row _ _ _ _ _ _ hg3
              have k2 : (wr.alloc (.cells #[.int .i64 3, .int .u32 (nn : Int), .slice p q c] 54)).cell? ⟨wr.heap.size, 2, none⟩ = some (.slice p q c) := cell_of_row _ _ _ _ _ _ hg3
              go_wp2_with (refine wpList_load_mid rfl 54 (.tmp 36) rfl b (off + k * 3) rfl (ncells ⟨3, nn, dat⟩ (.slice p q c)) _ HRG.out Tryd.underlying54 rfl (info37n _ _) ?_; simp only [ncells])
              generalize wr.alloc (.cells #[.int .i64 3, .int .u32 (nn : Int), .slice p q c] 54) = W3 at *
              have hSd : W3.drew.heap[w.heap.size]? = some (.cells (ccells x).toArray 25 (0, 0)) := hD3
              have bd : Below W3.heap.size W3 W3.drew := (Below.refl _ _).drew
              refine held_start (S := fun W => W.heap[w.heap.size]? = some (.cells (ccells x).toArray 25 (0, 0))) 6 (by kernel_rfl) rfl ?_
              generalize W3.drew = Wd at hSd bd ⊢
              refine held_take 0 (v := .agg (ccells x).toArray) rfl (by kernel_rfl) (by kernel_rfl) (by kernel_rfl) (fun _ _ _ h => h) (by assumption) (by rfl) (fun W hW => run_load_conf (.tmp 3) rfl _ rfl x hW) ?_
              simp only [Act.put, List.setIfInBounds_toArray, List.set_cons_zero, List.set_cons_succ]
              refine held_take 2 (v := ?_) rfl (by kernel_rfl) (by kernel_rfl) (by kernel_rfl) (fun _ _ _ h => h) (by assumption) (by rfl) ?_ ?_
              rotate_left
              · (intro W hW; go_simp; try with_reducible rfl)
              simp only [Act.put, List.setIfInBounds_toArray, List.set_cons_zero, List.set_cons_succ]
              refine held_take 3 (v := ?_) rfl (by kernel_rfl) (by kernel_rfl) (by kernel_rfl) (fun _ _ _ h => h) (by assumption) (by rfl) ?_ ?_
              rotate_left
              · (intro W hW; have hc : W.cell? ⟨w.heap.size, 8, none⟩ = some (.bool x.c.wide) := cell_of_row _ _ _ _ _ _ hW; go_simp; try with_reducible rfl)
              simp only [Act.put, List.setIfInBounds_toArray, List.set_cons_zero, List.set_cons_succ]
              refine held_call 1 (f := 34) (args := #[.int .i64 2, .agg (ccells x).toArray]) rfl (by kernel_rfl) (by rfl) (by go_simp) ?_
              refine (mapOf_any 2 x Wd).mono ?_
              rintro e Wm ⟨rfl, bm⟩
              have hSm := block_next hSd bm
              refine ⟨_, rfl, hSm, ?_⟩
              simp only [Act.put, List.setIfInBounds_toArray, List.set_cons_zero, List.set_cons_succ]
              refine held_call 4 (f := 43) (args := #[.int .u32 (mapAt 2 x.c : Int), .bool x.c.wide]) rfl (by kernel_rfl) (by rfl) (by go_simp) ?_
              refine (S7.new_any (mapAt 2 x.c) x.c.wide Wm).mono ?_
              rintro e Vc ⟨rfl, hdVc, bn, _⟩
              have hSn := block_next hSm bn
              refine ⟨_, rfl, hSn, ?_⟩
              simp only [Act.put, List.setIfInBounds_toArray, List.set_cons_zero, List.set_cons_succ]
              refine held_take 5 (v := ?_) rfl (by kernel_rfl) (by kernel_rfl) (by kernel_rfl) (fun _ _ _ h => h) (by assumption) (by rfl) ?_ ?_
              rotate_left
              · (intro W hW; go_simp; try with_reducible rfl)
              simp only [Act.put, List.setIfInBounds_toArray, List.set_cons_zero, List.set_cons_succ]
              refine held_done (by kernel_rfl) ?_
              have bXVc : Below W3.heap.size W3 Vc := Below.chain (Below.chain bd bm) bn
              have lDVc : W3.heap.size ≤ Wm.heap.size := (Below.chain bd bm).size
              generalize Wm.heap.size = DVc at *
              clear hSd bd bm hSm bn hSn
              have T5 := Lib.hid (T3.out.fresh bXVc lDVc hdVc)
              clear hdVc bXVc lDVc T3 ROW3 hD3
              go_wp2
              go_roundw
              case rel => exact ⟨k + 1, DVc, D2', .slice none 0 0, h2, by go_num, by omega, rfl, rfl, by rw [HST.out, hst1]; exact T5.out⟩
              case measure => simp [intOf]; omega
            · have i3 : (kd == 3) = false := by simp [h3']
              by_cases h4' : kd = 4
              · subst h4'
                have hst1 := Cp.step_four x.c sg ⟨4, nn, dat⟩ rfl
                have hD3 := block_next D2.out T3.out.below
                have k0 : (wr.alloc (.cells #[.int .i64 4, .int .u32 (nn : Int), .slice p q c] 54)).cell? ⟨wr.heap.size, 0, none⟩ = some (.int .i64 4) := cell_of_row _ _ _ _ _ _ hg3
                have k2 : (wr.alloc (.cells #[.int .i64 4, .int .u32 (nn : Int), .slice p q c] 54)).cell? ⟨wr.heap.size, 2, none⟩ = some (.slice p q c) := cell_of_row _ _ _ _ _ _ hg3
                go_wp2_with (refine wpList_load_mid rfl 54 (.tmp 36) rfl b (off + k * 3) rfl (ncells ⟨4, nn, dat⟩ (.slice p q c)) _ HRG.out Tryd.underlying54 rfl (info37n _ _) ?_; simp only [ncells])
                generalize wr.alloc (.cells #[.int .i64 4, .int .u32 (nn : Int), .slice p q c] 54) = W3 at *
                have hSd : W3.drew.heap[w.heap.size]? = some (.cells (ccells x).toArray 25 (0, 0)) := hD3
                have bd : Below W3.heap.size W3 W3.drew := (Below.refl _ _).drew
                refine held_start (S := fun W => W.heap[w.heap.size]? = some (.cells (ccells x).toArray 25 (0, 0))) 6 (by kernel_rfl) rfl ?_
                generalize W3.drew = Wd at hSd bd ⊢
                refine held_take 0 (v := .agg (ccells x).toArray) rfl (by kernel_rfl) (by kernel_rfl) (by kernel_rfl) (fun _ _ _ h => h) (by assumption) (by rfl) (fun W hW => run_load_conf (.tmp 3) rfl _ rfl x hW) ?_
                simp only [Act.put, List.setIfInBounds_toArray, List.set_cons_zero, List.set_cons_succ]
                refine held_take 2 (v := ?_) rfl (by kernel_rfl) (by kernel_rfl) (by kernel_rfl) (fun _ _ _ h => h) (by assumption) (by rfl) ?_ ?_
                rotate_left
                · (intro W hW; go_simp; try with_reducible rfl)
                simp only [Act.put, List.setIfInBounds_toArray, List.set_cons_zero, List.set_cons_succ]
                refine held_take 3 (v := ?_) rfl (by kernel_rfl) (by kernel_rfl) (by kernel_rfl) (fun _ _ _ h => h) (by assumption) (by rfl) ?_ ?_
                rotate_left
                · (intro W hW; have hc : W.cell? ⟨w.heap.size, 8, none⟩ = some (.bool x.c.wide) := cell_of_row _ _ _ _ _ _ hW; go_simp; try with_reducible rfl)
                simp only [Act.put, List.setIfInBounds_toArray, List.set_cons_zero, List.set_cons_succ]
                refine held_call 1 (f := 34) (args := #[.int .i64 1, .agg (ccells x).toArray]) rfl (by kernel_rfl) (by rfl) (by go_simp) ?_
                refine (mapOf_any 1 x Wd).mono ?_
                rintro e Wm ⟨rfl, bm⟩
                have hSm := block_next hSd bm
                refine ⟨_, rfl, hSm, ?_⟩
                simp only [Act.put, List.setIfInBounds_toArray, List.set_cons_zero, List.set_cons_succ]
                refine held_call 4 (f := 43) (args := #[.int .u32 (mapAt 1 x.c : Int), .bool x.c.wide]) rfl (by kernel_rfl) (by rfl) (by go_simp) ?_
                refine (S7.new_any (mapAt 1 x.c) x.c.wide Wm).mono ?_
                rintro e Vc ⟨rfl, hdVc, bn, _⟩
                have hSn := block_next hSm bn
                refine ⟨_, rfl, hSn, ?_⟩
                simp only [Act.put, List.setIfInBounds_toArray, List.set_cons_zero, List.set_cons_succ]
                refine held_take 5 (v := ?_) rfl (by kernel_rfl) (by kernel_rfl) (by kernel_rfl) (fun _ _ _ h => h) (by assumption) (by rfl) ?_ ?_
                rotate_left
                · (intro W hW; go_simp; try with_reducible rfl)
                simp only [Act.put, List.setIfInBounds_toArray, List.set_cons_zero, List.set_cons_succ]
                refine held_done (by kernel_rfl) ?_
                have bXVc : Below W3.heap.size W3 Vc := Below.chain (Below.chain bd bm) bn
                have lDVc : W3.heap.size ≤ Wm.heap.size := (Below.chain bd bm).size
                generalize Wm.heap.size = DVc at *
                clear hSd bd bm hSm bn hSn
                have T5 := Lib.hid (T3.out.swap.fresh bXVc lDVc hdVc).swap
                clear hdVc bXVc lDVc T3 ROW3 hD3
                go_wp2
                go_roundw
                case rel => exact ⟨k + 1, D1, DVc, h1, .slice none 0 0, by go_num, by omega, rfl, rfl, by rw [HST.out, hst1]; exact T5.out⟩
                case measure => simp [intOf]; omega
              · have i4 : (kd == 4) = false := by simp [h4']
                have hst1 := Lib.hid (Cp.step_else x.c sg ⟨kd, nn, dat⟩ h1' h2' h3' h4')
                clear h1' h2' h3' h4'
                have k0 : (wr.alloc (.cells #[.int .i64 kd, .int .u32 (nn : Int), .slice p q c] 54)).cell? ⟨wr.heap.size, 0, none⟩ = some (.int .i64 kd) := cell_of_row _ _ _ _ _ _ hg3
                have k2 : (wr.alloc (.cells #[.int .i64 kd, .int .u32 (nn : Int), .slice p q c] 54)).cell? ⟨wr.heap.size, 2, none⟩ = some (.slice p q c) := cell_of_row _ _ _ _ _ _ hg3
                go_wp2_with (refine wpList_load_mid rfl 54 (.tmp 36) rfl b (off + k * 3) rfl (ncells ⟨kd, nn, dat⟩ (.slice p q c)) _ HRG.out Tryd.underlying54 rfl (info37n _ _) ?_; simp only [ncells])
                generalize wr.alloc (.cells #[.int .i64 kd, .int .u32 (nn : Int), .slice p q c] 54) = W3 at *
                go_roundw
                case rel => exact ⟨k + 1, D1, D2', h1, h2, by go_num, by omega, rfl, rfl, by rw [HST.out, hst1.out]; exact T3.out⟩
                case measure => simp [intOf]; omega
      · have hks : l.take k = l := List.take_of_length_le (by rw [HNL.out]; omega)
        rw [hks] at hT ⊢
        have hI := Lib.hid (hT.its.mono (E' := fun k => w.heap.size ≤ k) (fun k _ e => by have := e.1; have := b02.out.size; show w.heap.size ≤ k; omega))
        have HT2 := Lib.hid hT
        have R3 := block_next R2.out hT.below
        have hb3 := hT.below.size
        have hs20 := b02.out.size
        clear hT hks
        obtain ⟨nm, hnm⟩ : ∃ nm, (Cp.sm x.c l).its.length = nm := ⟨_, rfl⟩
        rw [hnm] at hI HT2 ⊢
        go_wp2_with (refine wpList_store_spot rfl (.tmp 5) (.tmp 72) rfl (w.heap.size + 1) 0 0 _ rfl rfl R3 rfl ?_)
        refine bodyPost_ret (v := .tuple #[.slice ax nm cx, .agg (scells 0 0).toArray]) ?_ rfl ?_
        · exact results_tmp_cell_row Tryd.results21 _ _ (w.heap.size + 1) 33 _ _ _ rfl (setRow_heap _ _ _ _ _ _ R3) Tryd.underlying33 rfl infoSpot
        · rw [hZ.out]
          exact ⟨_, rfl, ((HT2.out.its.kept (grown_row _ _ _) (by omega) (fun _ e => e.1)).lower (by omega)).mono (fun j _ hj => by have := hj.1; show w.heap.size ≤ j; omega), below_setRow (b02.out.trans (HT2.out.below.mono (by omega))) (by omega) _⟩
  · have hZ := HBD.out he
    have i1 : ((er : Int) != 0) = true := by simp; omega
    have i2 : ¬ (er : Int) = 0 := by omega
    clear HG HSF HBD
    go_wp2_with fail
    generalize w1.alloc (.cells #[.int .i64 (s : Int), .int .i64 (er : Int)] 33) = W2 at *
    have b02 := HB0.out.trans (b12.out.mono HB0.out.size)
    have hS : W2.drew.heap[w1.heap.size]? = some (.cells (scells s er).toArray 33 (0, 0)) ∧ W2.drew.heap[w.heap.size + 1]? = some (.cells #[.int .i64 0, .int .i64 0] 33 (0, 0)) := ⟨F2.out, R2.out⟩
    have bW : Below w.heap.size w W2.drew := b02.drew
    refine held_start (S := fun W => W.heap[w1.heap.size]? = some (.cells (scells s er).toArray 33 (0, 0))) 3 (by kernel_rfl) rfl ?_
    generalize W2.drew = w4 at hS bW ⊢
    have hS1 := hS.1
    refine held_take 0 (v := .agg (scells s er).toArray) rfl (by kernel_rfl) (by kernel_rfl) (by kernel_rfl) (fun _ _ _ h => h) (by assumption) (by rfl) (fun W hW => run_load_spot (.tmp 7) rfl _ rfl s er hW) ?_
    simp only [Act.put, List.setIfInBounds_toArray, List.set_cons_zero, List.set_cons_succ]
    refine held_take 1 (v := ?_) rfl (by kernel_rfl) (by kernel_rfl) (by kernel_rfl) (fun _ _ _ h => h) (by assumption) (by rfl) ?_ ?_
    rotate_left
    · (intro W hW; go_simp; try with_reducible rfl)
    simp only [Act.put, List.setIfInBounds_toArray, List.set_cons_zero, List.set_cons_succ]
    refine held_alone 2 (w' := w4.setRow (w.heap.size + 1) (scells s er).toArray) rfl (by kernel_rfl) (by rfl) (run_store_spot (.tmp 5) (.tmp 21) rfl (w.heap.size + 1) s er _ rfl rfl hS.2 rfl) (by rw [setRow_other _ _ _ _ (by omega)]; exact hS1) ?_
    simp only [Act.put]
    refine held_done (by kernel_rfl) ?_
    go_wp2
    refine bodyPost_ret (v := .tuple #[.slice none 0 0, .agg (scells s er).toArray]) ?_ rfl ?_
    · exact results_tmp_cell_row Tryd.results21 _ _ (w.heap.size + 1) 33 _ _ _ rfl (setRow_heap _ _ _ _ _ _ hS.2) Tryd.underlying33 rfl infoSpot
    · rw [hZ]
      exact ⟨_, rfl, its_none _ _ _, below_setRow bW (by omega) _⟩
end Go.Proofs.YtbbnkmhlgfoacaaDoor
