/- Contract of writeNotes. -/
import Derived.Test.YtbbnkmhlgfoacaaDoorCk
import Derived.Test.YtbbnkmhlgfoacaaDoorCl
namespace Go.Proofs.YtbbnkmhlgfoacaaDoor
open Go.RowKit
open S10

theorem Cp.row_one (c : Cp.Cf) (x : Cp.It) (h : Cp.may x = true) : S7.Fr.rowOf (mapAt x.dir c) c.wide [Cp.body x] = (Cp.strm c x, 0) := by
  have hp := (Cp.may_parts x h).2.2
  have hb := Cp.body_length x
  have e1 : S7.Fr.err [Cp.body x] = 0 := by
    have h1 : S7.Fr.fault (Cp.body x) = 0 := S7.Fr.fault_none _ (by omega) (by omega)
    simp [S7.Fr.err, h1]
  rw [S7.Fr.rowOf_ok _ _ _ e1]
  have e2 : mapAt x.dir c = Cp.mapOf c x := rfl
  rw [e2]
  simp [Cp.strm, S7.Fr.frs]

set_option maxRecDepth 100000 in
set_option maxHeartbeats 1000000 in
theorem writeNotes_any (y : Xc) (a : Option Addr) (n cap : Nat) (L : List Cp.It) (w : World) (hn : L.length = n) (h60 : n ≤ 60) (ht : Cp.tot L ≤ 70000) (hac : y.c.accm < 4294967296) (hm : ∀ x ∈ L, Cp.may x = true) (h : ItsAt w a L) (hT : Tab w) :
    Calls Tryd.prog 19 #[.slice a n cap, .agg (ccells y).toArray] w fun e w' => ∃ v, e = .returned (.tuple #[v, .int .i64 0]) ∧ w'.ownsRow w.heap.size 5 1 v (S10.Dm.bytes (Cp.nts y.c L)).length (Lib.byteCells (S10.Dm.bytes (Cp.nts y.c L))) ∧ Below w.heap.size w w' := by
  have H := Lib.hid h
  have Hn := Lib.hid hn
  have HM := Lib.hid hm
  have HT := Lib.hid hT
  have HTT := Lib.hid ht
  have hB0 := below_one w (.cells (ccells y).toArray 25)
  have hD0 := heap_alloc_new w (.cells (ccells y).toArray 25)
  clear h hn hm hT ht
  go_enter Tryd.func19, Tryd.ntmps19
  simp only [ccells] at hB0 hD0 ⊢
  go_wp2
  generalize w.alloc (.cells #[.int .i64 y.n0, .int .i64 y.n1, .int .i64 y.n2, .int .i64 y.n3, .string y.s1, .string y.s2, .int .i64 y.c.dir, .int .u32 (y.c.accm : Int), .bool y.c.wide] 25) = W0 at *
  have HB0 := Lib.hid hB0
  have HD0 := Lib.hid hD0
  clear hB0 hD0
  go_loopw [6, 13] (fun v i wr => ∃ k : Nat, i = .int .i64 (k : Int) ∧ k ≤ n ∧ Nls wr w.heap.size v (Cp.nts y.c (L.take k)) ∧ Below W0.heap.size W0 wr ∧ ∀ j, v.ownBlock = some j → W0.heap.size ≤ j) (fun _ i _ => n - (intOf i).toNat)
  case atStart => exact ⟨0, rfl, Nat.zero_le _, nls_none _ _, Below.refl _ _, fun j e => by simp [Value.ownBlock] at e⟩
  case round =>
    obtain ⟨k, rfl, hk, hN, hbw, hvb⟩ := hrel
    obtain ⟨av, cv, rfl⟩ := nls_slice hN
    by_cases hlt : (k : Int) < (n : Int)
    · have hk' : k < L.length := by rw [Hn.out]; omega
      have hbw0 := Below.chain HB0.out hbw
      obtain ⟨b, off, p, c, rfl, hit, hbl⟩ := H.out.at k hk'
      have hrg := (hit.next hbl hbw0).range
      have hrow := (hit.next hbl hbw0).row
      have hmy := HM.out _ (List.getElem_mem hk')
      have hst := Cp.nts_take y.c L k hk'
      have hkn : k + 1 ≤ n := by omega
      have hnl := Cp.bytes_nts y.c (L.take k) (by have := Cp.tot_take L k; have := HTT.out; omega) (by rw [List.length_take]; omega)
      generalize L[k] = x at *
      obtain ⟨M, hM⟩ : ∃ M, M = Cp.nts y.c (L.take k) := ⟨_, rfl⟩
      rw [← hM] at hN hst hnl hvb ⊢
      obtain ⟨nm, hnm⟩ : ∃ nm, M.length = nm := ⟨_, rfl⟩
      rw [hnm] at hN hnl hvb ⊢
      have hmm : M.length ≤ 100000 := by rw [hnm]; omega
      have hbl := Cp.body_length x
      have hdl := (Cp.may_parts x hmy).2.2
      have hro := Cp.row_one y.c x hmy
      have hsl := (Cp.strm_length y.c x).1
      have hg := heap_alloc_new wr (.cells (icells x (.slice p x.data.length c)).toArray 48)
      have hb3 := below_one wr (.cells (icells x (.slice p x.data.length c)).toArray 48)
      simp only [icells] at hg hb3
      have HRG := Lib.hid hrg
      have hrow3 := hrow.next hb3
      have hN3 := hN.next hb3
      have hbw3 := Below.chain hbw hb3
      clear hM hnm hrow hN hbw hbw0 hrg hit hk'
      go_wp2_with (refine wpList_load_mid rfl 48 (.tmp 15) rfl b (off + k * 3) rfl (icells x (.slice p x.data.length c)) _ HRG.out Tryd.underlying48 rfl (infoItemI _ _) ?_; simp only [icells])
      generalize wr.alloc (.cells #[.int .i64 x.dir, .int .i64 x.proto, .slice p x.data.length c] 48) = W3 at *
      generalize wr.heap.size = g at *
      have hS4 : W3.drew.heap[g]? = some (.cells (icells x (.slice p x.data.length c)).toArray 48 (0, 0)) ∧ W3.drew.heap[w.heap.size]? = some (.cells (ccells y).toArray 25 (0, 0)) := ⟨hg, block_next HD0.out hbw3.drew⟩
      have hN4 : Nls W3.drew w.heap.size (.slice av nm cv) M := hN3.next (Below.refl _ _).drew
      have hB4 : Below W0.heap.size W0 W3.drew := hbw3.drew
      have hrow4 : RowAt W3.drew p c x.data := hrow3.next (Below.refl _ _).drew
      have cBO := fun W h => bodyOf_any x p c W hmy h
      have cMO := mapOf_any x.dir y
      refine held_start (S := fun W => W.heap[g]? = some (.cells (icells x (.slice p x.data.length c)).toArray 48 (0, 0)) ∧ W.heap[w.heap.size]? = some (.cells (ccells y).toArray 25 (0, 0))) 14 (by kernel_rfl) rfl ?_
      generalize W3.drew = W4 at hS4 hN4 hB4 hrow4 ⊢
      clear hg hb3 hrow3 hN3 hbw3 HRG
      refine held_take 0 (v := .agg (icells x (.slice p x.data.length c)).toArray) rfl (by kernel_rfl) (by kernel_rfl) (by kernel_rfl) (fun _ _ _ h => h) (by assumption) (by rfl) (fun W hW => run_load_item (.tmp 8) rfl _ rfl x _ hW.1) ?_
      simp only [Act.put, List.setIfInBounds_toArray, List.set_cons_zero, List.set_cons_succ]
      refine held_take 2 (v := ?_) rfl (by kernel_rfl) (by kernel_rfl) (by kernel_rfl) (fun _ _ _ h => h) (by assumption) (by rfl) ?_ ?_
      rotate_left
      · (intro W hW; go_simp; try with_reducible rfl)
      simp only [Act.put, List.setIfInBounds_toArray, List.set_cons_zero, List.set_cons_succ]
      refine held_take 3 (v := ?_) rfl (by kernel_rfl) (by kernel_rfl) (by kernel_rfl) (fun _ _ _ h => h) (by assumption) (by rfl) ?_ ?_
      rotate_left
      · (intro W hW; have hc : W.cell? ⟨g, 0, none⟩ = some (.int .i64 x.dir) := cell_of_row _ _ _ _ _ _ hW.1; go_simp; try with_reducible rfl)
      simp only [Act.put, List.setIfInBounds_toArray, List.set_cons_zero, List.set_cons_succ]
      refine held_take 4 (v := .agg (ccells y).toArray) rfl (by kernel_rfl) (by kernel_rfl) (by kernel_rfl) (fun _ _ _ h => h) (by assumption) (by rfl) (fun W hW => run_load_conf (.tmp 3) rfl _ rfl y hW.2) ?_
      simp only [Act.put, List.setIfInBounds_toArray, List.set_cons_zero, List.set_cons_succ]
      refine held_take 6 (v := ?_) rfl (by kernel_rfl) (by kernel_rfl) (by kernel_rfl) (fun _ _ _ h => h) (by assumption) (by rfl) ?_ ?_
      rotate_left
      · (intro W hW; go_simp; try with_reducible rfl)
      simp only [Act.put, List.setIfInBounds_toArray, List.set_cons_zero, List.set_cons_succ]
      refine held_take 7 (v := ?_) rfl (by kernel_rfl) (by kernel_rfl) (by kernel_rfl) (fun _ _ _ h => h) (by assumption) (by rfl) ?_ ?_
      rotate_left
      · (intro W hW; have hc : W.cell? ⟨w.heap.size, 8, none⟩ = some (.bool y.c.wide) := cell_of_row _ _ _ _ _ _ hW.2; go_simp; try with_reducible rfl)
      simp only [Act.put, List.setIfInBounds_toArray, List.set_cons_zero, List.set_cons_succ]
      refine held_call 1 (f := 31) (args := #[.agg (icells x (.slice p x.data.length c)).toArray]) rfl (by kernel_rfl) (by rfl) (by go_simp) ?_
      refine (cBO _ hrow4).mono ?_
      rintro e W5 ⟨v5, rfl, o5, b5⟩
      obtain ⟨p5, c5, rfl, row5⟩ := rowAt_own rfl o5
      have hS5 := And.intro (block_next hS4.1 b5) (block_next hS4.2 b5)
      refine ⟨_, rfl, hS5, ?_⟩
      simp only [Act.put, List.setIfInBounds_toArray, List.set_cons_zero, List.set_cons_succ]
      refine held_call 5 (f := 34) (args := #[.int .i64 x.dir, .agg (ccells y).toArray]) rfl (by kernel_rfl) (by rfl) (by go_simp) ?_
      refine (cMO W5).mono ?_
      rintro e W6 ⟨rfl, b6⟩
      have hS6 := And.intro (block_next hS5.1 b6) (block_next hS5.2 b6)
      refine ⟨_, rfl, hS6, ?_⟩
      simp only [Act.put, List.setIfInBounds_toArray, List.set_cons_zero, List.set_cons_succ]
      have cPU := S7.put_any (mapAt x.dir y.c) y.c.wide p5 c5 (Cp.body x).length (Cp.body x) W6 rfl (by unfold mapAt; split <;> omega) (by omega) (RowAt.to7 (row5.next b6))
      rw [hro] at cPU
      refine held_call 8 (f := 33) (args := #[.slice p5 (Cp.body x).length c5, .int .u32 (mapAt x.dir y.c : Int), .bool y.c.wide]) rfl (by kernel_rfl) (by rfl) (by go_simp) ?_
      refine cPU.mono ?_
      rintro e W7 ⟨v7, rfl, o7, b7⟩
      have hS7 := And.intro (block_next hS6.1 b7) (block_next hS6.2 b7)
      refine ⟨_, rfl, hS7, ?_⟩
      simp only [Act.put, List.setIfInBounds_toArray, List.set_cons_zero, List.set_cons_succ]
      refine held_take 9 (v := ?_) rfl (by kernel_rfl) (by kernel_rfl) (by kernel_rfl) (fun _ _ _ h => h) (by assumption) (by rfl) ?_ ?_
      rotate_left
      · (intro W hW; go_simp; try with_reducible rfl)
      simp only [Act.put, List.setIfInBounds_toArray, List.set_cons_zero, List.set_cons_succ]
      refine held_take 10 (v := ?_) rfl (by kernel_rfl) (by kernel_rfl) (by kernel_rfl) (fun _ _ _ h => h) (by assumption) (by rfl) ?_ ?_
      rotate_left
      · (intro W hW; go_simp; try with_reducible rfl)
      simp only [Act.put, List.setIfInBounds_toArray, List.set_cons_zero, List.set_cons_succ]
      refine held_take 11 (v := ?_) rfl (by kernel_rfl) (by kernel_rfl) (by kernel_rfl) (fun _ _ _ h => h) (by assumption) (by rfl) ?_ ?_
      rotate_left
      · (intro W hW; go_simp; try with_reducible rfl)
      simp only [Act.put, List.setIfInBounds_toArray, List.set_cons_zero, List.set_cons_succ]
      refine held_take 12 (v := ?_) rfl (by kernel_rfl) (by kernel_rfl) (by kernel_rfl) (fun _ _ _ h => h) (by assumption) (by rfl) ?_ ?_
      rotate_left
      · (intro W hW; go_simp; try with_reducible rfl)
      simp only [Act.put, List.setIfInBounds_toArray, List.set_cons_zero, List.set_cons_succ]
      refine held_take 13 (v := ?_) rfl (by kernel_rfl) (by kernel_rfl) (by kernel_rfl) (fun _ _ _ h => h) (by assumption) (by rfl) ?_ ?_
      rotate_left
      · (intro W hW; go_simp; try with_reducible rfl)
      simp only [Act.put, List.setIfInBounds_toArray, List.set_cons_zero, List.set_cons_succ]
      refine held_done (by kernel_rfl) ?_
      obtain ⟨p7, c7, rfl, row7⟩ := rowAt_own rfl o7
      have b47 := Below.chain (Below.chain b5 b6) b7
      have b46 := (Below.chain b5 b6).size
      have hoff7 : ∀ ad, p7 = some ad → ad.block < W7.heap.size ∧ (Value.slice av nm cv).ownBlock ≠ some ad.block := by
        intro ad e
        subst e
        have h1 := o7.lt ad.block rfl
        exact ⟨h1.2, fun e2 => by have := (hN4.lt _ e2).2; omega⟩
      obtain ⟨ns, hns⟩ : ∃ ns, (Cp.strm y.c x).length = ns := ⟨_, rfl⟩
      have cAN := addNotes_any (.slice av nm cv) (Cp.kind x) p7 ns c7 (Cp.strm y.c x) M w.heap.size W7 hns (by omega) row7 hoff7 (hN4.next b47) (by have := HB0.out.size; have := hB4.size; have := b47.size; omega) hmm
      rw [hns]
      have cKD := kindOf_any x
      have HST := Lib.hid hst
      have HVB := Lib.hid hvb
      have B7 := Lib.hid (Below.chain hB4 b47)
      have AN := Lib.hid cAN
      have hS7b := Lib.hid hS7
      have hxk : W7.cell? ⟨g, 0, none⟩ = some (.int .i64 x.dir) := cell_of_row _ _ _ _ _ _ hS7.1
      clear hst hvb cAN row7 hoff7 hns o7 b7 b47 b46 cPU hro cBO cMO o5 b5 b6 row5 hS4 hS5 hS6 hS7 hN4 hB4 hrow4 hsl
      go_wp2_with fail
      refine (cKD _).mono ?_
      rintro e w8 ⟨rfl, h8⟩
      rw [h8]
      clear h8 cKD
      go_wp2_with fail
      refine AN.out.mono ?_
      rintro e w9 ⟨v9, rfl, n9, g9⟩
      rw [← HST.out] at n9
      have N9 := Lib.hid n9
      have B9 := Lib.hid (g9.below B7.out HVB.out)
      have V9 : Hid (∀ j, v9.ownBlock = some j → W0.heap.size ≤ j) := by
        intro j e
        rcases g9.own with h | h
        · exact HVB.out j (by rw [← h]; exact e)
        · exact Nat.le_trans B7.out.size (h j e)
      clear n9 g9 AN
      go_wp2
      go_roundw
      case rel => exact ⟨k + 1, by go_num, by omega, N9.out, B9.out, V9.out⟩
      case measure => simp [intOf]; omega
    · have hks : L.take k = L := List.take_of_length_le (by rw [Hn.out]; omega)
      rw [hks] at hN ⊢
      have hfine := Cp.nts_fine y.c L
      have hby := Cp.bytes_nts y.c L HTT.out (by rw [Hn.out]; exact h60)
      obtain ⟨a2, c2, e2, hat⟩ := hN.at (Cp.nts_ok y.c L)
      obtain ⟨nm, hnm⟩ : ∃ nm, (Cp.nts y.c L).length = nm := ⟨_, rfl⟩
      rw [hnm] at e2 hby ⊢
      simp only [Value.slice.injEq, true_and] at e2
      obtain ⟨rfl, rfl⟩ := e2
      have hbw0 := Below.chain HB0.out hbw
      have hput := S10.put_any av nm cv (Cp.nts y.c L) wr hnm (by omega) (by omega) hat (HT.out.next hbw0)
      have HP := Lib.hid hput
      have herr : S10.Dm.err (Cp.nts y.c L) = 0 := S10.Dm.err_fine _ hfine
      have HE := Lib.hid herr
      have HBW := Lib.hid hbw0
      clear hN hat hput hbw hbw0 hks herr hfine hby hvb hnm
      go_wp2_with fail
      refine HP.out.mono ?_
      rintro e w9 ⟨b9, h9⟩
      rcases h9 with ⟨_, v9, rfl, o9⟩ | ⟨hno, _⟩
      · have O9 := Lib.hid (ownsRow_lower (base' := w.heap.size) o9 HBW.out.size)
        have B9 := Lib.hid (Below.chain HBW.out b9)
        clear o9 b9 HP
        go_wp2
        go_ret2
        exact ⟨_, rfl, O9.out, B9.out⟩
      · exact absurd HE.out hno
end Go.Proofs.YtbbnkmhlgfoacaaDoor
