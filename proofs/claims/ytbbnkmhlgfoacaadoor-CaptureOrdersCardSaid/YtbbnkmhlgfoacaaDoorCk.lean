/- Contracts of mayAll, writeRecords. -/
import Derived.Test.YtbbnkmhlgfoacaaDoorCc
import Derived.Test.YtbbnkmhlgfoacaaDoorCg
namespace Go.Proofs.YtbbnkmhlgfoacaaDoor
open Go.RowKit
open S10

theorem infoItemI (x : Cp.It) (v : Value) : (Tryd.prog.info? 48).map (·.size) = some (icells x v).length := infoItem
set_option maxRecDepth 100000 in
set_option maxHeartbeats 1000000 in
theorem mayAll_any (a : Option Addr) (n cap : Nat) (L : List Cp.It) (w : World) (hn : L.length = n) (hnl : n ≤ 1000000) (hlen : ∀ x ∈ L, x.data.length ≤ 1000000000) (h : ItsAt w a L) :
    Calls Tryd.prog 17 #[.slice a n cap] w fun e w' => e = .returned (.bool (decide (∀ x ∈ L, Cp.may x = true))) ∧ Below w.heap.size w w' := by
  have H := Lib.hid h
  have Hn := Lib.hid hn
  have HL := Lib.hid hlen
  obtain ⟨B, hB⟩ : ∃ B, decide (∀ x ∈ L, Cp.may x = true) = B := ⟨_, rfl⟩
  rw [hB]
  have HB := Lib.hid hB
  clear h hn hlen hB
  go_enter Tryd.func17, Tryd.ntmps17
  go_wp2
  go_loopw [7] (fun i wr => ∃ k : Nat, k ≤ n ∧ i = .int .i64 (k : Int) ∧ (∀ x ∈ L.take k, Cp.may x = true) ∧ Below w.heap.size w wr) (fun i _ => n - (intOf i).toNat)
  case atStart => exact ⟨0, Nat.zero_le _, rfl, by simp, Below.refl _ _⟩
  case round =>
    obtain ⟨k, hk, rfl, hm, hbw⟩ := hrel
    by_cases hlt : (k : Int) < (n : Int)
    · have hk' : k < L.length := by rw [Hn.out]; omega
      obtain ⟨b, off, p, c, rfl, hit, hbl⟩ := H.out.at k hk'
      have hrg := (hit.next hbl hbw).range
      have hxl := HL.out _ (List.getElem_mem hk')
      have hst : ∀ y ∈ L.take (k + 1), y ∈ L.take k ∨ y = L[k] := by
        intro y hy
        rw [List.take_succ_eq_append_getElem hk', List.mem_append, List.mem_singleton] at hy
        exact hy
      have hno : Cp.may L[k] = false → B = false := by
        intro e
        rw [← HB.out]
        simp only [decide_eq_false_iff_not]
        intro hall
        have := hall _ (List.getElem_mem hk')
        rw [e] at this; cases this
      generalize L[k] = x at *
      have hMay := fun W => capMay_any x p c W hxl
      have hg := heap_alloc_new wr (.cells (icells x (.slice p x.data.length c)).toArray 48)
      have hb3 := below_one wr (.cells (icells x (.slice p x.data.length c)).toArray 48)
      simp only [icells] at hg hb3 hMay
      have HRG := Lib.hid hrg
      have HG := Lib.hid hg
      have HM := Lib.hid hm
      have HST := Lib.hid hst
      have HNO := Lib.hid hno
      have HB3 := Lib.hid (Below.chain hbw hb3)
      clear hrg hg hm hst hno hbw hb3 hit hk'
      cases hmx : Cp.may x with
      | false =>
        rw [hmx] at hMay
        have hBf := HNO.out hmx
        subst hBf
        go_wp2_with (first | (refine wpList_load_mid rfl 48 (.tmp 9) rfl b (off + k * 3) rfl (icells x (.slice p x.data.length c)) _ HRG.out Tryd.underlying48 rfl (infoItemI _ _) ?_; simp only [icells]) | (refine wpList_load_row rfl 48 (.tmp 4) rfl wr.heap.size rfl 48 (icells x (.slice p x.data.length c)).toArray (0, 0) _ HG.out Tryd.underlying48 rfl infoItem ?_; simp only [icells]))
        refine (hMay _).mono ?_
        rintro e w4 ⟨rfl, b4⟩
        go_wp2
        go_ret
        exact ⟨rfl, Below.chain HB3.out b4⟩
      | true =>
        rw [hmx] at hMay
        go_wp2_with (first | (refine wpList_load_mid rfl 48 (.tmp 9) rfl b (off + k * 3) rfl (icells x (.slice p x.data.length c)) _ HRG.out Tryd.underlying48 rfl (infoItemI _ _) ?_; simp only [icells]) | (refine wpList_load_row rfl 48 (.tmp 4) rfl wr.heap.size rfl 48 (icells x (.slice p x.data.length c)).toArray (0, 0) _ HG.out Tryd.underlying48 rfl infoItem ?_; simp only [icells]))
        refine (hMay _).mono ?_
        rintro e w4 ⟨rfl, b4⟩
        have HB4 := Lib.hid (Below.chain HB3.out b4)
        have HMX := Lib.hid hmx
        clear b4 hMay HB3 HG HRG HNO hmx
        go_wp2
        go_roundw
        case rel => exact ⟨k + 1, by omega, by go_num, fun y hy => (HST.out y hy).elim (HM.out y) (fun e => e ▸ HMX.out), HB4.out⟩
        case measure => simp [intOf]; omega
    · have hks : L.take k = L := List.take_of_length_le (by rw [Hn.out]; omega)
      rw [hks] at hm
      have hBt : B = true := by rw [← HB.out]; simpa using hm
      subst hBt
      clear hm hks
      go_wp2
      go_ret
      exact ⟨rfl, hbw⟩
theorem run_load_item {o : Oper} {a : Act} {w : World} (y : Operand) (ho : o.op = .load 48 y) (g : Nat) (hx : a.eval y = .pointer (some ⟨g, 0, none⟩)) (x : Cp.It) (v : Value) (hg : w.heap[g]? = some (.cells (icells x v).toArray 48 (0, 0))) : (execOp a.eval o).run Tryd.prog w = .ok (.value (.agg (icells x v).toArray)) w := by
  unfold execOp
  simp only [ho, hx, Instr.loadAt, Instr.sureAddr, Sem.run_bind, Sem.run_pure, Result.andThen_ok, run_loadVar_row w g 48 48 _ _ _ hg Tryd.underlying48 rfl infoItem]
theorem mark_cell (w : World) (B : Nat) (x : Cp.It) (hB : B ≤ w.heap.size) : (w.alloc (.cells #[.int .u8 ((Cp.markOf x).toNat : Int)] 5)).ownsRow B 5 1 (.slice (some ⟨w.heap.size, 0, none⟩) 1 1) 1 (Lib.byteCells [Cp.markOf x]) := by
  have h := owns_built w B 5 (.int .u8 ((Cp.markOf x).toNat : Int)) hB
  exact h


set_option maxRecDepth 100000 in
set_option maxHeartbeats 1000000 in
theorem writeRecords_any (a : Option Addr) (n cap : Nat) (L : List Cp.It) (w : World) (hn : L.length = n) (hb : 24 + 21 * n + Cp.tot L ≤ 300000) (hm : ∀ x ∈ L, Cp.may x = true) (h : ItsAt w a L) :
    Calls Tryd.prog 18 #[.slice a n cap] w fun e w' => ∃ v, e = .returned (.tuple #[v, .int .i64 0]) ∧ w'.ownsRow w.heap.size 5 1 v (S9.Pc.put Cp.hdr (Cp.rcds L)).length (Lib.byteCells (S9.Pc.put Cp.hdr (Cp.rcds L))) ∧ Below w.heap.size w w' := by
  have H := Lib.hid h
  have Hn := Lib.hid hn
  have HM := Lib.hid hm
  clear h hn hm
  go_enter Tryd.func18, Tryd.ntmps18
  go_wp2
  go_loopw [4, 10] (fun v i wr => ∃ k : Nat, i = .int .i64 (k : Int) ∧ k ≤ n ∧ S9.Recs wr w.heap.size v (Cp.rcds (L.take k)) ∧ Below w.heap.size w wr) (fun _ i _ => n - (intOf i).toNat)
  case atStart => exact ⟨0, rfl, Nat.zero_le _, S9.recs_none _ _, Below.refl _ _⟩
  case round =>
    obtain ⟨k, rfl, hk, hR, hbw⟩ := hrel
    obtain ⟨av, cv, rfl⟩ := S9.recs_slice hR
    by_cases hlt : (k : Int) < (n : Int)
    · have hk' : k < L.length := by rw [Hn.out]; omega
      obtain ⟨b, off, p, c, rfl, hit, hbl⟩ := H.out.at k hk'
      have hrg := (hit.next hbl hbw).range
      have hrow := (hit.next hbl hbw).row
      have hmy := HM.out _ (List.getElem_mem hk')
      have hst := Cp.rcds_take L k hk'
      have hkn : k + 1 ≤ n := by omega
      rw [Cp.rcds_length, List.length_take] at *
      have hmin : min k L.length = k := by omega
      rw [hmin] at hR ⊢
      generalize L[k] = x at *
      have hbl := Cp.body_length x
      have hdl := (Cp.may_parts x hmy).2.2
      have hg := heap_alloc_new wr (.cells (icells x (.slice p x.data.length c)).toArray 48)
      have hb3 := below_one wr (.cells (icells x (.slice p x.data.length c)).toArray 48)
      simp only [icells] at hg hb3
      have HRG := Lib.hid hrg
      have hrow3 := hrow.next hb3
      have hR3 := S9.Recs.next hR hb3
      have hbw3 := Below.chain hbw hb3
      go_wp2_with (refine wpList_load_mid rfl 48 (.tmp 13) rfl b (off + k * 3) rfl (icells x (.slice p x.data.length c)) _ HRG.out Tryd.underlying48 rfl (infoItemI _ _) ?_; simp only [icells])
      generalize wr.alloc (.cells #[.int .i64 x.dir, .int .i64 x.proto, .slice p x.data.length c] 48) = W3 at *
      generalize wr.heap.size = g at *
      have hS4 : W3.drew.heap[g]? = some (.cells (icells x (.slice p x.data.length c)).toArray 48 (0, 0)) := hg
      have hR4 : S9.Recs W3.drew w.heap.size (.slice av k cv) (Cp.rcds (L.take k)) := hR3.next (Below.refl _ _).drew
      have hB4 := Lib.hid (hbw3.drew)
      have hrow4 : RowAt W3.drew p c x.data := hrow3.next (Below.refl _ _).drew
      have cBO := fun W h => bodyOf_any x p c W hmy h
      have c2 := markOf_any x
      refine held_start (S := fun W => W.heap[g]? = some (.cells (icells x (.slice p x.data.length c)).toArray 48 (0, 0))) 8 (by kernel_rfl) rfl ?_
      generalize W3.drew = W4 at hS4 hR4 hB4 hrow4 ⊢
      clear hg hb3 hrow3 hR3 hbw3 hR hbw HRG hrow hrg hit
      refine held_take 0 (v := ?_) rfl (by kernel_rfl) (by kernel_rfl) (by kernel_rfl) (fun _ _ _ h => h) (by assumption) (by rfl) ?_ ?_
      rotate_left
      · (intro W hW; go_simp; try with_reducible rfl)
      simp only [Act.put, List.setIfInBounds_toArray, List.set_cons_zero, List.set_cons_succ]
      refine held_take 1 (v := ?_) rfl (by kernel_rfl) (by kernel_rfl) (by kernel_rfl) (fun _ _ _ h => h) (by assumption) (by rfl) ?_ ?_
      rotate_left
      · (intro W hW; have hc : W.cell? ⟨g, 0, none⟩ = some (.int .i64 x.dir) := cell_of_row _ _ _ _ _ _ hW; go_simp; try with_reducible rfl)
      simp only [Act.put, List.setIfInBounds_toArray, List.set_cons_zero, List.set_cons_succ]
      refine held_take 4 (v := .agg (icells x (.slice p x.data.length c)).toArray) rfl (by kernel_rfl) (by kernel_rfl) (by kernel_rfl) (fun _ _ _ h => h) (by assumption) (by rfl) (fun W hW => run_load_item (.tmp 6) rfl _ rfl x _ hW) ?_
      simp only [Act.put, List.setIfInBounds_toArray, List.set_cons_zero, List.set_cons_succ]
      refine held_call 2 (f := 30) (args := #[.int .i64 x.dir]) rfl (by kernel_rfl) (by rfl) (by go_simp) ?_
      refine (c2 W4).mono ?_
      rintro e w5 ⟨rfl, h5⟩
      rw [h5]
      clear h5 c2
      refine ⟨_, rfl, hS4, ?_⟩
      simp only [Act.put, List.setIfInBounds_toArray, List.set_cons_zero, List.set_cons_succ]
      refine held_pair 3 5 rfl rfl (by kernel_rfl) (by rfl) (by rfl) ?_ ?_
      · refine wp_value (v := .slice (some ⟨W4.heap.size, 0, none⟩) 1 1) (w' := W4.alloc (.cells #[.int .u8 ((Cp.markOf x).toNat : Int)] 5)) (by go_simp) ?_
        have b5 := below_one W4 (.cells #[.int .u8 ((Cp.markOf x).toNat : Int)] 5)
        have o1 := mark_cell W4 W4.heap.size x (Nat.le_refl _)
        refine ⟨block_next hS4 b5, ?_⟩
        have hS5 := block_next hS4 b5
        simp only [Act.put, List.setIfInBounds_toArray, List.set_cons_zero, List.set_cons_succ]
        refine held_call 5 (f := 31) (args := #[.agg (icells x (.slice p x.data.length c)).toArray]) rfl (by kernel_rfl) (by rfl) (by go_simp) ?_
        refine (cBO _ (hrow4.next b5)).mono ?_
        rintro e W6 ⟨v6, rfl, o6, b6⟩
        have b46 := Below.chain b5 b6
        have o61 := ownsRow_next o1 b6
        have o62 := ownsRow_lower (base' := W4.heap.size) o6 b5.size
        refine ⟨_, rfl, block_next hS5 b6, ?_⟩
        simp only [Act.put, List.setIfInBounds_toArray, List.set_cons_zero, List.set_cons_succ]
        obtain ⟨p5, c5, rfl, row5⟩ := rowAt_own rfl o62
        refine held_one 6 rfl (by kernel_rfl) (by rfl) ?_
        refine wp_append_row (.tmp 18) (.tmp 20) rfl W4.heap.size (.slice (some ⟨W4.heap.size, 0, none⟩) 1 1) 1 (Lib.byteCells [Cp.markOf x]) rfl o61 p5 (Cp.body x).length c5 (Cp.body x) rfl rfl row5 (by omega) b46.size ?_
        intro v7 W7 o7 g7
        have b7 : Below W4.heap.size W4 W7 := Below.grown b46 g7 b46.size (fun j hj => (o61.lt j hj).1)
        refine ⟨block_next hS4 b7, ?_⟩
        have hS7 := block_next hS4 b7
        simp only [Act.put, List.setIfInBounds_toArray, List.set_cons_zero, List.set_cons_succ]
        refine held_take 7 (v := ?_) rfl (by kernel_rfl) (by kernel_rfl) (by kernel_rfl) (fun _ _ _ h => h) (by assumption) (by rfl) ?_ ?_
        rotate_left
        · (intro W hW; go_simp; try with_reducible rfl)
        simp only [Act.put, List.setIfInBounds_toArray, List.set_cons_zero, List.set_cons_succ]
        refine held_done (by kernel_rfl) ?_
        rw [← Lib.byteCells_append] at o7
        obtain ⟨p7, c7, rfl⟩ := own_slice o7
        have hR7 := Lib.hid (hR4.next b7)
        obtain ⟨nb, hnb⟩ : ∃ nb, 1 + (Cp.body x).length = nb := ⟨_, rfl⟩
        rw [hnb] at o7 ⊢
        have HNB := Lib.hid hnb
        have hnbl : nb ≤ 1000000 := by omega
        have O7 := Lib.hid o7
        have B7 := Lib.hid b7
        clear o7 b7 hS7 o61 o62 b46 row5 g7 hnb hR4 hrow4 hS4
        have hdlen : (Cp.markOf x :: Cp.body x).length = nb := by rw [List.length_cons]; have := HNB.out; omega
        have hrr : Cp.rcd k x = ⟨k, 0, nb, Cp.markOf x :: Cp.body x⟩ := by unfold Cp.rcd; rw [hdlen]
        rw [hrr] at hst
        have HST := Lib.hid hst
        have HDL := Lib.hid hdlen
        clear hst hdlen hrr cBO
        go_wp2_with (at_builtin; refine S9.wpList_append_recs rfl (.tmp 22) (.tmp 30) rfl w.heap.size (.slice av k cv) (Cp.rcds (L.take k)) ⟨k, 0, nb, Cp.markOf x :: Cp.body x⟩ (.slice p7 nb c7) W7.heap.size rfl rfl (hR7.out.next (below_one W7 _)) (by have := ownsRow_lower (base' := w.heap.size) (O7.out.alloc (.cells #[.int .u32 (k : Int), .int .u32 0, .int .u32 (nb : Int), .slice p7 nb c7] 44)) hB4.out.size; show World.ownsRow _ _ _ _ _ (Cp.markOf x :: Cp.body x).length _; rw [HDL.out]; exact this) (heap_alloc_new W7 _) (by have := hB4.out.size; have := B7.out.size; simp; omega) (by rw [Cp.rcds_length, List.length_take]; omega) ?_; intro v8 W8 r8 g8 k8)
        have b8 : Below w.heap.size w W8 := Below.grown ((Below.chain hB4.out B7.out).alloc (by have := hB4.out.size; have := B7.out.size; omega) _) g8 (by have := hB4.out.size; have := B7.out.size; simp; omega) k8
        rw [← HST.out] at r8
        have R8 := Lib.hid r8
        have B8 := Lib.hid b8
        clear r8 b8 g8 k8 O7 B7 hR7 hB4
        go_roundw
        case rel => exact ⟨k + 1, by go_num, by omega, R8.out, B8.out⟩
        case measure => simp [intOf]; omega
      · refine wp_enter (f := 31) (args := #[.agg (icells x (.slice p x.data.length c)).toArray]) (by go_simp) ?_
        refine (cBO _ hrow4).mono ?_
        rintro e W5 ⟨v6, rfl, o6, b5⟩
        have hS5 := block_next hS4 b5
        refine ⟨_, rfl, hS5, ?_⟩
        simp only [Act.put, List.setIfInBounds_toArray, List.set_cons_zero, List.set_cons_succ]
        have b6 := below_one W5 (.cells #[.int .u8 ((Cp.markOf x).toNat : Int)] 5)
        have o1 := mark_cell W5 W4.heap.size x b5.size
        refine held_makes 3 (v := .slice (some ⟨W5.heap.size, 0, none⟩) 1 1) (w' := W5.alloc (.cells #[.int .u8 ((Cp.markOf x).toNat : Int)] 5)) rfl (by kernel_rfl) (by rfl) (by go_simp) (block_next hS5 b6) ?_
        have b46 := Below.chain b5 b6
        have o62 := ownsRow_next o6 b6
        simp only [Act.put, List.setIfInBounds_toArray, List.set_cons_zero, List.set_cons_succ]
        obtain ⟨p5, c5, rfl, row5⟩ := rowAt_own rfl o62
        refine held_one 6 rfl (by kernel_rfl) (by rfl) ?_
        refine wp_append_row (.tmp 18) (.tmp 20) rfl W4.heap.size (.slice (some ⟨W5.heap.size, 0, none⟩) 1 1) 1 (Lib.byteCells [Cp.markOf x]) rfl o1 p5 (Cp.body x).length c5 (Cp.body x) rfl rfl row5 (by omega) b46.size ?_
        intro v7 W7 o7 g7
        have b7 : Below W4.heap.size W4 W7 := Below.grown b46 g7 b46.size (fun j hj => (o1.lt j hj).1)
        refine ⟨block_next hS4 b7, ?_⟩
        have hS7 := block_next hS4 b7
        simp only [Act.put, List.setIfInBounds_toArray, List.set_cons_zero, List.set_cons_succ]
        refine held_take 7 (v := ?_) rfl (by kernel_rfl) (by kernel_rfl) (by kernel_rfl) (fun _ _ _ h => h) (by assumption) (by rfl) ?_ ?_
        rotate_left
        · (intro W hW; go_simp; try with_reducible rfl)
        simp only [Act.put, List.setIfInBounds_toArray, List.set_cons_zero, List.set_cons_succ]
        refine held_done (by kernel_rfl) ?_
        rw [← Lib.byteCells_append] at o7
        obtain ⟨p7, c7, rfl⟩ := own_slice o7
        have hR7 := Lib.hid (hR4.next b7)
        obtain ⟨nb, hnb⟩ : ∃ nb, 1 + (Cp.body x).length = nb := ⟨_, rfl⟩
        rw [hnb] at o7 ⊢
        have HNB := Lib.hid hnb
        have hnbl : nb ≤ 1000000 := by omega
        have O7 := Lib.hid o7
        have B7 := Lib.hid b7
        clear o7 b7 hS7 o1 o62 b46 row5 g7 hnb hR4 hrow4 hS4
        have hdlen : (Cp.markOf x :: Cp.body x).length = nb := by rw [List.length_cons]; have := HNB.out; omega
        have hrr : Cp.rcd k x = ⟨k, 0, nb, Cp.markOf x :: Cp.body x⟩ := by unfold Cp.rcd; rw [hdlen]
        rw [hrr] at hst
        have HST := Lib.hid hst
        have HDL := Lib.hid hdlen
        clear hst hdlen hrr cBO
        go_wp2_with (at_builtin; refine S9.wpList_append_recs rfl (.tmp 22) (.tmp 30) rfl w.heap.size (.slice av k cv) (Cp.rcds (L.take k)) ⟨k, 0, nb, Cp.markOf x :: Cp.body x⟩ (.slice p7 nb c7) W7.heap.size rfl rfl (hR7.out.next (below_one W7 _)) (by have := ownsRow_lower (base' := w.heap.size) (O7.out.alloc (.cells #[.int .u32 (k : Int), .int .u32 0, .int .u32 (nb : Int), .slice p7 nb c7] 44)) hB4.out.size; show World.ownsRow _ _ _ _ _ (Cp.markOf x :: Cp.body x).length _; rw [HDL.out]; exact this) (heap_alloc_new W7 _) (by have := hB4.out.size; have := B7.out.size; simp; omega) (by rw [Cp.rcds_length, List.length_take]; omega) ?_; intro v8 W8 r8 g8 k8)
        have b8 : Below w.heap.size w W8 := Below.grown ((Below.chain hB4.out B7.out).alloc (by have := hB4.out.size; have := B7.out.size; omega) _) g8 (by have := hB4.out.size; have := B7.out.size; simp; omega) k8
        rw [← HST.out] at r8
        have R8 := Lib.hid r8
        have B8 := Lib.hid b8
        clear r8 b8 g8 k8 O7 B7 hR7 hB4
        go_roundw
        case rel => exact ⟨k + 1, by go_num, by omega, R8.out, B8.out⟩
        case measure => simp [intOf]; omega
    · have hks : L.take k = L := List.take_of_length_le (by rw [Hn.out]; omega)
      rw [hks] at hR ⊢
      rw [Cp.rcds_length, Hn.out] at hR ⊢
      obtain ⟨a2, c2, e2, hat⟩ := hR.at (Cp.rcds_ok L (by rw [Hn.out]; omega) HM.out).1
      have hsz := Cp.size_rcds L
      rw [Hn.out] at hsz
      rw [Cp.rcds_length, Hn.out] at e2
      simp only [Value.slice.injEq, true_and] at e2
      obtain ⟨rfl, rfl⟩ := e2
      have hsm := (Cp.rcds_ok L (by rw [Hn.out]; omega) HM.out).2
      have hput := S9.put_any Cp.hdr av n cv (Cp.rcds L) wr ⟨by decide, by decide⟩ (by rw [Cp.rcds_length, Hn.out]) (by omega) hat
      have HP := Lib.hid hput
      have HSM := Lib.hid hsm
      have HBW := Lib.hid hbw
      clear hR hat hput hsm hbw hks hsz
      go_wp2_with fail
      refine HP.out.mono ?_
      rintro e w9 ⟨b9, h9⟩
      rcases h9 with ⟨_, v9, rfl, o9⟩ | ⟨hno, _⟩
      · have O9 := Lib.hid (ownsRow_lower (base' := w.heap.size) o9 HBW.out.size)
        have B9 := Lib.hid (Below.chain HBW.out b9)
        clear o9 b9 HP
        go_wp2
        go_ret2
        exact ⟨_, rfl, O9.out, B9.out⟩
      · exact absurd HSM.out hno
end Go.Proofs.YtbbnkmhlgfoacaaDoor
