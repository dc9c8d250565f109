/- Contract of the document's May. -/
import Derived.Test.YtacnlancncmpmaaTp
import Derived.Deep.CutRange
namespace Go.Proofs.Ytacnlancncmpmaa
open Go.RowKit Go.Maps S2 S12

/-- Addresses that the other protocol has, left out. -/
def Ad.six (t : Ad.T) : Ad.T := { t with hasId := false, id := Ad.o8 }
theorem Ad.may6_eq (t : Ad.T) : Ad.may 32855 t = (decide (Ad.six t = Ad.z) && (t.hasId == !decide (t.id = Ad.o8))) := by
  show Ad.may6 t = _
  unfold Ad.may6 Ad.six
  rw [show decide (t.id ≠ Ad.o8) = !decide (t.id = Ad.o8) from decide_not]
/-- What the places of the first ones ask. -/
def Ad.dnsOk (t : Ad.T) (k : Nat) : Bool :=
  (if 0 < k then t.d0 || decide (t.n0 = Ad.o4) else true) && (if 1 < k then t.d1 || decide (t.n1 = Ad.o4) else true) && (if 2 < k then t.d2 || decide (t.n2 = Ad.o4) else true) && (if 3 < k then t.d3 || decide (t.n3 = Ad.o4) else true)
def Ad.mayA (t : Ad.T) : Bool := !t.hasId && decide (t.id = Ad.o8)
def Ad.mayB (t : Ad.T) : Bool := (t.hasIp || decide (t.ip = Ad.o4)) && (t.hasVj || (decide (t.slots = 0) && !t.vjId)) && decide (0 ≤ t.slots) && decide (t.slots ≤ 255)
theorem Ad.may4_eq (t : Ad.T) : Ad.may 32801 t = (Ad.mayA t && Ad.mayB t && Ad.dnsOk t 4) := by
  show Ad.may4 t = _
  unfold Ad.may4 Ad.mayA Ad.mayB Ad.dnsOk
  simp only [Nat.lt_add_one, if_true, show (0 : Nat) < 4 by omega, show (1 : Nat) < 4 by omega, show (2 : Nat) < 4 by omega, Bool.and_assoc]

set_option maxRecDepth 100000 in
set_option maxHeartbeats 1000000 in
theorem may_six (t : Ad.T) (w : World) :
    Calls Try.prog 18 #[.int .i64 32855, .agg (acells t).toArray] w fun e w' => e = .returned (.bool (Ad.may 32855 t)) ∧ Below w.heap.size w w' := by
  obtain ⟨Z, hZ⟩ : ∃ Z, Ad.may 32855 t = Z := ⟨_, rfl⟩
  rw [hZ]
  have HZ := Lib.hid (hZ.symm.trans (Ad.may6_eq t))
  clear hZ
  have H1 : TmAt (w.alloc (.cells (acells t).toArray 35)) w.heap.size t := heap_alloc_new w _
  have H2 : TmAt ((w.alloc (.cells (acells t).toArray 35)).alloc (.cells (acells Ad.z).toArray 35)) (w.heap.size + 1) Ad.z := heap_alloc2_new w _ _
  have H0 : TmAt ((w.alloc (.cells (acells t).toArray 35)).alloc (.cells (acells Ad.z).toArray 35)) w.heap.size t := heap_alloc2_old w _ _
  have bb := Below.chain (below_one w (.cells (acells t).toArray 35)) (below_one (w.alloc (.cells (acells t).toArray 35)) (.cells (acells Ad.z).toArray 35))
  have A3 : TmAt (((w.alloc (.cells (acells t).toArray 35)).alloc (.cells (acells Ad.z).toArray 35)).setRow (w.heap.size + 1) (acells t).toArray) w.heap.size t := H0.kept (grown_setRow _ (w.heap.size + 1) _) (by omega)
  have T3 : TmAt (((w.alloc (.cells (acells t).toArray 35)).alloc (.cells (acells Ad.z).toArray 35)).setRow (w.heap.size + 1) (acells t).toArray) (w.heap.size + 1) t := H2.put _ rfl
  have B3 := below_setRow bb (Nat.le_succ _) (acells t).toArray (g := w.heap.size + 1)
  have c28 : (((w.alloc (.cells (acells t).toArray 35)).alloc (.cells (acells Ad.z).toArray 35)).setRow (w.heap.size + 1) (acells t).toArray).cell? ⟨w.heap.size + 1, 28, none⟩ = some (.bool t.hasId) := T3.cell 28
  have f28 := T3.frozen 28
  have T4 := Lib.hid (T3.set 28 (.bool false) { t with hasId := false } rfl)
  have A4 := Lib.hid (A3.kept (grown_cell _ (w.heap.size + 1) 28 (.bool false)) (by omega))
  have B4 := Lib.hid (B3.setCell (p := ⟨w.heap.size + 1, 28, none⟩) (Nat.le_succ _) (.bool false))
  clear H0 bb A3 T3 B3
  go_enter Try.func18, Try.ntmps18
  go_wp2_with (first
    | (refine wpList_load_row rfl 35 (.tmp 3) rfl w.heap.size rfl 35 (acells t).toArray (0, 0) _ H1 Try.underlying35 rfl infoAd ?_)
    | (refine wpList_store_ad rfl _ _ rfl (w.heap.size + 1) t _ rfl rfl H2 rfl ?_; show wpList _ _ _ _ _ (((w.alloc (.cells (acells t).toArray 35)).alloc (.cells (acells Ad.z).toArray 35)).setRow (w.heap.size + 1) (acells t).toArray); generalize ((w.alloc (.cells (acells t).toArray 35)).alloc (.cells (acells Ad.z).toArray 35)).setRow (w.heap.size + 1) (acells t).toArray = w3 at *)
    | (refine wpList_store_eight rfl _ _ rfl (w.heap.size + 1) 29 { t with hasId := false } (Ad.six t) Ad.o8 rfl rfl T4.out (by omega) rfl ?_; intro w5 T5 g5; have A5 := Lib.hid (A4.out.kept g5 (by omega)); have B5 := Lib.hid (Below.grown B4.out g5 B4.out.size (fun k e => by cases e; omega)); skip))
  have AD : Hid (TmAt w5.drew w.heap.size t) := A5.out
  have TD : Hid (TmAt w5.drew (w.heap.size + 1) (Ad.six t)) := T5.out
  have BD := Lib.hid B5.out.drew
  refine held_start (S := fun W => TmAt W w.heap.size t ∧ TmAt W (w.heap.size + 1) (Ad.six t)) 13 (by kernel_rfl) rfl ?_
  generalize w5.drew = WD at *
  have hS : TmAt WD w.heap.size t ∧ TmAt WD (w.heap.size + 1) (Ad.six t) := ⟨AD.out, TD.out⟩
  refine held_take 0 (v := .agg (acells (Ad.six t)).toArray) rfl (by kernel_rfl) (by kernel_rfl) (by kernel_rfl) (fun _ _ _ h => h) (by assumption) (by rfl) (fun W hW => run_load_arr (.tmp 5) rfl (w.heap.size + 1) 0 rfl (acells (Ad.six t)) _ Try.underlying35 rfl infoAd (range_block hW.2)) ?_
  simp only [Act.put, List.setIfInBounds_toArray, List.set_cons_zero, List.set_cons_succ]
  refine held_take 1 (v := .agg (acells Ad.z).toArray) rfl (by kernel_rfl) (by kernel_rfl) (by kernel_rfl) (fun _ _ _ h => h) (by assumption) (by rfl) (fun W hW => run_build_arr rfl _ built_ad W) ?_
  simp only [Act.put, List.setIfInBounds_toArray, List.set_cons_zero, List.set_cons_succ]
  refine held_take 2 (v := .bool (decide (Ad.six t = Ad.z))) rfl (by kernel_rfl) (by kernel_rfl) (by kernel_rfl) (fun _ _ _ h => h) (by assumption) (by rfl) (fun W _ => run_eql_ad (.tmp 13) (.tmp 14) rfl (Ad.six t) Ad.z rfl rfl W) ?_
  simp only [Act.put, List.setIfInBounds_toArray, List.set_cons_zero, List.set_cons_succ]
  refine held_take 3 (v := ?_) rfl (by kernel_rfl) (by kernel_rfl) (by kernel_rfl) (fun _ _ _ h => h) (by assumption) (by rfl) ?_ ?_
  rotate_left
  · (intro W hW; go_simp; try with_reducible rfl)
  simp only [Act.put, List.setIfInBounds_toArray, List.set_cons_zero, List.set_cons_succ]
  by_cases hz : Ad.six t = Ad.z
  · have hZ := HZ.out
    rw [decide_eq_true hz, Bool.true_and] at hZ
    rw [decide_eq_true hz]
    subst hZ
    refine held_take 4 (v := ?_) rfl (by kernel_rfl) (by kernel_rfl) (by kernel_rfl) (fun _ _ _ h => h) (by assumption) (by rfl) ?_ ?_
    rotate_left
    · (intro W hW; go_simp; try with_reducible rfl)
    simp only [Act.put, List.setIfInBounds_toArray, List.set_cons_zero, List.set_cons_succ]
    refine held_take 5 (v := ?_) rfl (by kernel_rfl) (by kernel_rfl) (by kernel_rfl) (fun _ _ _ h => h) (by assumption) (by rfl) ?_ ?_
    rotate_left
    · (intro W hW; have e0 : W.cell? ⟨w.heap.size, 28, none⟩ = some (.bool t.hasId) := hW.1.cell 28; go_simp; try with_reducible rfl)
    simp only [Act.put, List.setIfInBounds_toArray, List.set_cons_zero, List.set_cons_succ]
    refine held_take 6 (v := ?_) rfl (by kernel_rfl) (by kernel_rfl) (by kernel_rfl) (fun _ _ _ h => h) (by assumption) (by rfl) ?_ ?_
    rotate_left
    · (intro W hW; go_simp; try with_reducible rfl)
    simp only [Act.put, List.setIfInBounds_toArray, List.set_cons_zero, List.set_cons_succ]
    refine held_take 7 (v := .agg (cells8 t.id).toArray) rfl (by kernel_rfl) (by kernel_rfl) (by kernel_rfl) (fun _ _ _ h => h) (by assumption) (by rfl) (fun W hW => run_load_arr (.tmp 19) rfl w.heap.size 29 rfl (cells8 t.id) _ Try.underlying33 rfl info8 (hW.1.range 29 _ rfl)) ?_
    simp only [Act.put, List.setIfInBounds_toArray, List.set_cons_zero, List.set_cons_succ]
    refine held_take 8 (v := .agg (cells8 Ad.o8).toArray) rfl (by kernel_rfl) (by kernel_rfl) (by kernel_rfl) (fun _ _ _ h => h) (by assumption) (by rfl) (fun W hW => run_build_arr rfl _ built_8 W) ?_
    simp only [Act.put, List.setIfInBounds_toArray, List.set_cons_zero, List.set_cons_succ]
    refine held_take 9 (v := ?_) rfl (by kernel_rfl) (by kernel_rfl) (by kernel_rfl) (fun _ _ _ h => h) (by assumption) (by rfl) ?_ ?_
    rotate_left
    · (intro W hW; have h30 : (Op.equalIn 10000 33 (.agg (cells8 t.id).toArray) (.agg (cells8 Ad.o8).toArray)).run Try.prog W = _ := eq8 9998 t.id Ad.o8 W; have hgd := guard8; go_simp; try with_reducible rfl)
    simp only [Act.put, List.setIfInBounds_toArray, List.set_cons_zero, List.set_cons_succ]
    refine held_take 10 (v := ?_) rfl (by kernel_rfl) (by kernel_rfl) (by kernel_rfl) (fun _ _ _ h => h) (by assumption) (by rfl) ?_ ?_
    rotate_left
    · (intro W hW; go_simp; try with_reducible rfl)
    simp only [Act.put, List.setIfInBounds_toArray, List.set_cons_zero, List.set_cons_succ]
    refine held_take 11 (v := ?_) rfl (by kernel_rfl) (by kernel_rfl) (by kernel_rfl) (fun _ _ _ h => h) (by assumption) (by rfl) ?_ ?_
    rotate_left
    · (intro W hW; go_simp; try with_reducible rfl)
    simp only [Act.put, List.setIfInBounds_toArray, List.set_cons_zero, List.set_cons_succ]
    refine held_take 12 (v := ?_) rfl (by kernel_rfl) (by kernel_rfl) (by kernel_rfl) (fun _ _ _ h => h) (by assumption) (by rfl) ?_ ?_
    rotate_left
    · (intro W hW; go_simp; try with_reducible rfl)
    simp only [Act.put, List.setIfInBounds_toArray, List.set_cons_zero, List.set_cons_succ]
    refine held_done (by kernel_rfl) ?_
    go_wp2
    go_ret
    exact ⟨rfl, BD.out⟩
  · have hZ := HZ.out
    rw [decide_eq_false hz, Bool.false_and] at hZ
    rw [decide_eq_false hz]
    subst hZ
    refine held_skip 4 rfl (by kernel_rfl) (by kernel_rfl) (by kernel_rfl) (fun _ _ _ h => h) (by assumption) (by rfl) ?_
    simp only [Act.put, List.setIfInBounds_toArray, List.set_cons_zero, List.set_cons_succ]
    refine held_skip 5 rfl (by kernel_rfl) (by kernel_rfl) (by kernel_rfl) (fun _ _ _ h => h) (by assumption) (by rfl) ?_
    simp only [Act.put, List.setIfInBounds_toArray, List.set_cons_zero, List.set_cons_succ]
    refine held_skip 6 rfl (by kernel_rfl) (by kernel_rfl) (by kernel_rfl) (fun _ _ _ h => h) (by assumption) (by rfl) ?_
    simp only [Act.put, List.setIfInBounds_toArray, List.set_cons_zero, List.set_cons_succ]
    refine held_skip 7 rfl (by kernel_rfl) (by kernel_rfl) (by kernel_rfl) (fun _ _ _ h => h) (by assumption) (by rfl) ?_
    simp only [Act.put, List.setIfInBounds_toArray, List.set_cons_zero, List.set_cons_succ]
    refine held_skip 8 rfl (by kernel_rfl) (by kernel_rfl) (by kernel_rfl) (fun _ _ _ h => h) (by assumption) (by rfl) ?_
    simp only [Act.put, List.setIfInBounds_toArray, List.set_cons_zero, List.set_cons_succ]
    refine held_skip 9 rfl (by kernel_rfl) (by kernel_rfl) (by kernel_rfl) (fun _ _ _ h => h) (by assumption) (by rfl) ?_
    simp only [Act.put, List.setIfInBounds_toArray, List.set_cons_zero, List.set_cons_succ]
    refine held_skip 10 rfl (by kernel_rfl) (by kernel_rfl) (by kernel_rfl) (fun _ _ _ h => h) (by assumption) (by rfl) ?_
    simp only [Act.put, List.setIfInBounds_toArray, List.set_cons_zero, List.set_cons_succ]
    refine held_take 11 (v := ?_) rfl (by kernel_rfl) (by kernel_rfl) (by kernel_rfl) (fun _ _ _ h => h) (by assumption) (by rfl) ?_ ?_
    rotate_left
    · (intro W hW; go_simp; try with_reducible rfl)
    simp only [Act.put, List.setIfInBounds_toArray, List.set_cons_zero, List.set_cons_succ]
    refine held_take 12 (v := ?_) rfl (by kernel_rfl) (by kernel_rfl) (by kernel_rfl) (fun _ _ _ h => h) (by assumption) (by rfl) ?_ ?_
    rotate_left
    · (intro W hW; go_simp; try with_reducible rfl)
    simp only [Act.put, List.setIfInBounds_toArray, List.set_cons_zero, List.set_cons_succ]
    refine held_done (by kernel_rfl) ?_
    go_wp2
    go_ret
    exact ⟨rfl, BD.out⟩
set_option maxRecDepth 100000 in
set_option maxHeartbeats 1000000 in
theorem may_other (P : Int) (t : Ad.T) (w : World) (h1 : P ≠ 32855) (h2 : P ≠ 32801) :
    Calls Try.prog 18 #[.int .i64 P, .agg (acells t).toArray] w fun e w' => e = .returned (.bool (Ad.may P t)) ∧ Below w.heap.size w w' := by
  rw [show Ad.may P t = false by unfold Ad.may; rw [if_neg h1, if_neg h2]]
  have e1 : (P == 32855) = false := by simpa using h1
  have e2 : (P != 32801) = true := by simpa using h2
  clear h1 h2
  have H1 : TmAt (w.alloc (.cells (acells t).toArray 35)) w.heap.size t := heap_alloc_new w _
  have H2 : TmAt ((w.alloc (.cells (acells t).toArray 35)).alloc (.cells (acells Ad.z).toArray 35)) (w.heap.size + 1) Ad.z := heap_alloc2_new w _ _
  have H0 : TmAt ((w.alloc (.cells (acells t).toArray 35)).alloc (.cells (acells Ad.z).toArray 35)) w.heap.size t := heap_alloc2_old w _ _
  have bb := Below.chain (below_one w (.cells (acells t).toArray 35)) (below_one (w.alloc (.cells (acells t).toArray 35)) (.cells (acells Ad.z).toArray 35))
  have A3 : TmAt (((w.alloc (.cells (acells t).toArray 35)).alloc (.cells (acells Ad.z).toArray 35)).setRow (w.heap.size + 1) (acells t).toArray) w.heap.size t := H0.kept (grown_setRow _ (w.heap.size + 1) _) (by omega)
  have T3 : TmAt (((w.alloc (.cells (acells t).toArray 35)).alloc (.cells (acells Ad.z).toArray 35)).setRow (w.heap.size + 1) (acells t).toArray) (w.heap.size + 1) t := H2.put _ rfl
  have B3 := below_setRow bb (Nat.le_succ _) (acells t).toArray (g := w.heap.size + 1)
  have c28 : (((w.alloc (.cells (acells t).toArray 35)).alloc (.cells (acells Ad.z).toArray 35)).setRow (w.heap.size + 1) (acells t).toArray).cell? ⟨w.heap.size + 1, 28, none⟩ = some (.bool t.hasId) := T3.cell 28
  have f28 := T3.frozen 28
  have T4 := Lib.hid (T3.set 28 (.bool false) { t with hasId := false } rfl)
  have A4 := Lib.hid (A3.kept (grown_cell _ (w.heap.size + 1) 28 (.bool false)) (by omega))
  have B4 := Lib.hid (B3.setCell (p := ⟨w.heap.size + 1, 28, none⟩) (Nat.le_succ _) (.bool false))
  clear H0 bb A3 T3 B3
  go_enter Try.func18, Try.ntmps18
  go_wp2_with (first
    | (refine wpList_load_row rfl 35 (.tmp 3) rfl w.heap.size rfl 35 (acells t).toArray (0, 0) _ H1 Try.underlying35 rfl infoAd ?_)
    | (refine wpList_store_ad rfl _ _ rfl (w.heap.size + 1) t _ rfl rfl H2 rfl ?_; show wpList _ _ _ _ _ (((w.alloc (.cells (acells t).toArray 35)).alloc (.cells (acells Ad.z).toArray 35)).setRow (w.heap.size + 1) (acells t).toArray); generalize ((w.alloc (.cells (acells t).toArray 35)).alloc (.cells (acells Ad.z).toArray 35)).setRow (w.heap.size + 1) (acells t).toArray = w3 at *)
    | (refine wpList_store_eight rfl _ _ rfl (w.heap.size + 1) 29 { t with hasId := false } (Ad.six t) Ad.o8 rfl rfl T4.out (by omega) rfl ?_; intro w5 T5 g5; have A5 := Lib.hid (A4.out.kept g5 (by omega)); have B5 := Lib.hid (Below.grown B4.out g5 B4.out.size (fun k e => by cases e; omega)); skip))
  go_ret
  exact ⟨rfl, B5.out⟩
theorem may_id {W : World} {g : Nat} {t : Ad.T} {b : Bool} (h : TmAt W g t) (e1 : t.hasId = b) : W.cell? ⟨g, 28, none⟩ = some (.bool b) ∧ W.cell? ⟨g, 29, none⟩ = some (.int .u8 (t.id.a.toNat : Int)) ∧ W.cell? ⟨g, 30, none⟩ = some (.int .u8 (t.id.b.toNat : Int)) ∧ W.cell? ⟨g, 31, none⟩ = some (.int .u8 (t.id.c.toNat : Int)) ∧ W.cell? ⟨g, 32, none⟩ = some (.int .u8 (t.id.d.toNat : Int)) ∧ W.cell? ⟨g, 33, none⟩ = some (.int .u8 (t.id.e.toNat : Int)) ∧ W.cell? ⟨g, 34, none⟩ = some (.int .u8 (t.id.f.toNat : Int)) ∧ W.cell? ⟨g, 35, none⟩ = some (.int .u8 (t.id.g.toNat : Int)) ∧ W.cell? ⟨g, 36, none⟩ = some (.int .u8 (t.id.h.toNat : Int)) :=
  ⟨(by rw [h.cell 28, ← e1]; rfl), h.cell 29, h.cell 30, h.cell 31, h.cell 32, h.cell 33, h.cell 34, h.cell 35, h.cell 36⟩
theorem may_ip {W : World} {g : Nat} {t : Ad.T} {b : Bool} (h : TmAt W g t) (e : t.hasIp = b) : W.cell? ⟨g, 0, none⟩ = some (.bool b) ∧ W.cell? ⟨g, 1, none⟩ = some (.int .u8 (t.ip.a.toNat : Int)) ∧ W.cell? ⟨g, 2, none⟩ = some (.int .u8 (t.ip.b.toNat : Int)) ∧ W.cell? ⟨g, 3, none⟩ = some (.int .u8 (t.ip.c.toNat : Int)) ∧ W.cell? ⟨g, 4, none⟩ = some (.int .u8 (t.ip.d.toNat : Int)) :=
  ⟨(by rw [h.cell 0, ← e]; rfl), h.cell 1, h.cell 2, h.cell 3, h.cell 4⟩
theorem may_vj {W : World} {g : Nat} {t : Ad.T} {b j : Bool} (h : TmAt W g t) (e : t.hasVj = b) (e2 : t.vjId = j) : W.cell? ⟨g, 5, none⟩ = some (.bool b) ∧ W.cell? ⟨g, 6, none⟩ = some (.int .i64 t.slots) ∧ W.cell? ⟨g, 7, none⟩ = some (.bool j) :=
  ⟨(by rw [h.cell 5, ← e]; rfl), h.cell 6, (by rw [h.cell 7, ← e2]; rfl)⟩
theorem may_place0 {W : World} {g : Nat} {t : Ad.T} {b : Bool} (h : TmAt W g t) (e : t.d0 = b) : W.cell? ⟨g, 8, none⟩ = some (.bool b) ∧ W.cell? ⟨g, 12, none⟩ = some (.int .u8 (t.n0.a.toNat : Int)) ∧ W.cell? ⟨g, 13, none⟩ = some (.int .u8 (t.n0.b.toNat : Int)) ∧ W.cell? ⟨g, 14, none⟩ = some (.int .u8 (t.n0.c.toNat : Int)) ∧ W.cell? ⟨g, 15, none⟩ = some (.int .u8 (t.n0.d.toNat : Int)) :=
  ⟨(by rw [h.cell 8, ← e]; rfl), h.cell 12, h.cell 13, h.cell 14, h.cell 15⟩
theorem may_place1 {W : World} {g : Nat} {t : Ad.T} {b : Bool} (h : TmAt W g t) (e : t.d1 = b) : W.cell? ⟨g, 9, none⟩ = some (.bool b) ∧ W.cell? ⟨g, 16, none⟩ = some (.int .u8 (t.n1.a.toNat : Int)) ∧ W.cell? ⟨g, 17, none⟩ = some (.int .u8 (t.n1.b.toNat : Int)) ∧ W.cell? ⟨g, 18, none⟩ = some (.int .u8 (t.n1.c.toNat : Int)) ∧ W.cell? ⟨g, 19, none⟩ = some (.int .u8 (t.n1.d.toNat : Int)) :=
  ⟨(by rw [h.cell 9, ← e]; rfl), h.cell 16, h.cell 17, h.cell 18, h.cell 19⟩
theorem may_place2 {W : World} {g : Nat} {t : Ad.T} {b : Bool} (h : TmAt W g t) (e : t.d2 = b) : W.cell? ⟨g, 10, none⟩ = some (.bool b) ∧ W.cell? ⟨g, 20, none⟩ = some (.int .u8 (t.n2.a.toNat : Int)) ∧ W.cell? ⟨g, 21, none⟩ = some (.int .u8 (t.n2.b.toNat : Int)) ∧ W.cell? ⟨g, 22, none⟩ = some (.int .u8 (t.n2.c.toNat : Int)) ∧ W.cell? ⟨g, 23, none⟩ = some (.int .u8 (t.n2.d.toNat : Int)) :=
  ⟨(by rw [h.cell 10, ← e]; rfl), h.cell 20, h.cell 21, h.cell 22, h.cell 23⟩
theorem may_place3 {W : World} {g : Nat} {t : Ad.T} {b : Bool} (h : TmAt W g t) (e : t.d3 = b) : W.cell? ⟨g, 11, none⟩ = some (.bool b) ∧ W.cell? ⟨g, 24, none⟩ = some (.int .u8 (t.n3.a.toNat : Int)) ∧ W.cell? ⟨g, 25, none⟩ = some (.int .u8 (t.n3.b.toNat : Int)) ∧ W.cell? ⟨g, 26, none⟩ = some (.int .u8 (t.n3.c.toNat : Int)) ∧ W.cell? ⟨g, 27, none⟩ = some (.int .u8 (t.n3.d.toNat : Int)) :=
  ⟨(by rw [h.cell 11, ← e]; rfl), h.cell 24, h.cell 25, h.cell 26, h.cell 27⟩
theorem eq4_none (x : Ad.B4) {b : Bool} (e : decide (x = Ad.o4) = b) (W : World) : (Op.equalIn 10000 30 (.agg #[.int .u8 (x.a.toNat : Int), .int .u8 (x.b.toNat : Int), .int .u8 (x.c.toNat : Int), .int .u8 (x.d.toNat : Int)]) (.agg #[.int .u8 0, .int .u8 0, .int .u8 0, .int .u8 0])).run Try.prog W = .ok b W := by
  rw [← e]; exact eq4 9998 x Ad.o4 W
theorem eq8_none (x : Ad.B8) {b : Bool} (e : decide (x = Ad.o8) = b) (W : World) : (Op.equalIn 10000 33 (.agg #[.int .u8 (x.a.toNat : Int), .int .u8 (x.b.toNat : Int), .int .u8 (x.c.toNat : Int), .int .u8 (x.d.toNat : Int), .int .u8 (x.e.toNat : Int), .int .u8 (x.f.toNat : Int), .int .u8 (x.g.toNat : Int), .int .u8 (x.h.toNat : Int)]) (.agg #[.int .u8 0, .int .u8 0, .int .u8 0, .int .u8 0, .int .u8 0, .int .u8 0, .int .u8 0, .int .u8 0])).run Try.prog W = .ok b W := by
  rw [← e]; exact eq8 9998 x Ad.o8 W

theorem Ad.dns_t0 {t : Ad.T} (_ : Ad.dnsOk t 0 = true) (e : t.d0 = true) : Ad.dnsOk t 1 = true := by simp [Ad.dnsOk, e]
theorem Ad.dns_n0 {t : Ad.T} (_ : Ad.dnsOk t 0 = true) (e : decide (t.n0 = Ad.o4) = true) : Ad.dnsOk t 1 = true := by have e := of_decide_eq_true e; simp [Ad.dnsOk, e]
theorem Ad.dns_f0 {t : Ad.T} (e1 : t.d0 = false) (e2 : decide (t.n0 = Ad.o4) = false) : Ad.dnsOk t 4 = false := by have e2 := of_decide_eq_false e2; simp [Ad.dnsOk, e1, e2]
theorem Ad.dns_t1 {t : Ad.T} (h : Ad.dnsOk t 1 = true) (e : t.d1 = true) : Ad.dnsOk t 2 = true := by simp [Ad.dnsOk] at h ⊢; simp [h, e]
theorem Ad.dns_n1 {t : Ad.T} (h : Ad.dnsOk t 1 = true) (e : decide (t.n1 = Ad.o4) = true) : Ad.dnsOk t 2 = true := by have e := of_decide_eq_true e; simp [Ad.dnsOk] at h ⊢; simp [h, e]
theorem Ad.dns_f1 {t : Ad.T} (e1 : t.d1 = false) (e2 : decide (t.n1 = Ad.o4) = false) : Ad.dnsOk t 4 = false := by have e2 := of_decide_eq_false e2; simp [Ad.dnsOk, e1, e2]
theorem Ad.dns_t2 {t : Ad.T} (h : Ad.dnsOk t 2 = true) (e : t.d2 = true) : Ad.dnsOk t 3 = true := by simp [Ad.dnsOk] at h ⊢; simp [h, e]
theorem Ad.dns_n2 {t : Ad.T} (h : Ad.dnsOk t 2 = true) (e : decide (t.n2 = Ad.o4) = true) : Ad.dnsOk t 3 = true := by have e := of_decide_eq_true e; simp [Ad.dnsOk] at h ⊢; simp [h, e]
theorem Ad.dns_f2 {t : Ad.T} (e1 : t.d2 = false) (e2 : decide (t.n2 = Ad.o4) = false) : Ad.dnsOk t 4 = false := by have e2 := of_decide_eq_false e2; simp [Ad.dnsOk, e1, e2]
theorem Ad.dns_t3 {t : Ad.T} (h : Ad.dnsOk t 3 = true) (e : t.d3 = true) : Ad.dnsOk t 4 = true := by simp [Ad.dnsOk] at h ⊢; simp [h, e]
theorem Ad.dns_n3 {t : Ad.T} (h : Ad.dnsOk t 3 = true) (e : decide (t.n3 = Ad.o4) = true) : Ad.dnsOk t 4 = true := by have e := of_decide_eq_true e; simp [Ad.dnsOk] at h ⊢; simp [h, e]
theorem Ad.dns_f3 {t : Ad.T} (e1 : t.d3 = false) (e2 : decide (t.n3 = Ad.o4) = false) : Ad.dnsOk t 4 = false := by have e2 := of_decide_eq_false e2; simp [Ad.dnsOk, e1, e2]
set_option maxRecDepth 100000 in
set_option maxHeartbeats 4000000 in
theorem may_four (t : Ad.T) (w : World) :
    Calls Try.prog 18 #[.int .i64 32801, .agg (acells t).toArray] w fun e w' => e = .returned (.bool (Ad.may 32801 t)) ∧ Below w.heap.size w w' := by
  obtain ⟨Z, hZ⟩ : ∃ Z, Ad.may 32801 t = Z := ⟨_, rfl⟩
  rw [hZ]
  have HZ := Lib.hid (hZ.symm.trans (Ad.may4_eq t))
  clear hZ
  have hg4 := guard4
  have hg8 := guard8
  have H1 : TmAt (w.alloc (.cells (acells t).toArray 35)) w.heap.size t := heap_alloc_new w _
  have H2 : TmAt ((w.alloc (.cells (acells t).toArray 35)).alloc (.cells (acells Ad.z).toArray 35)) (w.heap.size + 1) Ad.z := heap_alloc2_new w _ _
  have H0 : TmAt ((w.alloc (.cells (acells t).toArray 35)).alloc (.cells (acells Ad.z).toArray 35)) w.heap.size t := heap_alloc2_old w _ _
  have bb := Below.chain (below_one w (.cells (acells t).toArray 35)) (below_one (w.alloc (.cells (acells t).toArray 35)) (.cells (acells Ad.z).toArray 35))
  have A3 : TmAt (((w.alloc (.cells (acells t).toArray 35)).alloc (.cells (acells Ad.z).toArray 35)).setRow (w.heap.size + 1) (acells t).toArray) w.heap.size t := H0.kept (grown_setRow _ (w.heap.size + 1) _) (by omega)
  have T3 : TmAt (((w.alloc (.cells (acells t).toArray 35)).alloc (.cells (acells Ad.z).toArray 35)).setRow (w.heap.size + 1) (acells t).toArray) (w.heap.size + 1) t := H2.put _ rfl
  have B3 := below_setRow bb (Nat.le_succ _) (acells t).toArray (g := w.heap.size + 1)
  have c28 : (((w.alloc (.cells (acells t).toArray 35)).alloc (.cells (acells Ad.z).toArray 35)).setRow (w.heap.size + 1) (acells t).toArray).cell? ⟨w.heap.size + 1, 28, none⟩ = some (.bool t.hasId) := T3.cell 28
  have f28 := T3.frozen 28
  have T4 := Lib.hid (T3.set 28 (.bool false) { t with hasId := false } rfl)
  have A4 := Lib.hid (A3.kept (grown_cell _ (w.heap.size + 1) 28 (.bool false)) (by omega))
  have B4 := Lib.hid (B3.setCell (p := ⟨w.heap.size + 1, 28, none⟩) (Nat.le_succ _) (.bool false))
  clear H0 bb A3 T3 B3
  go_enter Try.func18, Try.ntmps18
  go_upto_region 6 with (first
    | (refine wpList_load_row rfl 35 (.tmp 3) rfl w.heap.size rfl 35 (acells t).toArray (0, 0) _ H1 Try.underlying35 rfl infoAd ?_)
    | (refine wpList_store_ad rfl _ _ rfl (w.heap.size + 1) t _ rfl rfl H2 rfl ?_; show wpList _ _ _ _ _ (((w.alloc (.cells (acells t).toArray 35)).alloc (.cells (acells Ad.z).toArray 35)).setRow (w.heap.size + 1) (acells t).toArray); generalize ((w.alloc (.cells (acells t).toArray 35)).alloc (.cells (acells Ad.z).toArray 35)).setRow (w.heap.size + 1) (acells t).toArray = w3 at *)
    | (refine wpList_store_eight rfl _ _ rfl (w.heap.size + 1) 29 { t with hasId := false } (Ad.six t) Ad.o8 rfl rfl T4.out (by omega) rfl ?_; intro w5 T5 g5; have A5 := Lib.hid (A4.out.kept g5 (by omega)); have B5 := Lib.hid (Below.grown B4.out g5 B4.out.size (fun k e => by cases e; omega))))
  clear g5 T5
  go_cut [36] from 25 (fun v wx => v = .bool (!Ad.mayA t) ∧ wx = w5)
  case first =>
    cases hi : t.hasId with
    | true =>
      obtain ⟨x28, x29, x30, x31, x32, x33, x34, x35, x36⟩ := may_id A5.out hi
      have hA : Ad.mayA t = false := by unfold Ad.mayA; rw [hi]; rfl
      have HA := Lib.hid hA
      clear hi hA
      go_wp2
      go_meet
      case rel => exact ⟨by rw [HA.out]; rfl, rfl⟩
    | false =>
      obtain ⟨x28, x29, x30, x31, x32, x33, x34, x35, x36⟩ := may_id A5.out hi
      cases hz : decide (t.id = Ad.o8) with
      | true =>
        have h8 := eq8_none t.id hz
        have hA : Ad.mayA t = true := by unfold Ad.mayA; rw [hi, hz]; rfl
        have HA := Lib.hid hA
        clear hi hA hz
        go_wp2
        go_meet
        case rel => exact ⟨by rw [HA.out]; rfl, rfl⟩
      | false =>
        have h8 := eq8_none t.id hz
        have hA : Ad.mayA t = false := by unfold Ad.mayA; rw [hi, hz]; rfl
        have HA := Lib.hid hA
        clear hi hA hz
        go_wp2
        go_meet
        case rel => exact ⟨by rw [HA.out]; rfl, rfl⟩
  case rest =>
    obtain ⟨hu, hwc⟩ := hcut
    subst hu
    subst hwc
    cases hA : Ad.mayA t with
    | false =>
      have hZ : Z = false := by rw [HZ.out, hA]; rfl
      subst hZ
      clear HZ hA
      go_wp2
      go_ret
      exact ⟨rfl, B5.out⟩
    | true =>
      have hz := HZ.out
      rw [hA, Bool.true_and] at hz
      have HZB := Lib.hid hz
      clear HZ hz hA
      go_upto_region 8 with fail
      go_cut [69] from 37 (fun v wx => v = .bool (!Ad.mayB t) ∧ wx = wc)
      case first =>
        cases ebi : t.hasIp with
        | true =>
          obtain ⟨y0, _, _, _, _⟩ := may_ip A5.out ebi
          cases ebv : t.hasVj with
          | true =>
            obtain ⟨z5, z6, _⟩ := may_vj A5.out ebv rfl
            by_cases hs0 : t.slots < 0
            · have d1 := decide_eq_false (show ¬ 0 ≤ t.slots by omega)
              have hB : Ad.mayB t = false := by unfold Ad.mayB; rw [d1]; simp
              have HB := Lib.hid hB
              clear hB ebi ebv d1
              go_wp2
              go_meet
              case rel => exact ⟨by rw [HB.out]; rfl, rfl⟩
            · by_cases hs1 : 255 < t.slots
              · have d2 := decide_eq_false (show ¬ t.slots ≤ 255 by omega)
                have hB : Ad.mayB t = false := by unfold Ad.mayB; rw [d2]; simp
                have HB := Lib.hid hB
                clear hB ebi ebv d2
                go_wp2
                go_meet
                case rel => exact ⟨by rw [HB.out]; rfl, rfl⟩
              · have d1 := decide_eq_true (show 0 ≤ t.slots by omega)
                have d2 := decide_eq_true (show t.slots ≤ 255 by omega)
                have hB : Ad.mayB t = true := by unfold Ad.mayB; rw [ebi]; rw [ebv]; rw [d1, d2]; simp
                have HB := Lib.hid hB
                clear hB ebi ebv d1 d2
                go_wp2
                go_meet
                case rel => exact ⟨by rw [HB.out]; rfl, rfl⟩
          | false =>
            by_cases h0 : t.slots = 0
            · have e6 : (t.slots != 0) = false := by simp [h0]
              have e0 := decide_eq_true h0
              cases ebj : t.vjId with
              | true =>
                obtain ⟨z5, z6, z7⟩ := may_vj A5.out ebv ebj
                clear h0
                have hB : Ad.mayB t = false := by unfold Ad.mayB; rw [ebv, ebj]; simp
                have HB := Lib.hid hB
                clear hB ebi ebv ebj e0
                go_wp2
                go_meet
                case rel => exact ⟨by rw [HB.out]; rfl, rfl⟩
              | false =>
                obtain ⟨z5, z6, z7⟩ := may_vj A5.out ebv ebj
                have hs0 : ¬ t.slots < 0 := by omega
                have hs1 : ¬ 255 < t.slots := by omega
                have d1 := decide_eq_true (show 0 ≤ t.slots by omega)
                have d2 := decide_eq_true (show t.slots ≤ 255 by omega)
                clear h0
                have hB : Ad.mayB t = true := by unfold Ad.mayB; rw [ebi]; rw [ebv, ebj, e0, d1, d2]; simp
                have HB := Lib.hid hB
                clear hB ebi ebv ebj e0 d1 d2
                go_wp2
                go_meet
                case rel => exact ⟨by rw [HB.out]; rfl, rfl⟩
            · have e6 : (t.slots != 0) = true := by simp [h0]
              have e0 := decide_eq_false h0
              obtain ⟨z5, z6, _⟩ := may_vj A5.out ebv rfl
              clear h0
              have hB : Ad.mayB t = false := by unfold Ad.mayB; rw [ebv, e0]; simp
              have HB := Lib.hid hB
              clear hB ebi ebv e0
              go_wp2
              go_meet
              case rel => exact ⟨by rw [HB.out]; rfl, rfl⟩
        | false =>
          obtain ⟨y0, y1, y2, y3, y4⟩ := may_ip A5.out ebi
          cases ep : decide (t.ip = Ad.o4) with
          | true =>
            have h4 := eq4_none t.ip ep
            cases ebv : t.hasVj with
            | true =>
              obtain ⟨z5, z6, _⟩ := may_vj A5.out ebv rfl
              by_cases hs0 : t.slots < 0
              · have d1 := decide_eq_false (show ¬ 0 ≤ t.slots by omega)
                have hB : Ad.mayB t = false := by unfold Ad.mayB; rw [d1]; simp
                have HB := Lib.hid hB
                clear hB ebi ep ebv d1
                go_wp2
                go_meet
                case rel => exact ⟨by rw [HB.out]; rfl, rfl⟩
              · by_cases hs1 : 255 < t.slots
                · have d2 := decide_eq_false (show ¬ t.slots ≤ 255 by omega)
                  have hB : Ad.mayB t = false := by unfold Ad.mayB; rw [d2]; simp
                  have HB := Lib.hid hB
                  clear hB ebi ep ebv d2
                  go_wp2
                  go_meet
                  case rel => exact ⟨by rw [HB.out]; rfl, rfl⟩
                · have d1 := decide_eq_true (show 0 ≤ t.slots by omega)
                  have d2 := decide_eq_true (show t.slots ≤ 255 by omega)
                  have hB : Ad.mayB t = true := by unfold Ad.mayB; rw [ebi, ep]; rw [ebv]; rw [d1, d2]; simp
                  have HB := Lib.hid hB
                  clear hB ebi ep ebv d1 d2
                  go_wp2
                  go_meet
                  case rel => exact ⟨by rw [HB.out]; rfl, rfl⟩
            | false =>
              by_cases h0 : t.slots = 0
              · have e6 : (t.slots != 0) = false := by simp [h0]
                have e0 := decide_eq_true h0
                cases ebj : t.vjId with
                | true =>
                  obtain ⟨z5, z6, z7⟩ := may_vj A5.out ebv ebj
                  clear h0
                  have hB : Ad.mayB t = false := by unfold Ad.mayB; rw [ebv, ebj]; simp
                  have HB := Lib.hid hB
                  clear hB ebi ep ebv ebj e0
                  go_wp2
                  go_meet
                  case rel => exact ⟨by rw [HB.out]; rfl, rfl⟩
                | false =>
                  obtain ⟨z5, z6, z7⟩ := may_vj A5.out ebv ebj
                  have hs0 : ¬ t.slots < 0 := by omega
                  have hs1 : ¬ 255 < t.slots := by omega
                  have d1 := decide_eq_true (show 0 ≤ t.slots by omega)
                  have d2 := decide_eq_true (show t.slots ≤ 255 by omega)
                  clear h0
                  have hB : Ad.mayB t = true := by unfold Ad.mayB; rw [ebi, ep]; rw [ebv, ebj, e0, d1, d2]; simp
                  have HB := Lib.hid hB
                  clear hB ebi ep ebv ebj e0 d1 d2
                  go_wp2
                  go_meet
                  case rel => exact ⟨by rw [HB.out]; rfl, rfl⟩
              · have e6 : (t.slots != 0) = true := by simp [h0]
                have e0 := decide_eq_false h0
                obtain ⟨z5, z6, _⟩ := may_vj A5.out ebv rfl
                clear h0
                have hB : Ad.mayB t = false := by unfold Ad.mayB; rw [ebv, e0]; simp
                have HB := Lib.hid hB
                clear hB ebi ep ebv e0
                go_wp2
                go_meet
                case rel => exact ⟨by rw [HB.out]; rfl, rfl⟩
          | false =>
            have h4 := eq4_none t.ip ep
            have hB : Ad.mayB t = false := by unfold Ad.mayB; rw [ebi, ep]; simp
            have HB := Lib.hid hB
            clear hB ebi ep
            go_wp2
            go_meet
            case rel => exact ⟨by rw [HB.out]; rfl, rfl⟩
      case rest =>
        obtain ⟨hu, hwc⟩ := hcut
        subst hu
        subst hwc
        cases hB : Ad.mayB t with
        | false =>
          have hZ : Z = false := by rw [HZB.out, hB]; rfl
          subst hZ
          clear HZB hB
          go_wp2
          go_ret
          exact ⟨rfl, B5.out⟩
        | true =>
          have hz := HZB.out
          rw [hB, Bool.true_and] at hz
          have HZC := Lib.hid hz
          clear HZB hz hB
          go_wp2_with fail
          go_loopw [6] (fun i wr => ∃ k : Nat, i = .int .i64 (k : Int) ∧ k ≤ 4 ∧ Hid (Ad.dnsOk t k = true) ∧ wr = wc) (fun i _ => 4 - (intOf i).toNat)
          case atStart => exact ⟨0, rfl, by omega, rfl, rfl⟩
          case round =>
            obtain ⟨k, rfl, hk, HD, hw⟩ := hrel
            rw [← hw] at A5 B5
            have HW := Lib.hid hw
            clear hw H1 H2 c28 f28 T4 A4 B4
            by_cases hlt : (k : Int) < 4
            · have hk4 : k = 0 ∨ k = 1 ∨ k = 2 ∨ k = 3 := by omega
              clear hlt hk
              rcases hk4 with rfl | rfl | rfl | rfl
              · skip
                cases eb : t.d0 with
                | true =>
                  obtain ⟨y0, _, _, _, _⟩ := may_place0 A5.out eb
                  have HD2 : Hid (Ad.dnsOk t 1 = true) := Ad.dns_t0 HD.out eb
                  clear eb HD
                  go_wp2
                  go_roundw
                  case rel => exact ⟨1, rfl, by omega, HD2.out, HW.out⟩
                  case measure => simp [intOf]
                | false =>
                  obtain ⟨y0, y1, y2, y3, y4⟩ := may_place0 A5.out eb
                  cases en : decide (t.n0 = Ad.o4) with
                  | true =>
                    have h4 := eq4_none t.n0 en
                    have HD2 : Hid (Ad.dnsOk t 1 = true) := Ad.dns_n0 HD.out en
                    clear eb en HD
                    go_wp2
                    go_roundw
                    case rel => exact ⟨1, rfl, by omega, HD2.out, HW.out⟩
                    case measure => simp [intOf]
                  | false =>
                    have h4 := eq4_none t.n0 en
                    have hZ : Z = false := by rw [HZC.out, Ad.dns_f0 eb en]
                    subst hZ
                    clear eb en HD HZC
                    go_wp2
                    go_ret
                    exact ⟨rfl, B5.out⟩
              · skip
                cases eb : t.d1 with
                | true =>
                  obtain ⟨y0, _, _, _, _⟩ := may_place1 A5.out eb
                  have HD2 : Hid (Ad.dnsOk t 2 = true) := Ad.dns_t1 HD.out eb
                  clear eb HD
                  go_wp2
                  go_roundw
                  case rel => exact ⟨2, rfl, by omega, HD2.out, HW.out⟩
                  case measure => simp [intOf]
                | false =>
                  obtain ⟨y0, y1, y2, y3, y4⟩ := may_place1 A5.out eb
                  cases en : decide (t.n1 = Ad.o4) with
                  | true =>
                    have h4 := eq4_none t.n1 en
                    have HD2 : Hid (Ad.dnsOk t 2 = true) := Ad.dns_n1 HD.out en
                    clear eb en HD
                    go_wp2
                    go_roundw
                    case rel => exact ⟨2, rfl, by omega, HD2.out, HW.out⟩
                    case measure => simp [intOf]
                  | false =>
                    have h4 := eq4_none t.n1 en
                    have hZ : Z = false := by rw [HZC.out, Ad.dns_f1 eb en]
                    subst hZ
                    clear eb en HD HZC
                    go_wp2
                    go_ret
                    exact ⟨rfl, B5.out⟩
              · skip
                cases eb : t.d2 with
                | true =>
                  obtain ⟨y0, _, _, _, _⟩ := may_place2 A5.out eb
                  have HD2 : Hid (Ad.dnsOk t 3 = true) := Ad.dns_t2 HD.out eb
                  clear eb HD
                  go_wp2
                  go_roundw
                  case rel => exact ⟨3, rfl, by omega, HD2.out, HW.out⟩
                  case measure => simp [intOf]
                | false =>
                  obtain ⟨y0, y1, y2, y3, y4⟩ := may_place2 A5.out eb
                  cases en : decide (t.n2 = Ad.o4) with
                  | true =>
                    have h4 := eq4_none t.n2 en
                    have HD2 : Hid (Ad.dnsOk t 3 = true) := Ad.dns_n2 HD.out en
                    clear eb en HD
                    go_wp2
                    go_roundw
                    case rel => exact ⟨3, rfl, by omega, HD2.out, HW.out⟩
                    case measure => simp [intOf]
                  | false =>
                    have h4 := eq4_none t.n2 en
                    have hZ : Z = false := by rw [HZC.out, Ad.dns_f2 eb en]
                    subst hZ
                    clear eb en HD HZC
                    go_wp2
                    go_ret
                    exact ⟨rfl, B5.out⟩
              · skip
                cases eb : t.d3 with
                | true =>
                  obtain ⟨y0, _, _, _, _⟩ := may_place3 A5.out eb
                  have HD2 : Hid (Ad.dnsOk t 4 = true) := Ad.dns_t3 HD.out eb
                  clear eb HD
                  go_wp2
                  go_roundw
                  case rel => exact ⟨4, rfl, by omega, HD2.out, HW.out⟩
                  case measure => simp [intOf]
                | false =>
                  obtain ⟨y0, y1, y2, y3, y4⟩ := may_place3 A5.out eb
                  cases en : decide (t.n3 = Ad.o4) with
                  | true =>
                    have h4 := eq4_none t.n3 en
                    have HD2 : Hid (Ad.dnsOk t 4 = true) := Ad.dns_n3 HD.out en
                    clear eb en HD
                    go_wp2
                    go_roundw
                    case rel => exact ⟨4, rfl, by omega, HD2.out, HW.out⟩
                    case measure => simp [intOf]
                  | false =>
                    have h4 := eq4_none t.n3 en
                    have hZ : Z = false := by rw [HZC.out, Ad.dns_f3 eb en]
                    subst hZ
                    clear eb en HD HZC
                    go_wp2
                    go_ret
                    exact ⟨rfl, B5.out⟩
            · obtain rfl : k = 4 := by omega
              have hZ : Z = true := by rw [HZC.out, HD.out]
              subst hZ
              clear HZC HD
              go_wp2
              go_ret
              exact ⟨rfl, B5.out⟩
theorem may_any (P : Int) (t : Ad.T) (w : World) : Calls Try.prog 18 #[.int .i64 P, .agg (acells t).toArray] w fun e w' => e = .returned (.bool (Ad.may P t)) ∧ Below w.heap.size w w' := by
  by_cases h1 : P = 32855
  · subst h1; exact may_six t w
  · by_cases h2 : P = 32801
    · subst h2; exact may_four t w
    · exact may_other P t w h1 h2
end Go.Proofs.Ytacnlancncmpmaa
