/- Contracts of fill, vjData, tellVj. -/
import Derived.Test.YtacnlancncmpmaaTa
namespace Go.Proofs.Ytacnlancncmpmaa
open Go.RowKit S2 S12

theorem infoByte : (Try.prog.info? 5).map (·.size) = some 1 := by kernel_rfl
theorem fill_no (p q : Option Addr) (n cap m c : Nat) (w : World) (h : m ≠ n) :
    Calls Try.prog 32 #[.slice p n cap, .slice q m c] w fun e w' => e = .returned (.bool false) ∧ w' = w := by
  have i1 : ((m : Int) != (n : Int)) = true := by simp; omega
  clear h
  go_enter Try.func32, Try.ntmps32
  go_wp2
  go_ret
  exact ⟨rfl, rfl⟩
theorem fill_yes (g o n cap c : Nat) (q : Option Addr) (ys : List UInt8) (cur : List Value) (T : TypeId) (w : World) (hn : ys.length = n) (h0 : 0 < n) (hg : w.heap[g]? = some (.cells cur.toArray T (0, 0))) (hfit : o + n ≤ cur.length) (hr : RowAt w q c ys) :
    Calls Try.prog 32 #[.slice (some ⟨g, o, none⟩) n cap, .slice q n c] w fun e w' => e = .returned (.bool true) ∧ w' = w.setRow g (cur.take o ++ (Lib.byteCells ys ++ cur.drop (o + n))).toArray := by
  obtain ⟨b, off, rfl⟩ := hr.some (by omega)
  have hl : (Lib.byteCells ys).length = n := by rw [Lib.byteCells_length, hn]
  have HG := Lib.hid hg
  have HR := Lib.hid (hr.cell _ rfl)
  have HL := Lib.hid hl
  have HF := Lib.hid hfit
  have H1 := Lib.hid (cells_one ys)
  generalize Lib.byteCells ys = cs at *
  clear hg hr hl hfit h0 hn
  go_enter Try.func32, Try.ntmps32
  go_wp2_with (refine wpList_copy_own rfl (.tmp 10) (.tmp 11) 22 22 rfl 5 Try.underlying22 infoByte g o n cap ⟨b, off, none⟩ n c rfl rfl cur.toArray T HG.out cs (by rw [HL.out]; exact (Nat.min_self n).symm) HR.out (by have := HF.out; have := HL.out; simp; omega) H1.out ?_; rw [HL.out])
  go_ret
  exact ⟨rfl, rfl⟩

/-- What the bytes of compression are, told again. -/
def vj4 (s : UInt8) (b : Bool) : Ad.B4 := ⟨0, 45, s, if b then 1 else 0⟩
theorem vj_fits (y : Ad.B4) : decide (y = vj4 y.c (decide (y.d = 1))) = Ad.fits 2 y.list := by
  have e : Ad.fits 2 y.list = decide (y.a = 0 ∧ y.b = 45 ∧ y.d.toNat < 2) := rfl
  rw [e]
  refine decide_eq_decide.2 ?_
  obtain ⟨a, b, c, d⟩ := y
  simp only [vj4, Ad.B4.mk.injEq, true_and]
  refine and_congr_right fun _ => and_congr_right fun _ => ?_
  by_cases h : d = 1
  · subst h; simp
  · simp only [h, decide_false, Bool.false_eq_true, if_false]
    constructor
    · rintro rfl; decide
    · intro h2
      have : d.toNat ≠ 1 := fun e => h (UInt8.toNat_inj.1 (by simpa using e))
      exact UInt8.toNat_inj.1 (by simp; omega)
theorem vjD_list (s : Int) (i : Bool) : Ad.vjD s i = (vj4 (Ad.low s) i).list := rfl
set_option maxRecDepth 100000 in
theorem vjData_any (s : UInt8) (b : Bool) (w : World) :
    Calls Try.prog 35 #[.int .u8 (s.toNat : Int), .bool b] w fun e w' => e = .returned (.agg (cells4 (vj4 s b)).toArray) ∧ Below w.heap.size w w' := by
  simp only [cells4, vj4]
  cases b with
  | true =>
    go_enter Try.func35, Try.ntmps35
    go_wp2
    exact bodyPost_ret (results_cell_row Try.results35 _ _ w.heap.size 30 _ (0, 0) _ rfl (heap_alloc2_old w _ _) Try.underlying30 rfl info4) rfl ⟨rfl, Below.chain (below_one w _) (below_one _ _)⟩
  | false =>
    go_enter Try.func35, Try.ntmps35
    go_wp2
    exact bodyPost_ret (results_cell_row Try.results35 _ _ w.heap.size 30 _ (0, 0) _ rfl (heap_alloc2_old w _ _) Try.underlying30 rfl info4) rfl ⟨rfl, Below.chain (below_one w _) (below_one _ _)⟩
/-- What a reader tells, and leaves. -/
def RdRes (w w' : World) (e : Ending) (g : Nat) (t : Ad.T) (x : Ot.O) (b : Bool) : Prop :=
  e = .returned (.bool b) ∧ w.grownBy w' (some g) ∧ ∃ t', TmAt w' g t' ∧ (b = true → t' = Ad.put1 t x)
theorem guard4 : Try.prog.eqGuardType Try.prog.depth 30 = false := by kernel_rfl
theorem guard8 : Try.prog.eqGuardType Try.prog.depth 33 = false := by kernel_rfl
theorem guardAd : Try.prog.eqGuardType Try.prog.depth 35 = false := by kernel_rfl
theorem grown_next {w w1 w2 : World} {g : Nat} (h : w.grownBy w1 (some g)) (b : Below w1.heap.size w1 w2) : w.grownBy w2 (some g) := grown_trans h (grown_below b _)
/-- A fresh block is written, and then some that were there. -/
theorem grown_fresh {w w1 : World} (h : Below w.heap.size w w1) (g : Nat) : w.grownBy w1 (some g) := grown_below h _
set_option maxRecDepth 100000 in
set_option maxHeartbeats 1000000 in
theorem tellVj_any (g : Nat) (t : Ad.T) (q : Option Addr) (m c : Nat) (xs : List UInt8) (w : World) (hm : xs.length = m) (h : RowAt w q c xs) (hT : TmAt w g t) :
    Calls Try.prog 33 #[.pointer (some ⟨g, 0, none⟩), .slice q m c] w fun e w' => RdRes w w' e g t ⟨2, xs⟩ (Ad.fits 2 xs) := by
  have hgl := hT.lt
  have b1 := below_one w (.cells #[.int .u8 0, .int .u8 0, .int .u8 0, .int .u8 0] 30)
  have hg1 := heap_alloc_new w (.cells #[.int .u8 0, .int .u8 0, .int .u8 0, .int .u8 0] 30)
  by_cases h4 : m = 4
  · subst h4
    obtain ⟨y, rfl⟩ := Ad.four_of hm
    rw [← vj_fits]
    have c1 := fill_yes w.heap.size 0 4 4 c q y.list [.int .u8 0, .int .u8 0, .int .u8 0, .int .u8 0] 30 (w.alloc (.cells #[.int .u8 0, .int .u8 0, .int .u8 0, .int .u8 0] 30)) rfl (by omega) hg1 (by decide) (h.next b1)
    rw [show (([.int .u8 0, .int .u8 0, .int .u8 0, .int .u8 0] : List Value).take 0 ++ (Lib.byteCells y.list ++ List.drop (0 + 4) [.int .u8 0, .int .u8 0, .int .u8 0, .int .u8 0])) = cells4 y from rfl] at c1
    have C1 := Lib.hid c1
    have b2 : Below w.heap.size w ((w.alloc (.cells #[.int .u8 0, .int .u8 0, .int .u8 0, .int .u8 0] 30)).setRow w.heap.size (cells4 y).toArray) := below_setRow b1 (Nat.le_refl _) _
    have G2 : Hid (((w.alloc (.cells #[.int .u8 0, .int .u8 0, .int .u8 0, .int .u8 0] 30)).setRow w.heap.size (cells4 y).toArray).heap[w.heap.size]? = some (.cells (cells4 y).toArray 30 (0, 0))) := setRow_heap _ _ _ _ _ _ hg1
    have T2 := Lib.hid (hT.next b2)
    have B2 := Lib.hid b2
    have s2 : ((w.alloc (.cells #[.int .u8 0, .int .u8 0, .int .u8 0, .int .u8 0] 30)).setRow w.heap.size (cells4 y).toArray).heap.size = w.heap.size + 1 := by simp
    clear c1 b1 b2 hg1 h hm hT
    go_enter Try.func33, Try.ntmps33
    go_wp2_with fail
    refine C1.out.mono ?_
    rintro e w2 ⟨rfl, h2⟩
    rw [← h2] at G2 T2 B2 s2
    clear h2 C1
    have kc : ∀ j, (w2.drewN j).cell? ⟨w.heap.size, 2, none⟩ = some (.int .u8 (y.c.toNat : Int)) := fun _ => cell_of_row _ _ _ _ _ _ G2.out
    have kd : ∀ j, (w2.drewN j).cell? ⟨w.heap.size, 3, none⟩ = some (.int .u8 (y.d.toNat : Int)) := fun _ => cell_of_row _ _ _ _ _ _ G2.out
    have hyc := UInt8.toNat_lt y.c
    have hw1 : IntKind.i64.wrap (y.c.toNat : Int) = (y.c.toNat : Int) := by rw [IntKind.wrap_i64]; omega
    go_wp2
    go_quiet (fail)
    have b3 := keeps_below (Below.refl w2.heap.size w2) nq
    have T3 := T2.out.next b3
    have G3 := block_next G2.out b3
    have B3 := Below.chain B2.out b3
    generalize w2.drewN nq = w3 at *
    have c5 : w3.cell? ⟨g, 5, none⟩ = some (.bool t.hasVj) := T3.cell 5
    have f5 := T3.frozen 5
    have T4 := T3.set 5 (.bool true) { t with hasVj := true } rfl
    have c6 : (w3.setCell ⟨g, 5, none⟩ (.bool true)).cell? ⟨g, 6, none⟩ = some (.int .i64 t.slots) := T4.cell 6
    have f6 := T4.frozen 6
    have T5 := T4.set 6 (.int .i64 (y.c.toNat : Int)) { t with hasVj := true, slots := (y.c.toNat : Nat) } rfl
    have c7 : ((w3.setCell ⟨g, 5, none⟩ (.bool true)).setCell ⟨g, 6, none⟩ (.int .i64 (y.c.toNat : Int))).cell? ⟨g, 7, none⟩ = some (.bool t.vjId) := T5.cell 7
    have f7 := T5.frozen 7
    have T6 := Lib.hid (T5.set 7 (.bool ((y.d.toNat : Int) == 1)) { t with hasVj := true, slots := (y.c.toNat : Nat), vjId := ((y.d.toNat : Int) == 1) } rfl)
    have G6 : Hid ((((w3.setCell ⟨g, 5, none⟩ (.bool true)).setCell ⟨g, 6, none⟩ (.int .i64 (y.c.toNat : Int))).setCell ⟨g, 7, none⟩ (.bool ((y.d.toNat : Int) == 1))).heap[w.heap.size]? = some (.cells (cells4 y).toArray 30 (0, 0))) := by
      show _ = _
      rw [heap_setCell_other _ _ _ _ (by show w.heap.size ≠ g; omega), heap_setCell_other _ _ _ _ (by show w.heap.size ≠ g; omega), heap_setCell_other _ _ _ _ (by show w.heap.size ≠ g; omega)]
      exact G3
    have R6 := Lib.hid (grown_trans (grown_trans (grown_trans (grown_below B3 (some g)) (grown_cell w3 g 5 (.bool true))) (grown_cell _ g 6 (.int .i64 (y.c.toNat : Int)))) (grown_cell _ g 7 (.bool ((y.d.toNat : Int) == 1))))
    have hbd : ((y.d.toNat : Int) == 1) = decide (y.d = 1) := eq_byte y.d 1
    have HBD := Lib.hid hbd
    clear b3 T3 G3 B3 T4 T5 T2 G2 B2 kc kd s2 hbd
    go_wp2
    have S6 := range_block G6.out
    have hs8 : w.heap.size < ((((w3.setCell ⟨g, 5, none⟩ (.bool true)).setCell ⟨g, 6, none⟩ (.int .i64 (y.c.toNat : Int))).setCell ⟨g, 7, none⟩ (.bool ((y.d.toNat : Int) == 1))).drew).heap.size := lt_of_block G6.out
    have D6 : ((((w3.setCell ⟨g, 5, none⟩ (.bool true)).setCell ⟨g, 6, none⟩ (.int .i64 (y.c.toNat : Int))).setCell ⟨g, 7, none⟩ (.bool ((y.d.toNat : Int) == 1))).drew).rangeAt w.heap.size 0 (cells4 y) := S6
    have T7 : Hid (TmAt (((w3.setCell ⟨g, 5, none⟩ (.bool true)).setCell ⟨g, 6, none⟩ (.int .i64 (y.c.toNat : Int))).setCell ⟨g, 7, none⟩ (.bool ((y.d.toNat : Int) == 1))).drew g _) := T6.out
    have R7 : Hid (w.grownBy (((w3.setCell ⟨g, 5, none⟩ (.bool true)).setCell ⟨g, 6, none⟩ (.int .i64 (y.c.toNat : Int))).setCell ⟨g, 7, none⟩ (.bool ((y.d.toNat : Int) == 1))).drew (some g)) := grown_next R6.out (Below.refl _ _).drew
    refine held_start (S := fun W => W.rangeAt w.heap.size 0 (cells4 y)) 6 (by kernel_rfl) rfl ?_
    generalize (((w3.setCell ⟨g, 5, none⟩ (.bool true)).setCell ⟨g, 6, none⟩ (.int .i64 (y.c.toNat : Int))).setCell ⟨g, 7, none⟩ (.bool ((y.d.toNat : Int) == 1))).drew = WD at *
    clear c5 f5 c6 f6 c7 f7 S6 T6 R6 G6
    refine held_take 0 (v := .agg (cells4 y).toArray) rfl (by kernel_rfl) (by kernel_rfl) (by kernel_rfl) (fun _ _ _ h => h) (by assumption) (by rfl) (fun W hW => run_load_arr (.tmp 5) rfl w.heap.size 0 rfl (cells4 y) _ Try.underlying30 rfl info4 hW) ?_
    simp only [Act.put, List.setIfInBounds_toArray, List.set_cons_zero, List.set_cons_succ]
    refine held_take 1 (v := ?_) rfl (by kernel_rfl) (by kernel_rfl) (by kernel_rfl) (fun _ _ _ h => h) (by assumption) (by rfl) ?_ ?_
    rotate_left
    · (intro W hW; go_simp; try with_reducible rfl)
    simp only [Act.put, List.setIfInBounds_toArray, List.set_cons_zero, List.set_cons_succ]
    refine held_take 2 (v := ?_) rfl (by kernel_rfl) (by kernel_rfl) (by kernel_rfl) (fun _ _ _ h => h) (by assumption) (by rfl) ?_ ?_
    rotate_left
    · (intro W hW; go_simp; try with_reducible rfl)
    simp only [Act.put, List.setIfInBounds_toArray, List.set_cons_zero, List.set_cons_succ]
    refine held_call 3 (f := 35) (args := #[.int .u8 (y.c.toNat : Int), .bool ((y.d.toNat : Int) == 1)]) rfl (by kernel_rfl) (by rfl) (by go_simp) ?_
    refine (vjData_any y.c ((y.d.toNat : Int) == 1) WD).mono ?_
    rintro e w8 ⟨rfl, b8⟩
    have T8 := Lib.hid (T7.out.next b8)
    have R8 := Lib.hid (grown_next R7.out b8)
    have D8 : w8.rangeAt w.heap.size 0 (cells4 y) := fun j v hv => by rw [b8.cell (p := ⟨w.heap.size, 0 + j, none⟩) hs8]; exact D6 j v hv
    obtain ⟨V, hV⟩ : ∃ V, vj4 y.c ((y.d.toNat : Int) == 1) = V := ⟨_, rfl⟩
    rw [hV]
    have HV := Lib.hid hV
    refine ⟨_, rfl, D8, ?_⟩
    simp only [Act.put, List.setIfInBounds_toArray, List.set_cons_zero, List.set_cons_succ]
    clear T7 R7 b8 D6 hV
    refine held_take 4 (v := ?_) rfl (by kernel_rfl) (by kernel_rfl) (by kernel_rfl) (fun _ _ _ h => h) (by assumption) (by rfl) ?_ ?_
    rotate_left
    · (intro W hW; have h30 : (Op.equalIn 10000 30 (.agg (cells4 y).toArray) (.agg (cells4 V).toArray)).run Try.prog W = _ := eq4 9998 y V W; have hgd := guard4; go_simp; try with_reducible rfl)
    simp only [Act.put, List.setIfInBounds_toArray, List.set_cons_zero, List.set_cons_succ]
    refine held_take 5 (v := ?_) rfl (by kernel_rfl) (by kernel_rfl) (by kernel_rfl) (fun _ _ _ h => h) (by assumption) (by rfl) ?_ ?_
    rotate_left
    · (intro W hW; go_simp; try with_reducible rfl)
    simp only [Act.put, List.setIfInBounds_toArray, List.set_cons_zero, List.set_cons_succ]
    refine held_done (by kernel_rfl) ?_
    go_wp2
    go_ret
    rw [← HV.out, HBD.out]
    exact ⟨rfl, R8.out, _, T8.out, fun e => by rw [HBD.out]; rfl⟩
  · have C1 := Lib.hid (fill_no (some ⟨w.heap.size, 0, none⟩) q 4 4 m c (w.alloc (.cells #[.int .u8 0, .int .u8 0, .int .u8 0, .int .u8 0] 30)) h4)
    have hf : Ad.fits 2 xs = false := by
      show (decide (xs.length = 4) && _) = false
      rw [decide_eq_false (by omega), Bool.false_and]
    rw [hf]
    have T1 := Lib.hid (hT.next b1)
    have B1 := Lib.hid b1
    clear hf h4 hm h b1 hg1 hT
    go_enter Try.func33, Try.ntmps33
    go_wp2_with (refine C1.out.mono ?_; rintro e w2 ⟨rfl, h2⟩; rw [h2]; clear h2 C1)
    go_ret
    exact ⟨rfl, grown_below B1.out _, t, T1.out, fun e => by cases e⟩
end Go.Proofs.Ytacnlancncmpmaa
