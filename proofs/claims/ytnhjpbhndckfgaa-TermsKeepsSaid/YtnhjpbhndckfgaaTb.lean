/- Contracts of the seven readers. -/
import Derived.Test.YtnhjpbhndckfgaaTa
import Derived.Test.YtnhjpbhndckfgaaAccm
namespace Go.Proofs.Ytnhjpbhndckfgaa
open Go.RowKit S2 S12 S5

theorem grown_cell (w : World) (g i : Nat) (v : Value) : w.grownBy (w.setCell ⟨g, i, none⟩ v) (some g) :=
  ⟨rfl, rfl, rfl, by simp [World.setCell], fun k _ hne => heap_setCell_other _ _ _ _ (fun e => hne (by rw [e]))⟩
theorem grown_below {w w' : World} (b : Below w.heap.size w w') (row : Option Nat) : w.grownBy w' row := ⟨b.os, b.tape, b.output, b.size, fun k hk _ => b.block k hk⟩
/-- What a reader tells, and leaves. -/
def RdRes (w w' : World) (e : Ending) (g : Nat) (t : Tm.T) (x : Ot.O) : Prop :=
  e = .returned (.bool (Tm.right x)) ∧ w.grownBy w' (some g) ∧ ∃ t', TmAt w' g t' ∧ (Tm.right x = true → t' = Tm.put1 t x)
theorem rd_true {w w' : World} {g : Nat} {t s : Tm.T} {x : Ot.O} (h : Tm.right x = true) (hg : w.grownBy w' (some g)) (hT : TmAt w' g s) (hs : s = Tm.put1 t x) : RdRes w w' (.returned (.bool true)) g t x := ⟨by rw [h], hg, s, hT, fun _ => hs⟩
theorem rd_false {w w' : World} {g : Nat} {t s : Tm.T} {x : Ot.O} (h : Tm.right x = false) (hg : w.grownBy w' (some g)) (hT : TmAt w' g s) : RdRes w w' (.returned (.bool false)) g t x := ⟨by rw [h], hg, s, hT, fun e => by rw [h] at e; cases e⟩

theorem rd_bool {w w' : World} {g : Nat} {t s : Tm.T} {x : Ot.O} {b : Bool} (h : Tm.right x = b) (hg : w.grownBy w' (some g)) (hT : TmAt w' g s) (hs : b = true → s = Tm.put1 t x) : RdRes w w' (.returned (.bool b)) g t x := ⟨by rw [h], hg, s, hT, fun e => hs (by rw [← h]; exact e)⟩

theorem readPfc_any (g : Nat) (t : Tm.T) (a : Option Addr) (n cap : Nat) (xs : List UInt8) (w : World) (hn : xs.length = n) (hT : TmAt w g t) :
    Calls Try.prog 41 #[.pointer (some ⟨g, 0, none⟩), .slice a n cap] w fun e w' => RdRes w w' e g t ⟨7, xs⟩ := by
  have hr : Tm.right ⟨7, xs⟩ = decide (xs.length = 0) := rfl
  rw [hn] at hr
  have hb : ((n : Int) == 0) = decide (n = 0) := by
    by_cases h : n = 0
    · subst h; rfl
    · rw [decide_eq_false h]; simpa using h
  rw [← hb] at hr
  have HR := Lib.hid hr
  clear hr hb hn
  have k0 : w.cell? ⟨g, 8, none⟩ = some (.bool t.pfc) := hT.cell 8
  have f0 := hT.frozen 8
  have T1 := hT.set 8 (.bool (((n : Int) == 0))) { t with pfc := ((n : Int) == 0) } rfl
  have k1 : (w.setCell ⟨g, 8, none⟩ (.bool (((n : Int) == 0)))).cell? ⟨g, 8, none⟩ = some (.bool (((n : Int) == 0))) := T1.cell 8
  have T2 := Lib.hid T1
  clear hT T1
  go_enter Try.func41, Try.ntmps41
  go_wp2
  go_ret
  exact rd_bool HR.out (grown_cell _ _ _ _) T2.out (fun e => by rw [e]; rfl)
theorem readAcfc_any (g : Nat) (t : Tm.T) (a : Option Addr) (n cap : Nat) (xs : List UInt8) (w : World) (hn : xs.length = n) (hT : TmAt w g t) :
    Calls Try.prog 42 #[.pointer (some ⟨g, 0, none⟩), .slice a n cap] w fun e w' => RdRes w w' e g t ⟨8, xs⟩ := by
  have hr : Tm.right ⟨8, xs⟩ = decide (xs.length = 0) := rfl
  rw [hn] at hr
  have hb : ((n : Int) == 0) = decide (n = 0) := by
    by_cases h : n = 0
    · subst h; rfl
    · rw [decide_eq_false h]; simpa using h
  rw [← hb] at hr
  have HR := Lib.hid hr
  clear hr hb hn
  have k0 : w.cell? ⟨g, 9, none⟩ = some (.bool t.acfc) := hT.cell 9
  have f0 := hT.frozen 9
  have T1 := hT.set 9 (.bool (((n : Int) == 0))) { t with acfc := ((n : Int) == 0) } rfl
  have k1 : (w.setCell ⟨g, 9, none⟩ (.bool (((n : Int) == 0)))).cell? ⟨g, 9, none⟩ = some (.bool (((n : Int) == 0))) := T1.cell 9
  have T2 := Lib.hid T1
  clear hT T1
  go_enter Try.func42, Try.ntmps42
  go_wp2
  go_ret
  exact rd_bool HR.out (grown_cell _ _ _ _) T2.out (fun e => by rw [e]; rfl)
theorem readQuality_any (g : Nat) (t : Tm.T) (a : Option Addr) (n cap : Nat) (xs : List UInt8) (w : World) (hn : xs.length = n) (hT : TmAt w g t) :
    Calls Try.prog 39 #[.pointer (some ⟨g, 0, none⟩), .slice a n cap] w fun e w' => RdRes w w' e g t ⟨4, xs⟩ := by
  have hr : Tm.right ⟨4, xs⟩ = decide (2 ≤ xs.length) := rfl
  rw [hn] at hr
  have hb : decide (2 ≤ (n : Int)) = decide (2 ≤ n) := by
    exact decide_eq_decide.2 (by omega)
  rw [← hb] at hr
  have HR := Lib.hid hr
  clear hr hb hn
  have k0 : w.cell? ⟨g, 5, none⟩ = some (.bool t.quality) := hT.cell 5
  have f0 := hT.frozen 5
  have T1 := hT.set 5 (.bool (decide (2 ≤ (n : Int)))) { t with quality := decide (2 ≤ (n : Int)) } rfl
  have k1 : (w.setCell ⟨g, 5, none⟩ (.bool (decide (2 ≤ (n : Int))))).cell? ⟨g, 5, none⟩ = some (.bool (decide (2 ≤ (n : Int)))) := T1.cell 5
  have T2 := Lib.hid T1
  clear hT T1
  go_enter Try.func39, Try.ntmps39
  go_wp2
  go_ret
  exact rd_bool HR.out (grown_cell _ _ _ _) T2.out (fun e => by rw [e]; rfl)

theorem readLogin_any (g : Nat) (t : Tm.T) (a : Option Addr) (n cap : Nat) (xs : List UInt8) (w : World) (hn : xs.length = n) (hm : n ≤ 300000) (h : RowAt w a cap xs) (hT : TmAt w g t) :
    Calls Try.prog 38 #[.pointer (some ⟨g, 0, none⟩), .slice a n cap] w fun e w' => RdRes w w' e g t ⟨3, xs⟩ := by
  have hr : Tm.right ⟨3, xs⟩ = decide (Tm.asked xs ≠ 0) := rfl
  have hp : Tm.put1 t ⟨3, xs⟩ = { t with login := (Tm.asked xs : Nat) } := rfl
  have C1 := Lib.hid (asked_any a n cap xs w hn hm h)
  generalize Tm.asked xs = q at hr hp C1
  have HT := Lib.hid hT
  have HP := Lib.hid hp
  clear h hn hT hp
  go_enter Try.func38, Try.ntmps38
  go_wp2_with fail
  refine C1.out.mono ?_
  rintro e w1 ⟨rfl, b1⟩
  have hT1 := HT.out.next b1
  have k0 : w1.cell? ⟨g, 4, none⟩ = some (.int .i64 t.login) := hT1.cell 4
  have f0 := hT1.frozen 4
  have T1 := hT1.set 4 (.int .i64 (q : Int)) { t with login := (q : Nat) } rfl
  have k1 : (w1.setCell ⟨g, 4, none⟩ (.int .i64 (q : Int))).cell? ⟨g, 4, none⟩ = some (.int .i64 (q : Int)) := T1.cell 4
  have T2 := Lib.hid T1
  have G1 := Lib.hid (grown_below b1 (some g))
  clear hT1 T1 b1
  have hb : ((q : Int) != 0) = decide (q ≠ 0) := by
    by_cases h : q = 0
    · subst h; rfl
    · rw [decide_eq_true h]; simpa using h
  rw [← hb] at hr
  have HR := Lib.hid hr
  clear hr hb
  go_wp2
  go_ret
  exact rd_bool HR.out (grownBy_trans G1.out (grown_cell _ _ _ _)) T2.out (fun _ => HP.out.symm)

set_option maxRecDepth 100000 in
theorem readMru_any (g : Nat) (t : Tm.T) (a : Option Addr) (n cap : Nat) (xs : List UInt8) (w : World) (hn : xs.length = n) (h : RowAt w a cap xs) (hT : TmAt w g t) :
    Calls Try.prog 36 #[.pointer (some ⟨g, 0, none⟩), .slice a n cap] w fun e w' => RdRes w w' e g t ⟨1, xs⟩ := by
  have hr : Tm.right ⟨1, xs⟩ = decide (xs.length = 2) := rfl
  have hp : Tm.put1 t ⟨1, xs⟩ = { t with hasMru := true, mru := (Oc.get xs true : Nat) } := rfl
  have c1 := number_any a n cap 2 xs w hn (by omega) (by omega) h
  have hlt := Oc.get_lt xs true
  rw [hn] at hr hlt
  clear h
  by_cases h0 : n = 2
  · rw [decide_eq_true h0] at hr
    rw [if_pos h0, decide_eq_true h0] at c1
    rw [h0] at hlt
    generalize Oc.get xs true = q at hp c1 hlt
    have hq : IntKind.i64.wrap (q : Int) = (q : Int) := by rw [IntKind.wrap_i64]; omega
    have C1 := Lib.hid c1
    have k0 : w.cell? ⟨g, 0, none⟩ = some (.bool t.hasMru) := hT.cell 0
    have f0 := hT.frozen 0
    have T1 := hT.set 0 (.bool true) { t with hasMru := true } rfl
    have k1 : (w.setCell ⟨g, 0, none⟩ (.bool true)).cell? ⟨g, 1, none⟩ = some (.int .i64 t.mru) := T1.cell 1
    have f1 := T1.frozen 1
    have T2 := T1.set 1 (.int .i64 (q : Int)) { t with hasMru := true, mru := (q : Nat) } rfl
    have k2 : ((w.setCell ⟨g, 0, none⟩ (.bool true)).setCell ⟨g, 1, none⟩ (.int .i64 (q : Int))).cell? ⟨g, 0, none⟩ = some (.bool true) := T2.cell 0
    have T3 := Lib.hid T2
    clear hT T1 T2
    have HR := Lib.hid hr
    have HP := Lib.hid hp
    clear c1 hr hp h0 hn
    have hq2 : (q : Int) < 65536 := by omega
    clear hlt
    go_enter Try.func36, Try.ntmps36
    go_wp2_with fail
    refine C1.out.mono ?_
    rintro e w1 ⟨rfl, h1⟩; rw [h1]; clear h1 C1
    go_wp2
    go_ret
    exact rd_true HR.out (grownBy_trans (grown_cell _ _ _ _) (grown_cell _ _ _ _)) T3.out HP.out.symm
  · rw [decide_eq_false h0] at hr
    rw [if_neg h0, decide_eq_false h0] at c1
    have C1 := Lib.hid c1
    have k0 : w.cell? ⟨g, 0, none⟩ = some (.bool t.hasMru) := hT.cell 0
    have f0 := hT.frozen 0
    have T1 := hT.set 0 (.bool false) { t with hasMru := false } rfl
    have k1 : (w.setCell ⟨g, 0, none⟩ (.bool false)).cell? ⟨g, 1, none⟩ = some (.int .i64 t.mru) := T1.cell 1
    have f1 := T1.frozen 1
    have T2 := T1.set 1 (.int .i64 0) { t with hasMru := false, mru := 0 } rfl
    have k2 : ((w.setCell ⟨g, 0, none⟩ (.bool false)).setCell ⟨g, 1, none⟩ (.int .i64 0)).cell? ⟨g, 0, none⟩ = some (.bool false) := T2.cell 0
    have T3 := Lib.hid T2
    clear hT T1 T2
    have HR := Lib.hid hr
    clear c1 hr hp h0 hn hlt
    go_enter Try.func36, Try.ntmps36
    go_wp2_with fail
    refine C1.out.mono ?_
    rintro e w1 ⟨rfl, h1⟩; rw [h1]; clear h1 C1
    go_wp2
    go_ret
    exact rd_false HR.out (grownBy_trans (grown_cell _ _ _ _) (grown_cell _ _ _ _)) T3.out
theorem readAccm_any (g : Nat) (t : Tm.T) (a : Option Addr) (n cap : Nat) (xs : List UInt8) (w : World) (hn : xs.length = n) (h : RowAt w a cap xs) (hT : TmAt w g t) :
    Calls Try.prog 37 #[.pointer (some ⟨g, 0, none⟩), .slice a n cap] w fun e w' => RdRes w w' e g t ⟨2, xs⟩ := by
  have hr : Tm.right ⟨2, xs⟩ = decide (xs.length = 4) := rfl
  have hp : Tm.put1 t ⟨2, xs⟩ = { t with hasAccm := true, accm := Oc.get xs true } := rfl
  have c1 := S5.get_row a n cap xs w hn h
  unfold S5.Ac.got at c1
  rw [hn] at hr c1
  clear h
  by_cases h0 : n = 4
  · rw [decide_eq_true h0] at hr
    rw [if_pos h0, decide_eq_true h0] at c1
    generalize Oc.get xs true = q at hp c1
    have C1 := Lib.hid c1
    have k0 : w.cell? ⟨g, 3, none⟩ = some (.int .u32 (t.accm : Int)) := hT.cell 3
    have f0 := hT.frozen 3
    have T1 := hT.set 3 (.int .u32 (q : Int)) { t with accm := q } rfl
    have k1 : (w.setCell ⟨g, 3, none⟩ (.int .u32 (q : Int))).cell? ⟨g, 2, none⟩ = some (.bool t.hasAccm) := T1.cell 2
    have f1 := T1.frozen 2
    have T2 := T1.set 2 (.bool true) { t with hasAccm := true, accm := q } rfl
    have k2 : ((w.setCell ⟨g, 3, none⟩ (.int .u32 (q : Int))).setCell ⟨g, 2, none⟩ (.bool true)).cell? ⟨g, 2, none⟩ = some (.bool true) := T2.cell 2
    have T3 := Lib.hid T2
    clear hT T1 T2
    have HR := Lib.hid hr
    have HP := Lib.hid hp
    clear c1 hr hp h0 hn
    go_enter Try.func37, Try.ntmps37
    go_wp2_with fail
    refine C1.out.mono ?_
    rintro e w1 ⟨rfl, h1⟩; rw [h1]; clear h1 C1
    go_wp2
    go_ret
    exact rd_true HR.out (grownBy_trans (grown_cell _ _ _ _) (grown_cell _ _ _ _)) T3.out HP.out.symm
  · rw [decide_eq_false h0] at hr
    rw [if_neg h0, decide_eq_false h0] at c1
    have C1 := Lib.hid c1
    have k0 : w.cell? ⟨g, 3, none⟩ = some (.int .u32 (t.accm : Int)) := hT.cell 3
    have f0 := hT.frozen 3
    have T1 := hT.set 3 (.int .u32 0) { t with accm := 0 } rfl
    have k1 : (w.setCell ⟨g, 3, none⟩ (.int .u32 0)).cell? ⟨g, 2, none⟩ = some (.bool t.hasAccm) := T1.cell 2
    have f1 := T1.frozen 2
    have T2 := T1.set 2 (.bool false) { t with hasAccm := false, accm := 0 } rfl
    have k2 : ((w.setCell ⟨g, 3, none⟩ (.int .u32 0)).setCell ⟨g, 2, none⟩ (.bool false)).cell? ⟨g, 2, none⟩ = some (.bool false) := T2.cell 2
    have T3 := Lib.hid T2
    clear hT T1 T2
    have HR := Lib.hid hr
    clear c1 hr hp h0 hn
    go_enter Try.func37, Try.ntmps37
    go_wp2_with fail
    refine C1.out.mono ?_
    rintro e w1 ⟨rfl, h1⟩; rw [h1]; clear h1 C1
    go_wp2
    go_ret
    exact rd_false HR.out (grownBy_trans (grown_cell _ _ _ _) (grown_cell _ _ _ _)) T3.out
theorem readMagic_any (g : Nat) (t : Tm.T) (a : Option Addr) (n cap : Nat) (xs : List UInt8) (w : World) (hn : xs.length = n) (h : RowAt w a cap xs) (hT : TmAt w g t) :
    Calls Try.prog 40 #[.pointer (some ⟨g, 0, none⟩), .slice a n cap] w fun e w' => RdRes w w' e g t ⟨5, xs⟩ := by
  have hr : Tm.right ⟨5, xs⟩ = decide (xs.length = 4 ∧ Oc.get xs true ≠ 0) := rfl
  have hp : Tm.put1 t ⟨5, xs⟩ = { t with hasMagic := true, magic := Oc.get xs true } := rfl
  have c1 := number_any a n cap 4 xs w hn (by omega) (by omega) h
  have hlt := Oc.get_lt xs true
  rw [hn] at hr hlt
  clear h
  obtain ⟨q, hq⟩ : ∃ q, (if n = 4 then Oc.get xs true else 0) = q := ⟨_, rfl⟩
  have hq4 : q < 4294967296 := by
    rw [← hq]
    split
    · rename_i e; rw [e] at hlt; exact hlt
    · omega
  rw [hq] at c1
  generalize decide (n = 4) = B at c1
  by_cases h0 : q = 0
  · have hr2 : Tm.right ⟨5, xs⟩ = false := by
      rw [hr]
      refine decide_eq_false fun e => ?_
      rw [if_pos e.1] at hq
      exact e.2 (hq.trans h0)
    subst h0
    have C1 := Lib.hid c1
    have k0 : w.cell? ⟨g, 6, none⟩ = some (.bool t.hasMagic) := hT.cell 6
    have f0 := hT.frozen 6
    have T1 := hT.set 6 (.bool false) { t with hasMagic := false } rfl
    have k1 : (w.setCell ⟨g, 6, none⟩ (.bool false)).cell? ⟨g, 7, none⟩ = some (.int .u32 (t.magic : Int)) := T1.cell 7
    have f1 := T1.frozen 7
    have T2 := T1.set 7 (.int .u32 0) { t with hasMagic := false, magic := 0 } rfl
    have k2 : ((w.setCell ⟨g, 6, none⟩ (.bool false)).setCell ⟨g, 7, none⟩ (.int .u32 0)).cell? ⟨g, 6, none⟩ = some (.bool false) := T2.cell 6
    have T3 := Lib.hid T2
    clear hT T1 T2
    have HR := Lib.hid hr2
    clear c1 hr hr2 hp hn hq hq4 hlt
    go_enter Try.func40, Try.ntmps40
    go_wp2_with fail
    refine C1.out.mono ?_
    rintro e w1 ⟨rfl, h1⟩; rw [h1]; clear h1 C1
    go_wp2
    go_ret
    exact rd_false HR.out (grownBy_trans (grown_cell _ _ _ _) (grown_cell _ _ _ _)) T3.out
  · have h4 : n = 4 := by
      by_cases e : n = 4
      · exact e
      · rw [if_neg e] at hq; omega
    rw [if_pos h4] at hq
    rw [hq] at hr hp
    have hb : ((q : Int) != 0) = true := by simpa using h0
    rw [decide_eq_true ⟨h4, h0⟩, ← hb] at hr
    have hw : (q : Int) % 4294967296 = (q : Int) := by omega
    have i0 : ¬ (q : Int) = 0 := by omega
    have C1 := Lib.hid c1
    have k0 : w.cell? ⟨g, 6, none⟩ = some (.bool t.hasMagic) := hT.cell 6
    have f0 := hT.frozen 6
    have T1 := hT.set 6 (.bool ((q : Int) != 0)) { t with hasMagic := ((q : Int) != 0) } rfl
    have k1 : (w.setCell ⟨g, 6, none⟩ (.bool ((q : Int) != 0))).cell? ⟨g, 7, none⟩ = some (.int .u32 (t.magic : Int)) := T1.cell 7
    have f1 := T1.frozen 7
    have T2 := T1.set 7 (.int .u32 (q : Int)) { t with hasMagic := ((q : Int) != 0), magic := q } rfl
    have k2 : ((w.setCell ⟨g, 6, none⟩ (.bool ((q : Int) != 0))).setCell ⟨g, 7, none⟩ (.int .u32 (q : Int))).cell? ⟨g, 6, none⟩ = some (.bool ((q : Int) != 0)) := T2.cell 6
    have T3 := Lib.hid T2
    clear hT T1 T2
    have HR := Lib.hid hr
    have HP : Hid ({ t with hasMagic := ((q : Int) != 0), magic := q } = Tm.put1 t ⟨5, xs⟩) := by rw [hb]; exact hp.symm
    clear c1 hr hp hn hq hq4 hlt h0 h4 hb
    go_enter Try.func40, Try.ntmps40
    go_wp2_with fail
    refine C1.out.mono ?_
    rintro e w1 ⟨rfl, h1⟩; rw [h1]; clear h1 C1
    go_wp2
    go_ret
    exact rd_bool HR.out (grownBy_trans (grown_cell _ _ _ _) (grown_cell _ _ _ _)) T3.out (fun _ => HP.out)
end Go.Proofs.Ytnhjpbhndckfgaa
