/- Contracts of readMark and Head. -/
import Derived.Test.YtfkjjolohphaoaaPa
namespace Go.Proofs.Ytfkjjolohphaoaa
open Go.RowKit

/-- A header's cells. -/
def hcells (m : Pc.Hdr) : List Value := [.bool m.big, .bool m.nano, .int .u32 (m.snap : Int), .int .u32 (m.link : Int)]
theorem info24 : (Try.prog.info? 24).map (·.size) = some 4 := by kernel_rfl
theorem hcells_one (m : Pc.Hdr) : (hcells m).toArray.all (·.oneCell') = true := by rw [List.all_toArray]; simp [hcells, Value.oneCell']

/-- Two results, the first one in a cell. -/
theorem results_cell_tmp_row {P : Program} {fn : Func} {q p : Tmp} {ty : TypeId} (h : fn.results = #[.cell p ty, .tmp q]) (tmps : Array Value) (w : World) (g : Nat) (t : TypeId) (cs : Array Value) (fr : Nat × Nat) (d : TypeDesc)
    (hp : tmps.getD p undef = .pointer (some ⟨g, 0, none⟩)) (hg : w.heap[g]? = some (.cells cs t fr))
    (hu : P.underlying ty = some d) (hd : (match d with | .struct _ | .array _ _ => true | _ => false) = true) (hi : (P.info? ty).map (·.size) = some cs.size) :
    (results fn tmps).run P w = .ok (.tuple #[.agg cs, tmps.getD q undef]) w := by
  have hp' : tmps[p]?.getD undef = .pointer (some ⟨g, 0, none⟩) := by simpa using hp
  simp [results, h, hp', asAddr, run_loadVar_row w g t ty cs fr d hg hu hd hi]

theorem wpList_store_head {w : World} {ops : Array Oper} {rest : List Oper} {o : Oper} {a : Act} {Q : Exit → Act → World → Prop} (hgd : o.guard = none) (x y : Operand) (ho : o.op = .store 24 x y) (R : Nat) (m : Pc.Hdr) (cur : Array Value)
    (hx : a.eval x = .pointer (some ⟨R, 0, none⟩)) (hy : a.eval y = .agg (hcells m).toArray) (hR : w.heap[R]? = some (.cells cur 24 (0, 0))) (hcur : cur.size = 4)
    (h : wpList Try.prog ops Q rest (a.put o.dst undef) (w.setRow R (hcells m).toArray)) : wpList Try.prog ops Q (o :: rest) a w :=
  wpList_store_row hgd 24 x y ho R _ hx hy 24 cur hR info24 hcur (hcells_one m) h

/-- A header and an error that are answered. -/
def HeadRes (w w' : World) (e : Ending) (m : Pc.Hdr) (r : Nat) : Prop := e = .returned (.tuple #[.agg (hcells m).toArray, .int .i64 (r : Int)]) ∧ Below w.heap.size w w'
theorem head_ret {w' : World} {fn : Func} {q p : Tmp} {r R : Nat} {m : Pc.Hdr} {tmps : Array Value} {cs : Array Value} (h : fn.results = #[.cell p 24, .tmp q]) (hp : tmps.getD p undef = .pointer (some ⟨R, 0, none⟩)) (hq : tmps.getD q undef = .int .i64 (r : Int)) (hR : w'.heap[R]? = some (.cells cs 24 (0, 0))) :
    (results fn tmps).run Try.prog (w'.setRow R (hcells m).toArray) = .ok (.tuple #[.agg (hcells m).toArray, .int .i64 (r : Int)]) (w'.setRow R (hcells m).toArray) := by
  have := results_cell_tmp_row (P := Try.prog) h tmps (w'.setRow R (hcells m).toArray) R 24 _ _ _ hp (setRow_heap _ _ _ _ _ _ hR) Try.underlying24 rfl info24
  rw [hq] at this
  exact this
/-- The same, where nothing was called. -/
theorem head_ret0 {w : World} {fn : Func} {q p : Tmp} {r : Nat} {m : Pc.Hdr} {tmps : Array Value} (h : fn.results = #[.cell p 24, .tmp q]) (hp : tmps.getD p undef = .pointer (some ⟨w.heap.size, 0, none⟩)) (hq : tmps.getD q undef = .int .i64 (r : Int)) :
    (results fn tmps).run Try.prog (w.alloc (.cells (hcells m).toArray 24)) = .ok (.tuple #[.agg (hcells m).toArray, .int .i64 (r : Int)]) (w.alloc (.cells (hcells m).toArray 24)) := by
  have := results_cell_tmp_row (P := Try.prog) h tmps (w.alloc (.cells (hcells m).toArray 24)) w.heap.size 24 _ _ _ hp (heap_alloc_new w _) Try.underlying24 rfl info24
  rw [hq] at this
  exact this
theorem below_setRow {w w' : World} {B g : Nat} (h : Below B w w') (hg : B ≤ g) (cs : Array Value) : Below B w (w'.setRow g cs) :=
  ⟨h.os, h.tape, h.output, by rw [setRow_size]; exact h.size, fun k hk => by rw [setRow_other _ _ _ _ (by omega)]; exact h.block k hk⟩
theorem two_blocks (w : World) (o1 o2 : Obj) : ((w.alloc o1).alloc o2).heap[w.heap.size]? = some o1 ∧ ((w.alloc o1).alloc o2).heap[w.heap.size + 1]? = some o2 ∧ Below w.heap.size w ((w.alloc o1).alloc o2) := by
  refine ⟨?_, ?_, ((Below.refl _ _).alloc (Nat.le_refl _) _).alloc (by simp) _⟩
  · rw [Below.heap_alloc _ _ _ (by simp)]; exact heap_alloc_new w _
  · have h2 := heap_alloc_new (w.alloc o1) o2
    simpa using h2

/-- What readMark tells. -/
def Pc.rmark (xs : List UInt8) : Pc.Hdr × Nat := if xs.length < 4 then (Pc.hz, 2) else match Pc.who xs with | none => (Pc.hz, 3) | some (big, nano) => (⟨big, nano, 0, 0⟩, 0)

set_option maxHeartbeats 1000000 in
theorem mark_any (a : Option Addr) (n cap : Nat) (xs : List UInt8) (w : World) (hn : xs.length = n) (hm : n ≤ 300000) (h : RowAt w a cap xs) :
    Calls Try.prog 25 #[.slice a n cap] w fun e w' => HeadRes w w' e (Pc.rmark xs).1 (Pc.rmark xs).2 := by
  by_cases h4 : n < 4
  · have e1 : Pc.rmark xs = (Pc.hz, 2) := by unfold Pc.rmark; rw [if_pos (by omega)]
    rw [e1]
    have i4 : (n : Int) < 4 := by omega
    go_enter Try.func25, Try.ntmps25
    go_wp2
    exact bodyPost_ret (head_ret0 (m := Pc.hz) Try.results25 rfl rfl) rfl ⟨rfl, (Below.refl _ _).alloc (Nat.le_refl _) _⟩
  · have c33 := fun (big : Bool) (g : Nat) (W : World) B hg hN => number_any a n cap xs big 0 4 g w W hn hm (by omega) (by omega) (by omega) h B hg hN
    rw [List.drop_zero] at c33
    have i4 : ¬ (n : Int) < 4 := by omega
    obtain ⟨A, hA⟩ : ∃ A, Pc.rmark xs = A := ⟨_, rfl⟩
    rw [hA]
    have HA := Lib.hid hA
    have Hn4 := Lib.hid (show ¬ xs.length < 4 by omega)
    clear hA
    go_enter Try.func25, Try.ntmps25
    go_wp2
    obtain ⟨hR0, hS0, B0⟩ := two_blocks w (.cells #[.bool false, .bool false, .int .u32 0, .int .u32 0] 24) (.cells #[.bool true, .bool false] 4)
    generalize ((w.alloc (.cells #[.bool false, .bool false, .int .u32 0, .int .u32 0] 24)).alloc (.cells #[.bool true, .bool false] 4)) = W at *
    have s0 : W.cell? ⟨w.heap.size + 1, 0, none⟩ = some (.bool true) := cell_of_row _ _ _ _ _ _ hS0
    have hlt := lt_of_block hS0
    have C33 := Lib.hid c33
    have HR0 := Lib.hid hR0
    have HS0 := Lib.hid hS0
    have HB0 := Lib.hid B0
    clear c33 hR0 hS0 B0 hn h
    refine wp_loop_rounds 3 ?_
    rw [rounds_succ]
    go_wp2_with fail
    refine (numbers_any a n cap true _).mono ?_
    rintro e w1 ⟨rfl, n1, b1, _⟩
    unfold numV
    have B1 := Lib.hid (Below.trans HB0.out (b1.mono HB0.out.size))
    have HR1 := Lib.hid (block_next HR0.out b1)
    have HS1 := Lib.hid (block_next HS0.out b1)
    have N1 := Lib.hid n1
    clear b1 n1 HR0 HS0 s0
    generalize W.heap.size = G at *
    have hle := HB0.out.size
    go_wp2_with fail
    refine (C33.out true _ _ B1.out (by omega) N1.out).mono ?_
    rintro e w2 ⟨rfl, _, b2, g2⟩
    have B2 := Lib.hid b2
    have hR2 := grown_kept g2 HR1.out (by omega)
    have hS2 := grown_kept g2 HS1.out (by omega)
    have HR2 := Lib.hid hR2
    have s2 : w2.cell? ⟨w.heap.size + 1, 1, none⟩ = some (.bool false) := cell_of_row _ _ _ _ _ _ hS2
    have HS2 := Lib.hid hS2
    clear b2 g2 hR2 hS2 HR1 HS1 N1 B1
    by_cases t1 : Oc.get (xs.take 4) true = Pc.mark false
    · have e1 : A = (⟨true, false, 0, 0⟩, 0) := by rw [← HA.out]; unfold Pc.rmark; rw [if_neg Hn4.out, Pc.who_bf xs t1]
      subst e1
      clear HA
      have u1 : (((Oc.get (xs.take 4) true : Nat) : Int) == 2712847316) = true := by rw [t1]; rfl
      clear t1 C33
      generalize Oc.get (xs.take 4) true = v1 at *
      go_wp2_with (refine wpList_store_head rfl (.tmp 2) (.tmp 23) rfl w.heap.size ⟨true, false, 0, 0⟩ _ rfl rfl HR2.out rfl ?_)
      exact bodyPost_ret (head_ret Try.results25 rfl rfl HR2.out) rfl ⟨rfl, below_setRow B2.out (Nat.le_refl _) _⟩
    by_cases t2 : Oc.get (xs.take 4) true = Pc.mark true
    · have e1 : A = (⟨true, true, 0, 0⟩, 0) := by rw [← HA.out]; unfold Pc.rmark; rw [if_neg Hn4.out, Pc.who_bn xs t1 t2]
      subst e1
      clear HA
      have u1 : (((Oc.get (xs.take 4) true : Nat) : Int) == 2712847316) = false := by rw [t2]; rfl
      have u2 : (((Oc.get (xs.take 4) true : Nat) : Int) == 2712812621) = true := by rw [t2]; rfl
      clear t1 t2 C33
      generalize Oc.get (xs.take 4) true = v1 at *
      go_wp2_with (refine wpList_store_head rfl (.tmp 2) (.tmp 27) rfl w.heap.size ⟨true, true, 0, 0⟩ _ rfl rfl HR2.out rfl ?_)
      exact bodyPost_ret (head_ret Try.results25 rfl rfl HR2.out) rfl ⟨rfl, below_setRow B2.out (Nat.le_refl _) _⟩
    have u1 : (((Oc.get (xs.take 4) true : Nat) : Int) == 2712847316) = false := by
      simp only [beq_eq_false_iff_ne, ne_eq]; intro e; apply t1; show _ = 2712847316; omega
    have u2 : (((Oc.get (xs.take 4) true : Nat) : Int) == 2712812621) = false := by
      simp only [beq_eq_false_iff_ne, ne_eq]; intro e; apply t2; show _ = 2712812621; omega
    have q1 := Pc.who_lf xs t1 t2
    have q2 := Pc.who_ln xs t1 t2
    have q3 := Pc.who_none xs t1 t2
    clear t1 t2
    generalize Oc.get (xs.take 4) true = v1 at *
    go_wp2
    rw [rounds_succ]
    go_wp2_with fail
    refine (numbers_any a n cap false _).mono ?_
    rintro e w3 ⟨rfl, n3, b3, _⟩
    unfold numV
    have B3 := Lib.hid (Below.trans B2.out (b3.mono B2.out.size))
    have HR3 := Lib.hid (block_next HR2.out b3)
    have N3 := Lib.hid n3
    have hlt2 := lt_of_block HS2.out
    have hle2 := B2.out.size
    clear b3 n3 HR2 HS2 s2 u1 u2
    generalize w2.heap.size = G2 at *
    go_wp2_with fail
    refine (C33.out false _ _ B3.out (by omega) N3.out).mono ?_
    rintro e w4 ⟨rfl, _, b4, g4⟩
    have B4 := Lib.hid b4
    have HR4 := Lib.hid (grown_kept g4 HR3.out (by omega))
    clear b4 g4 HR3 N3 B3 C33
    by_cases t3 : Oc.get (xs.take 4) false = Pc.mark false
    · have e1 : A = (⟨false, false, 0, 0⟩, 0) := by rw [← HA.out]; unfold Pc.rmark; rw [if_neg Hn4.out, q1 t3]
      subst e1
      clear HA
      have u1 : (((Oc.get (xs.take 4) false : Nat) : Int) == 2712847316) = true := by rw [t3]; rfl
      clear t3 q1 q2 q3
      generalize Oc.get (xs.take 4) false = v2 at *
      go_wp2_with (refine wpList_store_head rfl (.tmp 2) (.tmp 23) rfl w.heap.size ⟨false, false, 0, 0⟩ _ rfl rfl HR4.out rfl ?_)
      exact bodyPost_ret (head_ret Try.results25 rfl rfl HR4.out) rfl ⟨rfl, below_setRow B4.out (Nat.le_refl _) _⟩
    by_cases t4 : Oc.get (xs.take 4) false = Pc.mark true
    · have e1 : A = (⟨false, true, 0, 0⟩, 0) := by rw [← HA.out]; unfold Pc.rmark; rw [if_neg Hn4.out, q2 t3 t4]
      subst e1
      clear HA
      have u1 : (((Oc.get (xs.take 4) false : Nat) : Int) == 2712847316) = false := by rw [t4]; rfl
      have u2 : (((Oc.get (xs.take 4) false : Nat) : Int) == 2712812621) = true := by rw [t4]; rfl
      clear t3 t4 q1 q2 q3
      generalize Oc.get (xs.take 4) false = v2 at *
      go_wp2_with (refine wpList_store_head rfl (.tmp 2) (.tmp 27) rfl w.heap.size ⟨false, true, 0, 0⟩ _ rfl rfl HR4.out rfl ?_)
      exact bodyPost_ret (head_ret Try.results25 rfl rfl HR4.out) rfl ⟨rfl, below_setRow B4.out (Nat.le_refl _) _⟩
    have e1 : A = (Pc.hz, 3) := by rw [← HA.out]; unfold Pc.rmark; rw [if_neg Hn4.out, q3 t3 t4]
    subst e1
    clear HA
    have u1 : (((Oc.get (xs.take 4) false : Nat) : Int) == 2712847316) = false := by
      simp only [beq_eq_false_iff_ne, ne_eq]; intro e; apply t3; show _ = 2712847316; omega
    have u2 : (((Oc.get (xs.take 4) false : Nat) : Int) == 2712812621) = false := by
      simp only [beq_eq_false_iff_ne, ne_eq]; intro e; apply t4; show _ = 2712812621; omega
    clear t3 t4 q1 q2 q3
    generalize Oc.get (xs.take 4) false = v2 at *
    go_wp2
    rw [rounds_succ]
    go_wp2_with (refine wpList_store_head rfl (.tmp 2) (.tmp 29) rfl w.heap.size Pc.hz _ rfl rfl HR4.out rfl ?_)
    exact bodyPost_ret (head_ret Try.results25 rfl rfl HR4.out) rfl ⟨rfl, below_setRow B4.out (Nat.le_refl _) _⟩
end Go.Proofs.Ytfkjjolohphaoaa
