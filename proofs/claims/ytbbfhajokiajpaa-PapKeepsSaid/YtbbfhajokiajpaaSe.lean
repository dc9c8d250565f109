/- Contracts of PutAsk, PutSay, ReadAsk, ReadSay, and of the document's Ask and Say. -/
import Derived.Test.YtbbfhajokiajpaaSd
namespace Go.Proofs.Ytbbfhajokiajpaa
open Go.RowKit

theorem infoLg : (Try.prog.info? 23).map (·.size) = some 2 := by kernel_rfl
/-- The cells of what a request tells. -/
def lcells (s u : List UInt8) : List Value := [.string ⟨s.toArray⟩, .string ⟨u.toArray⟩]
theorem lcells_one (s u : List UInt8) : (lcells s u).toArray.all (·.oneCell') = true := by rw [List.all_toArray]; simp [lcells, Value.oneCell']
theorem lcells_size (s u : List UInt8) : (lcells s u).toArray.size = 2 := rfl
theorem strs_two (s u : List UInt8) : strs [s, u] = lcells s u := rfl
theorem strs_single (s : List UInt8) : strs [s] = [.string ⟨s.toArray⟩] := rfl
/-- Two results, the first one in a cell. -/
theorem results_cell_tmp_row {P : Program} {fn : Func} {q p : Tmp} {ty : TypeId} (h : fn.results = #[.cell p ty, .tmp q]) (tmps : Array Value) (w : World) (g : Nat) (t : TypeId) (cs : Array Value) (fr : Nat × Nat) (d : TypeDesc)
    (hp : tmps.getD p undef = .pointer (some ⟨g, 0, none⟩)) (hg : w.heap[g]? = some (.cells cs t fr))
    (hu : P.underlying ty = some d) (hd : (match d with | .struct _ | .array _ _ => true | _ => false) = true) (hi : (P.info? ty).map (·.size) = some cs.size) :
    (results fn tmps).run P w = .ok (.tuple #[.agg cs, tmps.getD q undef]) w := by
  have hp' : tmps[p]?.getD undef = .pointer (some ⟨g, 0, none⟩) := by simpa using hp
  simp [results, h, hp', asAddr, run_loadVar_row w g t ty cs fr d hg hu hd hi]
theorem lg_ret {w w' : World} {fn : Func} {q p : Tmp} {R : Nat} {s u : List UInt8} {e : Nat} {tmps : Array Value} (h : fn.results = #[.cell p 23, .tmp q]) (hp : tmps.getD p undef = .pointer (some ⟨R, 0, none⟩)) (hq : tmps.getD q undef = .int .i64 (e : Int)) (hR : w.heap[R]? = some (.cells (lcells s u).toArray 23 (0, 0))) (hw : w = w') :
    (results fn tmps).run Try.prog w = .ok (.tuple #[.agg (lcells s u).toArray, .int .i64 (e : Int)]) w' := by
  subst hw
  have := results_cell_tmp_row (P := Try.prog) h tmps w R 23 _ _ _ hp hR Try.underlying23 rfl infoLg
  rw [hq] at this
  exact this
theorem run_store_lg {o : Oper} {a : Act} (x y : Operand) (ho : o.op = .store 23 x y) (R : Nat) (s u : List UInt8) (cur : Array Value) {w : World} (hx : a.eval x = .pointer (some ⟨R, 0, none⟩)) (hy : a.eval y = .agg (lcells s u).toArray)
    (hR : w.heap[R]? = some (.cells cur 23 (0, 0))) (hcur : cur.size = 2) : (execOp a.eval o).run Try.prog w = .ok .skip (w.setRow R (lcells s u).toArray) := by
  have h := run_storeVar_row (P := Try.prog) w R 23 23 cur (lcells s u).toArray hR infoLg hcur (lcells_one s u)
  unfold execOp
  simp only [ho, hx, hy, Instr.storeAt, Instr.sureAddr, Sem.run_bind, Sem.run_pure, Result.andThen_ok, h]
theorem wpList_store_lg {w : World} {ops : Array Oper} {rest : List Oper} {o : Oper} {a : Act} {Q : Exit → Act → World → Prop} (hgd : o.guard = none) (x y : Operand) (ho : o.op = .store 23 x y) (R : Nat) (s u : List UInt8) (cur : Array Value)
    (hx : a.eval x = .pointer (some ⟨R, 0, none⟩)) (hy : a.eval y = .agg (lcells s u).toArray) (hR : w.heap[R]? = some (.cells cur 23 (0, 0))) (hcur : cur.size = 2)
    (h : wpList Try.prog ops Q rest (a.put o.dst undef) (w.setRow R (lcells s u).toArray)) : wpList Try.prog ops Q (o :: rest) a w :=
  wpList_store_row hgd 23 x y ho R _ hx hy 23 cur hR infoLg hcur (lcells_one s u) h
theorem BytesRes.lower {w w1 w' : World} {v : Value} {xs : List UInt8} (h : BytesRes w1 w' v xs) (b : Below w.heap.size w w1) : BytesRes w w' v xs := by
  obtain ⟨p, c, rfl, o⟩ := h
  exact ⟨p, c, rfl, o.len, ownsRow_lower o.own b.size, Below.trans b (o.bel.mono b.size)⟩
theorem PutRes.lower {w w1 w' : World} {e : Ending} {A : List UInt8 × Nat} (h : PutRes w1 w' e A) (b : Below w.heap.size w w1) : PutRes w w' e A := by
  obtain ⟨v, rfl, o⟩ := h
  exact ⟨v, rfl, o.lower b⟩
theorem ask_bad {xs : List UInt8} (h : (Pp.read 2 xs).1 = []) : Pp.ask xs = ([], [], (Pp.read 2 xs).2) := by rw [Pp.ask, h]; rfl
theorem say_bad {xs : List UInt8} (h : (Pp.read 1 xs).1 = []) : Pp.say xs = ([], (Pp.read 1 xs).2) := by rw [Pp.say, h]; rfl
theorem ne_zero {n : Nat} (h : n ≠ 0) : ((n : Int) != 0) = true := by simp; omega
theorem wpList_want {P : Program} {w : World} {ops : Array Oper} {rest : List Oper} {o : Oper} {a : Act} {Q : Exit → Act → World → Prop} (hw : Region.wanted o (yielded ops a.tmps) = true) (h : o.wp P a w (wpList P ops Q rest) Q) : wpList P ops Q (o :: rest) a w := by
  unfold wpList
  rw [if_pos hw]
  exact .inl h
/-- An operation that is wanted yields a value. -/
theorem wpList_value {P : Program} {w w' : World} {ops : Array Oper} {rest : List Oper} {o : Oper} {a : Act} {v : Value} {Q : Exit → Act → World → Prop} (hw : Region.wanted o (yielded ops a.tmps) = true) (he : (execOp a.eval o).run P w = .ok (.value v) w') (h : wpList P ops Q rest (a.put o.dst v) w') : wpList P ops Q (o :: rest) a w :=
  wpList_want hw (wp_value he h)
/-- What ReadAsk and the document's Ask answer. -/
def AskRes (w w' : World) (e : Ending) (A : List UInt8 × List UInt8 × Nat) : Prop := e = .returned (.tuple #[.agg (lcells A.1 A.2.1).toArray, .int .i64 (A.2.2 : Int)]) ∧ Below w.heap.size w w'
/-- What ReadSay and the document's Say answer. -/
def SayRes (w w' : World) (e : Ending) (A : List UInt8 × Nat) : Prop := e = .returned (.tuple #[.string ⟨A.1.toArray⟩, .int .i64 (A.2 : Int)]) ∧ Below w.heap.size w w'
theorem own_two {w : World} {B : Nat} {v : Value} {s u : List UInt8} (h : w.ownsRow B 9 1 v 2 (strs [s, u])) : ∃ g c, v = .slice (some ⟨g, 0, none⟩) 2 c ∧ B ≤ g ∧ w.cell? ⟨g, 0, none⟩ = some (.string ⟨s.toArray⟩) ∧ w.cell? ⟨g, 1, none⟩ = some (.string ⟨u.toArray⟩) := by
  rcases h.2 with ⟨_, h0⟩ | ⟨g, c, cur, rfl, hB, _⟩
  · cases h0
  · exact ⟨g, c, rfl, hB, h.cells (g := g) rfl 0 _ rfl, h.cells (g := g) rfl 1 _ rfl⟩
theorem own_single {w : World} {B : Nat} {v : Value} {s : List UInt8} (h : w.ownsRow B 9 1 v 1 (strs [s])) : ∃ g c, v = .slice (some ⟨g, 0, none⟩) 1 c ∧ w.cell? ⟨g, 0, none⟩ = some (.string ⟨s.toArray⟩) := by
  rcases h.2 with ⟨_, h0⟩ | ⟨g, c, cur, rfl, _⟩
  · cases h0
  · exact ⟨g, c, rfl, h.cells (g := g) rfl 0 _ rfl⟩

theorem built_lg (s u : List UInt8) : Try.prog.built 23 [(0, .string ⟨s.toArray⟩), (1, .string ⟨u.toArray⟩)] = some (lcells s u).toArray := by kernel_rfl
theorem built_none : Try.prog.built 23 [] = some (lcells [] []).toArray := by kernel_rfl
theorem run_build_lg {o : Oper} {a : Act} {p q : Operand} {s u : List UInt8} (ho : o.op = .build 23 #[(0, p), (1, q)]) (hp : a.eval p = .string ⟨s.toArray⟩) (hq : a.eval q = .string ⟨u.toArray⟩) (W : World) : (execOp a.eval o).run Try.prog W = .ok (.value (.agg (lcells s u).toArray)) W := by
  unfold execOp
  simp only [ho, Sem.run_bind, List.map_toArray, List.map_cons, List.map_nil, hp, hq]
  rw [run_build W 23 #[(0, .string ⟨s.toArray⟩), (1, .string ⟨u.toArray⟩)] _ (built_lg s u)]
  rfl
theorem run_build_none {o : Oper} {a : Act} (ho : o.op = .build 23 #[]) (W : World) : (execOp a.eval o).run Try.prog W = .ok (.value (.agg (lcells [] []).toArray)) W := by
  unfold execOp
  simp only [ho, Sem.run_bind, List.map_toArray, List.map_nil, run_build W 23 #[] _ built_none, Result.andThen_ok, Sem.run_pure]
theorem cell_setRow_other {W : World} {g R j : Nat} (h : g ≠ R) (cs : Array Value) : (W.setRow R cs).cell? ⟨g, j, none⟩ = W.cell? ⟨g, j, none⟩ := by
  simp only [World.cell?, setRow_other _ _ _ _ h]
set_option maxRecDepth 100000 in
set_option maxHeartbeats 1000000 in
theorem putAsk_any (s u : List UInt8) (w : World) :
    Calls Try.prog 9 #[.agg (lcells s u).toArray] w fun e w' => PutRes w w' e (Pp.put [s, u]) := by
  have b2 := below_two w (.cells (lcells s u).toArray 23) (.cells (lcells s u).toArray 9)
  have hT0 := heap_alloc_new (w.alloc (.cells (lcells s u).toArray 23)) (.cells (lcells s u).toArray 9)
  have hc := put_any (some ⟨w.heap.size + 1, 0, none⟩) 2 2 [s, u] ((w.alloc (.cells (lcells s u).toArray 23)).alloc (.cells (lcells s u).toArray 9)) rfl (by omega) (txtsAt_block (by rw [strs_two]) (by simpa using hT0))
  have HC := Lib.hid hc
  have HB := Lib.hid b2
  have g0 : (w.alloc (.cells (lcells s u).toArray 23)).cell? ⟨w.heap.size, 0, none⟩ = some (.string ⟨s.toArray⟩) := cell_of_row _ _ _ _ _ _ (heap_alloc_new w _)
  have g1 : (w.alloc (.cells (lcells s u).toArray 23)).cell? ⟨w.heap.size, 1, none⟩ = some (.string ⟨u.toArray⟩) := cell_of_row _ _ _ _ _ _ (heap_alloc_new w _)
  simp only [lcells] at HC HB g0 g1 ⊢
  clear b2 hc hT0
  go_enter Try.func9, Try.ntmps9
  go_wp2_with fail
  refine HC.out.mono ?_
  rintro e w3 ⟨v, rfl, o3⟩
  have O3 := Lib.hid (o3.lower HB.out)
  clear o3 HC
  go_wp2
  go_ret2
  exact ⟨v, rfl, O3.out⟩
set_option maxRecDepth 100000 in
set_option maxHeartbeats 1000000 in
theorem putSay_any (s : List UInt8) (w : World) :
    Calls Try.prog 11 #[.string ⟨s.toArray⟩] w fun e w' => PutRes w w' e (Pp.put [s]) := by
  have b2 := below_one w (.cells #[.string ⟨s.toArray⟩] 9)
  have hT0 := heap_alloc_new w (.cells #[.string ⟨s.toArray⟩] 9)
  have hc := put_any (some ⟨w.heap.size, 0, none⟩) 1 1 [s] (w.alloc (.cells #[.string ⟨s.toArray⟩] 9)) rfl (by omega) (txtsAt_block (by rw [strs_single]) hT0)
  have HC := Lib.hid hc
  have HB := Lib.hid b2
  clear b2 hc hT0
  go_enter Try.func11, Try.ntmps11
  go_wp2_with fail
  refine HC.out.mono ?_
  rintro e w3 ⟨v, rfl, o3⟩
  have O3 := Lib.hid (o3.lower HB.out)
  clear o3 HC
  go_wp2
  go_ret2
  exact ⟨v, rfl, O3.out⟩

set_option maxRecDepth 100000 in
set_option maxHeartbeats 1000000 in
theorem readAsk_any (a : Option Addr) (n c : Nat) (xs : List UInt8) (w : World) (hn : xs.length = n) (hm : n ≤ 300000) (h : RowAt w a c xs) :
    Calls Try.prog 12 #[.slice a n c] w fun e w' => AskRes w w' e (Pp.ask xs) := by
  have b1 := below_one w (.cells (lcells [] []).toArray 23)
  have hR := heap_alloc_new w (.cells (lcells [] []).toArray 23)
  have hc := read_any a n c 2 xs (w.alloc (.cells (lcells [] []).toArray 23)) hn hm (by omega) (h.next b1)
  have hask : Pp.ask xs = ((Pp.read 2 xs).1.getD 0 [], (Pp.read 2 xs).1.getD 1 [], (Pp.read 2 xs).2) := rfl
  have hbad := fun h => ask_bad (xs := xs) h
  have her := Pp.read_err 2 xs
  generalize Pp.read 2 xs = A at *
  generalize Pp.ask xs = D at *
  have HC := Lib.hid hc
  have HB := Lib.hid b1
  have HR := Lib.hid hR
  clear hc b1 hR h
  rcases her with ⟨he, hl⟩ | ⟨he, hl⟩
  · obtain ⟨l, e⟩ := A
    obtain rfl : e = 0 := he
    obtain ⟨s, u, rfl⟩ := Pp.two hl
    obtain rfl : D = (s, u, 0) := hask
    clear hbad
    go_enter Try.func12, Try.ntmps12
    go_wp2_with fail
    refine HC.out.mono ?_
    rintro e w2 ⟨v, rfl, b2, o2⟩
    obtain ⟨g, d, rfl, hg, c0, c1⟩ := own_two (o2 rfl)
    have hne : g ≠ w.heap.size := by simp at hg; omega
    have R2 := first_kept b2
    have B2 := Lib.hid (Below.chain HB.out b2)
    clear HC b2 o2 HR HB
    go_wp2
    refine held_start (S := fun W => W.cell? ⟨g, 0, none⟩ = some (.string ⟨s.toArray⟩) ∧ W.cell? ⟨g, 1, none⟩ = some (.string ⟨u.toArray⟩)) 9 (by kernel_rfl) rfl ?_
    have hS : w2.drew.cell? ⟨g, 0, none⟩ = some (.string ⟨s.toArray⟩) ∧ w2.drew.cell? ⟨g, 1, none⟩ = some (.string ⟨u.toArray⟩) := ⟨c0, c1⟩
    have hR : w2.drew.heap[w.heap.size]? = some (.cells (lcells [] []).toArray 23 (0, 0)) := R2
    have B3 := Lib.hid B2.out.drew
    clear c0 c1 R2 B2
    generalize w2.drew = WD at *
    refine held_take 0 (v := ?_) rfl (by kernel_rfl) (by kernel_rfl) (by kernel_rfl) (fun _ _ _ h => h) (by assumption) (by rfl) ?_ ?_
    rotate_left
    · (intro W hW; obtain ⟨hW0, hW1⟩ := hW; go_simp; try with_reducible rfl)
    simp only [Act.put, List.setIfInBounds_toArray, List.set_cons_zero, List.set_cons_succ]
    refine held_take 1 (v := ?_) rfl (by kernel_rfl) (by kernel_rfl) (by kernel_rfl) (fun _ _ _ h => h) (by assumption) (by rfl) ?_ ?_
    rotate_left
    · (intro W hW; obtain ⟨hW0, hW1⟩ := hW; go_simp; try with_reducible rfl)
    simp only [Act.put, List.setIfInBounds_toArray, List.set_cons_zero, List.set_cons_succ]
    refine held_take 2 (v := ?_) rfl (by kernel_rfl) (by kernel_rfl) (by kernel_rfl) (fun _ _ _ h => h) (by assumption) (by rfl) ?_ ?_
    rotate_left
    · (intro W hW; obtain ⟨hW0, hW1⟩ := hW; go_simp; try with_reducible rfl)
    simp only [Act.put, List.setIfInBounds_toArray, List.set_cons_zero, List.set_cons_succ]
    refine held_take 3 (v := ?_) rfl (by kernel_rfl) (by kernel_rfl) (by kernel_rfl) (fun _ _ _ h => h) (by assumption) (by rfl) ?_ ?_
    rotate_left
    · (intro W hW; obtain ⟨hW0, hW1⟩ := hW; go_simp; try with_reducible rfl)
    simp only [Act.put, List.setIfInBounds_toArray, List.set_cons_zero, List.set_cons_succ]
    refine held_take 4 (v := ?_) rfl (by kernel_rfl) (by kernel_rfl) (by kernel_rfl) (fun _ _ _ h => h) (by assumption) (by rfl) ?_ ?_
    rotate_left
    · (intro W hW; obtain ⟨hW0, hW1⟩ := hW; go_simp; try with_reducible rfl)
    simp only [Act.put, List.setIfInBounds_toArray, List.set_cons_zero, List.set_cons_succ]
    refine held_take 5 (v := ?_) rfl (by kernel_rfl) (by kernel_rfl) (by kernel_rfl) (fun _ _ _ h => h) (by assumption) (by rfl) ?_ ?_
    rotate_left
    · (intro W hW; obtain ⟨hW0, hW1⟩ := hW; go_simp; try with_reducible rfl)
    simp only [Act.put, List.setIfInBounds_toArray, List.set_cons_zero, List.set_cons_succ]
    refine held_take 6 (v := .agg (lcells s u).toArray) rfl (by kernel_rfl) (by kernel_rfl) (by kernel_rfl) (fun _ _ _ h => h) (by assumption) (by rfl) (fun W _ => run_build_lg rfl rfl rfl W) ?_
    simp only [Act.put, List.setIfInBounds_toArray, List.set_cons_zero, List.set_cons_succ]
    refine held_alone 7 (w' := WD.setRow w.heap.size (lcells s u).toArray) rfl (by kernel_rfl) (by rfl) (run_store_lg (.tmp 2) (.tmp 21) rfl w.heap.size s u _ rfl rfl hR rfl) (by rw [cell_setRow_other hne, cell_setRow_other hne]; exact hS) ?_
    simp only [Act.put]
    have hS2 : (WD.setRow w.heap.size (lcells s u).toArray).cell? ⟨g, 0, none⟩ = some (.string ⟨s.toArray⟩) ∧ (WD.setRow w.heap.size (lcells s u).toArray).cell? ⟨g, 1, none⟩ = some (.string ⟨u.toArray⟩) := by rw [cell_setRow_other hne, cell_setRow_other hne]; exact hS
    refine held_take 8 (v := ?_) rfl (by kernel_rfl) (by kernel_rfl) (by kernel_rfl) (fun _ _ _ h => h) (by assumption) (by rfl) ?_ ?_
    rotate_left
    · (intro W hW; go_simp; try with_reducible rfl)
    simp only [Act.put, List.setIfInBounds_toArray, List.set_cons_zero, List.set_cons_succ]
    refine held_done (by kernel_rfl) ?_
    go_wp2
    exact bodyPost_ret (lg_ret (e := 0) Try.results12 rfl rfl (setRow_heap _ _ _ _ _ _ hR) rfl) rfl ⟨rfl, below_setRow B3.out (Nat.le_refl _) _⟩
  · obtain rfl := hbad hl
    obtain ⟨l, e⟩ := A
    obtain rfl : l = [] := hl
    have i1 := ne_zero he
    clear hask hbad
    go_enter Try.func12, Try.ntmps12
    go_wp2_with fail
    refine HC.out.mono ?_
    rintro e w2 ⟨v, rfl, b2, o2⟩
    have R2 := first_kept b2
    have B2 := Lib.hid (Below.chain HB.out b2)
    clear HC b2 o2 HR HB
    go_wp2_with (first | (refine wpList_value (by rfl) (run_build_none rfl _) ?_) | (refine wpList_store_lg rfl (.tmp 2) (.tmp 13) rfl w.heap.size [] [] _ rfl rfl R2 rfl ?_))
    exact bodyPost_ret (lg_ret Try.results12 rfl rfl (setRow_heap _ _ _ _ _ _ R2) rfl) rfl ⟨rfl, below_setRow B2.out (Nat.le_refl _) _⟩
set_option maxRecDepth 100000 in
set_option maxHeartbeats 1000000 in
theorem refAsk_any (a : Option Addr) (n c : Nat) (xs : List UInt8) (w : World) (hn : xs.length = n) (hm : n ≤ 300000) (h : RowAt w a c xs) :
    Calls Try.prog 13 #[.slice a n c] w fun e w' => AskRes w w' e (Pp.ask xs) := by
  have b1 := below_one w (.cells (lcells [] []).toArray 23)
  have hR := heap_alloc_new w (.cells (lcells [] []).toArray 23)
  have hc := refRead_any a n c 2 xs (w.alloc (.cells (lcells [] []).toArray 23)) hn hm (by omega) (h.next b1)
  have hask : Pp.ask xs = ((Pp.read 2 xs).1.getD 0 [], (Pp.read 2 xs).1.getD 1 [], (Pp.read 2 xs).2) := rfl
  have hbad := fun h => ask_bad (xs := xs) h
  have her := Pp.read_err 2 xs
  generalize Pp.read 2 xs = A at *
  generalize Pp.ask xs = D at *
  have HC := Lib.hid hc
  have HB := Lib.hid b1
  have HR := Lib.hid hR
  clear hc b1 hR h
  rcases her with ⟨he, hl⟩ | ⟨he, hl⟩
  · obtain ⟨l, e⟩ := A
    obtain rfl : e = 0 := he
    obtain ⟨s, u, rfl⟩ := Pp.two hl
    obtain rfl : D = (s, u, 0) := hask
    clear hbad
    go_enter Try.func13, Try.ntmps13
    go_wp2_with fail
    refine HC.out.mono ?_
    rintro e w2 ⟨v, rfl, b2, o2⟩
    obtain ⟨g, d, rfl, hg, c0, c1⟩ := own_two (o2 rfl)
    have hne : g ≠ w.heap.size := by simp at hg; omega
    have R2 := first_kept b2
    have B2 := Lib.hid (Below.chain HB.out b2)
    clear HC b2 o2 HR HB
    go_wp2
    refine held_start (S := fun W => W.cell? ⟨g, 0, none⟩ = some (.string ⟨s.toArray⟩) ∧ W.cell? ⟨g, 1, none⟩ = some (.string ⟨u.toArray⟩)) 9 (by kernel_rfl) rfl ?_
    have hS : w2.drew.cell? ⟨g, 0, none⟩ = some (.string ⟨s.toArray⟩) ∧ w2.drew.cell? ⟨g, 1, none⟩ = some (.string ⟨u.toArray⟩) := ⟨c0, c1⟩
    have hR : w2.drew.heap[w.heap.size]? = some (.cells (lcells [] []).toArray 23 (0, 0)) := R2
    have B3 := Lib.hid B2.out.drew
    clear c0 c1 R2 B2
    generalize w2.drew = WD at *
    refine held_take 0 (v := ?_) rfl (by kernel_rfl) (by kernel_rfl) (by kernel_rfl) (fun _ _ _ h => h) (by assumption) (by rfl) ?_ ?_
    rotate_left
    · (intro W hW; obtain ⟨hW0, hW1⟩ := hW; go_simp; try with_reducible rfl)
    simp only [Act.put, List.setIfInBounds_toArray, List.set_cons_zero, List.set_cons_succ]
    refine held_take 1 (v := ?_) rfl (by kernel_rfl) (by kernel_rfl) (by kernel_rfl) (fun _ _ _ h => h) (by assumption) (by rfl) ?_ ?_
    rotate_left
    · (intro W hW; obtain ⟨hW0, hW1⟩ := hW; go_simp; try with_reducible rfl)
    simp only [Act.put, List.setIfInBounds_toArray, List.set_cons_zero, List.set_cons_succ]
    refine held_take 2 (v := ?_) rfl (by kernel_rfl) (by kernel_rfl) (by kernel_rfl) (fun _ _ _ h => h) (by assumption) (by rfl) ?_ ?_
    rotate_left
    · (intro W hW; obtain ⟨hW0, hW1⟩ := hW; go_simp; try with_reducible rfl)
    simp only [Act.put, List.setIfInBounds_toArray, List.set_cons_zero, List.set_cons_succ]
    refine held_take 3 (v := ?_) rfl (by kernel_rfl) (by kernel_rfl) (by kernel_rfl) (fun _ _ _ h => h) (by assumption) (by rfl) ?_ ?_
    rotate_left
    · (intro W hW; obtain ⟨hW0, hW1⟩ := hW; go_simp; try with_reducible rfl)
    simp only [Act.put, List.setIfInBounds_toArray, List.set_cons_zero, List.set_cons_succ]
    refine held_take 4 (v := ?_) rfl (by kernel_rfl) (by kernel_rfl) (by kernel_rfl) (fun _ _ _ h => h) (by assumption) (by rfl) ?_ ?_
    rotate_left
    · (intro W hW; obtain ⟨hW0, hW1⟩ := hW; go_simp; try with_reducible rfl)
    simp only [Act.put, List.setIfInBounds_toArray, List.set_cons_zero, List.set_cons_succ]
    refine held_take 5 (v := ?_) rfl (by kernel_rfl) (by kernel_rfl) (by kernel_rfl) (fun _ _ _ h => h) (by assumption) (by rfl) ?_ ?_
    rotate_left
    · (intro W hW; obtain ⟨hW0, hW1⟩ := hW; go_simp; try with_reducible rfl)
    simp only [Act.put, List.setIfInBounds_toArray, List.set_cons_zero, List.set_cons_succ]
    refine held_take 6 (v := .agg (lcells s u).toArray) rfl (by kernel_rfl) (by kernel_rfl) (by kernel_rfl) (fun _ _ _ h => h) (by assumption) (by rfl) (fun W _ => run_build_lg rfl rfl rfl W) ?_
    simp only [Act.put, List.setIfInBounds_toArray, List.set_cons_zero, List.set_cons_succ]
    refine held_alone 7 (w' := WD.setRow w.heap.size (lcells s u).toArray) rfl (by kernel_rfl) (by rfl) (run_store_lg (.tmp 2) (.tmp 21) rfl w.heap.size s u _ rfl rfl hR rfl) (by rw [cell_setRow_other hne, cell_setRow_other hne]; exact hS) ?_
    simp only [Act.put]
    have hS2 : (WD.setRow w.heap.size (lcells s u).toArray).cell? ⟨g, 0, none⟩ = some (.string ⟨s.toArray⟩) ∧ (WD.setRow w.heap.size (lcells s u).toArray).cell? ⟨g, 1, none⟩ = some (.string ⟨u.toArray⟩) := by rw [cell_setRow_other hne, cell_setRow_other hne]; exact hS
    refine held_take 8 (v := ?_) rfl (by kernel_rfl) (by kernel_rfl) (by kernel_rfl) (fun _ _ _ h => h) (by assumption) (by rfl) ?_ ?_
    rotate_left
    · (intro W hW; go_simp; try with_reducible rfl)
    simp only [Act.put, List.setIfInBounds_toArray, List.set_cons_zero, List.set_cons_succ]
    refine held_done (by kernel_rfl) ?_
    go_wp2
    exact bodyPost_ret (lg_ret (e := 0) Try.results13 rfl rfl (setRow_heap _ _ _ _ _ _ hR) rfl) rfl ⟨rfl, below_setRow B3.out (Nat.le_refl _) _⟩
  · obtain rfl := hbad hl
    obtain ⟨l, e⟩ := A
    obtain rfl : l = [] := hl
    have i1 := ne_zero he
    clear hask hbad
    go_enter Try.func13, Try.ntmps13
    go_wp2_with fail
    refine HC.out.mono ?_
    rintro e w2 ⟨v, rfl, b2, o2⟩
    have R2 := first_kept b2
    have B2 := Lib.hid (Below.chain HB.out b2)
    clear HC b2 o2 HR HB
    go_wp2_with (first | (refine wpList_value (by rfl) (run_build_none rfl _) ?_) | (refine wpList_store_lg rfl (.tmp 2) (.tmp 13) rfl w.heap.size [] [] _ rfl rfl R2 rfl ?_))
    exact bodyPost_ret (lg_ret Try.results13 rfl rfl (setRow_heap _ _ _ _ _ _ R2) rfl) rfl ⟨rfl, below_setRow B2.out (Nat.le_refl _) _⟩

set_option maxRecDepth 100000 in
set_option maxHeartbeats 1000000 in
theorem readSay_any (a : Option Addr) (n c : Nat) (xs : List UInt8) (w : World) (hn : xs.length = n) (hm : n ≤ 300000) (h : RowAt w a c xs) :
    Calls Try.prog 14 #[.slice a n c] w fun e w' => SayRes w w' e (Pp.say xs) := by
  have hc := read_any a n c 1 xs w hn hm (by omega) h
  have hask : Pp.say xs = ((Pp.read 1 xs).1.getD 0 [], (Pp.read 1 xs).2) := rfl
  have hbad := fun h => say_bad (xs := xs) h
  have her := Pp.read_err 1 xs
  generalize Pp.read 1 xs = A at *
  generalize Pp.say xs = D at *
  have HC := Lib.hid hc
  clear hc h
  rcases her with ⟨he, hl⟩ | ⟨he, hl⟩
  · obtain ⟨l, e⟩ := A
    obtain rfl : e = 0 := he
    obtain ⟨s, rfl⟩ := Pp.single hl
    obtain rfl : D = (s, 0) := hask
    clear hbad
    go_enter Try.func14, Try.ntmps14
    go_wp2_with fail
    refine HC.out.mono ?_
    rintro e w2 ⟨v, rfl, b2, o2⟩
    obtain ⟨g, d, rfl, c0⟩ := own_single (o2 rfl)
    have B2 := Lib.hid b2
    clear HC b2 o2
    go_wp2
    go_ret2
    exact ⟨rfl, B2.out⟩
  · obtain rfl := hbad hl
    obtain ⟨l, e⟩ := A
    obtain rfl : l = [] := hl
    have i1 := ne_zero he
    clear hask hbad
    go_enter Try.func14, Try.ntmps14
    go_wp2_with fail
    refine HC.out.mono ?_
    rintro e w2 ⟨v, rfl, b2, o2⟩
    have B2 := Lib.hid b2
    clear HC b2 o2
    go_wp2
    go_ret2
    exact ⟨rfl, B2.out⟩
set_option maxRecDepth 100000 in
set_option maxHeartbeats 1000000 in
theorem refSay_any (a : Option Addr) (n c : Nat) (xs : List UInt8) (w : World) (hn : xs.length = n) (hm : n ≤ 300000) (h : RowAt w a c xs) :
    Calls Try.prog 15 #[.slice a n c] w fun e w' => SayRes w w' e (Pp.say xs) := by
  have hc := refRead_any a n c 1 xs w hn hm (by omega) h
  have hask : Pp.say xs = ((Pp.read 1 xs).1.getD 0 [], (Pp.read 1 xs).2) := rfl
  have hbad := fun h => say_bad (xs := xs) h
  have her := Pp.read_err 1 xs
  generalize Pp.read 1 xs = A at *
  generalize Pp.say xs = D at *
  have HC := Lib.hid hc
  clear hc h
  rcases her with ⟨he, hl⟩ | ⟨he, hl⟩
  · obtain ⟨l, e⟩ := A
    obtain rfl : e = 0 := he
    obtain ⟨s, rfl⟩ := Pp.single hl
    obtain rfl : D = (s, 0) := hask
    clear hbad
    go_enter Try.func15, Try.ntmps15
    go_wp2_with fail
    refine HC.out.mono ?_
    rintro e w2 ⟨v, rfl, b2, o2⟩
    obtain ⟨g, d, rfl, c0⟩ := own_single (o2 rfl)
    have B2 := Lib.hid b2
    clear HC b2 o2
    go_wp2
    go_ret2
    exact ⟨rfl, B2.out⟩
  · obtain rfl := hbad hl
    obtain ⟨l, e⟩ := A
    obtain rfl : l = [] := hl
    have i1 := ne_zero he
    clear hask hbad
    go_enter Try.func15, Try.ntmps15
    go_wp2_with fail
    refine HC.out.mono ?_
    rintro e w2 ⟨v, rfl, b2, o2⟩
    have B2 := Lib.hid b2
    clear HC b2 o2
    go_wp2
    go_ret2
    exact ⟨rfl, B2.out⟩
end Go.Proofs.Ytbbfhajokiajpaa
