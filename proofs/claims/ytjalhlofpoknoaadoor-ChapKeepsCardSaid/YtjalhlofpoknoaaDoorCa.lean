/- What packets carry, in memory; contracts of Put, the document's too. -/
import Derived.Test.YtjalhlofpoknoaaDoorBb
import Derived.Test.YtjalhlofpoknoaaDoorPlainch
import Derived.Lib.AppendStr
import Derived.Laws.OwnMore
import Derived.Deep.OwnRows
namespace Go.Proofs.YtjalhlofpoknoaaDoor
open Go.RowKit

theorem info9 : (Tryd.prog.info? 9).map (fun i => (i.zero, i.size, i.bytes)) = some (some (.string ⟨#[]⟩), 1, 16) := by kernel_rfl
theorem txt_size (xs : List UInt8) : (⟨xs.toArray⟩ : ByteArray).size = xs.length := rfl
theorem txt_cells (xs : List UInt8) : Lib.strCells ⟨xs.toArray⟩ = Lib.byteCells xs := rfl
theorem txt_of (s : ByteArray) : ∃ xs : List UInt8, s = ⟨xs.toArray⟩ := ⟨s.data.toList, by cases s; simp⟩
/-- append of a text onto bytes of one's own. -/
theorem wpList_append_txt {W0 w : World} {ops : Array Oper} {rest : List Oper} {o : Oper} {a : Act} {Q : Exit → Act → World → Prop} (hgd : o.guard = none) (sl x : Operand)
    (ho : o.op = .call { callee := .builtin .append, args := #[sl, x], argTypes := #[22, 9] })
    (p : Option Addr) (n c k : Nat) (xs : List UInt8) (hs : a.eval sl = .slice p n c) (hO : Own W0 w p n c xs)
    (s : List UInt8) (hx : a.eval x = .string ⟨s.toArray⟩) (hk : n + s.length = k) (h63 : k ≤ 1000000)
    (h : ∀ p' c' w', Own W0 w' p' k c' (xs ++ s) → wpList Tryd.prog ops Q rest (a.put o.dst (.slice p' k c')) w') : wpList Tryd.prog ops Q (o :: rest) a w := by
  obtain ⟨i0, hi, hz0, hz1, hz2⟩ := info_parts info5
  subst hk
  refine Lib.wpList_append_own_string w hgd sl x 22 9 ho W0.heap.size 5 i0 Tryd.underlying22 Tryd.underlying9 hi hz0 hz1 hz2 _ n _ hs hO.own ⟨s.toArray⟩ hx (by rw [txt_size]; unfold maxLen; omega) (by rw [txt_size]; omega) hO.bel.size ?_
  intro v' w' o2 g2 _
  rw [txt_size, txt_cells] at o2
  obtain ⟨p', c', rfl⟩ := own_slice o2
  exact h p' c' w' ⟨step_len hO.len rfl, by rw [Lib.byteCells_append]; exact o2, Below.grown hO.bel g2 hO.bel.size (fun k hk => (hO.own.lt k hk).1)⟩

/-- The bytes that are answered. -/
def BytesRes (w w' : World) (v : Value) (xs : List UInt8) : Prop := ∃ p c, v = .slice p xs.length c ∧ Own w w' p xs.length c xs
theorem bytesRes_nil {w w' : World} (b : Below w.heap.size w w') : BytesRes w w' (.slice none 0 0) [] := ⟨none, 0, rfl, rfl, World.ownsRow_nil _ _ _ _, b⟩
theorem BytesRes.bel {w w' : World} {v : Value} {xs : List UInt8} (h : BytesRes w w' v xs) : Below w.heap.size w w' := by
  obtain ⟨_, _, _, o⟩ := h
  exact o.bel
theorem byte_len (s : List UInt8) : (s.length : Int) % 256 = ((UInt8.ofNat s.length).toNat : Int) := by simp
theorem byte_len' (s : List UInt8) (h : s.length ≤ 255) : (s.length : Int) = ((UInt8.ofNat s.length).toNat : Int) := by simp; omega
/-- What put answers. -/
def PutRes (w w' : World) (e : Ending) (A : List UInt8 × Nat) : Prop := ∃ v, e = .returned (.tuple #[v, .int .i64 (A.2 : Int)]) ∧ BytesRes w w' v A.1

theorem infoCh : (Tryd.prog.info? 24).map (·.size) = some 2 := by kernel_rfl
/-- The cells of what a packet carries. -/
def ccells (p : Option Addr) (n c : Nat) (s : List UInt8) : List Value := [.slice p n c, .string ⟨s.toArray⟩]
theorem ccells_one (p : Option Addr) (n c : Nat) (s : List UInt8) : (ccells p n c s).toArray.all (·.oneCell') = true := by rw [List.all_toArray]; simp [ccells, Value.oneCell']
theorem ccells_size (p : Option Addr) (n c : Nat) (s : List UInt8) : (ccells p n c s).toArray.size = 2 := rfl
/-- Two results, the first one in a cell. -/
theorem results_cell_tmp_row {P : Program} {fn : Func} {q p : Tmp} {ty : TypeId} (h : fn.results = #[.cell p ty, .tmp q]) (tmps : Array Value) (w : World) (g : Nat) (t : TypeId) (cs : Array Value) (fr : Nat × Nat) (d : TypeDesc)
    (hp : tmps.getD p undef = .pointer (some ⟨g, 0, none⟩)) (hg : w.heap[g]? = some (.cells cs t fr))
    (hu : P.underlying ty = some d) (hd : (match d with | .struct _ | .array _ _ => true | _ => false) = true) (hi : (P.info? ty).map (·.size) = some cs.size) :
    (results fn tmps).run P w = .ok (.tuple #[.agg cs, tmps.getD q undef]) w := by
  have hp' : tmps[p]?.getD undef = .pointer (some ⟨g, 0, none⟩) := by simpa using hp
  simp [results, h, hp', asAddr, run_loadVar_row w g t ty cs fr d hg hu hd hi]
theorem ch_ret {w w' : World} {fn : Func} {q q2 : Tmp} {R : Nat} {p : Option Addr} {n c : Nat} {s : List UInt8} {e : Nat} {tmps : Array Value} (h : fn.results = #[.cell q2 24, .tmp q]) (hp : tmps.getD q2 undef = .pointer (some ⟨R, 0, none⟩)) (hq : tmps.getD q undef = .int .i64 (e : Int)) (hR : w.heap[R]? = some (.cells (ccells p n c s).toArray 24 (0, 0))) (hw : w = w') :
    (results fn tmps).run Tryd.prog w = .ok (.tuple #[.agg (ccells p n c s).toArray, .int .i64 (e : Int)]) w' := by
  subst hw
  have := results_cell_tmp_row (P := Tryd.prog) h tmps w R 24 _ _ _ hp hR Tryd.underlying24 rfl infoCh
  rw [hq] at this
  exact this
theorem run_store_ch {o : Oper} {a : Act} (x y : Operand) (ho : o.op = .store 24 x y) (R : Nat) (p : Option Addr) (n c : Nat) (s : List UInt8) (cur : Array Value) {w : World} (hx : a.eval x = .pointer (some ⟨R, 0, none⟩)) (hy : a.eval y = .agg (ccells p n c s).toArray)
    (hR : w.heap[R]? = some (.cells cur 24 (0, 0))) (hcur : cur.size = 2) : (execOp a.eval o).run Tryd.prog w = .ok .skip (w.setRow R (ccells p n c s).toArray) := by
  have h := run_storeVar_row (P := Tryd.prog) w R 24 24 cur (ccells p n c s).toArray hR infoCh hcur (ccells_one p n c s)
  unfold execOp
  simp only [ho, hx, hy, Instr.storeAt, Instr.sureAddr, Sem.run_bind, Sem.run_pure, Result.andThen_ok, h]
theorem wpList_store_ch {w : World} {ops : Array Oper} {rest : List Oper} {o : Oper} {a : Act} {Q : Exit → Act → World → Prop} (hgd : o.guard = none) (x y : Operand) (ho : o.op = .store 24 x y) (R : Nat) (p : Option Addr) (n c : Nat) (s : List UInt8) (cur : Array Value)
    (hx : a.eval x = .pointer (some ⟨R, 0, none⟩)) (hy : a.eval y = .agg (ccells p n c s).toArray) (hR : w.heap[R]? = some (.cells cur 24 (0, 0))) (hcur : cur.size = 2)
    (h : wpList Tryd.prog ops Q rest (a.put o.dst undef) (w.setRow R (ccells p n c s).toArray)) : wpList Tryd.prog ops Q (o :: rest) a w :=
  wpList_store_row hgd 24 x y ho R _ hx hy 24 cur hR infoCh hcur (ccells_one p n c s) h
theorem BytesRes.lower {w w1 w' : World} {v : Value} {xs : List UInt8} (h : BytesRes w1 w' v xs) (b : Below w.heap.size w w1) : BytesRes w w' v xs := by
  obtain ⟨p, c, rfl, o⟩ := h
  exact ⟨p, c, rfl, o.len, ownsRow_lower o.own b.size, Below.trans b (o.bel.mono b.size)⟩
theorem ne_zero {n : Nat} (h : n ≠ 0) : ((n : Int) != 0) = true := by simp; omega
theorem wpList_want {P : Program} {w : World} {ops : Array Oper} {rest : List Oper} {o : Oper} {a : Act} {Q : Exit → Act → World → Prop} (hw : Region.wanted o (yielded ops a.tmps) = true) (h : o.wp P a w (wpList P ops Q rest) Q) : wpList P ops Q (o :: rest) a w := by
  unfold wpList
  rw [if_pos hw]
  exact .inl h
/-- An operation that is wanted yields a value. -/
theorem wpList_value {P : Program} {w w' : World} {ops : Array Oper} {rest : List Oper} {o : Oper} {a : Act} {v : Value} {Q : Exit → Act → World → Prop} (hw : Region.wanted o (yielded ops a.tmps) = true) (he : (execOp a.eval o).run P w = .ok (.value v) w') (h : wpList P ops Q rest (a.put o.dst v) w') : wpList P ops Q (o :: rest) a w :=
  wpList_want hw (wp_value he h)

theorem built_ch (p : Option Addr) (n c : Nat) (s : List UInt8) : Tryd.prog.built 24 [(0, .slice p n c), (1, .string ⟨s.toArray⟩)] = some (ccells p n c s).toArray := by kernel_rfl
theorem built_name (s : List UInt8) : Tryd.prog.built 24 [(1, .string ⟨s.toArray⟩)] = some (ccells none 0 0 s).toArray := by kernel_rfl
theorem built_none : Tryd.prog.built 24 [] = some (ccells none 0 0 []).toArray := by kernel_rfl
theorem run_build_ch {o : Oper} {a : Act} {x y : Operand} {p : Option Addr} {n c : Nat} {s : List UInt8} (ho : o.op = .build 24 #[(0, x), (1, y)]) (hx : a.eval x = .slice p n c) (hy : a.eval y = .string ⟨s.toArray⟩) (W : World) : (execOp a.eval o).run Tryd.prog W = .ok (.value (.agg (ccells p n c s).toArray)) W := by
  unfold execOp
  simp only [ho, Sem.run_bind, List.map_toArray, List.map_cons, List.map_nil, hx, hy]
  rw [run_build W 24 #[(0, .slice p n c), (1, .string ⟨s.toArray⟩)] _ (built_ch p n c s)]
  rfl
theorem run_build_name {o : Oper} {a : Act} {y : Operand} {s : List UInt8} (ho : o.op = .build 24 #[(1, y)]) (hy : a.eval y = .string ⟨s.toArray⟩) (W : World) : (execOp a.eval o).run Tryd.prog W = .ok (.value (.agg (ccells none 0 0 s).toArray)) W := by
  unfold execOp
  simp only [ho, Sem.run_bind, List.map_toArray, List.map_cons, List.map_nil, hy]
  rw [run_build W 24 #[(1, .string ⟨s.toArray⟩)] _ (built_name s)]
  rfl
theorem run_build_none {o : Oper} {a : Act} (ho : o.op = .build 24 #[]) (W : World) : (execOp a.eval o).run Tryd.prog W = .ok (.value (.agg (ccells none 0 0 []).toArray)) W := by
  unfold execOp
  simp only [ho, Sem.run_bind, List.map_toArray, List.map_nil, run_build W 24 #[] _ built_none, Result.andThen_ok, Sem.run_pure]
theorem cell_setRow_other {W : World} {g R j : Nat} (h : g ≠ R) (cs : Array Value) : (W.setRow R cs).cell? ⟨g, j, none⟩ = W.cell? ⟨g, j, none⟩ := by
  simp only [World.cell?, setRow_other _ _ _ _ h]
/-- What a packet carries, in a block of its own. -/
def ChAt (w : World) (g : Nat) (p : Option Addr) (n c : Nat) (s : List UInt8) : Prop := w.heap[g]? = some (.cells (ccells p n c s).toArray 24 (0, 0))
theorem ChAt.next {w w' : World} {g : Nat} {p : Option Addr} {n c : Nat} {s : List UInt8} (h : ChAt w g p n c s) (b : Below w.heap.size w w') : ChAt w' g p n c s := block_next h b
theorem ChAt.kept {w w' : World} {g : Nat} {row : Option Nat} {p : Option Addr} {n c : Nat} {s : List UInt8} (h : ChAt w g p n c s) (hg : w.grownBy w' row) (hq : some g ≠ row) : ChAt w' g p n c s := (hg.block g (lt_of_block h) hq).trans h
theorem ChAt.fst {w : World} {g : Nat} {p : Option Addr} {n c : Nat} {s : List UInt8} (h : ChAt w g p n c s) : w.cell? ⟨g, 0, none⟩ = some (.slice p n c) := cell_of_row _ _ _ _ _ _ h
theorem ChAt.snd {w : World} {g : Nat} {p : Option Addr} {n c : Nat} {s : List UInt8} (h : ChAt w g p n c s) : w.cell? ⟨g, 1, none⟩ = some (.string ⟨s.toArray⟩) := cell_of_row _ _ _ _ _ _ h
theorem run_load_ch {W : World} {o : Oper} {a : Act} (x : Operand) (ho : o.op = .load 24 x) (R : Nat) (p : Option Addr) (n c : Nat) (s : List UInt8) (hx : a.eval x = .pointer (some ⟨R, 0, none⟩)) (hR : ChAt W R p n c s) :
    (execOp a.eval o).run Tryd.prog W = .ok (.value (.agg (ccells p n c s).toArray)) W := by
  unfold execOp
  simp only [ho, hx, Instr.loadAt, Instr.sureAddr, Sem.run_bind, Sem.run_pure, Result.andThen_ok, run_loadVar_row W R 24 24 _ _ _ hR Tryd.underlying24 rfl infoCh]
/-- What a packet carries, laid into a new block. -/
def chIn (w : World) (p : Option Addr) (n c : Nat) (s : List UInt8) : World := (w.alloc (.cells (ccells none 0 0 []).toArray 24)).setRow w.heap.size (ccells p n c s).toArray
theorem chIn_at (w : World) (p : Option Addr) (n c : Nat) (s : List UInt8) : ChAt (chIn w p n c s) w.heap.size p n c s := setRow_heap _ _ _ _ _ _ (heap_alloc_new w _)
theorem chIn_below (w : World) (p : Option Addr) (n c : Nat) (s : List UInt8) : Below w.heap.size w (chIn w p n c s) := below_setRow (below_one w _) (Nat.le_refl _) _
theorem wpList_chIn {w : World} {ops : Array Oper} {rest : List Oper} {o : Oper} {a : Act} {Q : Exit → Act → World → Prop} (hgd : o.guard = none) (x y : Operand) (ho : o.op = .store 24 x y) (p : Option Addr) (n c : Nat) (s : List UInt8)
    (hx : a.eval x = .pointer (some ⟨w.heap.size, 0, none⟩)) (hy : a.eval y = .agg (ccells p n c s).toArray)
    (h : ∀ w', ChAt w' w.heap.size p n c s → Below w.heap.size w w' → wpList Tryd.prog ops Q rest (a.put o.dst undef) w') : wpList Tryd.prog ops Q (o :: rest) a (w.alloc (.cells (ccells none 0 0 []).toArray 24)) :=
  wpList_store_ch hgd x y ho w.heap.size p n c s _ hx hy (heap_alloc_new w _) rfl (h (chIn w p n c s) (chIn_at w p n c s) (chIn_below w p n c s))
theorem Own.lower {w w1 w' : World} {p : Option Addr} {n c : Nat} {xs : List UInt8} (h : Own w1 w' p n c xs) (b : Below w.heap.size w w1) : Own w w' p n c xs := ⟨h.len, ownsRow_lower h.own b.size, Below.trans b (h.bel.mono b.size)⟩
theorem PutRes.at {w w' : World} {e : Ending} {A : List UInt8 × Nat} (h : PutRes w w' e A) {xs : List UInt8} {k n : Nat} {z : Int} (hA : A = (xs, k)) (hn : xs.length = n) (hz : (k : Int) = z) :
    ∃ p c, e = .returned (.tuple #[.slice p n c, .int .i64 z]) ∧ Own w w' p n c xs := by
  subst hA
  subst hn
  subst hz
  obtain ⟨v, rfl, p, c, rfl, o⟩ := h
  exact ⟨p, c, rfl, o⟩

set_option maxRecDepth 100000 in
set_option maxHeartbeats 1000000 in
theorem put_any (p : Option Addr) (n c : Nat) (v s : List UInt8) (w : World) (hn : v.length = n) (hm : n ≤ 300000) (hs : s.length ≤ 300000) (h : RowAt w p c v) :
    Calls Tryd.prog 10 #[.agg (ccells p n c s).toArray] w fun e w' => PutRes w w' e (Ch.put v s) := by
  have b0 := below_one w (.cells (ccells p n c s).toArray 24)
  have g0 : (w.alloc (.cells (ccells p n c s).toArray 24)).cell? ⟨w.heap.size, 0, none⟩ = some (.slice p n c) := cell_of_row _ _ _ _ _ _ (heap_alloc_new w _)
  have g1 : (w.alloc (.cells (ccells p n c s).toArray 24)).cell? ⟨w.heap.size, 1, none⟩ = some (.string ⟨s.toArray⟩) := cell_of_row _ _ _ _ _ _ (heap_alloc_new w _)
  have r0 := h.next b0
  have R0 := Lib.hid r0
  have B0 := Lib.hid b0
  have HN := Lib.hid hn
  clear r0 b0 h
  simp only [ccells] at R0 B0 g0 g1 ⊢
  by_cases h0 : n = 0
  · have hp := Lib.hid (Ch.put_bad (v := v) (s := s) (.inl (by omega)))
    subst h0
    clear hn
    go_enter Tryd.func10, Tryd.ntmps10
    go_wp2
    go_ret2
    rw [hp.out]
    exact ⟨_, rfl, bytesRes_nil B0.out⟩
  have i0 : ((n : Int) == 0) = false := by simp; omega
  have i1 : ¬ (n : Int) < 1 := by omega
  by_cases h5 : 255 < n
  · have hp := Lib.hid (Ch.put_bad (v := v) (s := s) (.inr (by omega)))
    have i5 : (255 : Int) < (n : Int) := by omega
    clear hn
    go_enter Tryd.func10, Tryd.ntmps10
    go_wp2
    go_ret2
    rw [hp.out]
    exact ⟨_, rfl, bytesRes_nil B0.out⟩
  have i5 : (n : Int) ≤ 255 := by omega
  by_cases h6 : 65526 < s.length
  · have hp := Lib.hid (Ch.put_long (v := v) (s := s) (by omega) h6)
    have i6 : (65526 : Int) < (s.length : Int) := by omega
    clear hn
    go_enter Tryd.func10, Tryd.ntmps10
    go_wp2
    go_ret2
    rw [hp.out]
    exact ⟨_, rfl, bytesRes_nil B0.out⟩
  have i6 : (s.length : Int) ≤ 65526 := by omega
  have hp := Ch.put_good (v := v) (s := s) (by omega) h6
  rw [hn] at hp
  have HP := Lib.hid hp
  clear hp
  have hb1 := byte_len v
  have hb2 := byte_len' v (by omega)
  rw [hn] at hb1 hb2
  have HB := Lib.hid hb1
  have HC := Lib.hid hb2
  clear hn hb1 hb2
  go_enter Tryd.func10, Tryd.ntmps10
  go_wp2_with (first
    | (at_builtin; refine wpList_append_mine rfl (.tmp 26) (.tmp 28) rfl (some ⟨w.heap.size + 1, 0, none⟩) 1 1 (1 + n) [UInt8.ofNat n] rfl (by simpa using own_built (w.alloc (.cells #[.slice p n c, .string ⟨s.toArray⟩] 24)) (w.alloc (.cells #[.slice p n c, .string ⟨s.toArray⟩] 24)) (UInt8.ofNat n) _ (by first | rw [HB.out] | rw [HC.out]) (Below.refl _ _)) p n c v rfl HN.out (R0.out.next (below_one _ _)) rfl (by omega) ?_; intro p2 d2 w2 o2; have c1 : w2.cell? ⟨w.heap.size, 1, none⟩ = some (.string ⟨s.toArray⟩) := cell_of_row _ _ _ _ _ _ (first_kept o2.bel); have O2 := Lib.hid o2; clear o2)
    | (refine wpList_append_txt rfl (.tmp 30) (.tmp 32) rfl p2 (1 + n) d2 (1 + n + s.length) _ rfl O2.out s rfl rfl (by omega) ?_; intro p3 d3 w3 o3; have O3 := Lib.hid o3; clear o3 O2))
  go_ret2
  rw [HP.out]
  have hl : (UInt8.ofNat n :: (v ++ s)).length = 1 + n + s.length := by rw [List.length_cons, List.length_append, HN.out]; omega
  exact ⟨_, rfl, p3, d3, by rw [hl]; rfl, by rw [hl]; exact O3.out.lower B0.out⟩
set_option maxRecDepth 100000 in
set_option maxHeartbeats 1000000 in
theorem refPut_any (p : Option Addr) (n c : Nat) (v s : List UInt8) (w : World) (hn : v.length = n) (hm : n ≤ 300000) (hs : s.length ≤ 300000) (h : RowAt w p c v) :
    Calls Tryd.prog 11 #[.agg (ccells p n c s).toArray] w fun e w' => PutRes w w' e (Ch.put v s) := by
  have b0 := below_one w (.cells (ccells p n c s).toArray 24)
  have g0 : (w.alloc (.cells (ccells p n c s).toArray 24)).cell? ⟨w.heap.size, 0, none⟩ = some (.slice p n c) := cell_of_row _ _ _ _ _ _ (heap_alloc_new w _)
  have g1 : (w.alloc (.cells (ccells p n c s).toArray 24)).cell? ⟨w.heap.size, 1, none⟩ = some (.string ⟨s.toArray⟩) := cell_of_row _ _ _ _ _ _ (heap_alloc_new w _)
  have r0 := h.next b0
  have R0 := Lib.hid r0
  have B0 := Lib.hid b0
  have HN := Lib.hid hn
  clear r0 b0 h
  simp only [ccells] at R0 B0 g0 g1 ⊢
  by_cases h0 : n = 0
  · have hp := Lib.hid (Ch.put_bad (v := v) (s := s) (.inl (by omega)))
    subst h0
    clear hn
    go_enter Tryd.func11, Tryd.ntmps11
    go_wp2
    go_ret2
    rw [hp.out]
    exact ⟨_, rfl, bytesRes_nil B0.out⟩
  have i0 : ((n : Int) == 0) = false := by simp; omega
  have i1 : ¬ (n : Int) < 1 := by omega
  by_cases h5 : 255 < n
  · have hp := Lib.hid (Ch.put_bad (v := v) (s := s) (.inr (by omega)))
    have i5 : (255 : Int) < (n : Int) := by omega
    clear hn
    go_enter Tryd.func11, Tryd.ntmps11
    go_wp2
    go_ret2
    rw [hp.out]
    exact ⟨_, rfl, bytesRes_nil B0.out⟩
  have i5 : (n : Int) ≤ 255 := by omega
  by_cases h6 : 65526 < s.length
  · have hp := Lib.hid (Ch.put_long (v := v) (s := s) (by omega) h6)
    have i6 : (65526 : Int) < (s.length : Int) := by omega
    clear hn
    go_enter Tryd.func11, Tryd.ntmps11
    go_wp2
    go_ret2
    rw [hp.out]
    exact ⟨_, rfl, bytesRes_nil B0.out⟩
  have i6 : (s.length : Int) ≤ 65526 := by omega
  have hp := Ch.put_good (v := v) (s := s) (by omega) h6
  rw [hn] at hp
  have HP := Lib.hid hp
  clear hp
  have hb1 := byte_len v
  have hb2 := byte_len' v (by omega)
  rw [hn] at hb1 hb2
  have HB := Lib.hid hb1
  have HC := Lib.hid hb2
  clear hn hb1 hb2
  go_enter Tryd.func11, Tryd.ntmps11
  go_wp2_with (first
    | (at_builtin; refine wpList_append_mine (W0 := (w.alloc (.cells #[.slice p n c, .string ⟨s.toArray⟩] 24))) rfl (.tmp 19) (.tmp 24) rfl none 0 0 1 [] rfl ⟨rfl, World.ownsRow_nil _ _ _ _, below_one _ _⟩ (some ⟨w.heap.size + 1, 0, none⟩) 1 1 [UInt8.ofNat n] rfl rfl (by simpa using one_built (w.alloc (.cells #[.slice p n c, .string ⟨s.toArray⟩] 24)) (UInt8.ofNat n) _ (by first | rw [HB.out] | rw [HC.out])) rfl (by omega) ?_; intro p1 d1 w1 o1; have c0 : w1.cell? ⟨w.heap.size, 0, none⟩ = some (.slice p n c) := cell_of_row _ _ _ _ _ _ (first_kept o1.bel); have O1 := Lib.hid o1; clear o1)
    | (at_builtin; refine wpList_append_mine rfl (.tmp 26) (.tmp 28) rfl p1 1 d1 (1 + n) [UInt8.ofNat n] rfl O1.out p n c v rfl HN.out (R0.out.next O1.out.bel) rfl (by omega) ?_; intro p2 d2 w2 o2; have c1 : w2.cell? ⟨w.heap.size, 1, none⟩ = some (.string ⟨s.toArray⟩) := cell_of_row _ _ _ _ _ _ (first_kept o2.bel); have O2 := Lib.hid o2; clear o2)
    | (refine wpList_append_txt rfl (.tmp 30) (.tmp 32) rfl p2 (1 + n) d2 (1 + n + s.length) _ rfl O2.out s rfl rfl (by omega) ?_; intro p3 d3 w3 o3; have O3 := Lib.hid o3; clear o3 O2))
  go_ret2
  rw [HP.out]
  have hl : (UInt8.ofNat n :: (v ++ s)).length = 1 + n + s.length := by rw [List.length_cons, List.length_append, HN.out]; omega
  exact ⟨_, rfl, p3, d3, by rw [hl]; rfl, by rw [hl]; exact O3.out.lower B0.out⟩

end Go.Proofs.YtjalhlofpoknoaaDoor
