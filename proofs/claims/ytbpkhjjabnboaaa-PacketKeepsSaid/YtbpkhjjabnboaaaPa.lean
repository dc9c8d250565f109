/- Packets in memory: a packet's cells; what Get, Put, Options, Magic and Rejected tell. -/
import Derived.Test.YtbpkhjjabnboaaaBb
import Derived.Test.YtbpkhjjabnboaaaOct
import Derived.Test.YtbpkhjjabnboaaaOc
import Derived.Test.YtbpkhjjabnboaaaPlainp
namespace Go.Proofs.Ytbpkhjjabnboaaa
open Go.RowKit S2 S12

/-- A packet's cells. -/
def pcells (x : Pk.P) (v : Value) : List Value := [.int .i64 x.code, .int .i64 x.id, v]
theorem infoPkt : (Try.prog.info? 24).map (·.size) = some 3 := by kernel_rfl
theorem pcells_one (x : Pk.P) (p : Option Addr) (n c : Nat) : (pcells x (.slice p n c)).toArray.all (·.oneCell') = true := by rw [List.all_toArray]; simp [pcells, Value.oneCell']
theorem wpList_store_pkt {w : World} {ops : Array Oper} {rest : List Oper} {o : Oper} {a : Act} {Q : Exit → Act → World → Prop} (hgd : o.guard = none) (x y : Operand) (ho : o.op = .store 24 x y) (R : Nat) (r : Pk.P) (p : Option Addr) (n c : Nat) (cur : Array Value)
    (hx : a.eval x = .pointer (some ⟨R, 0, none⟩)) (hy : a.eval y = .agg (pcells r (.slice p n c)).toArray) (hR : w.heap[R]? = some (.cells cur 24 (0, 0))) (hcur : cur.size = 3)
    (h : wpList Try.prog ops Q rest (a.put o.dst undef) (w.setRow R (pcells r (.slice p n c)).toArray)) : wpList Try.prog ops Q (o :: rest) a w :=
  wpList_store_row hgd 24 x y ho R _ hx hy 24 cur hR infoPkt hcur (pcells_one r p n c) h
theorem run_store_pkt {w : World} {o : Oper} {a : Act} (x y : Operand) (ho : o.op = .store 24 x y) (R : Nat) (r : Pk.P) (p : Option Addr) (n c : Nat) (cur : Array Value)
    (hx : a.eval x = .pointer (some ⟨R, 0, none⟩)) (hy : a.eval y = .agg (pcells r (.slice p n c)).toArray) (hR : w.heap[R]? = some (.cells cur 24 (0, 0))) (hcur : cur.size = 3) :
    (execOp a.eval o).run Try.prog w = .ok .skip (w.setRow R (pcells r (.slice p n c)).toArray) := by
  have h := run_storeVar_row (P := Try.prog) w R 24 24 cur (pcells r (.slice p n c)).toArray hR infoPkt hcur (pcells_one r p n c)
  unfold execOp
  simp only [ho, hx, hy, Instr.storeAt, Instr.sureAddr, Sem.run_bind, Sem.run_pure, Result.andThen_ok, h]
/-- Two results, the first one in a cell. -/
theorem results_cell_tmp_row {P : Program} {fn : Func} {q p : Tmp} {ty : TypeId} (h : fn.results = #[.cell p ty, .tmp q]) (tmps : Array Value) (w : World) (g : Nat) (t : TypeId) (cs : Array Value) (fr : Nat × Nat) (d : TypeDesc)
    (hp : tmps.getD p undef = .pointer (some ⟨g, 0, none⟩)) (hg : w.heap[g]? = some (.cells cs t fr))
    (hu : P.underlying ty = some d) (hd : (match d with | .struct _ | .array _ _ => true | _ => false) = true) (hi : (P.info? ty).map (·.size) = some cs.size) :
    (results fn tmps).run P w = .ok (.tuple #[.agg cs, tmps.getD q undef]) w := by
  have hp' : tmps[p]?.getD undef = .pointer (some ⟨g, 0, none⟩) := by simpa using hp
  simp [results, h, hp', asAddr, run_loadVar_row w g t ty cs fr d hg hu hd hi]

/-- A packet that is answered, and the error. -/
def GetRes (w w' : World) (e : Ending) (A : Pk.P × Nat) : Prop :=
  ∃ v, e = .returned (.tuple #[.agg (pcells A.1 v).toArray, .int .i64 (A.2 : Int)]) ∧ w'.ownsRow w.heap.size 5 1 v A.1.data.length (Lib.byteCells A.1.data) ∧ Below w.heap.size w w'
theorem pkt_ret {w' : World} {fn : Func} {q p : Tmp} {R : Nat} {r : Pk.P} {e : Nat} {v : Value} {tmps : Array Value} {cs : Array Value} (h : fn.results = #[.cell p 24, .tmp q]) (hp : tmps.getD p undef = .pointer (some ⟨R, 0, none⟩)) (hq : tmps.getD q undef = .int .i64 (e : Int)) (hR : w'.heap[R]? = some (.cells cs 24 (0, 0))) :
    (results fn tmps).run Try.prog (w'.setRow R (pcells r v).toArray) = .ok (.tuple #[.agg (pcells r v).toArray, .int .i64 (e : Int)]) (w'.setRow R (pcells r v).toArray) := by
  have := results_cell_tmp_row (P := Try.prog) h tmps (w'.setRow R (pcells r v).toArray) R 24 _ _ _ hp (setRow_heap _ _ _ _ _ _ hR) Try.underlying24 rfl infoPkt
  rw [hq] at this
  exact this
theorem get_none {w w' : World} {e : Nat} (b : Below w.heap.size w w') : GetRes w w' (.returned (.tuple #[.agg (pcells Pk.pz (.slice none 0 0)).toArray, .int .i64 (e : Int)])) (Pk.pz, e) := ⟨_, rfl, World.ownsRow_nil _ _ _ _, b⟩
theorem GetRes.row {w w' : World} {e : Ending} {A : Pk.P × Nat} (h : GetRes w w' e A) : ∃ a c, e = .returned (.tuple #[.agg (pcells A.1 (.slice a A.1.data.length c)).toArray, .int .i64 (A.2 : Int)]) ∧ w'.ownsRow w.heap.size 5 1 (.slice a A.1.data.length c) A.1.data.length (Lib.byteCells A.1.data) ∧ RowAt w' a c A.1.data ∧ Below w.heap.size w w' := by
  obtain ⟨v, he, o, b⟩ := h
  obtain ⟨a, c, rfl, r⟩ := rowAt_own rfl o
  exact ⟨a, c, he, o, r, b⟩
/-- What Put tells. -/
def PutRes (w w' : World) (e : Ending) (x : Pk.P) : Prop :=
  Below w.heap.size w w' ∧ ((Pk.err x = 0 ∧ ∃ v, e = .returned (.tuple #[v, .int .i64 0]) ∧ w'.ownsRow w.heap.size 5 1 v (Pk.bytes x).length (Lib.byteCells (Pk.bytes x))) ∨ (Pk.err x ≠ 0 ∧ e = .returned (.tuple #[.slice none 0 0, .int .i64 (Pk.err x : Int)])))
theorem put_fine {w w' : World} {e : Ending} {x : Pk.P} (h : PutRes w w' e x) (h0 : Pk.err x = 0) : ∃ a c, e = .returned (.tuple #[.slice a (Pk.bytes x).length c, .int .i64 0]) ∧ RowAt w' a c (Pk.bytes x) ∧ Below w.heap.size w w' ∧ w'.ownsRow w.heap.size 5 1 (.slice a (Pk.bytes x).length c) (Pk.bytes x).length (Lib.byteCells (Pk.bytes x)) := by
  rcases h with ⟨b, ⟨_, v, rfl, o⟩ | ⟨h1, _⟩⟩
  · obtain ⟨a, c, rfl, r⟩ := rowAt_own rfl o
    exact ⟨a, c, rfl, r, b, o⟩
  · exact absurd h0 h1
theorem put_bad {w w' : World} {e : Ending} {x : Pk.P} (h : PutRes w w' e x) (h0 : Pk.err x ≠ 0) : e = .returned (.tuple #[.slice none 0 0, .int .i64 (Pk.err x : Int)]) ∧ Below w.heap.size w w' := by
  rcases h with ⟨b, ⟨h1, _⟩ | ⟨_, h1⟩⟩
  · exact absurd h1 h0
  · exact ⟨h1, b⟩
/-- What Put tells, whichever it is: bytes, and a number. -/
def outs (x : Pk.P) : List UInt8 := if Pk.err x = 0 then Pk.bytes x else []
theorem put_both {w w' : World} {e : Ending} {x : Pk.P} (h : PutRes w w' e x) : ∃ a c, e = .returned (.tuple #[.slice a (outs x).length c, .int .i64 (Pk.err x : Int)]) ∧ RowAt w' a c (outs x) ∧ Below w.heap.size w w' ∧ w'.ownsRow w.heap.size 5 1 (.slice a (outs x).length c) (outs x).length (Lib.byteCells (outs x)) := by
  by_cases h0 : Pk.err x = 0
  · obtain ⟨a, c, h1, h2, h3, h4⟩ := put_fine h h0
    rw [outs, if_pos h0]
    exact ⟨a, c, by rw [h1, h0]; rfl, h2, h3, h4⟩
  · obtain ⟨h1, h2⟩ := put_bad h h0
    rw [outs, if_neg h0]
    exact ⟨none, 0, h1, rowAt_nil _, h2, World.ownsRow_nil _ _ _ _⟩
/-- What Options tells. -/
def OptRes (w w' : World) (e : Ending) (A : List Ot.O × Bool) : Prop :=
  ∃ v, e = .returned (.tuple #[v, .bool A.2]) ∧ Opts w' w.heap.size v A.1 ∧ Below w.heap.size w w'
/-- What tells a number and what stands behind it. -/
def NumRes (k : IntKind) (w w' : World) (e : Ending) (A : Nat × List UInt8 × Bool) : Prop :=
  ∃ v, e = .returned (.tuple #[.int k (A.1 : Int), v, .bool A.2.2]) ∧ w'.ownsRow w.heap.size 5 1 v A.2.1.length (Lib.byteCells A.2.1) ∧ Below w.heap.size w w'
theorem num_none {k : IntKind} {w w' : World} (b : Below w.heap.size w w') : NumRes k w w' (.returned (.tuple #[.int k 0, .slice none 0 0, .bool false])) (0, [], false) := ⟨_, rfl, World.ownsRow_nil _ _ _ _, b⟩
theorem NumRes.row {k : IntKind} {w w' : World} {e : Ending} {A : Nat × List UInt8 × Bool} (h : NumRes k w w' e A) : ∃ a c, e = .returned (.tuple #[.int k (A.1 : Int), .slice a A.2.1.length c, .bool A.2.2]) ∧ w'.ownsRow w.heap.size 5 1 (.slice a A.2.1.length c) A.2.1.length (Lib.byteCells A.2.1) ∧ RowAt w' a c A.2.1 ∧ Below w.heap.size w w' := by
  obtain ⟨v, he, o, b⟩ := h
  obtain ⟨a, c, rfl, r⟩ := rowAt_own rfl o
  exact ⟨a, c, he, o, r, b⟩

/-- A packet that is handed in, laid into memory by the call; two. -/
theorem one_pkt (w : World) (c1 : Array Value) : Below w.heap.size w (w.alloc (.cells c1 24)) ∧ (w.alloc (.cells c1 24)).heap[w.heap.size]? = some (.cells c1 24 (0, 0)) := ⟨below_one _ _, heap_alloc_new w _⟩
theorem two_pkts (w : World) (c1 c2 : Array Value) :
    Below w.heap.size w ((w.alloc (.cells c1 24)).alloc (.cells c2 24)) ∧ ((w.alloc (.cells c1 24)).alloc (.cells c2 24)).heap[w.heap.size]? = some (.cells c1 24 (0, 0)) ∧ ((w.alloc (.cells c1 24)).alloc (.cells c2 24)).heap[w.heap.size + 1]? = some (.cells c2 24 (0, 0)) := by
  refine ⟨below_two _ _ _, block_next (heap_alloc_new w _) (below_one _ _), ?_⟩
  have := heap_alloc_new (w.alloc (.cells c1 24)) (.cells c2 24)
  simpa using this
theorem parts_three {w : World} {p q r : Option Addr} {n m k c d e : Nat} {xs ys zs : List UInt8} (hn : xs.length = n) (hm : ys.length = m) (hk : zs.length = k) (h1 : RowAt w p c xs) (h2 : RowAt w q d ys) (h3 : RowAt w r e zs) :
    PartsAt (w.alloc (.cells #[.slice p n c, .slice q m d, .slice r k e] 22)) (some ⟨w.heap.size, 0, none⟩) [xs, ys, zs] := by
  subst hn
  subst hm
  subst hk
  have hg := heap_alloc_new w (.cells #[.slice p xs.length c, .slice q ys.length d, .slice r zs.length e] 22)
  refine .inr ⟨w.heap.size, 0, rfl, lt_of_block hg, fun j hj => ?_⟩
  have hb := below_one w (.cells #[.slice p xs.length c, .slice q ys.length d, .slice r zs.length e] 22)
  have hj3 : j = 0 ∨ j = 1 ∨ j = 2 := by simp at hj; omega
  rcases hj3 with rfl | rfl | rfl
  · exact ⟨p, c, cell_of_row _ _ _ _ _ _ hg, h1.next hb⟩
  · exact ⟨q, d, cell_of_row _ _ _ _ _ _ hg, h2.next hb⟩
  · exact ⟨r, e, cell_of_row _ _ _ _ _ _ hg, h3.next hb⟩
theorem own_built_row (w : World) (base : Nat) (xs : List UInt8) (n : Nat) (cs : Array Value) (hn : xs.length = n) (hcs : cs = (Lib.byteCells xs).toArray) (hb : base ≤ w.heap.size) (hm : n ≤ 300000) : (w.alloc (.cells cs 5)).ownsRow base 5 1 (.slice (some ⟨w.heap.size, 0, none⟩) n n) n (Lib.byteCells xs) := by
  subst hcs
  subst hn
  refine ⟨by rw [Lib.byteCells_length, Nat.mul_one], .inr ⟨w.heap.size, xs.length, _, rfl, hb, heap_alloc_new w _, Nat.le_refl _, by unfold maxLen; omega, ?_, ?_⟩⟩
  · simp [Lib.byteCells_length]
  · simp only [Nat.mul_one]
    exact List.take_of_length_le (by rw [Lib.byteCells_length]; omega)

set_option maxRecDepth 100000 in
set_option maxHeartbeats 1000000 in
theorem same_any (x y : Pk.P) (p q : Option Addr) (n m c d : Nat) (w : World) (hn : x.data.length = n) (hm : y.data.length = m) (h : RowAt w p c x.data) (k : RowAt w q d y.data) :
    Calls Try.prog 14 #[.agg (pcells x (.slice p n c)).toArray, .agg (pcells y (.slice q m d)).toArray] w fun e w' => e = .returned (.bool (decide (x = y))) ∧ Below w.heap.size w w' := by
  have c1 := fun W (h : RowAt W p c x.data) k => equal_any p q n m c d x.data y.data W hn hm h k
  have C1 := Lib.hid c1
  have H := Lib.hid h
  have K := Lib.hid k
  have h0 := two_pkts w (pcells x (.slice p n c)).toArray (pcells y (.slice q m d)).toArray
  have hd1 : x.code ≠ y.code → decide (x = y) = false := fun e => decide_eq_false fun e' => e (by rw [e'])
  have hd2 : x.id ≠ y.id → decide (x = y) = false := fun e => decide_eq_false fun e' => e (by rw [e'])
  have hd3 : x.code = y.code → x.id = y.id → decide (x = y) = decide (x.data = y.data) := fun e1 e2 => decide_eq_decide.2 ⟨fun e => by rw [e], fun e' => Pk.P.ext' e1 e2 e'⟩
  have D1 := Lib.hid hd1
  have D2 := Lib.hid hd2
  have D3 := Lib.hid hd3
  clear c1 h k hn hm hd1 hd2 hd3
  generalize decide (x = y) = Z at *
  generalize decide (x.data = y.data) = Y at *
  simp only [pcells] at h0 ⊢
  by_cases hc : x.code = y.code
  · have i1 : (x.code == y.code) = true := by simpa using hc
    by_cases hi : x.id = y.id
    · obtain rfl := D3.out hc hi
      have i2 : (x.id == y.id) = true := by simpa using hi
      clear hc hi D1 D2 D3
      have B0 := Lib.hid h0.1
      clear h0
      go_enter Try.func14, Try.ntmps14
      go_wp2_with fail
      refine (C1.out _ (H.out.next B0.out) (K.out.next B0.out)).mono ?_
      rintro e w1 ⟨rfl, h1⟩; rw [h1]; clear h1
      go_wp2
      go_ret
      exact ⟨rfl, B0.out⟩
    · obtain rfl := D2.out hi
      have i2 : (x.id == y.id) = false := by simpa using hi
      clear hc hi D1 D2 D3
      have B0 := Lib.hid h0.1
      clear h0
      go_enter Try.func14, Try.ntmps14
      go_wp2
      go_ret
      exact ⟨rfl, B0.out⟩
  · obtain rfl := D1.out hc
    have i1 : (x.code == y.code) = false := by simpa using hc
    clear hc D1 D2 D3
    have B0 := Lib.hid h0.1
    clear h0
    go_enter Try.func14, Try.ntmps14
    go_wp2
    go_ret
    exact ⟨rfl, B0.out⟩

set_option maxRecDepth 100000 in
set_option maxHeartbeats 1000000 in
theorem refSame_any (x y : Pk.P) (p q : Option Addr) (n m c d : Nat) (w : World) (hn : x.data.length = n) (hm : y.data.length = m) (h : RowAt w p c x.data) (k : RowAt w q d y.data) :
    Calls Try.prog 13 #[.agg (pcells x (.slice p n c)).toArray, .agg (pcells y (.slice q m d)).toArray] w fun e w' => e = .returned (.bool (decide (x = y))) ∧ Below w.heap.size w w' := by
  have h0 := two_pkts w (pcells x (.slice p n c)).toArray (pcells y (.slice q m d)).toArray
  have hd1 : x.code ≠ y.code → decide (x = y) = false := fun e => decide_eq_false fun e' => e (by rw [e'])
  have hd2 : x.id ≠ y.id → decide (x = y) = false := fun e => decide_eq_false fun e' => e (by rw [e'])
  have hd3 : x.code = y.code → x.id = y.id → decide (x = y) = (x.data == y.data) := fun e1 e2 => by rw [texts_eq]; exact decide_eq_decide.2 ⟨fun e => by rw [e], fun e' => Pk.P.ext' e1 e2 e'⟩
  have k1 := conv_row hn (h.next h0.1)
  have k2 := conv_row hm (k.next h0.1)
  have D1 := Lib.hid hd1
  have D2 := Lib.hid hd2
  have D3 := Lib.hid hd3
  clear h k hn hm hd1 hd2 hd3
  generalize decide (x = y) = Z at *
  simp only [pcells] at h0 k1 k2 ⊢
  by_cases hc : x.code = y.code
  · have i1 : (x.code == y.code) = true := by simpa using hc
    by_cases hi : x.id = y.id
    · obtain rfl := D3.out hc hi
      have i2 : (x.id == y.id) = true := by simpa using hi
      clear hc hi D1 D2 D3
      have B0 := Lib.hid h0.1
      clear h0
      go_enter Try.func13, Try.ntmps13
      go_wp2
      go_ret
      exact ⟨rfl, B0.out⟩
    · obtain rfl := D2.out hi
      have i2 : (x.id == y.id) = false := by simpa using hi
      clear hc hi D1 D2 D3
      have B0 := Lib.hid h0.1
      clear h0
      go_enter Try.func13, Try.ntmps13
      go_wp2
      go_ret
      exact ⟨rfl, B0.out⟩
  · obtain rfl := D1.out hc
    have i1 : (x.code == y.code) = false := by simpa using hc
    clear hc D1 D2 D3
    have B0 := Lib.hid h0.1
    clear h0
    go_enter Try.func13, Try.ntmps13
    go_wp2
    go_ret
    exact ⟨rfl, B0.out⟩
end Go.Proofs.Ytbpkhjjabnboaaa
