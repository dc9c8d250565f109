/- Addresses in memory; == of addresses. -/
import Derived.Test.YtacnlancncmpmaaBb
import Derived.Test.YtacnlancncmpmaaOct
import Derived.Test.YtacnlancncmpmaaOb
import Derived.Test.YtacnlancncmpmaaPlainad
import Derived.Laws.CopyOwn
import Derived.Deep.MidRow
namespace Go.Proofs.Ytacnlancncmpmaa
open Go.RowKit S2 S12

/-- The cells of addresses. -/
def acells (t : Ad.T) : List Value :=
  [.bool t.hasIp, .int .u8 (t.ip.a.toNat : Int), .int .u8 (t.ip.b.toNat : Int), .int .u8 (t.ip.c.toNat : Int), .int .u8 (t.ip.d.toNat : Int), .bool t.hasVj, .int .i64 t.slots, .bool t.vjId, .bool t.d0, .bool t.d1, .bool t.d2, .bool t.d3,
    .int .u8 (t.n0.a.toNat : Int), .int .u8 (t.n0.b.toNat : Int), .int .u8 (t.n0.c.toNat : Int), .int .u8 (t.n0.d.toNat : Int), .int .u8 (t.n1.a.toNat : Int), .int .u8 (t.n1.b.toNat : Int), .int .u8 (t.n1.c.toNat : Int), .int .u8 (t.n1.d.toNat : Int),
    .int .u8 (t.n2.a.toNat : Int), .int .u8 (t.n2.b.toNat : Int), .int .u8 (t.n2.c.toNat : Int), .int .u8 (t.n2.d.toNat : Int), .int .u8 (t.n3.a.toNat : Int), .int .u8 (t.n3.b.toNat : Int), .int .u8 (t.n3.c.toNat : Int), .int .u8 (t.n3.d.toNat : Int),
    .bool t.hasId, .int .u8 (t.id.a.toNat : Int), .int .u8 (t.id.b.toNat : Int), .int .u8 (t.id.c.toNat : Int), .int .u8 (t.id.d.toNat : Int), .int .u8 (t.id.e.toNat : Int), .int .u8 (t.id.f.toNat : Int), .int .u8 (t.id.g.toNat : Int), .int .u8 (t.id.h.toNat : Int)]
def cells4 (x : Ad.B4) : List Value := [.int .u8 (x.a.toNat : Int), .int .u8 (x.b.toNat : Int), .int .u8 (x.c.toNat : Int), .int .u8 (x.d.toNat : Int)]
def cells8 (x : Ad.B8) : List Value := [.int .u8 (x.a.toNat : Int), .int .u8 (x.b.toNat : Int), .int .u8 (x.c.toNat : Int), .int .u8 (x.d.toNat : Int), .int .u8 (x.e.toNat : Int), .int .u8 (x.f.toNat : Int), .int .u8 (x.g.toNat : Int), .int .u8 (x.h.toNat : Int)]
theorem cells4_bytes (x : Ad.B4) : Lib.byteCells x.list = cells4 x := rfl
theorem cells8_bytes (x : Ad.B8) : Lib.byteCells x.list = cells8 x := rfl
theorem infoAd : (Try.prog.info? 35).map (·.size) = some 37 := by kernel_rfl
theorem info4 : (Try.prog.info? 30).map (·.size) = some 4 := by kernel_rfl
theorem info8 : (Try.prog.info? 33).map (·.size) = some 8 := by kernel_rfl
theorem infoB4 : (Try.prog.info? 31).map (·.size) = some 4 := by kernel_rfl
theorem cells4_one (x : Ad.B4) : (cells4 x).toArray.all (·.oneCell') = true := by rw [List.all_toArray]; simp [cells4, Value.oneCell']
theorem cells8_one (x : Ad.B8) : (cells8 x).toArray.all (·.oneCell') = true := by rw [List.all_toArray]; simp [cells8, Value.oneCell']
theorem acells_one (t : Ad.T) : (acells t).toArray.all (·.oneCell') = true := by rw [List.all_toArray]; simp [acells, Value.oneCell']
theorem acells_size (t : Ad.T) : (acells t).toArray.size = 37 := rfl
theorem wpList_store_ad {w : World} {ops : Array Oper} {rest : List Oper} {o : Oper} {a : Act} {Q : Exit → Act → World → Prop} (hgd : o.guard = none) (x y : Operand) (ho : o.op = .store 35 x y) (R : Nat) (t : Ad.T) (cur : Array Value)
    (hx : a.eval x = .pointer (some ⟨R, 0, none⟩)) (hy : a.eval y = .agg (acells t).toArray) (hR : w.heap[R]? = some (.cells cur 35 (0, 0))) (hcur : cur.size = 37)
    (h : wpList Try.prog ops Q rest (a.put o.dst undef) (w.setRow R (acells t).toArray)) : wpList Try.prog ops Q (o :: rest) a w :=
  wpList_store_row hgd 35 x y ho R _ hx hy 35 cur hR infoAd hcur (acells_one t) h
/-- Addresses in a block of their own. -/
def TmAt (w : World) (g : Nat) (t : Ad.T) : Prop := w.heap[g]? = some (.cells (acells t).toArray 35 (0, 0))
theorem TmAt.cell {w : World} {g : Nat} {t : Ad.T} (h : TmAt w g t) (i : Nat) : w.cell? ⟨g, i, none⟩ = (acells t).toArray[i]? := cell_of_row _ _ _ _ _ _ h
theorem TmAt.frozen {w : World} {g : Nat} {t : Ad.T} (h : TmAt w g t) (i : Nat) : w.frozen? ⟨g, i, none⟩ = false := frozen_of_row _ _ _ _ _ h
theorem TmAt.set {w : World} {g : Nat} {t : Ad.T} (h : TmAt w g t) (i : Nat) (v : Value) (s : Ad.T) (e : (acells t).toArray.setIfInBounds i v = (acells s).toArray) : TmAt (w.setCell ⟨g, i, none⟩ v) g s := by
  have := heap_setCell_same w g i _ _ v h
  rw [e] at this
  exact this
theorem TmAt.lt {w : World} {g : Nat} {t : Ad.T} (h : TmAt w g t) : g < w.heap.size := lt_of_block h
theorem TmAt.next {w w' : World} {g : Nat} {t : Ad.T} (h : TmAt w g t) (hb : Below w.heap.size w w') : TmAt w' g t := (hb.block g h.lt).trans h
theorem TmAt.kept {w w' : World} {g q : Nat} {t : Ad.T} (h : TmAt w g t) (hg : w.grownBy w' (some q)) (hq : g ≠ q) : TmAt w' g t := (hg.block g h.lt (fun e => hq (Option.some.inj e))).trans h
theorem TmAt.kept' {w w' : World} {g : Nat} {row : Option Nat} {t : Ad.T} (h : TmAt w g t) (hg : w.grownBy w' row) (hq : some g ≠ row) : TmAt w' g t := (hg.block g h.lt hq).trans h
/-- A part of the cells. -/
theorem TmAt.range {w : World} {g : Nat} {t : Ad.T} (h : TmAt w g t) (o : Nat) (cs : List Value) (e : ((acells t).drop o).take cs.length = cs) : w.rangeAt g o cs := fun j v hv => by
  rw [h.cell (o + j)]
  rw [← e] at hv
  simp only [List.getElem?_take, List.getElem?_drop] at hv
  split at hv
  · simpa using hv
  · cases hv
theorem TmAt.there {w : World} {g : Nat} {t : Ad.T} (h : TmAt w g t) (o n : Nat) (hn : o + n ≤ 37) : w.there g o n := fun j hj => by
  refine ⟨?_, h.frozen _⟩
  rw [h.cell (o + j)]
  simp only [List.getElem?_toArray]
  rw [List.getElem?_eq_getElem (show o + j < (acells t).length by show o + j < 37; omega)]
  rfl
theorem TmAt.put {w : World} {g : Nat} {t s : Ad.T} (h : TmAt w g t) (cs : List Value) (e : cs = acells s) : TmAt (w.setRow g cs.toArray) g s := by
  subst e
  exact setRow_heap _ _ _ _ _ _ h
theorem grown_setRow (w : World) (g : Nat) (cs : Array Value) : w.grownBy (w.setRow g cs) (some g) :=
  ⟨rfl, rfl, rfl, by simp [World.setRow], fun k _ hne => setRow_other _ _ _ _ (fun e => hne (by rw [e]))⟩
theorem grown_cell (w : World) (g i : Nat) (v : Value) : w.grownBy (w.setCell ⟨g, i, none⟩ v) (some g) :=
  ⟨rfl, rfl, rfl, by simp [World.setCell], fun k _ hne => heap_setCell_other _ _ _ _ (fun e => hne (by rw [e]))⟩
theorem grown_below {w w' : World} (b : Below w.heap.size w w') (row : Option Nat) : w.grownBy w' row := ⟨b.os, b.tape, b.output, b.size, fun k hk _ => b.block k hk⟩
theorem grown_trans {w w1 w2 : World} {row : Option Nat} (h : w.grownBy w1 row) (k : w1.grownBy w2 row) : w.grownBy w2 row :=
  ⟨k.os.trans h.os, k.tape.trans h.tape, k.output.trans h.output, Nat.le_trans h.size k.size, fun j hj hne => (k.block j (Nat.lt_of_lt_of_le hj h.size) hne).trans (h.block j hj hne)⟩

/-- A row within a block is read, in a region that draws its order. -/
theorem run_load_arr {T : TypeId} {o : Oper} {a : Act} (x : Operand) (ho : o.op = .load T x) (b k : Nat) (hx : a.eval x = .pointer (some ⟨b, k, none⟩)) (cs : List Value) (d : TypeDesc) (hu : Try.prog.underlying T = some d) (hd : d.isRow = true) (hi : (Try.prog.info? T).map (·.size) = some cs.length) {W : World} (hW : W.rangeAt b k cs) :
    (execOp a.eval o).run Try.prog W = .ok (.value (.agg cs.toArray)) W := by
  unfold execOp
  simp only [ho, hx, Instr.loadAt, Instr.sureAddr, Sem.run_bind, Sem.run_pure, Result.andThen_ok, run_loadVar_mid W b k T cs d hW hu hd hi]
theorem range_block {W : World} {g : Nat} {cs : List Value} {T : TypeId} {fr : Nat × Nat} (h : W.heap[g]? = some (.cells cs.toArray T fr)) : W.rangeAt g 0 cs := fun j v hv => by
  rw [Nat.zero_add, cell_of_row _ _ _ _ _ _ h]; simpa using hv
/-- Four bytes are stored among addresses. -/
theorem run_storeVar_four (w : World) (g k : Nat) (t s : Ad.T) (v : Ad.B4) (hT : TmAt w g t) (hk : k + 4 ≤ 37) (e : (acells t).take k ++ cells4 v ++ (acells t).drop (k + 4) = acells s) :
    (storeVar 30 ⟨g, k, none⟩ (.agg (cells4 v).toArray)).run Try.prog w = .ok () (w.setRow g (acells s).toArray) := by
  have := run_storeCells_at Try.prog g k 35 (cells4 v) 0 (acells t).toArray w hT (by show k + 0 + 4 ≤ 37; omega) (fun u hu => by have := Array.all_eq_true_iff_forall_mem.1 (cells4_one v) u; simpa using this (by simpa using hu))
  have hi := info4
  have e2 : (cells4 v).length = 4 := rfl
  simp only [Nat.add_zero, e2, e] at this
  cases hq : Try.prog.info? 30 with
  | none => simp [hq] at hi
  | some i =>
    have hs : (cells4 v).length = i.size := by simp [hq] at hi; omega
    simp [storeVar, sizeOf, typeInfo, hq, Value.cells, hs, this]
theorem wpList_store_four {w : World} {ops : Array Oper} {rest : List Oper} {o : Oper} {a : Act} {Q : Exit → Act → World → Prop} (hgd : o.guard = none) (x y : Operand) (ho : o.op = .store 30 x y) (g k : Nat) (t s : Ad.T) (v : Ad.B4)
    (hx : a.eval x = .pointer (some ⟨g, k, none⟩)) (hy : a.eval y = .agg (cells4 v).toArray) (hT : TmAt w g t) (hk : k + 4 ≤ 37) (e : (acells t).take k ++ cells4 v ++ (acells t).drop (k + 4) = acells s)
    (h : ∀ w', Hid (TmAt w' g s) → w.grownBy w' (some g) → wpList Try.prog ops Q rest (a.put o.dst undef) w') : wpList Try.prog ops Q (o :: rest) a w := by
  refine wpList_plain hgd fun K hK => ?_
  unfold Oper.wp execOp
  simp only [ho, hx, hy, Instr.storeAt, Instr.sureAddr, Sem.run_bind, Sem.run_pure, Result.andThen_ok, run_storeVar_four w g k t s v hT hk e]
  exact hK _ _ (h _ (setRow_heap _ _ _ _ _ _ hT) (grown_setRow _ _ _))
/-! == of arrays and of addresses. -/
theorem eq_array {d : Nat} {T elem : TypeId} {len n : Nat} (xs ys : Array Value) (w : World) (hu : Try.prog.underlying T = some (.array len elem)) (hs : (sizeOf elem).run Try.prog w = .ok n w) (f : Nat → Bool)
    (hf : ∀ i, i < len → ∃ px py, (part elem xs (i * n)).run Try.prog w = .ok px w ∧ (part elem ys (i * n)).run Try.prog w = .ok py w ∧ (Op.equalIn d elem px py).run Try.prog w = .ok (f i) w) :
    (Op.equalIn (d + 1) T (.agg xs) (.agg ys)).run Try.prog w = .ok ((List.range len).all f) w := by
  unfold Op.equalIn
  simp only [Sem.run_bind, run_underlying hu, Result.andThen_ok, hs, Std.Legacy.Range.forIn_eq_forIn_range']
  have key : ∀ l : List Nat, (∀ i ∈ l, i < len) → (forIn l ((none, ()) : Option Bool × Unit) fun i __s => (do
              let __do_lift ← part elem xs (i * n)
              let __do_lift_1 ← part elem ys (i * n)
              let __do_lift ← Op.equalIn d elem __do_lift __do_lift_1
              if (!__do_lift) = true then pure (ForInStep.done (some false, ())) else pure (ForInStep.yield (none, ())) : Sem _)).run Try.prog w = .ok (if l.all f then (none, ()) else (some false, ())) w := by
    intro l
    induction l with
    | nil => intro _; simp
    | cons i l ih =>
      intro h
      obtain ⟨px, py, h1, h2, h3⟩ := hf i (h i (by simp))
      rw [List.forIn_cons]
      simp only [Sem.run_bind, h1, h2, h3, Result.andThen_ok, List.all_cons]
      by_cases e : f i = true
      · simp only [e, Bool.not_true, Bool.false_eq_true, if_false, Sem.run_pure, Result.andThen_ok, Bool.true_and]
        exact ih (fun j hj => h j (by simp [hj]))
      · simp [e]
  rw [key _ (by intro i hi; simp at hi; omega)]
  have e : List.range' 0 len = List.range len := List.range_eq_range'.symm
  simp only [Std.Legacy.Range.size, Nat.sub_zero, Nat.add_sub_cancel, Nat.div_one, e]
  by_cases h : (List.range len).all f = true
  · simp [h]
  · simp [h]
theorem part_one {elem : TypeId} (xs : Array Value) (i : Nat) (v : Value) (w : World) (ha : (isAgg elem).run Try.prog w = .ok false w) (h : xs[i]? = some v) : (part elem xs i).run Try.prog w = .ok v w := by
  unfold part
  simp only [Sem.run_bind, ha, Result.andThen_ok, Bool.false_eq_true, if_false, h, Sem.run_pure]
theorem part_agg {elem : TypeId} (xs : Array Value) (i n : Nat) (w : World) (ha : (isAgg elem).run Try.prog w = .ok true w) (hs : (sizeOf elem).run Try.prog w = .ok n w) : (part elem xs i).run Try.prog w = .ok (.agg (xs.extract i (i + n))) w := by
  unfold part
  simp only [Sem.run_bind, ha, Result.andThen_ok, if_true, hs, Sem.run_pure]
theorem eq_byte (x y : UInt8) : ((x.toNat : Int) == (y.toNat : Int)) = decide (x = y) := by
  by_cases h : x = y
  · subst h; simp
  · rw [decide_eq_false h, beq_eq_false_iff_ne]
    intro e
    exact h (UInt8.toNat_inj.1 (by omega))
/-- == of two arrays of bytes. -/
theorem eq_bytes {T : TypeId} {len : Nat} (d : Nat) (X Y : List UInt8) (w : World) (hu : Try.prog.underlying T = some (.array len 5)) (hX : X.length = len) (hY : Y.length = len) :
    (Op.equalIn (d + 1 + 1) T (.agg (Lib.byteCells X).toArray) (.agg (Lib.byteCells Y).toArray)).run Try.prog w = .ok (decide (X = Y)) w := by
  have h := eq_array (d := d + 1) (Lib.byteCells X).toArray (Lib.byteCells Y).toArray w hu (n := 1) (Try.sizeOf5 w) (fun i => decide (X[i]? = Y[i]?)) (fun i hi => ?_)
  · rw [h]
    congr 1
    rw [Bool.eq_iff_iff, List.all_eq_true, decide_eq_true_iff]
    constructor
    · intro k
      refine List.ext_getElem? fun i => ?_
      by_cases hi : i < len
      · simpa using k i (by simpa using hi)
      · rw [List.getElem?_eq_none (by omega), List.getElem?_eq_none (by omega)]
    · rintro rfl i _; simp
  · refine ⟨.int .u8 (X[i].toNat : Int), .int .u8 (Y[i].toNat : Int), part_one _ _ _ w (Try.isAgg5 w) (by simp [Lib.byteCells, List.getElem?_eq_getElem (show i < X.length by omega)]), part_one _ _ _ w (Try.isAgg5 w) (by simp [Lib.byteCells, List.getElem?_eq_getElem (show i < Y.length by omega)]), ?_⟩
    rw [run_equalIn_int w d 5 .u8 .u8 _ _ Try.underlying5, eq_byte]
    congr 1
    rw [List.getElem?_eq_getElem (show i < X.length by omega), List.getElem?_eq_getElem (show i < Y.length by omega)]
    exact decide_eq_decide.2 (by simp)
theorem list4 (x y : Ad.B4) : decide (x.list = y.list) = decide (x = y) := decide_eq_decide.2 ⟨fun h => by
  obtain ⟨a, b, c, d⟩ := x
  obtain ⟨a', b', c', d'⟩ := y
  simpa [Ad.B4.list] using h, fun h => by rw [h]⟩
theorem list8 (x y : Ad.B8) : decide (x.list = y.list) = decide (x = y) := decide_eq_decide.2 ⟨fun h => by
  obtain ⟨a, b, c, d, e, f, g, i⟩ := x
  obtain ⟨a', b', c', d', e', f', g', i'⟩ := y
  simpa [Ad.B8.list] using h, fun h => by rw [h]⟩
theorem eq4 (d : Nat) (x y : Ad.B4) (w : World) : (Op.equalIn (d + 1 + 1) 30 (.agg (cells4 x).toArray) (.agg (cells4 y).toArray)).run Try.prog w = .ok (decide (x = y)) w := by
  rw [← cells4_bytes, ← cells4_bytes, eq_bytes d x.list y.list w Try.underlying30 rfl rfl, list4]
theorem eq8 (d : Nat) (x y : Ad.B8) (w : World) : (Op.equalIn (d + 1 + 1) 33 (.agg (cells8 x).toArray) (.agg (cells8 y).toArray)).run Try.prog w = .ok (decide (x = y)) w := by
  rw [← cells8_bytes, ← cells8_bytes, eq_bytes d x.list y.list w Try.underlying33 rfl rfl, list8]
theorem eq44 (d : Nat) (x0 x1 x2 x3 y0 y1 y2 y3 : Ad.B4) (w : World) : (Op.equalIn (d + 1 + 1 + 1) 32 (.agg (cells4 x0 ++ (cells4 x1 ++ (cells4 x2 ++ cells4 x3))).toArray) (.agg (cells4 y0 ++ (cells4 y1 ++ (cells4 y2 ++ cells4 y3))).toArray)).run Try.prog w = .ok (decide (x0 = y0) && (decide (x1 = y1) && (decide (x2 = y2) && decide (x3 = y3)))) w := by
  rw [eq_array (d := d + 1 + 1) _ _ w Try.underlying32 (n := 4) (Try.sizeOf30 w) (fun i => if i = 0 then decide (x0 = y0) else if i = 1 then decide (x1 = y1) else if i = 2 then decide (x2 = y2) else decide (x3 = y3)) (fun i hi => ?_)]
  · congr 1
    simp [List.range_succ]
  · have hi4 : i = 0 ∨ i = 1 ∨ i = 2 ∨ i = 3 := by omega
    rcases hi4 with rfl | rfl | rfl | rfl
    · exact ⟨_, _, part_agg _ _ 4 w (Try.isAgg30 w) (Try.sizeOf30 w), part_agg _ _ 4 w (Try.isAgg30 w) (Try.sizeOf30 w), eq4 d x0 y0 w⟩
    · exact ⟨_, _, part_agg _ _ 4 w (Try.isAgg30 w) (Try.sizeOf30 w), part_agg _ _ 4 w (Try.isAgg30 w) (Try.sizeOf30 w), eq4 d x1 y1 w⟩
    · exact ⟨_, _, part_agg _ _ 4 w (Try.isAgg30 w) (Try.sizeOf30 w), part_agg _ _ 4 w (Try.isAgg30 w) (Try.sizeOf30 w), eq4 d x2 y2 w⟩
    · exact ⟨_, _, part_agg _ _ 4 w (Try.isAgg30 w) (Try.sizeOf30 w), part_agg _ _ 4 w (Try.isAgg30 w) (Try.sizeOf30 w), eq4 d x3 y3 w⟩
theorem eqb4 (d : Nat) (x0 x1 x2 x3 y0 y1 y2 y3 : Bool) (w : World) : (Op.equalIn (d + 1 + 1) 31 (.agg #[.bool x0, .bool x1, .bool x2, .bool x3]) (.agg #[.bool y0, .bool y1, .bool y2, .bool y3])).run Try.prog w = .ok (decide (x0 = y0) && (decide (x1 = y1) && (decide (x2 = y2) && decide (x3 = y3)))) w := by
  rw [eq_array (d := d + 1) _ _ w Try.underlying31 (n := 1) (Try.sizeOf4 w) (fun i => if i = 0 then decide (x0 = y0) else if i = 1 then decide (x1 = y1) else if i = 2 then decide (x2 = y2) else decide (x3 = y3)) (fun i hi => ?_)]
  · congr 1
    simp [List.range_succ]
  · have hb (x y : Bool) : (Op.equalIn (d + 1) 4 (.bool x) (.bool y)).run Try.prog w = .ok (decide (x = y)) w := by
      rw [run_equalIn_bool w d 4 x y Try.underlying4]
      cases x <;> cases y <;> rfl
    have hi4 : i = 0 ∨ i = 1 ∨ i = 2 ∨ i = 3 := by omega
    rcases hi4 with rfl | rfl | rfl | rfl
    · exact ⟨_, _, part_one _ _ _ w (Try.isAgg4 w) rfl, part_one _ _ _ w (Try.isAgg4 w) rfl, hb x0 y0⟩
    · exact ⟨_, _, part_one _ _ _ w (Try.isAgg4 w) rfl, part_one _ _ _ w (Try.isAgg4 w) rfl, hb x1 y1⟩
    · exact ⟨_, _, part_one _ _ _ w (Try.isAgg4 w) rfl, part_one _ _ _ w (Try.isAgg4 w) rfl, hb x2 y2⟩
    · exact ⟨_, _, part_one _ _ _ w (Try.isAgg4 w) rfl, part_one _ _ _ w (Try.isAgg4 w) rfl, hb x3 y3⟩
set_option maxRecDepth 100000 in
theorem eq_ad (a b : Ad.T) (w : World) : (Op.equalIn 10000 35 (.agg (acells a).toArray) (.agg (acells b).toArray)).run Try.prog w = .ok (decide (a = b)) w := by
  have h4 := eq4
  have h8 := eq8
  have h44 := eq44
  have hb4 := eqb4
  simp only [cells4, cells8, List.cons_append, List.nil_append, acells] at h4 h8 h44 hb4 ⊢
  go_simp
  have hx : a = b ↔ (a.hasIp = b.hasIp ∧ a.ip = b.ip ∧ a.hasVj = b.hasVj ∧ a.slots = b.slots ∧ a.vjId = b.vjId ∧ a.d0 = b.d0 ∧ a.d1 = b.d1 ∧ a.d2 = b.d2 ∧ a.d3 = b.d3 ∧ a.n0 = b.n0 ∧ a.n1 = b.n1 ∧ a.n2 = b.n2 ∧ a.n3 = b.n3 ∧ a.hasId = b.hasId ∧ a.id = b.id) := ⟨fun h => by subst h; simp, fun ⟨h1, h2, h3, h4, h5, h6, h7, h8, h9, g1, g2, g3, g4, g5, g6⟩ => Ad.T.ext' h1 h2 h3 h4 h5 h6 h7 h8 h9 g1 g2 g3 g4 g5 g6⟩
  have hx2 : decide (a = b) = decide (a.hasIp = b.hasIp ∧ a.ip = b.ip ∧ a.hasVj = b.hasVj ∧ a.slots = b.slots ∧ a.vjId = b.vjId ∧ a.d0 = b.d0 ∧ a.d1 = b.d1 ∧ a.d2 = b.d2 ∧ a.d3 = b.d3 ∧ a.n0 = b.n0 ∧ a.n1 = b.n1 ∧ a.n2 = b.n2 ∧ a.n3 = b.n3 ∧ a.hasId = b.hasId ∧ a.id = b.id) := decide_eq_decide.2 hx
  rw [hx2]
  clear hx2 hx h4 h8 h44 hb4
  by_cases e0 : a.hasIp = b.hasIp
  case neg => simp [e0]
  simp only [e0, if_true, true_and]
  by_cases e1 : a.ip = b.ip
  case neg => simp [e1]
  simp only [e1, if_true, true_and]
  by_cases e2 : a.hasVj = b.hasVj
  case neg => simp [e2]
  simp only [e2, if_true, true_and]
  by_cases e3 : a.slots = b.slots
  case neg => simp [e3]
  simp only [e3, if_true, true_and]
  by_cases e4 : a.vjId = b.vjId
  case neg => simp [e4]
  simp only [e4, if_true, true_and]
  by_cases e5 : a.d0 = b.d0
  case neg => simp [e5]
  simp only [e5, true_and, forall_const]
  by_cases e6 : a.d1 = b.d1
  case neg => simp [e6]
  simp only [e6, true_and, forall_const]
  by_cases e7 : a.d2 = b.d2
  case neg => simp [e7]
  simp only [e7, true_and, forall_const]
  by_cases e8 : a.d3 = b.d3
  case neg => simp [e8]
  simp only [e8, true_and]
  by_cases e9 : a.n0 = b.n0
  case neg => simp [e9]
  simp only [e9, true_and, forall_const]
  by_cases e10 : a.n1 = b.n1
  case neg => simp [e10]
  simp only [e10, true_and, forall_const]
  by_cases e11 : a.n2 = b.n2
  case neg => simp [e11]
  simp only [e11, true_and, forall_const]
  by_cases e12 : a.n3 = b.n3
  case neg => simp [e12]
  simp only [e12, true_and]
  by_cases e13 : a.hasId = b.hasId
  case neg => simp [e13]
  simp only [e13, if_true, true_and]
  by_cases e14 : a.id = b.id
  case neg => simp [e14]
  simp only [e14, if_true]
  simp
end Go.Proofs.Ytacnlancncmpmaa
