/- Options in memory: an option's cells, a place's; lists of options that are answered, or lie wherever they lie. -/
import Derived.Test.YtacnlancncmpmaaBa
import Derived.Test.YtacnlancncmpmaaHeld
import Derived.Test.YtacnlancncmpmaaPlaino
namespace Go.Proofs.Ytacnlancncmpmaa.S12
open Go.RowKit

/-- An option's cells; a place's and an error's. -/
def ocells (x : Ot.O) (v : Value) : List Value := [.int .i64 x.ty, v]
def scells (k e : Nat) : List Value := [.int .i64 (k : Int), .int .i64 (e : Int)]
theorem infoOpt : (Try.prog.info? 24).map (·.size) = some 2 := by kernel_rfl
theorem infoOptN (x : Ot.O) (v : Value) : (Try.prog.info? 24).map (·.size) = some (ocells x v).length := infoOpt
theorem ocells_one (x : Ot.O) (p : Option Addr) (n c : Nat) : (ocells x (.slice p n c)).toArray.all (·.oneCell') = true := by rw [List.all_toArray]; simp [ocells, Value.oneCell']
theorem scells_one (k e : Nat) : (scells k e).toArray.all (·.oneCell') = true := by rw [List.all_toArray]; simp [scells, Value.oneCell']
theorem wpList_store_opt {w : World} {ops : Array Oper} {rest : List Oper} {o : Oper} {a : Act} {Q : Exit → Act → World → Prop} (hgd : o.guard = none) (x y : Operand) (ho : o.op = .store 24 x y) (R : Nat) (r : Ot.O) (p : Option Addr) (n c : Nat) (cur : Array Value)
    (hx : a.eval x = .pointer (some ⟨R, 0, none⟩)) (hy : a.eval y = .agg (ocells r (.slice p n c)).toArray) (hR : w.heap[R]? = some (.cells cur 24 (0, 0))) (hcur : cur.size = 2)
    (h : wpList Try.prog ops Q rest (a.put o.dst undef) (w.setRow R (ocells r (.slice p n c)).toArray)) : wpList Try.prog ops Q (o :: rest) a w :=
  wpList_store_row hgd 24 x y ho R _ hx hy 24 cur hR infoOpt hcur (ocells_one r p n c) h
/-- An option that is answered, its size and the error. -/
def NextRes (w w' : World) (e : Ending) (A : Ot.O × Nat × Nat) : Prop :=
  ∃ v, e = .returned (.tuple #[.agg (ocells A.1 v).toArray, .int .i64 (A.2.1 : Int), .int .i64 (A.2.2 : Int)]) ∧ w'.ownsRow w.heap.size 5 1 v A.1.data.length (Lib.byteCells A.1.data) ∧ Below w.heap.size w w'
theorem opt_ret {w' : World} {fn : Func} {q q2 p : Tmp} {R : Nat} {r : Ot.O} {k e : Nat} {v : Value} {tmps : Array Value} {cs : Array Value} (h : fn.results = #[.cell p 24, .tmp q, .tmp q2]) (hp : tmps.getD p undef = .pointer (some ⟨R, 0, none⟩)) (hq : tmps.getD q undef = .int .i64 (k : Int)) (hq2 : tmps.getD q2 undef = .int .i64 (e : Int)) (hR : w'.heap[R]? = some (.cells cs 24 (0, 0))) :
    (results fn tmps).run Try.prog (w'.setRow R (ocells r v).toArray) = .ok (.tuple #[.agg (ocells r v).toArray, .int .i64 (k : Int), .int .i64 (e : Int)]) (w'.setRow R (ocells r v).toArray) := by
  have := results_cell_tmps_row (P := Try.prog) h tmps (w'.setRow R (ocells r v).toArray) R 24 _ _ _ hp (setRow_heap _ _ _ _ _ _ hR) Try.underlying24 rfl infoOpt
  rw [hq, hq2] at this
  exact this
theorem opt_ret0 {w : World} {fn : Func} {q q2 p : Tmp} {r : Ot.O} {k e : Nat} {v : Value} {tmps : Array Value} (h : fn.results = #[.cell p 24, .tmp q, .tmp q2]) (hp : tmps.getD p undef = .pointer (some ⟨w.heap.size, 0, none⟩)) (hq : tmps.getD q undef = .int .i64 (k : Int)) (hq2 : tmps.getD q2 undef = .int .i64 (e : Int)) :
    (results fn tmps).run Try.prog (w.alloc (.cells (ocells r v).toArray 24)) = .ok (.tuple #[.agg (ocells r v).toArray, .int .i64 (k : Int), .int .i64 (e : Int)]) (w.alloc (.cells (ocells r v).toArray 24)) := by
  have := results_cell_tmps_row (P := Try.prog) h tmps (w.alloc (.cells (ocells r v).toArray 24)) w.heap.size 24 _ _ _ hp (heap_alloc_new w _) Try.underlying24 rfl infoOpt
  rw [hq, hq2] at this
  exact this
theorem next_none {w w' : World} {k e : Nat} (b : Below w.heap.size w w') : NextRes w w' (.returned (.tuple #[.agg (ocells Ot.oz (.slice none 0 0)).toArray, .int .i64 (k : Int), .int .i64 (e : Int)])) (Ot.oz, k, e) := ⟨_, rfl, World.ownsRow_nil _ _ _ _, b⟩

/-- The cells of an option, in a row of them. -/
structure CellsAt (xs : List Value) (j : Nat) (r : Ot.O) (d : Value) : Prop where
  ty : xs[j * 2]? = some (.int .i64 r.ty)
  data : xs[j * 2 + 1]? = some d
/-- A list of options that was made, all of it from B on. -/
def Opts (w : World) (B : Nat) (v : Value) (L : List Ot.O) : Prop :=
  ∃ xs : List Value, w.ownsRow B 24 2 v L.length xs ∧ ∀ j (h : j < L.length), ∃ d, CellsAt xs j L[j] d ∧ w.ownsRow B 5 1 d L[j].data.length (Lib.byteCells L[j].data)
theorem opts_none (w : World) (B : Nat) : Opts w B (.slice none 0 0) [] := ⟨[], World.ownsRow_nil _ _ _ _, (fun _ h => by simp at h)⟩
theorem Opts.next {w w' : World} {B : Nat} {v : Value} {L : List Ot.O} (h : Opts w B v L) (hb : Below w.heap.size w w') : Opts w' B v L := by
  obtain ⟨xs, ho, he⟩ := h
  refine ⟨xs, ownsRow_next ho hb, fun j hj => ?_⟩
  obtain ⟨d, h1, h2⟩ := he j hj
  exact ⟨d, h1, ownsRow_next h2 hb⟩
theorem Opts.kept {w w' : World} {B q : Nat} {v : Value} {L : List Ot.O} (h : Opts w B v L) (hg : w.grownBy w' (some q)) (hq : q < B) : Opts w' B v L := by
  obtain ⟨xs, ho, he⟩ := h
  refine ⟨xs, own_kept ho hg hq, fun j hj => ?_⟩
  obtain ⟨d, h1, h2⟩ := he j hj
  exact ⟨d, h1, own_kept h2 hg hq⟩
theorem Opts.lower {w : World} {B B' : Nat} {v : Value} {L : List Ot.O} (h : Opts w B v L) (hb : B' ≤ B) : Opts w B' v L := by
  obtain ⟨xs, ho, he⟩ := h
  refine ⟨xs, ownsRow_lower ho hb, fun j hj => ?_⟩
  obtain ⟨d, h1, h2⟩ := he j hj
  exact ⟨d, h1, ownsRow_lower h2 hb⟩
theorem opts_slice {w : World} {B : Nat} {v : Value} {L : List Ot.O} (h : Opts w B v L) : ∃ a c, v = .slice a L.length c := by
  obtain ⟨xs, ho, _⟩ := h
  exact own_slice ho

theorem infoOptZ : (Try.prog.info? 24).map (fun i => (i.zero, i.size, i.bytes)) = some (some (.agg #[.int .i64 0, .slice none 0 0]), 2, 32) := by kernel_rfl
theorem wpList_append_opts {w : World} {ops : Array Oper} {rest : List Oper} {o : Oper} {a : Act} {Q : Exit → Act → World → Prop} (hgd : o.guard = none) (s x : Operand)
    (ho : o.op = .call { callee := .builtin .append, args := #[s, x], argTypes := #[28, 28] })
    (B : Nat) (v : Value) (L : List Ot.O) (r : Ot.O) (d : Value) (g : Nat) (hs : a.eval s = v) (hx : a.eval x = .slice (some ⟨g, 0, none⟩) 1 1) (hL : Opts w B v L)
    (hd : w.ownsRow B 5 1 d r.data.length (Lib.byteCells r.data)) (hg : w.heap[g]? = some (.cells (ocells r d).toArray 24 (0, 0))) (hB : B ≤ w.heap.size) (hlen : L.length ≤ 1000000)
    (h : ∀ v' w', Opts w' B v' (L ++ [r]) → w.grownBy w' v.ownBlock → (∀ k, v.ownBlock = some k → B ≤ k) → wpList Try.prog ops Q rest (a.put o.dst v') w') : wpList Try.prog ops Q (o :: rest) a w := by
  obtain ⟨i0, hi, hz0, hz1, hz2⟩ := info_parts infoOptZ
  obtain ⟨xs, hown, he⟩ := hL
  obtain ⟨p, c, rfl⟩ := own_slice hd
  refine wpList_append_own w hgd s x 28 ho B 24 i0 _ 2 32 Try.underlying28 hi hz0 hz1 hz2 rfl (by decide) v L.length xs hs hown ⟨g, 0, none⟩ 1 1 (ocells r (.slice p r.data.length c)) hx rfl (fun j u hu => ?_) (fun u hu => ?_) (by unfold maxLen; omega) (by omega) hB ?_
  · rw [Go.WideShapes.add_plain, cell_of_row _ _ _ _ _ _ hg]; simpa using hu
  · simp only [ocells, List.mem_cons, List.not_mem_nil, or_false] at hu
    rcases hu with rfl | rfl <;> rfl
  · intro v' w' o2 g2 _
    have hl : xs.length = L.length * 2 := hown.1
    refine h v' w' ⟨xs ++ ocells r (.slice p r.data.length c), by rw [List.length_append]; exact o2, fun j hj => ?_⟩ g2 (fun k hk => (hown.lt k hk).1)
    by_cases hjl : j < L.length
    · obtain ⟨d', h1, h2⟩ := he j hjl
      rw [List.getElem_append_left hjl]
      refine ⟨d', ⟨?_, ?_⟩, h2.kept g2 (own_apart hown h2 (by decide))⟩
      · rw [List.getElem?_append_left (by omega)]; exact h1.ty
      · rw [List.getElem?_append_left (by omega)]; exact h1.data
    · have hj2 : j = L.length := by simp at hj; omega
      subst hj2
      rw [List.getElem_append_right (Nat.le_refl _)]
      simp only [Nat.sub_self, List.getElem_cons_zero]
      refine ⟨.slice p r.data.length c, ⟨?_, ?_⟩, hd.kept g2 (own_apart hown hd (by decide))⟩
      · rw [List.getElem?_append_right (by omega), hl]; simp [ocells]
      · rw [List.getElem?_append_right (by omega), hl]; simp [ocells]

/-- Options in memory, wherever they lie. -/
structure OptAt (w : World) (b k : Nat) (r : Ot.O) (p : Option Addr) (c : Nat) : Prop where
  ty : w.cell? ⟨b, k, none⟩ = some (.int .i64 r.ty)
  data : w.cell? ⟨b, k + 1, none⟩ = some (.slice p r.data.length c)
  row : RowAt w p c r.data
def OptsAt (w : World) (a : Option Addr) (L : List Ot.O) : Prop :=
  L = [] ∨ ∃ b off, a = some ⟨b, off, none⟩ ∧ b < w.heap.size ∧ ∀ j (h : j < L.length), ∃ p c, OptAt w b (off + j * 2) L[j] p c
theorem OptAt.next {w w' : World} {b k : Nat} {r : Ot.O} {p : Option Addr} {c : Nat} (h : OptAt w b k r p c) (hl : b < w.heap.size) (hb : Below w.heap.size w w') : OptAt w' b k r p c := by
  have e : ∀ i, w'.cell? ⟨b, i, none⟩ = w.cell? ⟨b, i, none⟩ := fun i => hb.cell (p := ⟨b, i, none⟩) hl
  exact ⟨by rw [e]; exact h.ty, by rw [e]; exact h.data, h.row.next hb⟩
theorem OptsAt.next {w w' : World} {a : Option Addr} {L : List Ot.O} (h : OptsAt w a L) (hb : Below w.heap.size w w') : OptsAt w' a L := by
  rcases h with rfl | ⟨b, off, rfl, h1, h2⟩
  · exact .inl rfl
  · refine .inr ⟨b, off, rfl, Nat.lt_of_lt_of_le h1 hb.size, fun j hj => ?_⟩
    obtain ⟨p, c, h3⟩ := h2 j hj
    exact ⟨p, c, h3.next h1 hb⟩
theorem OptsAt.at {w : World} {a : Option Addr} {L : List Ot.O} (h : OptsAt w a L) (k : Nat) (hk : k < L.length) : ∃ b off p c, a = some ⟨b, off, none⟩ ∧ OptAt w b (off + k * 2) L[k] p c ∧ b < w.heap.size := by
  rcases h with h | ⟨b, off, rfl, hb, h⟩
  · rw [h] at hk; simp at hk
  · obtain ⟨p, c, h2⟩ := h k hk
    exact ⟨b, off, p, c, rfl, h2, hb⟩
theorem optsAt_nil (w : World) (a : Option Addr) : OptsAt w a [] := .inl rfl
/-- What stands behind a place; what stands ahead of it. -/
theorem OptsAt.drop {w : World} {a : Option Addr} {L : List Ot.O} (h : OptsAt w a L) (j : Nat) : OptsAt w (Option.map (fun x => x.add (j * 2)) a) (L.drop j) := by
  rcases h with rfl | ⟨b, off, rfl, hb, h⟩
  · exact .inl (by simp)
  · refine .inr ⟨b, off + j * 2, by rw [Option.map_some, Go.WideShapes.add_plain], hb, fun i hi => ?_⟩
    rw [List.length_drop] at hi
    obtain ⟨p, c, h2⟩ := h (j + i) (by omega)
    rw [List.getElem_drop]
    refine ⟨p, c, ?_⟩
    rw [show off + j * 2 + i * 2 = off + (j + i) * 2 by omega]
    exact h2
theorem OptsAt.take {w : World} {a : Option Addr} {L : List Ot.O} (h : OptsAt w a L) (j : Nat) : OptsAt w a (L.take j) := by
  rcases h with rfl | ⟨b, off, rfl, hb, h⟩
  · exact .inl (by simp)
  · refine .inr ⟨b, off, rfl, hb, fun i hi => ?_⟩
    rw [List.length_take] at hi
    obtain ⟨p, c, h2⟩ := h i (by omega)
    rw [List.getElem_take]
    exact ⟨p, c, h2⟩
theorem Opts.at {w : World} {B : Nat} {v : Value} {L : List Ot.O} (h : Opts w B v L) : ∃ a c, v = .slice a L.length c ∧ OptsAt w a L := by
  obtain ⟨xs, ho, he⟩ := h
  rcases ho.2 with ⟨rfl, h0⟩ | ⟨g, cap, cur, rfl, hb, hg, _⟩
  · exact ⟨none, 0, by rw [h0], .inl (List.eq_nil_of_length_eq_zero h0)⟩
  · refine ⟨_, cap, rfl, .inr ⟨g, 0, rfl, lt_of_block hg, fun j hj => ?_⟩⟩
    obtain ⟨d, h1, h2⟩ := he j hj
    obtain ⟨p, c, rfl, hr⟩ := rowAt_own rfl h2
    have e := ho.cells (g := g) rfl
    simp only [Go.WideShapes.add_plain] at e
    exact ⟨p, c, e _ _ h1.ty, by rw [Nat.add_assoc]; exact e _ _ h1.data, hr⟩
theorem OptAt.range {w : World} {b k : Nat} {r : Ot.O} {p : Option Addr} {c : Nat} (h : OptAt w b k r p c) : w.rangeAt b k (ocells r (.slice p r.data.length c)) := by
  intro j v hv
  have hj : j = 0 ∨ j = 1 := by
    have := (List.getElem?_eq_some_iff.1 hv).1
    simp [ocells] at this; omega
  rcases hj with rfl | rfl <;> simp [ocells] at hv <;> subst hv
  · exact h.ty
  · exact h.data

/-- What Read tells. -/
def ReadRes (w w' : World) (e : Ending) (A : List Ot.O × Nat × Nat) : Prop :=
  ∃ v, e = .returned (.tuple #[v, .agg (scells A.2.1 A.2.2).toArray]) ∧ Opts w' w.heap.size v A.1 ∧ Below w.heap.size w w'
/-- What Put tells. -/
def PutRes (w w' : World) (e : Ending) (L : List Ot.O) : Prop :=
  Below w.heap.size w w' ∧ ((Ot.err L = 0 ∧ ∃ v, e = .returned (.tuple #[v, .int .i64 0]) ∧ w'.ownsRow w.heap.size 5 1 v (Ot.bytes L).length (Lib.byteCells (Ot.bytes L))) ∨ (Ot.err L ≠ 0 ∧ e = .returned (.tuple #[.slice none 0 0, .int .i64 (Ot.err L : Int)])))
/-- What Find tells. -/
def FindRes (w w' : World) (e : Ending) (A : Option (List UInt8)) : Prop :=
  Below w.heap.size w w' ∧ ∃ v, e = .returned (.tuple #[v, .bool A.isSome]) ∧ w'.ownsRow w.heap.size 5 1 v (A.getD []).length (Lib.byteCells (A.getD []))
end Go.Proofs.Ytacnlancncmpmaa.S12
