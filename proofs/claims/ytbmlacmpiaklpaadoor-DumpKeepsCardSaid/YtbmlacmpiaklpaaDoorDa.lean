/- Notes in memory: cells of a note, of a form, of a place; lists of notes that are answered. -/
import Derived.Test.YtbmlacmpiaklpaaDoorWd
import Derived.Test.YtbmlacmpiaklpaaDoorHeld
import Derived.Test.YtbmlacmpiaklpaaDoorPlaine
import Derived.OneCell
import Derived.Deep.WholeRow
import Derived.Deep.MidRow
import Derived.Laws.EntriesVeiled
namespace Go.Proofs.YtbmlacmpiaklpaaDoor
open Go.RowKit

theorem lt_of_block {w : World} {k : Nat} {o : Obj} (h : w.heap[k]? = some o) : k < w.heap.size := by
  rcases Nat.lt_or_ge k w.heap.size with h1 | h1
  · exact h1
  · rw [Array.getElem?_eq_none h1] at h; cases h
theorem rowAt_alloc {w : World} {a : Option Addr} {c : Nat} {xs : List UInt8} (h : RowAt w a c xs) (o : Obj) : RowAt (w.alloc o) a c xs := h.next ((Below.refl _ _).alloc (Nat.le_refl _) _)
theorem first_kept {w w' : World} {o : Obj} (b : Below (w.alloc o).heap.size (w.alloc o) w') : w'.heap[w.heap.size]? = some o := by
  rw [b.block _ (by simp)]; exact heap_alloc_new w o
theorem block_next {w w' : World} {T : Nat} {o : Obj} (h : w.heap[T]? = some o) (b : Below w.heap.size w w') : w'.heap[T]? = some o := by rw [b.block T (lt_of_block h)]; exact h
theorem below_setRow {w w' : World} {B g : Nat} (h : Below B w w') (hg : B ≤ g) (cs : Array Value) : Below B w (w'.setRow g cs) :=
  ⟨h.os, h.tape, h.output, by rw [setRow_size]; exact h.size, fun k hk => by rw [setRow_other _ _ _ _ (by omega)]; exact h.block k hk⟩
theorem below_one (w : World) (o : Obj) : Below w.heap.size w (w.alloc o) := (Below.refl _ _).alloc (Nat.le_refl _) _
theorem below_two (w : World) (o o2 : Obj) : Below w.heap.size w ((w.alloc o).alloc o2) := ((Below.refl _ _).alloc (Nat.le_refl _) _).alloc (by simp) _

/-- A note's cells; a form's; a place's and an error's. -/
def ncells (x : Dm.Nt) (v : Value) : List Value := [.int .i64 x.kind, .int .u32 (x.n : Int), v]
def fcells (f : Dm.Fm) : List Value := [.bool f.known, .int .i64 (f.size : Int), .bool f.data, .int .u32 (f.most : Int)]
def scells (k e : Nat) : List Value := [.int .i64 (k : Int), .int .i64 (e : Int)]
theorem info37 : (Tryd.prog.info? 37).map (·.size) = some 3 := by kernel_rfl
theorem info49 : (Tryd.prog.info? 49).map (·.size) = some 4 := by kernel_rfl
theorem info32 : (Tryd.prog.info? 32).map (·.size) = some 2 := by kernel_rfl
theorem info37n (x : Dm.Nt) (v : Value) : (Tryd.prog.info? 37).map (·.size) = some (ncells x v).length := info37
theorem info49f (f : Dm.Fm) : (Tryd.prog.info? 49).map (·.size) = some (fcells f).length := info49
theorem ncells_one (x : Dm.Nt) (p : Option Addr) (n c : Nat) : (ncells x (.slice p n c)).toArray.all (·.oneCell') = true := by rw [List.all_toArray]; simp [ncells, Value.oneCell']
theorem fcells_one (f : Dm.Fm) : (fcells f).toArray.all (·.oneCell') = true := by rw [List.all_toArray]; simp [fcells, Value.oneCell']
theorem scells_one (k e : Nat) : (scells k e).toArray.all (·.oneCell') = true := by rw [List.all_toArray]; simp [scells, Value.oneCell']
theorem wpList_store_note {w : World} {ops : Array Oper} {rest : List Oper} {o : Oper} {a : Act} {Q : Exit → Act → World → Prop} (hgd : o.guard = none) (x y : Operand) (ho : o.op = .store 37 x y) (R : Nat) (r : Dm.Nt) (p : Option Addr) (n c : Nat) (cur : Array Value)
    (hx : a.eval x = .pointer (some ⟨R, 0, none⟩)) (hy : a.eval y = .agg (ncells r (.slice p n c)).toArray) (hR : w.heap[R]? = some (.cells cur 37 (0, 0))) (hcur : cur.size = 3)
    (h : wpList Tryd.prog ops Q rest (a.put o.dst undef) (w.setRow R (ncells r (.slice p n c)).toArray)) : wpList Tryd.prog ops Q (o :: rest) a w :=
  wpList_store_row hgd 37 x y ho R _ hx hy 37 cur hR info37 hcur (ncells_one r p n c) h
theorem wpList_store_form {w : World} {ops : Array Oper} {rest : List Oper} {o : Oper} {a : Act} {Q : Exit → Act → World → Prop} (hgd : o.guard = none) (x y : Operand) (ho : o.op = .store 49 x y) (R : Nat) (f : Dm.Fm) (cur : Array Value)
    (hx : a.eval x = .pointer (some ⟨R, 0, none⟩)) (hy : a.eval y = .agg (fcells f).toArray) (hR : w.heap[R]? = some (.cells cur 49 (0, 0))) (hcur : cur.size = 4)
    (h : wpList Tryd.prog ops Q rest (a.put o.dst undef) (w.setRow R (fcells f).toArray)) : wpList Tryd.prog ops Q (o :: rest) a w :=
  wpList_store_row hgd 49 x y ho R _ hx hy 49 cur hR info49 hcur (fcells_one f) h
theorem wpList_store_spot {w : World} {ops : Array Oper} {rest : List Oper} {o : Oper} {a : Act} {Q : Exit → Act → World → Prop} (hgd : o.guard = none) (x y : Operand) (ho : o.op = .store 32 x y) (R k e : Nat) (cur : Array Value)
    (hx : a.eval x = .pointer (some ⟨R, 0, none⟩)) (hy : a.eval y = .agg (scells k e).toArray) (hR : w.heap[R]? = some (.cells cur 32 (0, 0))) (hcur : cur.size = 2)
    (h : wpList Tryd.prog ops Q rest (a.put o.dst undef) (w.setRow R (scells k e).toArray)) : wpList Tryd.prog ops Q (o :: rest) a w :=
  wpList_store_row hgd 32 x y ho R _ hx hy 32 cur hR info32 hcur (scells_one k e) h

/-- Three results, the first one in a cell. -/
theorem results_cell_tmps_row {P : Program} {fn : Func} {q q2 p : Tmp} {ty : TypeId} (h : fn.results = #[.cell p ty, .tmp q, .tmp q2]) (tmps : Array Value) (w : World) (g : Nat) (t : TypeId) (cs : Array Value) (fr : Nat × Nat) (d : TypeDesc)
    (hp : tmps.getD p undef = .pointer (some ⟨g, 0, none⟩)) (hg : w.heap[g]? = some (.cells cs t fr))
    (hu : P.underlying ty = some d) (hd : (match d with | .struct _ | .array _ _ => true | _ => false) = true) (hi : (P.info? ty).map (·.size) = some cs.size) :
    (results fn tmps).run P w = .ok (.tuple #[.agg cs, tmps.getD q undef, tmps.getD q2 undef]) w := by
  have hp' : tmps[p]?.getD undef = .pointer (some ⟨g, 0, none⟩) := by simpa using hp
  simp [results, h, hp', asAddr, run_loadVar_row w g t ty cs fr d hg hu hd hi]
/-- Two results, the second one in a cell. -/
theorem results_tmp_cell_row {P : Program} {fn : Func} {q p : Tmp} {ty : TypeId} (h : fn.results = #[.tmp q, .cell p ty]) (tmps : Array Value) (w : World) (g : Nat) (t : TypeId) (cs : Array Value) (fr : Nat × Nat) (d : TypeDesc)
    (hp : tmps.getD p undef = .pointer (some ⟨g, 0, none⟩)) (hg : w.heap[g]? = some (.cells cs t fr))
    (hu : P.underlying ty = some d) (hd : (match d with | .struct _ | .array _ _ => true | _ => false) = true) (hi : (P.info? ty).map (·.size) = some cs.size) :
    (results fn tmps).run P w = .ok (.tuple #[tmps.getD q undef, .agg cs]) w := by
  have hp' : tmps[p]?.getD undef = .pointer (some ⟨g, 0, none⟩) := by simpa using hp
  simp [results, h, hp', asAddr, run_loadVar_row w g t ty cs fr d hg hu hd hi]

/-- A note that is answered, its size and the error. -/
def NextRes (w w' : World) (e : Ending) (A : Dm.Nt × Nat × Nat) : Prop :=
  ∃ v, e = .returned (.tuple #[.agg (ncells A.1 v).toArray, .int .i64 (A.2.1 : Int), .int .i64 (A.2.2 : Int)]) ∧ w'.ownsRow w.heap.size 5 1 v A.1.data.length (Lib.byteCells A.1.data) ∧ Below w.heap.size w w'
theorem note_ret {w' : World} {fn : Func} {q q2 p : Tmp} {R : Nat} {r : Dm.Nt} {k e : Nat} {v : Value} {tmps : Array Value} {cs : Array Value} (h : fn.results = #[.cell p 37, .tmp q, .tmp q2]) (hp : tmps.getD p undef = .pointer (some ⟨R, 0, none⟩)) (hq : tmps.getD q undef = .int .i64 (k : Int)) (hq2 : tmps.getD q2 undef = .int .i64 (e : Int)) (hR : w'.heap[R]? = some (.cells cs 37 (0, 0))) :
    (results fn tmps).run Tryd.prog (w'.setRow R (ncells r v).toArray) = .ok (.tuple #[.agg (ncells r v).toArray, .int .i64 (k : Int), .int .i64 (e : Int)]) (w'.setRow R (ncells r v).toArray) := by
  have := results_cell_tmps_row (P := Tryd.prog) h tmps (w'.setRow R (ncells r v).toArray) R 37 _ _ _ hp (setRow_heap _ _ _ _ _ _ hR) Tryd.underlying37 rfl info37
  rw [hq, hq2] at this
  exact this
theorem note_ret0 {w : World} {fn : Func} {q q2 p : Tmp} {r : Dm.Nt} {k e : Nat} {v : Value} {tmps : Array Value} (h : fn.results = #[.cell p 37, .tmp q, .tmp q2]) (hp : tmps.getD p undef = .pointer (some ⟨w.heap.size, 0, none⟩)) (hq : tmps.getD q undef = .int .i64 (k : Int)) (hq2 : tmps.getD q2 undef = .int .i64 (e : Int)) :
    (results fn tmps).run Tryd.prog (w.alloc (.cells (ncells r v).toArray 37)) = .ok (.tuple #[.agg (ncells r v).toArray, .int .i64 (k : Int), .int .i64 (e : Int)]) (w.alloc (.cells (ncells r v).toArray 37)) := by
  have := results_cell_tmps_row (P := Tryd.prog) h tmps (w.alloc (.cells (ncells r v).toArray 37)) w.heap.size 37 _ _ _ hp (heap_alloc_new w _) Tryd.underlying37 rfl info37
  rw [hq, hq2] at this
  exact this
theorem next_none {w w' : World} {k e : Nat} (b : Below w.heap.size w w') : NextRes w w' (.returned (.tuple #[.agg (ncells Dm.nz (.slice none 0 0)).toArray, .int .i64 (k : Int), .int .i64 (e : Int)])) (Dm.nz, k, e) := ⟨_, rfl, World.ownsRow_nil _ _ _ _, b⟩
theorem ownsRow_setRow {w : World} {B n g : Nat} {v : Value} {xs : List Value} (h : w.ownsRow B 5 1 v n xs) (hg : g < B) (cs : Array Value) : (w.setRow g cs).ownsRow B 5 1 v n xs := by
  refine ⟨h.1, ?_⟩
  rcases h.2 with h2 | ⟨q, cap, cur, e, hB, hq, hr⟩
  · exact .inl h2
  · exact .inr ⟨q, cap, cur, e, hB, by rw [setRow_other _ _ _ _ (by omega)]; exact hq, hr⟩
theorem ownsRow_set {w : World} {B n g i : Nat} {v u : Value} {xs : List Value} (h : w.ownsRow B 5 1 v n xs) (hg : g < B) : (w.setCell ⟨g, i, none⟩ u).ownsRow B 5 1 v n xs := by
  refine ⟨h.1, ?_⟩
  rcases h.2 with h2 | ⟨q, cap, cur, e, hB, hq, hr⟩
  · exact .inl h2
  · exact .inr ⟨q, cap, cur, e, hB, by rw [heap_setCell_other _ _ _ _ (by simp; omega)]; exact hq, hr⟩

theorem own_apart {w : World} {B B' e e' s s' n m : Nat} {v d : Value} {xs ys : List Value} (h : w.ownsRow B e s v n xs) (h' : w.ownsRow B' e' s' d m ys) (hne : e ≠ e') : d.ownBlock = none ∨ d.ownBlock ≠ v.ownBlock := by
  rcases h'.2 with ⟨rfl, _⟩ | ⟨g, cap, cur, rfl, _, hg, _⟩
  · exact .inl rfl
  · right
    intro e1
    rcases h.2 with ⟨rfl, _⟩ | ⟨g2, cap2, cur2, rfl, _, hg2, _⟩
    · simp [Value.ownBlock] at e1
    · simp [Value.ownBlock] at e1
      subst e1
      rw [hg] at hg2
      simp at hg2
      first
      | exact hne hg2.2
      | exact hne hg2.2.symm
theorem own_kept {w w' : World} {B e s n q : Nat} {v : Value} {xs : List Value} (h : w.ownsRow B e s v n xs) (hg : w.grownBy w' (some q)) (hq : q < B) : w'.ownsRow B e s v n xs := by
  refine h.kept hg ?_
  cases hv : v.ownBlock with
  | none => exact .inl rfl
  | some k => right; intro e1; have := (h.lt k hv).1; simp at e1; omega
theorem own_slice {w : World} {B e s n : Nat} {v : Value} {xs : List Value} (h : w.ownsRow B e s v n xs) : ∃ a c, v = .slice a n c := by
  rcases h.2 with ⟨rfl, rfl⟩ | ⟨g, cap, cur, rfl, _⟩
  · exact ⟨none, 0, rfl⟩
  · exact ⟨_, cap, rfl⟩

/-- The cells of a note, in a row of them. -/
structure CellsAt (xs : List Value) (j : Nat) (r : Dm.Nt) (d : Value) : Prop where
  kind : xs[j * 3]? = some (.int .i64 r.kind)
  n : xs[j * 3 + 1]? = some (.int .u32 (r.n : Int))
  data : xs[j * 3 + 2]? = some d
/-- A list of notes that was made, all of it from B on. -/
def Nts (w : World) (B : Nat) (v : Value) (L : List Dm.Nt) : Prop :=
  ∃ xs : List Value, w.ownsRow B 37 3 v L.length xs ∧ ∀ j (h : j < L.length), ∃ d, CellsAt xs j L[j] d ∧ w.ownsRow B 5 1 d L[j].data.length (Lib.byteCells L[j].data)
theorem nts_none (w : World) (B : Nat) : Nts w B (.slice none 0 0) [] := ⟨[], World.ownsRow_nil _ _ _ _, (fun _ h => by simp at h)⟩
theorem Nts.next {w w' : World} {B : Nat} {v : Value} {L : List Dm.Nt} (h : Nts w B v L) (hb : Below w.heap.size w w') : Nts w' B v L := by
  obtain ⟨xs, ho, he⟩ := h
  refine ⟨xs, ownsRow_next ho hb, fun j hj => ?_⟩
  obtain ⟨d, h1, h2⟩ := he j hj
  exact ⟨d, h1, ownsRow_next h2 hb⟩
theorem Nts.kept {w w' : World} {B q : Nat} {v : Value} {L : List Dm.Nt} (h : Nts w B v L) (hg : w.grownBy w' (some q)) (hq : q < B) : Nts w' B v L := by
  obtain ⟨xs, ho, he⟩ := h
  refine ⟨xs, own_kept ho hg hq, fun j hj => ?_⟩
  obtain ⟨d, h1, h2⟩ := he j hj
  exact ⟨d, h1, own_kept h2 hg hq⟩
theorem Nts.lower {w : World} {B B' : Nat} {v : Value} {L : List Dm.Nt} (h : Nts w B v L) (hb : B' ≤ B) : Nts w B' v L := by
  obtain ⟨xs, ho, he⟩ := h
  refine ⟨xs, ownsRow_lower ho hb, fun j hj => ?_⟩
  obtain ⟨d, h1, h2⟩ := he j hj
  exact ⟨d, h1, ownsRow_lower h2 hb⟩
theorem nts_slice {w : World} {B : Nat} {v : Value} {L : List Dm.Nt} (h : Nts w B v L) : ∃ a c, v = .slice a L.length c := by
  obtain ⟨xs, ho, _⟩ := h
  exact own_slice ho

theorem info37z : (Tryd.prog.info? 37).map (fun i => (i.zero, i.size, i.bytes)) = some (some (.agg #[.int .i64 0, .int .u32 0, .slice none 0 0]), 3, 40) := by kernel_rfl
theorem wpList_append_nts {w : World} {ops : Array Oper} {rest : List Oper} {o : Oper} {a : Act} {Q : Exit → Act → World → Prop} (hgd : o.guard = none) (s x : Operand)
    (ho : o.op = .call { callee := .builtin .append, args := #[s, x], argTypes := #[22, 22] })
    (B : Nat) (v : Value) (L : List Dm.Nt) (r : Dm.Nt) (d : Value) (g : Nat) (hs : a.eval s = v) (hx : a.eval x = .slice (some ⟨g, 0, none⟩) 1 1) (hL : Nts w B v L)
    (hd : w.ownsRow B 5 1 d r.data.length (Lib.byteCells r.data)) (hg : w.heap[g]? = some (.cells (ncells r d).toArray 37 (0, 0))) (hB : B ≤ w.heap.size) (hlen : L.length ≤ 1000000)
    (h : ∀ v' w', Nts w' B v' (L ++ [r]) → w.grownBy w' v.ownBlock → (∀ k, v.ownBlock = some k → B ≤ k) → wpList Tryd.prog ops Q rest (a.put o.dst v') w') : wpList Tryd.prog ops Q (o :: rest) a w := by
  obtain ⟨i0, hi, hz0, hz1, hz2⟩ := info_parts info37z
  obtain ⟨xs, hown, he⟩ := hL
  obtain ⟨p, c, rfl⟩ := own_slice hd
  refine wpList_append_own w hgd s x 22 ho B 37 i0 _ 3 40 Tryd.underlying22 hi hz0 hz1 hz2 rfl (by decide) v L.length xs hs hown ⟨g, 0, none⟩ 1 1 (ncells r (.slice p r.data.length c)) hx rfl (fun j u hu => ?_) (fun u hu => ?_) (by unfold maxLen; omega) (by omega) hB ?_
  · rw [Go.WideShapes.add_plain, cell_of_row _ _ _ _ _ _ hg]; simpa using hu
  · simp only [ncells, List.mem_cons, List.not_mem_nil, or_false] at hu
    rcases hu with rfl | rfl | rfl <;> rfl
  · intro v' w' o2 g2 _
    have hl : xs.length = L.length * 3 := hown.1
    refine h v' w' ⟨xs ++ ncells r (.slice p r.data.length c), by rw [List.length_append]; exact o2, fun j hj => ?_⟩ g2 (fun k hk => (hown.lt k hk).1)
    by_cases hjl : j < L.length
    · obtain ⟨d', h1, h2⟩ := he j hjl
      rw [List.getElem_append_left hjl]
      refine ⟨d', ⟨?_, ?_, ?_⟩, h2.kept g2 (own_apart hown h2 (by decide))⟩
      · rw [List.getElem?_append_left (by omega)]; exact h1.kind
      · rw [List.getElem?_append_left (by omega)]; exact h1.n
      · rw [List.getElem?_append_left (by omega)]; exact h1.data
    · have hj2 : j = L.length := by simp at hj; omega
      subst hj2
      rw [List.getElem_append_right (Nat.le_refl _)]
      simp only [Nat.sub_self, List.getElem_cons_zero]
      refine ⟨.slice p r.data.length c, ⟨?_, ?_, ?_⟩, hd.kept g2 (own_apart hown hd (by decide))⟩
      · rw [List.getElem?_append_right (by omega), hl]; simp [ncells]
      · rw [List.getElem?_append_right (by omega), hl]; simp [ncells]
      · rw [List.getElem?_append_right (by omega), hl]; simp [ncells]

/-- Notes in memory, wherever they lie. -/
structure NtAt (w : World) (b k : Nat) (r : Dm.Nt) (p : Option Addr) (c : Nat) : Prop where
  kind : w.cell? ⟨b, k, none⟩ = some (.int .i64 r.kind)
  n : w.cell? ⟨b, k + 1, none⟩ = some (.int .u32 (r.n : Int))
  data : w.cell? ⟨b, k + 2, none⟩ = some (.slice p r.data.length c)
  row : RowAt w p c r.data
  ok : r.Ok
def NtsAt (w : World) (a : Option Addr) (L : List Dm.Nt) : Prop :=
  L = [] ∨ ∃ b off, a = some ⟨b, off, none⟩ ∧ b < w.heap.size ∧ ∀ j (h : j < L.length), ∃ p c, NtAt w b (off + j * 3) L[j] p c
theorem NtAt.next {w w' : World} {b k : Nat} {r : Dm.Nt} {p : Option Addr} {c : Nat} (h : NtAt w b k r p c) (hl : b < w.heap.size) (hb : Below w.heap.size w w') : NtAt w' b k r p c := by
  have e : ∀ i, w'.cell? ⟨b, i, none⟩ = w.cell? ⟨b, i, none⟩ := fun i => hb.cell (p := ⟨b, i, none⟩) hl
  exact ⟨by rw [e]; exact h.kind, by rw [e]; exact h.n, by rw [e]; exact h.data, h.row.next hb, h.ok⟩
theorem NtsAt.next {w w' : World} {a : Option Addr} {L : List Dm.Nt} (h : NtsAt w a L) (hb : Below w.heap.size w w') : NtsAt w' a L := by
  rcases h with rfl | ⟨b, off, rfl, h1, h2⟩
  · exact .inl rfl
  · refine .inr ⟨b, off, rfl, Nat.lt_of_lt_of_le h1 hb.size, fun j hj => ?_⟩
    obtain ⟨p, c, h3⟩ := h2 j hj
    exact ⟨p, c, h3.next h1 hb⟩
theorem NtsAt.at {w : World} {a : Option Addr} {L : List Dm.Nt} (h : NtsAt w a L) (k : Nat) (hk : k < L.length) : ∃ b off p c, a = some ⟨b, off, none⟩ ∧ NtAt w b (off + k * 3) L[k] p c ∧ b < w.heap.size := by
  rcases h with h | ⟨b, off, rfl, hb, h⟩
  · rw [h] at hk; simp at hk
  · obtain ⟨p, c, h2⟩ := h k hk
    exact ⟨b, off, p, c, rfl, h2, hb⟩
theorem NtsAt.ok {w : World} {a : Option Addr} {L : List Dm.Nt} (h : NtsAt w a L) : ∀ x ∈ L, x.Ok := fun x hx => by
  obtain ⟨j, hj, rfl⟩ := List.getElem_of_mem hx
  obtain ⟨_, _, _, _, _, h2, _⟩ := h.at j hj
  exact h2.ok
theorem Nts.at {w : World} {B : Nat} {v : Value} {L : List Dm.Nt} (h : Nts w B v L) (hok : ∀ r ∈ L, r.Ok) : ∃ a c, v = .slice a L.length c ∧ NtsAt w a L := by
  obtain ⟨xs, ho, he⟩ := h
  rcases ho.2 with ⟨rfl, h0⟩ | ⟨g, cap, cur, rfl, hb, hg, _⟩
  · exact ⟨none, 0, by rw [h0], .inl (List.eq_nil_of_length_eq_zero h0)⟩
  · refine ⟨_, cap, rfl, .inr ⟨g, 0, rfl, lt_of_block hg, fun j hj => ?_⟩⟩
    obtain ⟨d, h1, h2⟩ := he j hj
    obtain ⟨p, c, rfl, hr⟩ := rowAt_own rfl h2
    have e := ho.cells (g := g) rfl
    simp only [Go.WideShapes.add_plain] at e
    exact ⟨p, c, e _ _ h1.kind, by rw [Nat.add_assoc]; exact e _ _ h1.n, by rw [Nat.add_assoc]; exact e _ _ h1.data, hr, hok _ (List.getElem_mem hj)⟩
theorem NtAt.range {w : World} {b k : Nat} {r : Dm.Nt} {p : Option Addr} {c : Nat} (h : NtAt w b k r p c) : w.rangeAt b k (ncells r (.slice p r.data.length c)) := by
  intro j v hv
  have hj : j = 0 ∨ j = 1 ∨ j = 2 := by
    have := (List.getElem?_eq_some_iff.1 hv).1
    simp [ncells] at this; omega
  rcases hj with rfl | rfl | rfl <;> simp [ncells] at hv <;> subst hv
  · exact h.kind
  · exact h.n
  · exact h.data

/-- What Read tells. -/
def ReadRes (w w' : World) (e : Ending) (A : List Dm.Nt × Nat × Nat) : Prop :=
  ∃ v, e = .returned (.tuple #[v, .agg (scells A.2.1 A.2.2).toArray]) ∧ Nts w' w.heap.size v A.1 ∧ Below w.heap.size w w'
/-- What Put tells. -/
def PutRes (w w' : World) (e : Ending) (L : List Dm.Nt) : Prop :=
  Below w.heap.size w w' ∧ ((Dm.err L = 0 ∧ ∃ v, e = .returned (.tuple #[v, .int .i64 0]) ∧ w'.ownsRow w.heap.size 5 1 v (Dm.bytes L).length (Lib.byteCells (Dm.bytes L))) ∨ (Dm.err L ≠ 0 ∧ e = .returned (.tuple #[.slice none 0 0, .int .i64 (Dm.err L : Int)])))
theorem grown_row (w : World) (q : Nat) (cs : Array Value) : w.grownBy (w.setRow q cs) (some q) :=
  ⟨rfl, rfl, rfl, by rw [setRow_size]; exact Nat.le_refl _, fun k _ hne => setRow_other _ _ _ _ (fun e => hne (by rw [e]))⟩

/-- The table of forms, in memory. -/
structure Tab (w : World) : Prop where
  at' : ∀ k : Nat, k < 8 → w.rangeAt 0 (k * 4) (fcells (Dm.form (k : Int)))
  size : 1 ≤ w.heap.size
theorem Tab.next {w w' : World} (h : Tab w) (hb : Below w.heap.size w w') : Tab w' := by
  refine ⟨fun k hk j v hv => ?_, Nat.le_trans h.size hb.size⟩
  rw [hb.cell (p := ⟨0, k * 4 + j, none⟩) (show 0 < w.heap.size from h.size)]
  exact h.at' k hk j v hv
end Go.Proofs.YtbmlacmpiaklpaaDoor
