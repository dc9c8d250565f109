/- Lists of records that are answered, in memory. -/
import Derived.Test.YtfkjjolohphaoaaPn
import Derived.Deep.MidRow
namespace Go.Proofs.Ytfkjjolohphaoaa
open Go.RowKit

theorem own_apart {w : World} {B B' e e' s s' n m : Nat} {v d : Value} {xs ys : List Value} (h : w.ownsRow B e s v n xs) (h' : w.ownsRow B' e' s' d m ys) (hne : e ≠ e') : d.ownBlock = none ∨ d.ownBlock ≠ v.ownBlock := by
  rcases h'.2 with ⟨rfl, _⟩ | ⟨g, cap, cur, rfl, _, hg, _⟩
  · exact .inl rfl
  · right
    intro e1
    rcases h.2 with ⟨rfl, _⟩ | ⟨g2, cap2, cur2, rfl, _, hg2, _⟩
    · simp [Value.ownBlock] at e1
    · simp [Value.ownBlock] at e1
      subst e1
      rw [hg] at hg2
      simp at hg2
      first
      | exact hne hg2.2
      | exact hne hg2.2.symm
theorem own_kept {w w' : World} {B e s n q : Nat} {v : Value} {xs : List Value} (h : w.ownsRow B e s v n xs) (hg : w.grownBy w' (some q)) (hq : q < B) : w'.ownsRow B e s v n xs := by
  refine h.kept hg ?_
  cases hv : v.ownBlock with
  | none => exact .inl rfl
  | some k => right; intro e1; have := (h.lt k hv).1; simp at e1; omega
theorem own_slice {w : World} {B e s n : Nat} {v : Value} {xs : List Value} (h : w.ownsRow B e s v n xs) : ∃ a c, v = .slice a n c := by
  rcases h.2 with ⟨rfl, rfl⟩ | ⟨g, cap, cur, rfl, _⟩
  · exact ⟨none, 0, rfl⟩
  · exact ⟨_, cap, rfl⟩

/-- The cells of a record, in a row of them. -/
structure CellsAt (xs : List Value) (j : Nat) (r : Pc.Rcd) (d : Value) : Prop where
  sec : xs[j * 4]? = some (.int .u32 (r.sec : Int))
  frac : xs[j * 4 + 1]? = some (.int .u32 (r.frac : Int))
  len : xs[j * 4 + 2]? = some (.int .u32 (r.len : Int))
  data : xs[j * 4 + 3]? = some d
/-- A list of records that was made, all of it from B on. -/
def Recs (w : World) (B : Nat) (v : Value) (L : List Pc.Rcd) : Prop :=
  ∃ xs : List Value, w.ownsRow B 46 4 v L.length xs ∧ ∀ j (h : j < L.length), ∃ d, CellsAt xs j L[j] d ∧ w.ownsRow B 5 1 d L[j].data.length (Lib.byteCells L[j].data)
theorem recs_none (w : World) (B : Nat) : Recs w B (.slice none 0 0) [] := ⟨[], World.ownsRow_nil _ _ _ _, (fun _ h => by simp at h)⟩
theorem Recs.next {w w' : World} {B : Nat} {v : Value} {L : List Pc.Rcd} (h : Recs w B v L) (hb : Below w.heap.size w w') : Recs w' B v L := by
  obtain ⟨xs, ho, he⟩ := h
  refine ⟨xs, ownsRow_next ho hb, fun j hj => ?_⟩
  obtain ⟨d, h1, h2⟩ := he j hj
  exact ⟨d, h1, ownsRow_next h2 hb⟩
theorem Recs.kept {w w' : World} {B q : Nat} {v : Value} {L : List Pc.Rcd} (h : Recs w B v L) (hg : w.grownBy w' (some q)) (hq : q < B) : Recs w' B v L := by
  obtain ⟨xs, ho, he⟩ := h
  refine ⟨xs, own_kept ho hg hq, fun j hj => ?_⟩
  obtain ⟨d, h1, h2⟩ := he j hj
  exact ⟨d, h1, own_kept h2 hg hq⟩
theorem Recs.lower {w : World} {B B' : Nat} {v : Value} {L : List Pc.Rcd} (h : Recs w B v L) (hb : B' ≤ B) : Recs w B' v L := by
  obtain ⟨xs, ho, he⟩ := h
  refine ⟨xs, ownsRow_lower ho hb, fun j hj => ?_⟩
  obtain ⟨d, h1, h2⟩ := he j hj
  exact ⟨d, h1, ownsRow_lower h2 hb⟩
theorem recs_slice {w : World} {B : Nat} {v : Value} {L : List Pc.Rcd} (h : Recs w B v L) : ∃ a c, v = .slice a L.length c := by
  obtain ⟨xs, ho, _⟩ := h
  exact own_slice ho

theorem info46z : (Try.prog.info? 46).map (fun i => (i.zero, i.size, i.bytes)) = some (some (.agg #[.int .u32 0, .int .u32 0, .int .u32 0, .slice none 0 0]), 4, 40) := by kernel_rfl
theorem wpList_append_recs {w : World} {ops : Array Oper} {rest : List Oper} {o : Oper} {a : Act} {Q : Exit → Act → World → Prop} (hgd : o.guard = none) (s x : Operand)
    (ho : o.op = .call { callee := .builtin .append, args := #[s, x], argTypes := #[25, 25] })
    (B : Nat) (v : Value) (L : List Pc.Rcd) (r : Pc.Rcd) (d : Value) (g : Nat) (hs : a.eval s = v) (hx : a.eval x = .slice (some ⟨g, 0, none⟩) 1 1) (hL : Recs w B v L)
    (hd : w.ownsRow B 5 1 d r.data.length (Lib.byteCells r.data)) (hg : w.heap[g]? = some (.cells (rcells r d).toArray 46 (0, 0))) (hB : B ≤ w.heap.size) (hlen : L.length ≤ 1000000)
    (h : ∀ v' w', Recs w' B v' (L ++ [r]) → w.grownBy w' v.ownBlock → (∀ k, v.ownBlock = some k → B ≤ k) → wpList Try.prog ops Q rest (a.put o.dst v') w') : wpList Try.prog ops Q (o :: rest) a w := by
  obtain ⟨i0, hi, hz0, hz1, hz2⟩ := info_parts info46z
  obtain ⟨xs, hown, he⟩ := hL
  obtain ⟨p, c, rfl⟩ := own_slice hd
  refine wpList_append_own w hgd s x 25 ho B 46 i0 _ 4 40 Try.underlying25 hi hz0 hz1 hz2 rfl (by decide) v L.length xs hs hown ⟨g, 0, none⟩ 1 1 (rcells r (.slice p r.data.length c)) hx rfl (fun j u hu => ?_) (fun u hu => ?_) (by unfold maxLen; omega) (by omega) hB ?_
  · rw [Go.WideShapes.add_plain, cell_of_row _ _ _ _ _ _ hg]; simpa using hu
  · simp only [rcells, List.mem_cons, List.not_mem_nil, or_false] at hu
    rcases hu with rfl | rfl | rfl | rfl <;> rfl
  · intro v' w' o2 g2 _
    have hl : xs.length = L.length * 4 := hown.1
    refine h v' w' ⟨xs ++ rcells r (.slice p r.data.length c), by rw [List.length_append]; exact o2, fun j hj => ?_⟩ g2 (fun k hk => (hown.lt k hk).1)
    by_cases hjl : j < L.length
    · obtain ⟨d', h1, h2⟩ := he j hjl
      rw [List.getElem_append_left hjl]
      refine ⟨d', ⟨?_, ?_, ?_, ?_⟩, h2.kept g2 (own_apart hown h2 (by decide))⟩
      · rw [List.getElem?_append_left (by omega)]; exact h1.sec
      · rw [List.getElem?_append_left (by omega)]; exact h1.frac
      · rw [List.getElem?_append_left (by omega)]; exact h1.len
      · rw [List.getElem?_append_left (by omega)]; exact h1.data
    · have hj2 : j = L.length := by simp at hj; omega
      subst hj2
      rw [List.getElem_append_right (Nat.le_refl _)]
      simp only [Nat.sub_self, List.getElem_cons_zero]
      refine ⟨.slice p r.data.length c, ⟨?_, ?_, ?_, ?_⟩, hd.kept g2 (own_apart hown hd (by decide))⟩
      · rw [List.getElem?_append_right (by omega), hl]; simp [rcells]
      · rw [List.getElem?_append_right (by omega), hl]; simp [rcells]
      · rw [List.getElem?_append_right (by omega), hl]; simp [rcells]
      · rw [List.getElem?_append_right (by omega), hl]; simp [rcells]

/-- Records in memory, wherever they lie. -/
structure RecAt (w : World) (b k : Nat) (r : Pc.Rcd) (p : Option Addr) (c : Nat) : Prop where
  sec : w.cell? ⟨b, k, none⟩ = some (.int .u32 (r.sec : Int))
  frac : w.cell? ⟨b, k + 1, none⟩ = some (.int .u32 (r.frac : Int))
  len : w.cell? ⟨b, k + 2, none⟩ = some (.int .u32 (r.len : Int))
  data : w.cell? ⟨b, k + 3, none⟩ = some (.slice p r.data.length c)
  row : RowAt w p c r.data
  ok : r.Ok
def RecsAt (w : World) (a : Option Addr) (L : List Pc.Rcd) : Prop :=
  L = [] ∨ ∃ b off, a = some ⟨b, off, none⟩ ∧ b < w.heap.size ∧ ∀ j (h : j < L.length), ∃ p c, RecAt w b (off + j * 4) L[j] p c
theorem RecAt.next {w w' : World} {b k : Nat} {r : Pc.Rcd} {p : Option Addr} {c : Nat} (h : RecAt w b k r p c) (hl : b < w.heap.size) (hb : Below w.heap.size w w') : RecAt w' b k r p c := by
  have e : ∀ i, w'.cell? ⟨b, i, none⟩ = w.cell? ⟨b, i, none⟩ := fun i => hb.cell (p := ⟨b, i, none⟩) hl
  exact ⟨by rw [e]; exact h.sec, by rw [e]; exact h.frac, by rw [e]; exact h.len, by rw [e]; exact h.data, h.row.next hb, h.ok⟩
theorem RecsAt.next {w w' : World} {a : Option Addr} {L : List Pc.Rcd} (h : RecsAt w a L) (hb : Below w.heap.size w w') : RecsAt w' a L := by
  rcases h with rfl | ⟨b, off, rfl, h1, h2⟩
  · exact .inl rfl
  · refine .inr ⟨b, off, rfl, Nat.lt_of_lt_of_le h1 hb.size, fun j hj => ?_⟩
    obtain ⟨p, c, h3⟩ := h2 j hj
    exact ⟨p, c, h3.next h1 hb⟩
theorem Recs.at {w : World} {B : Nat} {v : Value} {L : List Pc.Rcd} (h : Recs w B v L) (hok : ∀ r ∈ L, r.Ok) : ∃ a c, v = .slice a L.length c ∧ RecsAt w a L := by
  obtain ⟨xs, ho, he⟩ := h
  rcases ho.2 with ⟨rfl, h0⟩ | ⟨g, cap, cur, rfl, hb, hg, _⟩
  · exact ⟨none, 0, by rw [h0], .inl (List.eq_nil_of_length_eq_zero h0)⟩
  · refine ⟨_, cap, rfl, .inr ⟨g, 0, rfl, lt_of_block hg, fun j hj => ?_⟩⟩
    obtain ⟨d, h1, h2⟩ := he j hj
    obtain ⟨p, c, rfl, hr⟩ := rowAt_own rfl h2
    have e := ho.cells (g := g) rfl
    simp only [Go.WideShapes.add_plain] at e
    exact ⟨p, c, e _ _ h1.sec, by rw [Nat.add_assoc]; exact e _ _ h1.frac, by rw [Nat.add_assoc]; exact e _ _ h1.len, by rw [Nat.add_assoc]; exact e _ _ h1.data, hr, hok _ (List.getElem_mem hj)⟩

/-- A place and an error. -/
def scells (k e : Nat) : List Value := [.int .i64 (k : Int), .int .i64 (e : Int)]
theorem info36 : (Try.prog.info? 36).map (·.size) = some 2 := by kernel_rfl
theorem scells_one (k e : Nat) : (scells k e).toArray.all (·.oneCell') = true := by rw [List.all_toArray]; simp [scells, Value.oneCell']
theorem wpList_store_spot {w : World} {ops : Array Oper} {rest : List Oper} {o : Oper} {a : Act} {Q : Exit → Act → World → Prop} (hgd : o.guard = none) (x y : Operand) (ho : o.op = .store 36 x y) (R k e : Nat) (cur : Array Value)
    (hx : a.eval x = .pointer (some ⟨R, 0, none⟩)) (hy : a.eval y = .agg (scells k e).toArray) (hR : w.heap[R]? = some (.cells cur 36 (0, 0))) (hcur : cur.size = 2)
    (h : wpList Try.prog ops Q rest (a.put o.dst undef) (w.setRow R (scells k e).toArray)) : wpList Try.prog ops Q (o :: rest) a w :=
  wpList_store_row hgd 36 x y ho R _ hx hy 36 cur hR info36 hcur (scells_one k e) h
/-- Three results, the first and the third in cells. -/
theorem results_cell_tmp_cell {P : Program} {fn : Func} {q p p2 : Tmp} {ty ty2 : TypeId} (h : fn.results = #[.cell p ty, .tmp q, .cell p2 ty2]) (tmps : Array Value) (w : World) (g g2 : Nat) (t t2 : TypeId) (cs cs2 : Array Value) (fr fr2 : Nat × Nat) (d d2 : TypeDesc)
    (hp : tmps.getD p undef = .pointer (some ⟨g, 0, none⟩)) (hg : w.heap[g]? = some (.cells cs t fr))
    (hu : P.underlying ty = some d) (hd : (match d with | .struct _ | .array _ _ => true | _ => false) = true) (hi : (P.info? ty).map (·.size) = some cs.size)
    (hp2 : tmps.getD p2 undef = .pointer (some ⟨g2, 0, none⟩)) (hg2 : w.heap[g2]? = some (.cells cs2 t2 fr2))
    (hu2 : P.underlying ty2 = some d2) (hd2 : (match d2 with | .struct _ | .array _ _ => true | _ => false) = true) (hi2 : (P.info? ty2).map (·.size) = some cs2.size) :
    (results fn tmps).run P w = .ok (.tuple #[.agg cs, tmps.getD q undef, .agg cs2]) w := by
  have hp' : tmps[p]?.getD undef = .pointer (some ⟨g, 0, none⟩) := by simpa using hp
  have hp2' : tmps[p2]?.getD undef = .pointer (some ⟨g2, 0, none⟩) := by simpa using hp2
  simp [results, h, hp', hp2', asAddr, run_loadVar_row w g t ty cs fr d hg hu hd hi, run_loadVar_row w g2 t2 ty2 cs2 fr2 d2 hg2 hu2 hd2 hi2]
/-- What Read tells. -/
def ReadRes (w w' : World) (e : Ending) (A : Pc.Hdr × List Pc.Rcd × Nat × Nat) : Prop :=
  ∃ v, e = .returned (.tuple #[.agg (hcells A.1).toArray, v, .agg (scells A.2.2.1 A.2.2.2).toArray]) ∧ Recs w' w.heap.size v A.2.1 ∧ Below w.heap.size w w'
theorem grown_row (w : World) (q : Nat) (cs : Array Value) : w.grownBy (w.setRow q cs) (some q) :=
  ⟨rfl, rfl, rfl, by rw [setRow_size]; exact Nat.le_refl _, fun k _ hne => setRow_other _ _ _ _ (fun e => hne (by rw [e]))⟩
theorem run_store_rec {w : World} {o : Oper} {a : Act} (x y : Operand) (ho : o.op = .store 46 x y) (R : Nat) (r : Pc.Rcd) (p : Option Addr) (n c : Nat) (cur : Array Value)
    (hx : a.eval x = .pointer (some ⟨R, 0, none⟩)) (hy : a.eval y = .agg (rcells r (.slice p n c)).toArray) (hR : w.heap[R]? = some (.cells cur 46 (0, 0))) (hcur : cur.size = 4) :
    (execOp a.eval o).run Try.prog w = .ok .skip (w.setRow R (rcells r (.slice p n c)).toArray) := by
  have h := run_storeVar_row (P := Try.prog) w R 46 46 cur (rcells r (.slice p n c)).toArray hR info46 hcur (rcells_one r p n c)
  unfold execOp
  simp only [ho, hx, hy, Instr.storeAt, Instr.sureAddr, Sem.run_bind, Sem.run_pure, Result.andThen_ok, h]
end Go.Proofs.Ytfkjjolohphaoaa
