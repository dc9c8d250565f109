/- Lists of parts that are made, to be joined; append as one step of a region that draws its order. -/
import Derived.Test.YtbmlacmpiaklpaaDoorDa
namespace Go.Proofs.YtbmlacmpiaklpaaDoor
open Go.RowKit

/-- One operation that yields a value. -/
theorem wp_value {P : Program} {o : Oper} {a : Act} {w w' : World} {v : Value} {K : Act → World → Prop} {Q : Exit → Act → World → Prop} (he : (execOp a.eval o).run P w = .ok (.value v) w') (h : K (a.put o.dst v) w') : Oper.wp P o a w K Q := by
  unfold Oper.wp
  rw [he]
  exact h
/-- One operation that is a call. -/
theorem wp_enter {P : Program} {o : Oper} {a : Act} {w : World} {f : FuncId} {args : Array Value} {K : Act → World → Prop} {Q : Exit → Act → World → Prop} (he : (execOp a.eval o).run P w = .ok (.enter f args) w) (h : Calls P f args w fun e w' => ∃ v, e = .returned v ∧ K (a.put o.dst v) w') : Oper.wp P o a w K Q := by
  unfold Oper.wp
  rw [he]
  simp only [Oper.upon]
  refine h.mono ?_
  rintro e w' ⟨v, rfl, h1⟩
  exact h1
theorem wp_append_row {o : Oper} {a : Act} {w : World} {K : Act → World → Prop} {Q : Exit → Act → World → Prop} (s x : Operand)
    (ho : o.op = .call { callee := .builtin .append, args := #[s, x], argTypes := #[25, 25] })
    (base : Nat) (v : Value) (n : Nat) (xs : List Value) (hs : a.eval s = v) (hown : w.ownsRow base 5 1 v n xs)
    (p : Option Addr) (m c : Nat) (ys : List UInt8) (hx : a.eval x = .slice p m c) (hm : ys.length = m) (hrow : RowAt w p c ys)
    (h63 : n + m ≤ 1000000) (hbase : base ≤ w.heap.size)
    (h : ∀ v' w', w'.ownsRow base 5 1 v' (n + m) (xs ++ Lib.byteCells ys) → w.grownBy w' v.ownBlock → K (a.put o.dst v') w') : Oper.wp Tryd.prog o a w K Q := by
  obtain ⟨i0, hi, hz0, hz1, hz2⟩ := info_parts info5
  cases p with
  | none =>
    have h0 := hrow.nil rfl
    have h1 := hrow.le
    have hy : ys = [] := List.eq_nil_of_length_eq_zero (by omega)
    subst hy
    subst h0
    simp at hm
    subst hm
    have hrun := run_append_owned_none (P := Tryd.prog) (w := w) base 25 o.type 5 i0 1 Tryd.underlying25 hi v n xs hown
    unfold Oper.wp
    simp [execOp, ho, resolve, invoke, builtin, hs, hx, hrun, Result.andThen]
    exact h v w (by simpa [Lib.byteCells] using hown) ⟨rfl, rfl, rfl, Nat.le_refl _, fun _ _ _ => rfl⟩
  | some ad =>
    obtain ⟨v', w', hrun, r1, r2, _⟩ := run_append_own (P := Tryd.prog) w base 25 o.type 5 i0 (.int .u8 0) 1 1 Tryd.underlying25 hi hz0 hz1 hz2 rfl (by decide) v n xs hown ad m c (Lib.byteCells ys) (by rw [Lib.byteCells_length, hm, Nat.mul_one]) (hrow.cell ad rfl) (cells_one ys) (by unfold maxLen; omega) (by omega) hbase
    unfold Oper.wp
    simp [execOp, ho, resolve, invoke, builtin, hs, hx, hrun, Result.andThen]
    exact h v' w' r1 r2

section
variable {P : Program} {l : List Oper} {Q : Exit → Act → World → Prop} {S : World → Prop}
/-- Operations, each of which may come up first. -/
theorem held_pair (i j : Nat) {oi oj : Oper} {fuel : Nat} {listed : Array Bool} {a : Act} {w : World} (hi : l[i]? = some oi) (hj : l[j]? = some oj) (hr : Region.ready .any l.toArray listed = [i, j])
    (hwi : Region.wanted oi (yielded l.toArray a.tmps) = true) (hwj : Region.wanted oj (yielded l.toArray a.tmps) = true)
    (h1 : Oper.wp P oi a w (fun a' w' => S w' ∧ wpAnyH P .any l.toArray Q S fuel (listed.setIfInBounds i true) a' w') Q)
    (h2 : Oper.wp P oj a w (fun a' w' => S w' ∧ wpAnyH P .any l.toArray Q S fuel (listed.setIfInBounds j true) a' w') Q) : wpAnyH P .any l.toArray Q S (fuel + 1) listed a w := by
  refine ⟨(fun h0 => by rw [hr] at h0; cases h0), fun k hk => ?_⟩
  rw [hr] at hk
  have hk' : k = i ∨ k = j := by simpa using hk
  rcases hk' with rfl | rfl
  · unfold wpOp
    have ho : l.toArray[k]? = some oi := by simpa using hi
    simp only [ho, hwi, if_true]
    exact .inl h1
  · unfold wpOp
    have ho : l.toArray[k]? = some oj := by simpa using hj
    simp only [ho, hwj, if_true]
    exact .inl h2
theorem held_three (i j q : Nat) {oi oj oq : Oper} {fuel : Nat} {listed : Array Bool} {a : Act} {w : World} (hi : l[i]? = some oi) (hj : l[j]? = some oj) (hq : l[q]? = some oq) (hr : Region.ready .any l.toArray listed = [i, j, q])
    (hwi : Region.wanted oi (yielded l.toArray a.tmps) = true) (hwj : Region.wanted oj (yielded l.toArray a.tmps) = true) (hwq : Region.wanted oq (yielded l.toArray a.tmps) = true)
    (h1 : Oper.wp P oi a w (fun a' w' => S w' ∧ wpAnyH P .any l.toArray Q S fuel (listed.setIfInBounds i true) a' w') Q)
    (h2 : Oper.wp P oj a w (fun a' w' => S w' ∧ wpAnyH P .any l.toArray Q S fuel (listed.setIfInBounds j true) a' w') Q)
    (h3 : Oper.wp P oq a w (fun a' w' => S w' ∧ wpAnyH P .any l.toArray Q S fuel (listed.setIfInBounds q true) a' w') Q) : wpAnyH P .any l.toArray Q S (fuel + 1) listed a w := by
  refine ⟨(fun h0 => by rw [hr] at h0; cases h0), fun k hk => ?_⟩
  rw [hr] at hk
  have hk' : k = i ∨ k = j ∨ k = q := by simpa using hk
  rcases hk' with rfl | rfl | rfl
  · unfold wpOp
    have ho : l.toArray[k]? = some oi := by simpa using hi
    simp only [ho, hwi, if_true]
    exact .inl h1
  · unfold wpOp
    have ho : l.toArray[k]? = some oj := by simpa using hj
    simp only [ho, hwj, if_true]
    exact .inl h2
  · unfold wpOp
    have ho : l.toArray[k]? = some oq := by simpa using hq
    simp only [ho, hwq, if_true]
    exact .inl h3
/-- One operation that alone may come up. -/
theorem held_one (i : Nat) {oi : Oper} {fuel : Nat} {listed : Array Bool} {a : Act} {w : World} (hi : l[i]? = some oi) (hr : Region.ready .any l.toArray listed = [i])
    (hwi : Region.wanted oi (yielded l.toArray a.tmps) = true)
    (h1 : Oper.wp P oi a w (fun a' w' => S w' ∧ wpAnyH P .any l.toArray Q S fuel (listed.setIfInBounds i true) a' w') Q) : wpAnyH P .any l.toArray Q S (fuel + 1) listed a w := by
  refine ⟨(fun h0 => by rw [hr] at h0; cases h0), fun k hk => ?_⟩
  rw [hr] at hk
  obtain rfl : k = i := by simpa using hk
  unfold wpOp
  have ho : l.toArray[k]? = some oi := by simpa using hi
  simp only [ho, hwi, if_true]
  exact .inl h1
end

/-- A part: of memory that was there at first, or made since. -/
def PartIs (w0 w : World) (B : Nat) (u : Value) (b : List UInt8) : Prop := ∃ p c, u = .slice p b.length c ∧ (RowAt w0 p c b ∨ w.ownsRow B 5 1 (.slice p b.length c) b.length (Lib.byteCells b))
theorem PartIs.next {w0 w w' : World} {B : Nat} {u : Value} {b : List UInt8} (h : PartIs w0 w B u b) (hb : Below w.heap.size w w') : PartIs w0 w' B u b := by
  obtain ⟨p, c, rfl, h | h⟩ := h
  · exact ⟨p, c, rfl, .inl h⟩
  · exact ⟨p, c, rfl, .inr (ownsRow_next h hb)⟩
theorem PartIs.row {w0 w : World} {B : Nat} {u : Value} {b : List UInt8} (h : PartIs w0 w B u b) (h0 : Below w0.heap.size w0 w) : ∃ p c, u = .slice p b.length c ∧ RowAt w p c b := by
  obtain ⟨p, c, rfl, h | h⟩ := h
  · exact ⟨p, c, rfl, h.next h0⟩
  · obtain ⟨p', c', e, hr⟩ := rowAt_own rfl h
    simp only [Value.slice.injEq, true_and] at e
    obtain ⟨rfl, rfl⟩ := e
    exact ⟨p, c, rfl, hr⟩
theorem part_own {w0 w : World} {B n : Nat} {u : Value} {b : List UInt8} (hn : b.length = n) (h : w.ownsRow B 5 1 u n (Lib.byteCells b)) : PartIs w0 w B u b := by
  subst hn
  obtain ⟨p, c, rfl⟩ := own_slice h
  exact ⟨p, c, rfl, .inr h⟩
/-- A list of parts that was made. -/
def Prts (w0 w : World) (B : Nat) (v : Value) (L : List (List UInt8)) : Prop :=
  ∃ vs : List Value, w.ownsRow B 25 1 v L.length vs ∧ ∀ j (h : j < L.length), ∃ u, vs[j]? = some u ∧ PartIs w0 w B u L[j]
theorem prts_none (w0 w : World) (B : Nat) : Prts w0 w B (.slice none 0 0) [] := ⟨[], World.ownsRow_nil _ _ _ _, (fun _ h => by simp at h)⟩
theorem Prts.next {w0 w w' : World} {B : Nat} {v : Value} {L : List (List UInt8)} (h : Prts w0 w B v L) (hb : Below w.heap.size w w') : Prts w0 w' B v L := by
  obtain ⟨vs, ho, he⟩ := h
  refine ⟨vs, ownsRow_next ho hb, fun j hj => ?_⟩
  obtain ⟨u, h1, h2⟩ := he j hj
  exact ⟨u, h1, h2.next hb⟩
theorem prts_slice {w0 w : World} {B : Nat} {v : Value} {L : List (List UInt8)} (h : Prts w0 w B v L) : ∃ a c, v = .slice a L.length c := by
  obtain ⟨vs, ho, _⟩ := h
  exact own_slice ho
theorem Prts.parts {w0 w : World} {B : Nat} {v : Value} {L : List (List UInt8)} (h : Prts w0 w B v L) (h0 : Below w0.heap.size w0 w) : ∃ a c, v = .slice a L.length c ∧ PartsAt w a L := by
  obtain ⟨vs, ho, he⟩ := h
  rcases ho.2 with ⟨rfl, h1⟩ | ⟨g, cap, cur, rfl, hb, hg, _⟩
  · exact ⟨none, 0, by rw [h1], .inl (List.eq_nil_of_length_eq_zero h1)⟩
  · refine ⟨_, cap, rfl, .inr ⟨g, 0, rfl, lt_of_block hg, fun j hj => ?_⟩⟩
    obtain ⟨u, h1, h2⟩ := he j hj
    obtain ⟨p, c, rfl, hr⟩ := h2.row h0
    refine ⟨p, c, ?_, hr⟩
    have h3 := ho.cells (g := g) rfl j _ h1
    rw [Go.WideShapes.add_plain] at h3
    exact h3
/-- What is appended. -/
def News (w0 w : World) (B g : Nat) (M : List (List UInt8)) : Prop :=
  ∃ ms : List Value, w.heap[g]? = some (.cells ms.toArray 25 (0, 0)) ∧ ms.length = M.length ∧ ∀ j (h : j < M.length), ∃ u, ms[j]? = some u ∧ PartIs w0 w B u M[j]
theorem news_three {w0 w : World} {B : Nat} {u u2 u3 : Value} {b b2 b3 : List UInt8} (h : PartIs w0 w B u b) (h2 : PartIs w0 w B u2 b2) (h3 : PartIs w0 w B u3 b3) : News w0 (w.alloc (.cells #[u, u2, u3] 25)) B w.heap.size [b, b2, b3] := by
  refine ⟨[u, u2, u3], heap_alloc_new w _, rfl, fun j hj => ?_⟩
  have : j = 0 ∨ j = 1 ∨ j = 2 := by simp at hj; omega
  rcases this with rfl | rfl | rfl
  · exact ⟨u, rfl, h.next ((Below.refl _ _).alloc (Nat.le_refl _) _)⟩
  · exact ⟨u2, rfl, h2.next ((Below.refl _ _).alloc (Nat.le_refl _) _)⟩
  · exact ⟨u3, rfl, h3.next ((Below.refl _ _).alloc (Nat.le_refl _) _)⟩
theorem part_slice {w0 w : World} {B : Nat} {u : Value} {b : List UInt8} (h : PartIs w0 w B u b) : u.oneCell' = true := by
  obtain ⟨p, c, rfl, _⟩ := h
  rfl
theorem PartIs.kept {w0 w w' : World} {B n : Nat} {u v : Value} {b : List UInt8} {vs : List Value} (h : PartIs w0 w B u b) (ho : w.ownsRow B 25 1 v n vs) (hg : w.grownBy w' v.ownBlock) : PartIs w0 w' B u b := by
  obtain ⟨p, c, rfl, h | h⟩ := h
  · exact ⟨p, c, rfl, .inl h⟩
  · exact ⟨p, c, rfl, .inr (h.kept hg (own_apart ho h (by decide)))⟩
theorem prts_append {w0 w w' : World} {B : Nat} {v v' : Value} {L M : List (List UInt8)} {vs ms : List Value} (ho : w.ownsRow B 25 1 v L.length vs) (he : ∀ j (h : j < L.length), ∃ u, vs[j]? = some u ∧ PartIs w0 w B u L[j])
    (_hml : ms.length = M.length) (hm : ∀ j (h : j < M.length), ∃ u, ms[j]? = some u ∧ PartIs w0 w B u M[j]) (o2 : w'.ownsRow B 25 1 v' (L.length + M.length) (vs ++ ms)) (g2 : w.grownBy w' v.ownBlock) : Prts w0 w' B v' (L ++ M) := by
  refine ⟨vs ++ ms, by rw [List.length_append]; exact o2, fun j hj => ?_⟩
  have hl : vs.length = L.length := by rw [ho.1, Nat.mul_one]
  by_cases hjl : j < L.length
  · obtain ⟨u, h1, h2⟩ := he j hjl
    exact ⟨u, by rw [List.getElem?_append_left (by omega), h1], by rw [List.getElem_append_left hjl]; exact h2.kept ho g2⟩
  · have hj2 : j - L.length < M.length := by rw [List.length_append] at hj; omega
    obtain ⟨u, h1, h2⟩ := hm (j - L.length) hj2
    exact ⟨u, by rw [List.getElem?_append_right (by omega), hl, h1], by rw [List.getElem_append_right (by omega)]; exact h2.kept ho g2⟩
theorem info25z : (Tryd.prog.info? 25).map (fun i => (i.zero, i.size, i.bytes)) = some (some (.slice none 0 0), 1, 24) := by kernel_rfl
theorem run_append_prts {w0 w : World} (ty : TypeId) (B g : Nat) (v : Value) (L M : List (List UInt8)) (hL : Prts w0 w B v L) (hM : News w0 w B g M) (hB : B ≤ w.heap.size) (hlen : L.length + M.length ≤ 1000000) :
    ∃ v' w', (Builtin.append_ #[47, 47] ty #[v, .slice (some ⟨g, 0, none⟩) M.length M.length]).run Tryd.prog w = .ok v' w' ∧ Prts w0 w' B v' (L ++ M) ∧ w.grownBy w' v.ownBlock ∧ (∀ k, v.ownBlock = some k → B ≤ k) := by
  obtain ⟨i0, hi, hz0, hz1, hz2⟩ := info_parts info25z
  obtain ⟨vs, ho, he⟩ := hL
  obtain ⟨ms, hg, hml, hm⟩ := hM
  obtain ⟨v', w', hrun, r1, r2, _⟩ := run_append_own (P := Tryd.prog) w B 47 ty 25 i0 (.slice none 0 0) 1 24 Tryd.underlying47 hi hz0 hz1 hz2 rfl (by decide) v L.length vs ho ⟨g, 0, none⟩ M.length M.length ms (by rw [hml, Nat.mul_one]) (fun j u hu => by rw [Go.WideShapes.add_plain, cell_of_row _ _ _ _ _ _ hg]; simpa using hu) (fun u hu => by
    obtain ⟨j, hj, rfl⟩ := List.getElem_of_mem hu
    obtain ⟨u', h1, h2⟩ := hm j (by omega)
    rw [List.getElem?_eq_getElem hj] at h1
    simp only [Option.some.injEq] at h1
    rw [h1]; exact part_slice h2) (by unfold maxLen; omega) (by omega) hB
  exact ⟨v', w', hrun, prts_append ho he hml hm r1 r2, r2, fun k hk => (ho.lt k hk).1⟩
theorem wp_append_prts {o : Oper} {a : Act} {w0 w : World} {K : Act → World → Prop} {Q : Exit → Act → World → Prop} (s x : Operand)
    (ho : o.op = .call { callee := .builtin .append, args := #[s, x], argTypes := #[47, 47] })
    (B g : Nat) (v : Value) (L M : List (List UInt8)) (hs : a.eval s = v) (hx : a.eval x = .slice (some ⟨g, 0, none⟩) M.length M.length) (hL : Prts w0 w B v L) (hM : News w0 w B g M) (hB : B ≤ w.heap.size) (hlen : L.length + M.length ≤ 1000000)
    (h : ∀ v' w', Prts w0 w' B v' (L ++ M) → w.grownBy w' v.ownBlock → (∀ k, v.ownBlock = some k → B ≤ k) → K (a.put o.dst v') w') : Oper.wp Tryd.prog o a w K Q := by
  obtain ⟨v', w', hrun, h1, h2, h3⟩ := run_append_prts o.type B g v L M hL hM hB hlen
  unfold Oper.wp
  simp [execOp, ho, resolve, invoke, builtin, hs, hx, hrun, Result.andThen]
  exact h v' w' h1 h2 h3
theorem wpList_append_prts {w0 w : World} {ops : Array Oper} {rest : List Oper} {o : Oper} {a : Act} {Q : Exit → Act → World → Prop} (hgd : o.guard = none) (s x : Operand)
    (ho : o.op = .call { callee := .builtin .append, args := #[s, x], argTypes := #[47, 47] })
    (B g : Nat) (v : Value) (L M : List (List UInt8)) (hs : a.eval s = v) (hx : a.eval x = .slice (some ⟨g, 0, none⟩) M.length M.length) (hL : Prts w0 w B v L) (hM : News w0 w B g M) (hB : B ≤ w.heap.size) (hlen : L.length + M.length ≤ 1000000)
    (h : ∀ v' w', Prts w0 w' B v' (L ++ M) → w.grownBy w' v.ownBlock → (∀ k, v.ownBlock = some k → B ≤ k) → wpList Tryd.prog ops Q rest (a.put o.dst v') w') : wpList Tryd.prog ops Q (o :: rest) a w :=
  wpList_plain hgd fun _ hK => wp_append_prts s x ho B g v L M hs hx hL hM hB hlen (fun v' w' h1 h2 h3 => hK _ _ (h v' w' h1 h2 h3))
end Go.Proofs.YtbmlacmpiaklpaaDoor
