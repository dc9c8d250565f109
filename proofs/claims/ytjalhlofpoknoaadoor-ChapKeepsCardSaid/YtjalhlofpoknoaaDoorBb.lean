/- One operation that may come up among several; bytes that are one's own, made since a world. -/
import Derived.Test.YtjalhlofpoknoaaDoorBa
import Derived.Test.YtjalhlofpoknoaaDoorHeld
namespace Go.Proofs.YtjalhlofpoknoaaDoor
open Go.RowKit

/-- One operation that yields a value. -/
theorem wp_value {P : Program} {o : Oper} {a : Act} {w w' : World} {v : Value} {K : Act → World → Prop} {Q : Exit → Act → World → Prop} (he : (execOp a.eval o).run P w = .ok (.value v) w') (h : K (a.put o.dst v) w') : Oper.wp P o a w K Q := by
  unfold Oper.wp
  rw [he]
  exact h
/-- One operation that is a call. -/
theorem wp_enter {P : Program} {o : Oper} {a : Act} {w : World} {f : FuncId} {args : Array Value} {K : Act → World → Prop} {Q : Exit → Act → World → Prop} (he : (execOp a.eval o).run P w = .ok (.enter f args) w) (h : Calls P f args w fun e w' => ∃ v, e = .returned v ∧ K (a.put o.dst v) w') : Oper.wp P o a w K Q := by
  unfold Oper.wp
  rw [he]
  simp only [Oper.upon]
  refine h.mono ?_
  rintro e w' ⟨v, rfl, h1⟩
  exact h1
theorem wp_append_row {o : Oper} {a : Act} {w : World} {K : Act → World → Prop} {Q : Exit → Act → World → Prop} (s x : Operand)
    (ho : o.op = .call { callee := .builtin .append, args := #[s, x], argTypes := #[22, 22] })
    (base : Nat) (v : Value) (n : Nat) (xs : List Value) (hs : a.eval s = v) (hown : w.ownsRow base 5 1 v n xs)
    (p : Option Addr) (m c : Nat) (ys : List UInt8) (hx : a.eval x = .slice p m c) (hm : ys.length = m) (hrow : RowAt w p c ys)
    (h63 : n + m ≤ 1000000) (hbase : base ≤ w.heap.size)
    (h : ∀ v' w', w'.ownsRow base 5 1 v' (n + m) (xs ++ Lib.byteCells ys) → w.grownBy w' v.ownBlock → K (a.put o.dst v') w') : Oper.wp Tryd.prog o a w K Q := by
  obtain ⟨i0, hi, hz0, hz1, hz2⟩ := info_parts info5
  cases p with
  | none =>
    have h0 := hrow.nil rfl
    have h1 := hrow.le
    have hy : ys = [] := List.eq_nil_of_length_eq_zero (by omega)
    subst hy
    subst h0
    simp at hm
    subst hm
    have hrun := run_append_owned_none (P := Tryd.prog) (w := w) base 22 o.type 5 i0 1 Tryd.underlying22 hi v n xs hown
    unfold Oper.wp
    simp [execOp, ho, resolve, invoke, builtin, hs, hx, hrun, Result.andThen]
    exact h v w (by simpa [Lib.byteCells] using hown) ⟨rfl, rfl, rfl, Nat.le_refl _, fun _ _ _ => rfl⟩
  | some ad =>
    obtain ⟨v', w', hrun, r1, r2, _⟩ := run_append_own (P := Tryd.prog) w base 22 o.type 5 i0 (.int .u8 0) 1 1 Tryd.underlying22 hi hz0 hz1 hz2 rfl (by decide) v n xs hown ad m c (Lib.byteCells ys) (by rw [Lib.byteCells_length, hm, Nat.mul_one]) (hrow.cell ad rfl) (cells_one ys) (by unfold maxLen; omega) (by omega) hbase
    unfold Oper.wp
    simp [execOp, ho, resolve, invoke, builtin, hs, hx, hrun, Result.andThen]
    exact h v' w' r1 r2

section
variable {P : Program} {l : List Oper} {Q : Exit → Act → World → Prop} {S : World → Prop}
/-- Operations, each of which may come up first. -/
theorem held_pair (i j : Nat) {oi oj : Oper} {fuel : Nat} {listed : Array Bool} {a : Act} {w : World} (hi : l[i]? = some oi) (hj : l[j]? = some oj) (hr : Region.ready .any l.toArray listed = [i, j])
    (hwi : Region.wanted oi (yielded l.toArray a.tmps) = true) (hwj : Region.wanted oj (yielded l.toArray a.tmps) = true)
    (h1 : Oper.wp P oi a w (fun a' w' => S w' ∧ wpAnyH P .any l.toArray Q S fuel (listed.setIfInBounds i true) a' w') Q)
    (h2 : Oper.wp P oj a w (fun a' w' => S w' ∧ wpAnyH P .any l.toArray Q S fuel (listed.setIfInBounds j true) a' w') Q) : wpAnyH P .any l.toArray Q S (fuel + 1) listed a w := by
  refine ⟨(fun h0 => by rw [hr] at h0; cases h0), fun k hk => ?_⟩
  rw [hr] at hk
  have hk' : k = i ∨ k = j := by simpa using hk
  rcases hk' with rfl | rfl
  · unfold wpOp
    have ho : l.toArray[k]? = some oi := by simpa using hi
    simp only [ho, hwi, if_true]
    exact .inl h1
  · unfold wpOp
    have ho : l.toArray[k]? = some oj := by simpa using hj
    simp only [ho, hwj, if_true]
    exact .inl h2
theorem held_three (i j q : Nat) {oi oj oq : Oper} {fuel : Nat} {listed : Array Bool} {a : Act} {w : World} (hi : l[i]? = some oi) (hj : l[j]? = some oj) (hq : l[q]? = some oq) (hr : Region.ready .any l.toArray listed = [i, j, q])
    (hwi : Region.wanted oi (yielded l.toArray a.tmps) = true) (hwj : Region.wanted oj (yielded l.toArray a.tmps) = true) (hwq : Region.wanted oq (yielded l.toArray a.tmps) = true)
    (h1 : Oper.wp P oi a w (fun a' w' => S w' ∧ wpAnyH P .any l.toArray Q S fuel (listed.setIfInBounds i true) a' w') Q)
    (h2 : Oper.wp P oj a w (fun a' w' => S w' ∧ wpAnyH P .any l.toArray Q S fuel (listed.setIfInBounds j true) a' w') Q)
    (h3 : Oper.wp P oq a w (fun a' w' => S w' ∧ wpAnyH P .any l.toArray Q S fuel (listed.setIfInBounds q true) a' w') Q) : wpAnyH P .any l.toArray Q S (fuel + 1) listed a w := by
  refine ⟨(fun h0 => by rw [hr] at h0; cases h0), fun k hk => ?_⟩
  rw [hr] at hk
  have hk' : k = i ∨ k = j ∨ k = q := by simpa using hk
  rcases hk' with rfl | rfl | rfl
  · unfold wpOp
    have ho : l.toArray[k]? = some oi := by simpa using hi
    simp only [ho, hwi, if_true]
    exact .inl h1
  · unfold wpOp
    have ho : l.toArray[k]? = some oj := by simpa using hj
    simp only [ho, hwj, if_true]
    exact .inl h2
  · unfold wpOp
    have ho : l.toArray[k]? = some oq := by simpa using hq
    simp only [ho, hwq, if_true]
    exact .inl h3
/-- One operation that alone may come up. -/
theorem held_one (i : Nat) {oi : Oper} {fuel : Nat} {listed : Array Bool} {a : Act} {w : World} (hi : l[i]? = some oi) (hr : Region.ready .any l.toArray listed = [i])
    (hwi : Region.wanted oi (yielded l.toArray a.tmps) = true)
    (h1 : Oper.wp P oi a w (fun a' w' => S w' ∧ wpAnyH P .any l.toArray Q S fuel (listed.setIfInBounds i true) a' w') Q) : wpAnyH P .any l.toArray Q S (fuel + 1) listed a w := by
  refine ⟨(fun h0 => by rw [hr] at h0; cases h0), fun k hk => ?_⟩
  rw [hr] at hk
  obtain rfl : k = i := by simpa using hk
  unfold wpOp
  have ho : l.toArray[k]? = some oi := by simpa using hi
  simp only [ho, hwi, if_true]
  exact .inl h1
end
theorem step_len {a b : List UInt8} {n k : Nat} (h1 : a.length = n) (h2 : b.length = k) : (a ++ b).length = n + k := by rw [List.length_append, h1, h2]
/-- Bytes that were made since W0, and nothing else changed. -/
structure Own (W0 W : World) (p : Option Addr) (n c : Nat) (xs : List UInt8) : Prop where
  len : xs.length = n
  own : W.ownsRow W0.heap.size 5 1 (.slice p n c) n (Lib.byteCells xs)
  bel : Below W0.heap.size W0 W
theorem Own.next {W0 W W' : World} {p : Option Addr} {n c : Nat} {xs : List UInt8} (h : Own W0 W p n c xs) (b : Below W.heap.size W W') : Own W0 W' p n c xs := ⟨h.len, ownsRow_next h.own b, Below.chain h.bel b⟩
theorem own_nil (W0 : World) : Own W0 W0 none 0 0 [] := ⟨rfl, World.ownsRow_nil _ _ _ _, Below.refl _ _⟩
theorem Own.row {W0 W : World} {p : Option Addr} {n c : Nat} {xs : List UInt8} (h : Own W0 W p n c xs) : RowAt W p c xs := by
  obtain ⟨p', c', e, hr⟩ := rowAt_own h.len h.own
  simp only [Value.slice.injEq, true_and] at e
  obtain ⟨rfl, rfl⟩ := e
  exact hr
theorem wpList_append_mine {W0 w : World} {ops : Array Oper} {rest : List Oper} {o : Oper} {a : Act} {Q : Exit → Act → World → Prop} (hgd : o.guard = none) (s x : Operand)
    (ho : o.op = .call { callee := .builtin .append, args := #[s, x], argTypes := #[22, 22] })
    (p : Option Addr) (n c k : Nat) (xs : List UInt8) (hs : a.eval s = .slice p n c) (hO : Own W0 w p n c xs)
    (q : Option Addr) (m d : Nat) (ys : List UInt8) (hx : a.eval x = .slice q m d) (hm : ys.length = m) (hrow : RowAt w q d ys) (hk : n + m = k) (h63 : k ≤ 1000000)
    (h : ∀ p' c' w', Own W0 w' p' k c' (xs ++ ys) → wpList Tryd.prog ops Q rest (a.put o.dst (.slice p' k c')) w') : wpList Tryd.prog ops Q (o :: rest) a w := by
  subst hk
  refine wpList_append_row hgd s x ho W0.heap.size (.slice p n c) n _ hs hO.own q m d ys hx hm hrow h63 hO.bel.size ?_
  intro v' w' o2 g2
  obtain ⟨p', c', rfl⟩ := own_slice o2
  exact h p' c' w' ⟨step_len hO.len hm, by rw [Lib.byteCells_append]; exact o2, Below.grown hO.bel g2 hO.bel.size (fun k hk => (hO.own.lt k hk).1)⟩
theorem own_built (w0 w : World) (y : UInt8) (v : Value) (hv : v = .int .u8 (y.toNat : Int)) (b : Below w0.heap.size w0 w) : Own w0 (w.alloc (.cells #[v] 5)) (some ⟨w.heap.size, 0, none⟩) 1 1 [y] := by
  subst hv
  exact ⟨rfl, owns_built w w0.heap.size 5 _ b.size, Below.chain b (below_one _ _)⟩
theorem two_built (w : World) (y z : UInt8) (i j : Int) (hi : i = (y.toNat : Int)) (hj : j = (z.toNat : Int)) : RowAt (w.alloc (.cells #[.int .u8 i, .int .u8 j] 5)) (some ⟨w.heap.size, 0, none⟩) 2 [y, z] := by
  subst hi
  subst hj
  exact rowAt_built w [y, z] 2 _ rfl (by simp [Lib.byteCells]) (by omega) _
theorem one_built (w : World) (y : UInt8) (i : Int) (hi : i = (y.toNat : Int)) : RowAt (w.alloc (.cells #[.int .u8 i] 5)) (some ⟨w.heap.size, 0, none⟩) 1 [y] := by
  subst hi
  exact rowAt_built w [y] 1 _ rfl (by simp [Lib.byteCells]) (by omega) _

theorem Own.lt {W0 W : World} {p : Option Addr} {n c : Nat} {xs : List UInt8} (h : Own W0 W p n c xs) (ad : Addr) (e : p = some ad) : W0.heap.size ≤ ad.block ∧ ad.block < W.heap.size := by
  have := h.own
  rcases this.2 with ⟨h1, _⟩ | ⟨g, cap, cur, h1, hB, hg, _⟩
  · simp only [Value.slice.injEq] at h1; rw [e] at h1; cases h1.1
  · simp only [Value.slice.injEq] at h1
    rw [e] at h1
    obtain rfl := Option.some.inj h1.1
    exact ⟨hB, lt_of_block hg⟩
end Go.Proofs.YtjalhlofpoknoaaDoor
