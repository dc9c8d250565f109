/- A region that draws its order, walked by hand: operations that yield one value are taken first, a call is met by its contract. No program stands in it. -/
import Derived.OrdersHeld
import Derived.Deep.RegionHeld
namespace Go.Proofs.YtjalhlofpoknoaaDoor.S3

section
variable {P : Program} {l : List Oper} {Q : Exit → Act → World → Prop} {S : World → Prop}

theorem held_start (n : Nat) {id : Nat} {a : Act} {w : World} (hm : P.follows .mixedOrders = true) (hn : l.length = n) (h : wpAnyH P .any l.toArray Q S n (Array.replicate n false) a w.drew) : (Code.region id l.toArray true).wp P Q a w := by
  subst hn
  exact wp_region_held hm (by simpa using h)

/-- An operation that is wanted, and yields v in every world that meets S, is taken first. -/
theorem held_take (i : Nat) {oi : Oper} {v : Value} {fuel : Nat} {listed : Array Bool} {a : Act} {w : World} (hi : l[i]? = some oi) (hs : Region.noSelect l.toArray = true) (hf : Region.free .any l.toArray listed i = true)
    (hr : (Region.ready .any l.toArray listed).contains i = true) (hQ : ∀ c a w, Q (.panic c) (a.put oi.dst v) w → Q (.panic c) a w) (hS : S w)
    (hw : Region.wanted oi (yielded l.toArray a.tmps) = true) (hy : ∀ w, S w → (execOp a.eval oi).run P w = .ok (.value v) w)
    (h : wpAnyH P .any l.toArray Q S fuel (listed.setIfInBounds i true) (a.put oi.dst v) w) : wpAnyH P .any l.toArray Q S (fuel + 1) listed a w :=
  wpAnyH_take (by simpa using hi) hs hf hr hQ (Or.inl ⟨hw, hy⟩) hS h

/-- An operation that isn't wanted is taken first. -/
theorem held_skip (i : Nat) {oi : Oper} {fuel : Nat} {listed : Array Bool} {a : Act} {w : World} (hi : l[i]? = some oi) (hs : Region.noSelect l.toArray = true) (hf : Region.free .any l.toArray listed i = true)
    (hr : (Region.ready .any l.toArray listed).contains i = true) (hQ : ∀ c a w, Q (.panic c) (a.put oi.dst undef) w → Q (.panic c) a w) (hS : S w)
    (hw : Region.wanted oi (yielded l.toArray a.tmps) = false)
    (h : wpAnyH P .any l.toArray Q S fuel (listed.setIfInBounds i true) (a.put oi.dst undef) w) : wpAnyH P .any l.toArray Q S (fuel + 1) listed a w :=
  wpAnyH_take (by simpa using hi) hs hf hr hQ (Or.inr ⟨hw, rfl⟩) hS h

/-- A call that alone may come up is met by its contract. -/
theorem held_call (i : Nat) {oi : Oper} {f : FuncId} {args : Array Value} {fuel : Nat} {listed : Array Bool} {a : Act} {w : World} (hi : l[i]? = some oi) (hr : Region.ready .any l.toArray listed = [i])
    (hw : Region.wanted oi (yielded l.toArray a.tmps) = true) (he : (execOp a.eval oi).run P w = .ok (.enter f args) w)
    (h : Calls P f args w fun e w' => ∃ v, e = .returned v ∧ S w' ∧ wpAnyH P .any l.toArray Q S fuel (listed.setIfInBounds i true) (a.put oi.dst v) w') : wpAnyH P .any l.toArray Q S (fuel + 1) listed a w := by
  refine ⟨(fun h0 => by rw [hr] at h0; cases h0), fun j hj => ?_⟩
  rw [hr] at hj
  obtain rfl : j = i := by simpa using hj
  unfold wpOp
  have ho : l.toArray[j]? = some oi := by simpa using hi
  simp only [ho, hw, if_true]
  refine .inl ?_
  unfold Oper.wp
  rw [he]
  simp only [Oper.upon]
  refine h.mono ?_
  rintro e w' ⟨v, rfl, h1, h2⟩
  exact ⟨h1, h2⟩

/-- An operation that alone may come up, and turns the world. -/
theorem held_alone (i : Nat) {oi : Oper} {fuel : Nat} {listed : Array Bool} {a : Act} {w w' : World} (hi : l[i]? = some oi) (hr : Region.ready .any l.toArray listed = [i])
    (hw : Region.wanted oi (yielded l.toArray a.tmps) = true) (he : (execOp a.eval oi).run P w = .ok .skip w') (hS : S w')
    (h : wpAnyH P .any l.toArray Q S fuel (listed.setIfInBounds i true) (a.put oi.dst undef) w') : wpAnyH P .any l.toArray Q S (fuel + 1) listed a w := by
  refine ⟨(fun h0 => by rw [hr] at h0; cases h0), fun j hj => ?_⟩
  rw [hr] at hj
  obtain rfl : j = i := by simpa using hj
  unfold wpOp
  have ho : l.toArray[j]? = some oi := by simpa using hi
  simp only [ho, hw, if_true]
  refine .inl ?_
  unfold Oper.wp
  rw [he]
  exact ⟨hS, h⟩
/-- An operation that alone may come up, yields a value and makes memory. -/
theorem held_makes (i : Nat) {oi : Oper} {v : Value} {fuel : Nat} {listed : Array Bool} {a : Act} {w w' : World} (hi : l[i]? = some oi) (hr : Region.ready .any l.toArray listed = [i])
    (hw : Region.wanted oi (yielded l.toArray a.tmps) = true) (he : (execOp a.eval oi).run P w = .ok (.value v) w') (hS : S w')
    (h : wpAnyH P .any l.toArray Q S fuel (listed.setIfInBounds i true) (a.put oi.dst v) w') : wpAnyH P .any l.toArray Q S (fuel + 1) listed a w := by
  refine ⟨(fun h0 => by rw [hr] at h0; cases h0), fun j hj => ?_⟩
  rw [hr] at hj
  obtain rfl : j = i := by simpa using hj
  unfold wpOp
  have ho : l.toArray[j]? = some oi := by simpa using hi
  simp only [ho, hw, if_true]
  refine .inl ?_
  unfold Oper.wp
  rw [he]
  exact ⟨hS, h⟩

/-- An operation that yields a value, and a call: either may come up first. -/
theorem held_two (i j : Nat) {oi oj : Oper} {v : Value} {f : FuncId} {args : Array Value} {fuel : Nat} {listed : Array Bool} {a : Act} {w : World} (hi : l[i]? = some oi) (hj : l[j]? = some oj) (hr : Region.ready .any l.toArray listed = [i, j])
    (hwi : Region.wanted oi (yielded l.toArray a.tmps) = true) (hwj : Region.wanted oj (yielded l.toArray a.tmps) = true) (hei : (execOp a.eval oi).run P w = .ok (.value v) w) (hej : (execOp a.eval oj).run P w = .ok (.enter f args) w) (hS : S w)
    (h1 : wpAnyH P .any l.toArray Q S fuel (listed.setIfInBounds i true) (a.put oi.dst v) w)
    (h2 : Calls P f args w fun e w' => ∃ u, e = .returned u ∧ S w' ∧ wpAnyH P .any l.toArray Q S fuel (listed.setIfInBounds j true) (a.put oj.dst u) w') : wpAnyH P .any l.toArray Q S (fuel + 1) listed a w := by
  refine ⟨(fun h0 => by rw [hr] at h0; cases h0), fun k hk => ?_⟩
  rw [hr] at hk
  have hk' : k = i ∨ k = j := by simpa using hk
  rcases hk' with rfl | rfl
  · unfold wpOp
    have ho : l.toArray[k]? = some oi := by simpa using hi
    simp only [ho, hwi, if_true]
    refine .inl ?_
    unfold Oper.wp
    rw [hei]
    exact ⟨hS, h1⟩
  · unfold wpOp
    have ho : l.toArray[k]? = some oj := by simpa using hj
    simp only [ho, hwj, if_true]
    refine .inl ?_
    unfold Oper.wp
    rw [hej]
    simp only [Oper.upon]
    refine h2.mono ?_
    rintro e w' ⟨u, rfl, h3, h4⟩
    exact ⟨h3, h4⟩

/-- Two operations that make memory: either may come up first. -/
theorem held_two_mm (i j : Nat) {oi oj : Oper} {v u : Value} {fuel : Nat} {listed : Array Bool} {a : Act} {w w1 w2 : World} (hi : l[i]? = some oi) (hj : l[j]? = some oj) (hr : Region.ready .any l.toArray listed = [i, j])
    (hwi : Region.wanted oi (yielded l.toArray a.tmps) = true) (hwj : Region.wanted oj (yielded l.toArray a.tmps) = true) (hei : (execOp a.eval oi).run P w = .ok (.value v) w1) (hej : (execOp a.eval oj).run P w = .ok (.value u) w2) (hS1 : S w1) (hS2 : S w2)
    (h1 : wpAnyH P .any l.toArray Q S fuel (listed.setIfInBounds i true) (a.put oi.dst v) w1)
    (h2 : wpAnyH P .any l.toArray Q S fuel (listed.setIfInBounds j true) (a.put oj.dst u) w2) : wpAnyH P .any l.toArray Q S (fuel + 1) listed a w := by
  refine ⟨(fun h0 => by rw [hr] at h0; cases h0), fun k hk => ?_⟩
  rw [hr] at hk
  have hk' : k = i ∨ k = j := by simpa using hk
  rcases hk' with rfl | rfl
  · unfold wpOp
    have ho : l.toArray[k]? = some oi := by simpa using hi
    simp only [ho, hwi, if_true]
    refine .inl ?_
    unfold Oper.wp
    rw [hei]
    exact ⟨hS1, h1⟩
  · unfold wpOp
    have ho : l.toArray[k]? = some oj := by simpa using hj
    simp only [ho, hwj, if_true]
    refine .inl ?_
    unfold Oper.wp
    rw [hej]
    exact ⟨hS2, h2⟩
/-- A call, and an operation that makes memory: either may come up first. -/
theorem held_two_cm (j i : Nat) {oi oj : Oper} {v : Value} {f : FuncId} {args : Array Value} {fuel : Nat} {listed : Array Bool} {a : Act} {w w1 : World} (hj : l[j]? = some oj) (hi : l[i]? = some oi) (hr : Region.ready .any l.toArray listed = [j, i])
    (hwj : Region.wanted oj (yielded l.toArray a.tmps) = true) (hwi : Region.wanted oi (yielded l.toArray a.tmps) = true) (hej : (execOp a.eval oj).run P w = .ok (.enter f args) w) (hei : (execOp a.eval oi).run P w = .ok (.value v) w1) (hS : S w1)
    (h2 : Calls P f args w fun e w' => ∃ u, e = .returned u ∧ S w' ∧ wpAnyH P .any l.toArray Q S fuel (listed.setIfInBounds j true) (a.put oj.dst u) w')
    (h1 : wpAnyH P .any l.toArray Q S fuel (listed.setIfInBounds i true) (a.put oi.dst v) w1) : wpAnyH P .any l.toArray Q S (fuel + 1) listed a w := by
  refine ⟨(fun h0 => by rw [hr] at h0; cases h0), fun k hk => ?_⟩
  rw [hr] at hk
  have hk' : k = j ∨ k = i := by simpa using hk
  rcases hk' with rfl | rfl
  · unfold wpOp
    have ho : l.toArray[k]? = some oj := by simpa using hj
    simp only [ho, hwj, if_true]
    refine .inl ?_
    unfold Oper.wp
    rw [hej]
    simp only [Oper.upon]
    refine h2.mono ?_
    rintro e w' ⟨u, rfl, h3, h4⟩
    exact ⟨h3, h4⟩
  · unfold wpOp
    have ho : l.toArray[k]? = some oi := by simpa using hi
    simp only [ho, hwi, if_true]
    refine .inl ?_
    unfold Oper.wp
    rw [hei]
    exact ⟨hS, h1⟩

/-- All have come up. -/
theorem held_done {listed : Array Bool} {a : Act} {w : World} {fuel : Nat} (hr : Region.ready .any l.toArray listed = []) (h : Q .normal a w) : wpAnyH P .any l.toArray Q S fuel listed a w := wpAnyH_done hr h fuel

/-- More may be asked of the worlds from here on. -/
theorem held_more {S' : World → Prop} (hS : ∀ w, S' w → S w) : ∀ (fuel : Nat) (listed : Array Bool) (a : Act) (w : World), wpAnyH P .any l.toArray Q S' fuel listed a w → wpAnyH P .any l.toArray Q S fuel listed a w
  | 0, _, _, _, h => h
  | fuel + 1, _, _, _, h => ⟨h.1, fun i hi => wpOp_mono (fun a' w' h' => ⟨hS w' h'.1, held_more hS fuel _ a' w' h'.2⟩) (h.2 i hi)⟩
end
end Go.Proofs.YtjalhlofpoknoaaDoor.S3
