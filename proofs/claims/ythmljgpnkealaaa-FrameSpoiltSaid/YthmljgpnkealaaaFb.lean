/- What a call that feeds a deframer leaves as it was; append, and where its answer lies; contracts of outside, leftOut and hold. -/
import Derived.Test.YthmljgpnkealaaaFa
import Derived.Test.YthmljgpnkealaaaHeldb
namespace Go.Proofs.Ythmljgpnkealaaa
open Go.RowKit

structure Fed (w w' : World) (D : Nat) (hv hv' : Value) : Prop where
  os : w'.os = w.os
  tape : w'.tape = w.tape
  output : w'.output = w.output
  size : w.heap.size ≤ w'.heap.size
  away : ∀ k, k < w.heap.size → k ≠ D → hv.ownBlock ≠ some k → w'.heap[k]? = w.heap[k]? ∧ hv'.ownBlock ≠ some k
theorem Fed.refl (w : World) (D : Nat) (hv : Value) : Fed w w D hv hv := ⟨rfl, rfl, rfl, Nat.le_refl _, fun _ _ _ h => ⟨rfl, h⟩⟩
theorem Fed.trans {a b c : World} {D : Nat} {u v x : Value} (h : Fed a b D u v) (k : Fed b c D v x) : Fed a c D u x :=
  ⟨k.os.trans h.os, k.tape.trans h.tape, k.output.trans h.output, Nat.le_trans h.size k.size, fun i hi hd hn => by
    have h1 := h.away i hi hd hn
    have h2 := k.away i (Nat.lt_of_lt_of_le hi h.size) hd h1.2
    exact ⟨h2.1.trans h1.1, h2.2⟩⟩
theorem fed_below {a b : World} (D : Nat) (u : Value) (h : Below a.heap.size a b) : Fed a b D u u :=
  ⟨h.os, h.tape, h.output, h.size, fun i hi _ hn => ⟨h.block i hi, hn⟩⟩
theorem fed_cell (a : World) (D i : Nat) (u x : Value) : Fed a (a.setCell ⟨D, i, none⟩ x) D u u :=
  ⟨rfl, rfl, rfl, by simp [World.setCell], fun k _ hd hn => ⟨Below.heap_setCell _ _ _ _ hd, hn⟩⟩
/-- The frame's bytes are let go. -/
theorem Fed.drop {a b : World} {D : Nat} {u v : Value} (h : Fed a b D u v) : Fed a b D u (.slice none 0 0) :=
  ⟨h.os, h.tape, h.output, h.size, fun i hi hd hn => ⟨(h.away i hi hd hn).1, by simp [Value.ownBlock]⟩⟩
/-- Below a deframer nothing has turned. -/
theorem Fed.below {a b w : World} {D : Nat} {u v : Value} (h : Fed a b D u v) (hb : Below w.heap.size w a) (hD : w.heap.size ≤ D) (hu : ∀ k, u.ownBlock = some k → w.heap.size ≤ k) : Below w.heap.size w b :=
  ⟨h.os.trans hb.os, h.tape.trans hb.tape, h.output.trans hb.output, Nat.le_trans hb.size h.size, fun k hk => by
    rw [(h.away k (Nat.lt_of_lt_of_le hk hb.size) (by omega) (fun e => by have := hu k e; omega)).1]
    exact hb.block k hk⟩

theorem DefAt.set {w : World} {m : Nat} {wide : Bool} {D : Nat} {hv hv' : Value} {s s' : Fr.DS} (h : DefAt w m wide D hv s) (i : Nat) (u : Value)
    (heq : (dcells m wide (fnV s.ins D) hv s.tal).toArray.setIfInBounds i u = (dcells m wide (fnV s'.ins D) hv' s'.tal).toArray) (ho : w.ownsRow (D + 1) 5 1 hv' s'.held.length (Lib.byteCells s'.held)) :
    DefAt (w.setCell ⟨D, i, none⟩ u) m wide D hv' s' :=
  ⟨by rw [heap_setCell_same _ _ _ _ _ _ h.blk, heq], ownsRow_setCell_below ho (by simp) u⟩
theorem DefAt.ne {w : World} {m : Nat} {wide : Bool} {D : Nat} {hv : Value} {s : Fr.DS} (h : DefAt w m wide D hv s) : hv.ownBlock ≠ some D := fun e => by have := (h.own.lt D e).1; omega

/-- Where append's answer lies: where it was, or in new memory. -/
theorem append_place {P : Program} (w : World) (base : Nat) (t ty e : TypeId) (i : TypeInfo) (z : Value) (size bytes : Nat) (ht : P.underlying t = some (.slice e)) (hi : P.info? e = some i) (hz : i.zero = some z)
    (hsize : i.size = size) (hby : i.bytes = bytes) (hzs : z.cells.size = size) (hsz : 0 < size)
    (v : Value) (n : Nat) (xs : List Value) (hown : w.ownsRow base e size v n xs)
    (a : Addr) (m c : Nat) (news : List Value) (hl : news.length = m * size) (hnews : ∀ j u, news[j]? = some u → w.cell? (a.add j) = some u) (h1 : ∀ u ∈ news, u.oneCell' = true)
    (h63 : n + m ≤ maxLen) (hbytes : (n + m) * bytes ≤ 140737488355328) (v' : Value) (w' : World)
    (hr : (Builtin.append_ #[t, t] ty #[v, .slice (some a) m c]).run P w = .ok v' w') : v'.ownBlock = v.ownBlock ∨ ∀ k, v'.ownBlock = some k → w.heap.size ≤ k := by
  rcases hown.2 with ⟨rfl, rfl⟩ | ⟨g, cap, cur, rfl, hbg, hg, hnc, hcm, hcs, htake⟩
  · have hx : xs = [] := List.eq_nil_of_length_eq_zero (by simpa using hown.1)
    subst hx
    obtain ⟨v2, w2, hr2, ho2, _, _⟩ := run_append_own (P := P) w w.heap.size t ty e i z size bytes ht hi hz hsize hby hzs hsz (.slice none 0 0) 0 [] (World.ownsRow_nil _ _ _ _) a m c news hl hnews h1 h63 hbytes (Nat.le_refl _)
    rw [hr] at hr2
    simp only [Result.ok.injEq] at hr2
    obtain ⟨rfl, rfl⟩ := hr2
    exact .inr fun k hk => (ho2.lt k hk).1
  · subst hsize
    subst hby
    by_cases hroom : n + m ≤ cap
    · have hfit : n * i.size + news.length ≤ cur.size := by rw [hl, hcs, ← Nat.add_mul]; exact Nat.mul_le_mul_right _ hroom
      have hr2 := run_append_room (P := P) w t ty e i ht hi g n cap cur hg a m c news hl hnews h1 hroom hfit
      rw [hr] at hr2
      simp only [Result.ok.injEq] at hr2
      obtain ⟨rfl, rfl⟩ := hr2
      exact .inl rfl
    · have holds : ∀ j u, xs[j]? = some u → w.cell? ((⟨g, 0, none⟩ : Addr).add j) = some u := hown.cells (g := g) rfl
      have hr2 := run_append_grow (P := P) w t ty e i z ht hi hz ⟨g, 0, none⟩ n cap xs hown.1 holds a m c news hl hnews (by omega) (by unfold maxLen at h63; omega) (growslice_fits (by omega) hbytes)
      rw [hr] at hr2
      simp only [Result.ok.injEq] at hr2
      obtain ⟨rfl, rfl⟩ := hr2
      exact .inr fun k hk => by simp [Value.ownBlock] at hk; omega

theorem wpList_append_at {P : Program} {w : World} {ops : Array Oper} {rest : List Oper} {o : Oper} {a : Act} {Q : Exit → Act → World → Prop} (hgd : o.guard = none) (s x : Operand) (t : TypeId)
    (ho : o.op = .call { callee := .builtin .append, args := #[s, x], argTypes := #[t, t] })
    (base : Nat) (e : TypeId) (i : TypeInfo) (z : Value) (size bytes : Nat) (ht : P.underlying t = some (.slice e)) (hi : P.info? e = some i) (hz : i.zero = some z)
    (hsize : i.size = size) (hby : i.bytes = bytes) (hzs : z.cells.size = size) (hsz : 0 < size)
    (v : Value) (n : Nat) (xs : List Value) (hs : a.eval s = v) (hown : w.ownsRow base e size v n xs)
    (ad : Addr) (m c : Nat) (news : List Value) (hx : a.eval x = .slice (some ad) m c) (hl : news.length = m * size) (hnews : ∀ j u, news[j]? = some u → w.cell? (ad.add j) = some u) (h1 : ∀ u ∈ news, u.oneCell' = true)
    (h63 : n + m ≤ maxLen) (hbytes : (n + m) * bytes ≤ 140737488355328) (hbase : base ≤ w.heap.size)
    (h : ∀ v' w', w'.ownsRow base e size v' (n + m) (xs ++ news) → w.grownBy w' v.ownBlock → (v'.ownBlock = v.ownBlock ∨ ∀ k, v'.ownBlock = some k → w.heap.size ≤ k) → wpList P ops Q rest (a.put o.dst v') w') : wpList P ops Q (o :: rest) a w := by
  refine wpList_plain hgd fun K hK => ?_
  obtain ⟨v', w', hr, h2, h3, _⟩ := run_append_own (P := P) w base t o.type e i z size bytes ht hi hz hsize hby hzs hsz v n xs hown ad m c news hl hnews h1 h63 hbytes hbase
  have hp := append_place (P := P) w base t o.type e i z size bytes ht hi hz hsize hby hzs hsz v n xs hown ad m c news hl hnews h1 h63 hbytes v' w' hr
  unfold Oper.wp execOp
  simp only [ho, resolve, invoke, builtin, Sem.run_bind, Sem.run_pure, Result.andThen_ok, List.map_toArray, List.map_cons, List.map_nil, hs, hx, hr]
  exact hK _ _ (h v' w' h2 h3 hp)
end Go.Proofs.Ythmljgpnkealaaa
