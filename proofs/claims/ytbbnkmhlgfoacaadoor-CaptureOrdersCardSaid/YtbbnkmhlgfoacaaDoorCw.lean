/- A copy of items, whose cells are written. -/
import Derived.Test.YtbbnkmhlgfoacaaDoorCu
namespace Go.Proofs.YtbbnkmhlgfoacaaDoor
open Go.RowKit
open S10

theorem ICells.left {xs ys : List Value} {j : Nat} {r : Cp.It} {d : Value} (h : ICells xs j r d) : ICells (xs ++ ys) j r d := by
 have l := fun {i : Nat} {u : Value} (e : xs[i]? = some u) => (List.getElem?_eq_some_iff.1 e).1
 exact ⟨by rw [List.getElem?_append_left (l h.dir)]; exact h.dir, by rw [List.getElem?_append_left (l h.proto)]; exact h.proto, by rw [List.getElem?_append_left (l h.data)]; exact h.data⟩
theorem ICells.right {xs ys : List Value} {j n : Nat} {r : Cp.It} {d : Value} (hn : xs.length = n * 3) (h : ICells ys j r d) : ICells (xs ++ ys) (n + j) r d := by
 refine ⟨?_, ?_, ?_⟩
 ·
  rw [List.getElem?_append_right (by omega), hn, show (n + j) * 3 - n * 3 = j * 3 by omega]; exact h.dir
 ·
  rw [List.getElem?_append_right (by omega), hn, show (n + j) * 3 + 1 - n * 3 = j * 3 + 1 by omega]; exact h.proto
 ·
  rw [List.getElem?_append_right (by omega), hn, show (n + j) * 3 + 2 - n * 3 = j * 3 + 2 by omega]; exact h.data
/-- The cells of notes, in a row. -/
structure Cells (w : World) (b off : Nat) (M : List Cp.It) (k : Nat) (ys : List Value) : Prop where
 len : ys.length = k * 3
 at' : ∀ j (h : j < M.length), j < k → ∃ p c, ICells ys j M[j] (.slice p M[j].data.length c) ∧ RowAt w p c M[j].data
 cell : ∀ i u, ys[i]? = some u → w.cell? ⟨b, off + i, none⟩ = some u
 one : ∀ u ∈ ys, u.oneCell' = true
theorem cells_all {w : World} {b off : Nat} {M : List Cp.It} (h : ∀ j (h : j < M.length), ∃ p c, ItAt w b (off + j * 3) M[j] p c) : ∀ k, k ≤ M.length → ∃ ys, Cells w b off M k ys
 | 0, _ => ⟨[], rfl, (fun j _ hk => by omega), (fun i u e => by simp at e), (fun u e => by simp at e)⟩
 | k + 1, hk => by
  obtain ⟨ys, hy⟩ := cells_all h k (by omega)
  obtain ⟨p, c, hn⟩ := h k (by omega)
  have hl := hy.len
  refine ⟨ys ++ icells M[k] (.slice p M[k].data.length c), by rw [List.length_append, hl]; simp [icells]; omega, fun j hj hjk => ?_, fun i u e => ?_, fun u hu => ?_⟩
  ·
   by_cases h1 : j < k
   ·
    obtain ⟨p', c', q1, q2⟩ := hy.at' j hj h1
    exact ⟨p', c', q1.left, q2⟩
   ·
    obtain rfl : j = k := by omega
    refine ⟨p, c, ?_, hn.row⟩
    have : ICells (icells M[j] (.slice p M[j].data.length c)) 0 M[j] (.slice p M[j].data.length c) := ⟨rfl, rfl, rfl⟩
    exact this.right hl
  ·
   by_cases h1 : i < ys.length
   ·
    rw [List.getElem?_append_left h1] at e
    exact hy.cell i u e
   ·
    rw [List.getElem?_append_right (by omega)] at e
    have := hn.range (i - ys.length) u e
    rw [hl] at this h1
    rw [show off + i = off + k * 3 + (i - k * 3) by omega]
    exact this
  ·
   simp only [List.mem_append] at hu
   rcases hu with hu | hu
   ·
    exact hy.one u hu
   ·
    simp only [icells, List.mem_cons, List.not_mem_nil, or_false] at hu
    rcases hu with rfl | rfl | rfl <;> rfl
/-- A list of notes that was made since W0; what their Data point to was there. -/
structure Copy (W0 : World) (B : Nat) (W : World) (v : Value) (L : List Cp.It) : Prop where
 list : ∃ xs : List Value, W.ownsRow B 48 3 v L.length xs ∧ ∀ j (h : j < L.length), ∃ p c, ICells xs j L[j] (.slice p L[j].data.length c) ∧ RowAt W0 p c L[j].data
 bel : Below W0.heap.size W0 W
 low : W0.heap.size ≤ B
theorem Copy.at {W0 W : World} {B : Nat} {v : Value} {L : List Cp.It} (h : Copy W0 B W v L) : ∃ a c, v = .slice a L.length c ∧ ItsAt W a L := by
 obtain ⟨xs, ho, he⟩ := h.list
 rcases ho.2 with ⟨rfl, h0⟩ | ⟨g, cap, cur, rfl, hb, hg, _⟩
 ·
  exact ⟨none, 0, by rw [h0], .inl (List.eq_nil_of_length_eq_zero h0)⟩
 ·
  refine ⟨_, cap, rfl, .inr ⟨g, 0, rfl, lt_of_block hg, fun j hj => ?_⟩⟩
  obtain ⟨p, c, h1, h2⟩ := he j hj
  have e := ho.cells (g := g) rfl
  simp only [Go.WideShapes.add_plain] at e
  exact ⟨p, c, e _ _ h1.dir, by rw [Nat.add_assoc]; exact e _ _ h1.proto, by rw [Nat.add_assoc]; exact e _ _ h1.data, h2.next h.bel⟩
theorem wpList_append_copy {W0 w : World} {B : Nat} {ops : Array Oper} {rest : List Oper} {o : Oper} {a : Act} {Q : Exit → Act → World → Prop} (hgd : o.guard = none) (s x : Operand)
  (ho : o.op = .call { callee := .builtin .append, args := #[s, x], argTypes := #[22, 22] })
  (v : Value) (L M : List Cp.It) (q : Option Addr) (m c : Nat) (hs : a.eval s = v) (hx : a.eval x = .slice q m c) (hL : Copy W0 B w v L) (hBw : B ≤ w.heap.size) (hm : M.length = m) (hM : ItsAt W0 q M) (hnil : q = none → c = 0) (hlen : L.length + m ≤ 1000000)
  (h : ∀ v' w', Copy W0 B w' v' (L ++ M) → Below B w w' → wpList Tryd.prog ops Q rest (a.put o.dst v') w') : wpList Tryd.prog ops Q (o :: rest) a w := by
 obtain ⟨i0, hi, hz0, hz1, hz2⟩ := info_parts infoItemZ
 subst hm
 have hL' := hL
 obtain ⟨xs, hown, he⟩ := hL.list
 have hxl : xs.length = L.length * 3 := hown.1
 cases q with
 | none =>
  have hM0 : M = [] := by
   rcases hM with h0 | ⟨b, off, e, _⟩
   ·
    exact h0
   ·
    cases e
  subst hM0
  obtain rfl := hnil rfl
  have hrun := run_append_owned_none (P := Tryd.prog) (w := w) B 22 o.type 48 i0 3 Tryd.underlying22 hi v L.length xs hown
  refine wpList_plain hgd fun _ hK => ?_
  unfold Oper.wp
  simp [execOp, ho, resolve, invoke, builtin, hs, hx, hrun, Result.andThen]
  exact hK _ _ (h v w (by rw [List.append_nil]; exact hL') (Below.refl _ _))
 | some ad =>
  have hsrc : ∃ ys : List Value, ys.length = M.length * 3 ∧ (∀ j (h : j < M.length), ∃ p c, ICells ys j M[j] (.slice p M[j].data.length c) ∧ RowAt W0 p c M[j].data) ∧ (∀ i u, ys[i]? = some u → W0.cell? (ad.add i) = some u) ∧ (∀ u ∈ ys, u.oneCell' = true) := by
   rcases hM with rfl | ⟨b, off, e, hbl, hn⟩
   ·
    exact ⟨[], rfl, (fun j hj => by simp at hj), (fun i u e => by simp at e), (fun u e => by simp at e)⟩
   ·
    cases e
    obtain ⟨ys, hy⟩ := cells_all hn M.length (Nat.le_refl _)
    exact ⟨ys, hy.len, fun j hj => hy.at' j hj hj, fun i u e => by rw [Go.WideShapes.add_plain]; exact hy.cell i u e, hy.one⟩
  obtain ⟨ys, hy1, hy2, hy3, hy4⟩ := hsrc
  refine wpList_append_own w hgd s x 22 ho B 48 i0 _ 3 40 Tryd.underlying22 hi hz0 hz1 hz2 rfl (by decide) v L.length xs hs hown ad M.length c ys hx hy1 (fun j u hu => ?_) hy4 (by unfold maxLen; omega) (by omega) hBw ?_
  ·
   have h1 := hy3 j u hu
   rw [hL.bel.cell (p := ad.add j) (World.block_lt_of_cell? W0 _ h1)]
   exact h1
  ·
   intro v' w' o2 g2 _
   refine h v' w' ⟨⟨xs ++ ys, by rw [List.length_append]; exact o2, fun j hj => ?_⟩, Below.grown hL.bel g2 hL.bel.size (fun k hk => Nat.le_trans hL.low (hown.lt k hk).1), hL.low⟩ (Below.grown (Below.refl _ _) g2 hBw (fun k hk => (hown.lt k hk).1))
   by_cases hjl : j < L.length
   ·
    obtain ⟨p, c, q1, q2⟩ := he j hjl
    rw [List.getElem_append_left hjl]
    exact ⟨p, c, q1.left, q2⟩
   ·
    have hj2 : j - L.length < M.length := by rw [List.length_append] at hj; omega
    obtain ⟨p, c, q1, q2⟩ := hy2 (j - L.length) hj2
    rw [List.getElem_append_right (by omega)]
    have := q1.right hxl
    rw [show L.length + (j - L.length) = j by omega] at this
    exact ⟨p, c, this, q2⟩
theorem copy_none {W0 : World} (w : World) (b : Below W0.heap.size W0 w) : Copy W0 w.heap.size (w.alloc (.cells #[] 48)) (.slice (some ⟨w.heap.size, 0, none⟩) 0 0) [] :=
 ⟨⟨[], World.ownsRow_made w #[] 0 (Nat.le_refl _) (Nat.zero_le _) rfl, (fun j hj => by simp at hj)⟩, Below.chain b (below_one _ _), b.size⟩
theorem Copy.stays {W0 w w' : World} {B : Nat} {v : Value} {L : List Cp.It} (h : Copy W0 B w v L) (hb : Below W0.heap.size W0 w') (hk : ∀ k, k < w.heap.size → v.ownBlock = some k → w'.heap[k]? = w.heap[k]?) : Copy W0 B w' v L := by
 obtain ⟨xs, ho, he⟩ := h.list
 refine ⟨⟨xs, ⟨ho.1, ?_⟩, he⟩, hb, h.low⟩
 rcases ho.2 with h2 | ⟨q, cap, cur, e, hB, hq, hr⟩
 ·
  exact .inl h2
 ·
  exact .inr ⟨q, cap, cur, e, hB, by rw [hk q (lt_of_block hq) (by rw [e]; rfl)]; exact hq, hr⟩
theorem Copy.next {W0 w w' : World} {B : Nat} {v : Value} {L : List Cp.It} (h : Copy W0 B w v L) (hb : Below w.heap.size w w') : Copy W0 B w' v L := h.stays (Below.chain h.bel hb) (fun k hk _ => hb.block k hk)
theorem Copy.place {W0 w : World} {B g n c : Nat} {L : List Cp.It} (h : Copy W0 B w (.slice (some ⟨g, 0, none⟩) n c) L) (hn : L.length = n) (j : Nat) (hj : j < n * 3) : (∃ u, w.cell? ⟨g, j, none⟩ = some u) ∧ w.frozen? ⟨g, j, none⟩ = false := by
 obtain ⟨xs, ho, _⟩ := h.list
 rw [hn] at ho
 refine ⟨?_, ho.frozenAt j⟩
 rw [ho.cellAt j hj]
 exact ⟨_, List.getElem?_eq_getElem (by rw [ho.1]; exact hj)⟩
theorem Copy.block {W0 w : World} {B n c : Nat} {a : Option Addr} {L : List Cp.It} (h : Copy W0 B w (.slice a n c) L) (hn : 0 < n) : ∃ g, a = some ⟨g, 0, none⟩ := by
 obtain ⟨xs, ho, _⟩ := h.list
 rcases ho.2 with ⟨e, h0⟩ | ⟨g, cap, cur, e, _⟩
 ·
  simp only [Value.slice.injEq] at e; omega
 ·
  simp only [Value.slice.injEq] at e; exact ⟨g, e.1⟩
theorem Copy.lt {W0 w : World} {B : Nat} {v : Value} {L : List Cp.It} (h : Copy W0 B w v L) (k : Nat) (hk : v.ownBlock = some k) : B ≤ k ∧ k < w.heap.size := by
 obtain ⟨xs, ho, _⟩ := h.list
 exact ho.lt k hk
/-- A list of records and one of items lie apart. -/
theorem apart {W0 w : World} {B B2 g g2 n c m d : Nat} {E : Nat → Prop} {L : List Cp.It} {R : List S9.Pc.Rcd} (h : Copy W0 B w (.slice (some ⟨g2, 0, none⟩) n c) L) (k : Rls w B2 E (.slice (some ⟨g, 0, none⟩) m d) R) : g ≠ g2 := by
 intro e
 subst e
 obtain ⟨xs, ho, _⟩ := h.list
 obtain ⟨ys, hp, _⟩ := k
 rcases ho.2 with ⟨e, _⟩ | ⟨q, cap, cur, e, _, hq, _⟩
 ·
  cases e
 ·
  rcases hp.2 with ⟨e', _⟩ | ⟨q', cap', cur', e', _, hq', _⟩
  ·
   cases e'
  ·
   simp only [Value.slice.injEq, Option.some.injEq, Addr.mk.injEq] at e e'
   rw [← e.1.1] at hq
   rw [← e'.1.1, hq] at hq'
   simp at hq'
/-- The direction of one is written. -/
theorem Copy.dir {W0 w : World} {B g n c : Nat} {L : List Cp.It} (h : Copy W0 B w (.slice (some ⟨g, 0, none⟩) n c) L) (hn : L.length = n) (k : Nat) (hk : k < L.length) (d : Int) :
  Copy W0 B (w.setCell ⟨g, k * 3, none⟩ (.int .i64 d)) (.slice (some ⟨g, 0, none⟩) n c) (L.set k { L[k] with dir := d }) := by
 obtain ⟨xs, ho, he⟩ := h.list
 rw [hn] at ho
 have hst := ho.stored (k * 3) (.int .i64 d)
 have hl : xs.length = n * 3 := ho.1
 refine ⟨⟨xs.set (k * 3) (.int .i64 d), by rw [List.length_set, hn]; exact hst.1, fun j hj => ?_⟩, Below.grown h.bel hst.2 h.bel.size (fun i hi => Nat.le_trans h.low (ho.lt i hi).1), h.low⟩
 rw [List.length_set] at hj
 obtain ⟨p, cc, h1, h2⟩ := he j hj
 by_cases hjk : k = j
 ·
  subst hjk
  rw [List.getElem_set_self]
  exact ⟨p, cc, ⟨List.getElem?_set_self (by omega), by rw [List.getElem?_set_ne (by omega)]; exact h1.proto, by rw [List.getElem?_set_ne (by omega)]; exact h1.data⟩, h2⟩
 ·
  rw [List.getElem_set_ne hjk]
  exact ⟨p, cc, ⟨by rw [List.getElem?_set_ne (by omega)]; exact h1.dir, by rw [List.getElem?_set_ne (by omega)]; exact h1.proto, by rw [List.getElem?_set_ne (by omega)]; exact h1.data⟩, h2⟩
end Go.Proofs.YtbbnkmhlgfoacaaDoor
