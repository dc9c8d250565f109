/- Items in memory: an item's cells, a config's, lists of items; contracts of capture's small functions. -/
import Derived.Test.YtbbnkmhlgfoacaaDoorPlainc
namespace Go.Proofs.YtbbnkmhlgfoacaaDoor
open Go.RowKit
open S10

theorem RowAt.to7 {w : World} {a : Option Addr} {c : Nat} {xs : List UInt8} (h : S10.RowAt w a c xs) : S7.RowAt w a c xs := ⟨h.le, h.max, h.nil, h.cell⟩
theorem RowAt.to8 {w : World} {a : Option Addr} {c : Nat} {xs : List UInt8} (h : S10.RowAt w a c xs) : S8.RowAt w a c xs := ⟨h.le, h.max, h.nil, h.cell⟩
theorem RowAt.to9 {w : World} {a : Option Addr} {c : Nat} {xs : List UInt8} (h : S10.RowAt w a c xs) : S9.RowAt w a c xs := ⟨h.le, h.max, h.nil, h.cell⟩
theorem RowAt.of7 {w : World} {a : Option Addr} {c : Nat} {xs : List UInt8} (h : S7.RowAt w a c xs) : S10.RowAt w a c xs := ⟨h.le, h.max, h.nil, h.cell⟩
theorem RowAt.of9 {w : World} {a : Option Addr} {c : Nat} {xs : List UInt8} (h : S9.RowAt w a c xs) : S10.RowAt w a c xs := ⟨h.le, h.max, h.nil, h.cell⟩

/-- A row stays where another one is written; it lies in memory. -/
theorem row_grown {w w' : World} {a : Option Addr} {c : Nat} {xs : List UInt8} {row : Option Nat} (h : RowAt w a c xs) (hg : w.grownBy w' row) (hr : ∀ ad, a = some ad → row ≠ some ad.block) : RowAt w' a c xs :=
  RowAt.of7 (S7.RowAt.kept (RowAt.to7 h) hg hr)
theorem row_stays {w w' : World} {a : Option Addr} {c : Nat} {xs : List UInt8} (h : RowAt w a c xs) (hk : ∀ ad, a = some ad → ad.block < w.heap.size → w'.heap[ad.block]? = w.heap[ad.block]?) : RowAt w' a c xs :=
  ⟨h.le, h.max, h.nil, fun ad e j u hu => by
    have h1 := h.cell ad e j u hu
    have hb : (ad.add j).block = ad.block := by unfold Addr.add; split <;> rfl
    have hlt := World.block_lt_of_cell? w _ h1
    rw [World.cell?_of_block (w := w) (by rw [hb] at hlt ⊢; exact hk ad e hlt)]; exact h1⟩

/-- An item's cells; a config's. -/
def icells (x : Cp.It) (v : Value) : List Value := [.int .i64 x.dir, .int .i64 x.proto, v]
structure Xc where
  n0 : Int
  n1 : Int
  n2 : Int
  n3 : Int
  s1 : ByteArray
  s2 : ByteArray
  c : Cp.Cf
def ccells (x : Xc) : List Value := [.int .i64 x.n0, .int .i64 x.n1, .int .i64 x.n2, .int .i64 x.n3, .string x.s1, .string x.s2, .int .i64 x.c.dir, .int .u32 (x.c.accm : Int), .bool x.c.wide]
theorem infoItem : (Tryd.prog.info? 48).map (·.size) = some 3 := by kernel_rfl
theorem infoConf : (Tryd.prog.info? 25).map (·.size) = some 9 := by kernel_rfl
theorem infoSpot : (Tryd.prog.info? 33).map (·.size) = some 2 := by kernel_rfl
theorem infoItemN (x : Cp.It) (v : Value) : (Tryd.prog.info? 48).map (·.size) = some (icells x v).length := infoItem
theorem icells_one (x : Cp.It) (p : Option Addr) (n c : Nat) : (icells x (.slice p n c)).toArray.all (·.oneCell') = true := by rw [List.all_toArray]; simp [icells, Value.oneCell']
theorem wpList_store_item {w : World} {ops : Array Oper} {rest : List Oper} {o : Oper} {a : Act} {Q : Exit → Act → World → Prop} (hgd : o.guard = none) (x y : Operand) (ho : o.op = .store 48 x y) (R : Nat) (r : Cp.It) (p : Option Addr) (n c : Nat) (cur : Array Value)
    (hx : a.eval x = .pointer (some ⟨R, 0, none⟩)) (hy : a.eval y = .agg (icells r (.slice p n c)).toArray) (hR : w.heap[R]? = some (.cells cur 48 (0, 0))) (hcur : cur.size = 3)
    (h : wpList Tryd.prog ops Q rest (a.put o.dst undef) (w.setRow R (icells r (.slice p n c)).toArray)) : wpList Tryd.prog ops Q (o :: rest) a w :=
  wpList_store_row hgd 48 x y ho R _ hx hy 48 cur hR infoItem hcur (icells_one r p n c) h

/-- The cells of an item, in a row of them. -/
structure ICells (xs : List Value) (j : Nat) (r : Cp.It) (d : Value) : Prop where
  dir : xs[j * 3]? = some (.int .i64 r.dir)
  proto : xs[j * 3 + 1]? = some (.int .i64 r.proto)
  data : xs[j * 3 + 2]? = some d
/-- A list of items that was made from B on; its Data lies where E says. -/
def Its (w : World) (B : Nat) (E : Nat → Prop) (v : Value) (L : List Cp.It) : Prop :=
  ∃ xs : List Value, w.ownsRow B 48 3 v L.length xs ∧ ∀ j (h : j < L.length), ∃ p c, ICells xs j L[j] (.slice p L[j].data.length c) ∧ RowAt w p c L[j].data ∧ ∀ ad, p = some ad → ad.block < w.heap.size ∧ v.ownBlock ≠ some ad.block ∧ E ad.block
theorem its_none (w : World) (B : Nat) (E : Nat → Prop) : Its w B E (.slice none 0 0) [] := ⟨[], World.ownsRow_nil _ _ _ _, (fun _ h => by simp at h)⟩
theorem Its.mono {w : World} {B : Nat} {E E' : Nat → Prop} {v : Value} {L : List Cp.It} (h : Its w B E v L) (he : ∀ k, k < w.heap.size → E k → E' k) : Its w B E' v L := by
  obtain ⟨xs, ho, hx⟩ := h
  refine ⟨xs, ho, fun j hj => ?_⟩
  obtain ⟨p, c, h1, h2, h3⟩ := hx j hj
  exact ⟨p, c, h1, h2, fun ad e => ⟨(h3 ad e).1, (h3 ad e).2.1, he _ (h3 ad e).1 (h3 ad e).2.2⟩⟩
theorem Its.stays {w w' : World} {B : Nat} {E : Nat → Prop} {v : Value} {L : List Cp.It} (h : Its w B E v L) (hs : w.heap.size ≤ w'.heap.size) (hk : ∀ k, k < w.heap.size → (v.ownBlock = some k ∨ E k) → w'.heap[k]? = w.heap[k]?) : Its w' B E v L := by
  obtain ⟨xs, ho, hx⟩ := h
  refine ⟨xs, ?_, fun j hj => ?_⟩
  · refine ⟨ho.1, ?_⟩
    rcases ho.2 with h2 | ⟨q, cap, cur, e, hB, hq, hr⟩
    · exact .inl h2
    · exact .inr ⟨q, cap, cur, e, hB, by rw [hk q (lt_of_block hq) (.inl (by rw [e]; rfl))]; exact hq, hr⟩
  · obtain ⟨p, c, h1, h2, h3⟩ := hx j hj
    exact ⟨p, c, h1, row_stays h2 (fun ad e hl => hk _ hl (.inr (h3 ad e).2.2)), fun ad e => ⟨Nat.lt_of_lt_of_le (h3 ad e).1 hs, (h3 ad e).2⟩⟩
theorem Its.next {w w' : World} {B : Nat} {E : Nat → Prop} {v : Value} {L : List Cp.It} (h : Its w B E v L) (hb : Below w.heap.size w w') : Its w' B E v L := h.stays hb.size (fun k hk _ => hb.block k hk)
theorem Its.lower {w : World} {B B' : Nat} {E : Nat → Prop} {v : Value} {L : List Cp.It} (h : Its w B E v L) (hb : B' ≤ B) : Its w B' E v L := by
  obtain ⟨xs, ho, hx⟩ := h
  exact ⟨xs, ownsRow_lower ho hb, hx⟩
theorem its_slice {w : World} {B : Nat} {E : Nat → Prop} {v : Value} {L : List Cp.It} (h : Its w B E v L) : ∃ a c, v = .slice a L.length c := by
  obtain ⟨xs, ho, _⟩ := h
  exact own_slice ho
theorem Its.lt {w : World} {B : Nat} {E : Nat → Prop} {v : Value} {L : List Cp.It} (h : Its w B E v L) (k : Nat) (hk : v.ownBlock = some k) : B ≤ k ∧ k < w.heap.size := by
  obtain ⟨xs, ho, _⟩ := h
  exact ho.lt k hk
theorem Its.ty {w : World} {B : Nat} {E : Nat → Prop} {v : Value} {L : List Cp.It} (h : Its w B E v L) (k : Nat) (hk : v.ownBlock = some k) : ∃ cs, w.heap[k]? = some (.cells cs 48 (0, 0)) := by
  obtain ⟨xs, ho, _⟩ := h
  rcases ho.2 with ⟨rfl, _⟩ | ⟨q, cap, cur, rfl, _, hq, _⟩
  · simp [Value.ownBlock] at hk
  · simp [Value.ownBlock] at hk
    subst hk
    exact ⟨cur, hq⟩

/-- A list of one's own grew: no other block is written, and it lies where it lay, or in new memory. -/
structure Grew (w w' : World) (v v' : Value) : Prop where
  by' : w.grownBy w' v.ownBlock
  own : v'.ownBlock = v.ownBlock ∨ ∀ k, v'.ownBlock = some k → w.heap.size ≤ k
theorem Grew.refl (w : World) (v : Value) : Grew w w v v := ⟨⟨rfl, rfl, rfl, Nat.le_refl _, fun _ _ _ => rfl⟩, .inl rfl⟩
theorem Grew.away {w w' : World} {v v' : Value} (h : Grew w w' v v') (k : Nat) (hk : k < w.heap.size) (hv : v.ownBlock ≠ some k) : w'.heap[k]? = w.heap[k]? ∧ v'.ownBlock ≠ some k := by
  refine ⟨h.by'.block k hk (fun e => hv e.symm), ?_⟩
  rcases h.own with e | e
  · rw [e]; exact hv
  · intro e2; have := e k e2; omega
theorem Grew.trans {a b c : World} {u v x : Value} (h : Grew a b u v) (k : Grew b c v x) : Grew a c u x := by
  refine ⟨⟨k.by'.os.trans h.by'.os, k.by'.tape.trans h.by'.tape, k.by'.output.trans h.by'.output, Nat.le_trans h.by'.size k.by'.size, fun i hi hn => ?_⟩, ?_⟩
  · have h1 := h.away i hi (fun e => hn e.symm)
    rw [(k.away i (Nat.lt_of_lt_of_le hi h.by'.size) h1.2).1, h1.1]
  · have hs := h.by'.size
    rcases k.own with e | e
    · rw [e]; exact h.own
    · exact .inr (fun i hi => Nat.le_trans hs (e i hi))
theorem Grew.after {w w1 w' : World} {v v' : Value} (b : Below w.heap.size w w1) (h : Grew w1 w' v v') : Grew w w' v v' := by
  have hs := b.size
  refine ⟨⟨h.by'.os.trans b.os, h.by'.tape.trans b.tape, h.by'.output.trans b.output, Nat.le_trans hs h.by'.size, fun i hi hn => ?_⟩, ?_⟩
  · rw [h.by'.block i (by omega) hn, b.block i hi]
  · rcases h.own with e | e
    · exact .inl e
    · exact .inr (fun i hi => Nat.le_trans hs (e i hi))
theorem Grew.below {w w' w0 : World} {v v' : Value} (h : Grew w w' v v') (b : Below w0.heap.size w0 w) (hv : ∀ k, v.ownBlock = some k → w0.heap.size ≤ k) : Below w0.heap.size w0 w' := Below.grown b h.by' b.size hv

theorem infoItemZ : (Tryd.prog.info? 48).map (fun i => (i.zero, i.size, i.bytes)) = some (some (.agg #[.int .i64 0, .int .i64 0, .slice none 0 0]), 3, 40) := by kernel_rfl
theorem wpList_append_its {w : World} {ops : Array Oper} {rest : List Oper} {o : Oper} {a : Act} {Q : Exit → Act → World → Prop} (hgd : o.guard = none) (s x : Operand)
    (ho : o.op = .call { callee := .builtin .append, args := #[s, x], argTypes := #[22, 22] })
    (B : Nat) (E : Nat → Prop) (v : Value) (L : List Cp.It) (r : Cp.It) (p : Option Addr) (c : Nat) (g : Nat) (hs : a.eval s = v) (hx : a.eval x = .slice (some ⟨g, 0, none⟩) 1 1) (hL : Its w B E v L)
    (hd : RowAt w p c r.data) (hp : ∀ ad, p = some ad → ad.block < w.heap.size ∧ v.ownBlock ≠ some ad.block ∧ E ad.block) (hg : w.heap[g]? = some (.cells (icells r (.slice p r.data.length c)).toArray 48 (0, 0))) (hB : B ≤ w.heap.size) (hlen : L.length ≤ 1000000)
    (h : ∀ v' w', Its w' B E v' (L ++ [r]) → Grew w w' v v' → wpList Tryd.prog ops Q rest (a.put o.dst v') w') : wpList Tryd.prog ops Q (o :: rest) a w := by
  obtain ⟨i0, hi, hz0, hz1, hz2⟩ := info_parts infoItemZ
  obtain ⟨xs, hown, he⟩ := hL
  refine S7.wpList_append_at hgd s x 22 ho B 48 i0 _ 3 40 Tryd.underlying22 hi hz0 hz1 hz2 rfl (by decide) v L.length xs hs hown ⟨g, 0, none⟩ 1 1 (icells r (.slice p r.data.length c)) hx rfl (fun j u hu => ?_) (fun u hu => ?_) (by unfold maxLen; omega) (by omega) hB ?_
  · rw [Go.WideShapes.add_plain, cell_of_row _ _ _ _ _ _ hg]; simpa using hu
  · simp only [icells, List.mem_cons, List.not_mem_nil, or_false] at hu
    rcases hu with rfl | rfl | rfl <;> rfl
  · intro v' w' o2 g2 p2
    have hl : xs.length = L.length * 3 := hown.1
    have key : ∀ (p : Option Addr) (c : Nat) (b : List UInt8), RowAt w p c b → (∀ ad, p = some ad → ad.block < w.heap.size ∧ v.ownBlock ≠ some ad.block ∧ E ad.block) →
        RowAt w' p c b ∧ ∀ ad, p = some ad → ad.block < w'.heap.size ∧ v'.ownBlock ≠ some ad.block ∧ E ad.block := by
      intro p c b hr h3
      refine ⟨row_grown hr g2 (fun ad e => (h3 ad e).2.1), fun ad e => ⟨Nat.lt_of_lt_of_le (h3 ad e).1 g2.size, ?_, (h3 ad e).2.2⟩⟩
      rcases p2 with p2 | p2
      · rw [p2]; exact (h3 ad e).2.1
      · intro e2; have := p2 _ e2; have := (h3 ad e).1; omega
    refine h v' w' ⟨xs ++ icells r (.slice p r.data.length c), by rw [List.length_append]; exact o2, fun j hj => ?_⟩ ⟨g2, p2⟩
    by_cases hjl : j < L.length
    · obtain ⟨p', c', h1, h2, h3⟩ := he j hjl
      have hkk := key p' c' _ h2 h3
      rw [List.getElem_append_left hjl]
      refine ⟨p', c', ⟨?_, ?_, ?_⟩, hkk.1, hkk.2⟩
      · rw [List.getElem?_append_left (by omega)]; exact h1.dir
      · rw [List.getElem?_append_left (by omega)]; exact h1.proto
      · rw [List.getElem?_append_left (by omega)]; exact h1.data
    · have hj2 : j = L.length := by simp at hj; omega
      subst hj2
      have hkk := key p c _ hd hp
      rw [List.getElem_append_right (Nat.le_refl _)]
      simp only [Nat.sub_self, List.getElem_cons_zero]
      refine ⟨p, c, ⟨?_, ?_, ?_⟩, hkk.1, hkk.2⟩
      · rw [List.getElem?_append_right (by omega), hl]; simp [icells]
      · rw [List.getElem?_append_right (by omega), hl]; simp [icells]
      · rw [List.getElem?_append_right (by omega), hl]; simp [icells]

/-- Items in memory, wherever they lie. -/
structure ItAt (w : World) (b k : Nat) (r : Cp.It) (p : Option Addr) (c : Nat) : Prop where
  dir : w.cell? ⟨b, k, none⟩ = some (.int .i64 r.dir)
  proto : w.cell? ⟨b, k + 1, none⟩ = some (.int .i64 r.proto)
  data : w.cell? ⟨b, k + 2, none⟩ = some (.slice p r.data.length c)
  row : RowAt w p c r.data
def ItsAt (w : World) (a : Option Addr) (L : List Cp.It) : Prop :=
  L = [] ∨ ∃ b off, a = some ⟨b, off, none⟩ ∧ b < w.heap.size ∧ ∀ j (h : j < L.length), ∃ p c, ItAt w b (off + j * 3) L[j] p c
theorem ItAt.next {w w' : World} {b k : Nat} {r : Cp.It} {p : Option Addr} {c : Nat} (h : ItAt w b k r p c) (hl : b < w.heap.size) (hb : Below w.heap.size w w') : ItAt w' b k r p c := by
  have e : ∀ i, w'.cell? ⟨b, i, none⟩ = w.cell? ⟨b, i, none⟩ := fun i => hb.cell (p := ⟨b, i, none⟩) hl
  exact ⟨by rw [e]; exact h.dir, by rw [e]; exact h.proto, by rw [e]; exact h.data, h.row.next hb⟩
theorem ItsAt.next {w w' : World} {a : Option Addr} {L : List Cp.It} (h : ItsAt w a L) (hb : Below w.heap.size w w') : ItsAt w' a L := by
  rcases h with rfl | ⟨b, off, rfl, h1, h2⟩
  · exact .inl rfl
  · refine .inr ⟨b, off, rfl, Nat.lt_of_lt_of_le h1 hb.size, fun j hj => ?_⟩
    obtain ⟨p, c, h3⟩ := h2 j hj
    exact ⟨p, c, h3.next h1 hb⟩
theorem ItsAt.at {w : World} {a : Option Addr} {L : List Cp.It} (h : ItsAt w a L) (k : Nat) (hk : k < L.length) : ∃ b off p c, a = some ⟨b, off, none⟩ ∧ ItAt w b (off + k * 3) L[k] p c ∧ b < w.heap.size := by
  rcases h with h | ⟨b, off, rfl, hb, h⟩
  · rw [h] at hk; simp at hk
  · obtain ⟨p, c, h2⟩ := h k hk
    exact ⟨b, off, p, c, rfl, h2, hb⟩
theorem Its.at {w : World} {B : Nat} {E : Nat → Prop} {v : Value} {L : List Cp.It} (h : Its w B E v L) : ∃ a c, v = .slice a L.length c ∧ ItsAt w a L := by
  obtain ⟨xs, ho, he⟩ := h
  rcases ho.2 with ⟨rfl, h0⟩ | ⟨g, cap, cur, rfl, hb, hg, _⟩
  · exact ⟨none, 0, by rw [h0], .inl (List.eq_nil_of_length_eq_zero h0)⟩
  · refine ⟨_, cap, rfl, .inr ⟨g, 0, rfl, lt_of_block hg, fun j hj => ?_⟩⟩
    obtain ⟨p, c, h1, h2, _⟩ := he j hj
    have e := ho.cells (g := g) rfl
    simp only [Go.WideShapes.add_plain] at e
    exact ⟨p, c, e _ _ h1.dir, by rw [Nat.add_assoc]; exact e _ _ h1.proto, by rw [Nat.add_assoc]; exact e _ _ h1.data, h2⟩
theorem ItAt.range {w : World} {b k : Nat} {r : Cp.It} {p : Option Addr} {c : Nat} (h : ItAt w b k r p c) : w.rangeAt b k (icells r (.slice p r.data.length c)) := by
  intro j v hv
  have hj : j = 0 ∨ j = 1 ∨ j = 2 := by
    have := (List.getElem?_eq_some_iff.1 hv).1
    simp [icells] at this; omega
  rcases hj with rfl | rfl | rfl <;> simp [icells] at hv <;> subst hv
  · exact h.dir
  · exact h.proto
  · exact h.data
end Go.Proofs.YtbbnkmhlgfoacaaDoor
