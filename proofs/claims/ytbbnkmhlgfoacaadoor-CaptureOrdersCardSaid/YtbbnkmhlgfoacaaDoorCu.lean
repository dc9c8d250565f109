/- Records whose cells are written; a copy of items. -/
import Derived.Test.YtbbnkmhlgfoacaaDoorCa
namespace Go.Proofs.YtbbnkmhlgfoacaaDoor
open Go.RowKit
open S10

/-- A list of records that was made from B on; its Data lies away from it, where E says. -/
def Rls (w : World) (B : Nat) (E : Nat → Prop) (v : Value) (L : List S9.Pc.Rcd) : Prop :=
 ∃ xs : List Value, w.ownsRow B 44 4 v L.length xs ∧ ∀ j (h : j < L.length), ∃ p c, S9.CellsAt xs j L[j] (.slice p L[j].data.length c) ∧ RowAt w p c L[j].data ∧ ∀ ad, p = some ad → ad.block < w.heap.size ∧ v.ownBlock ≠ some ad.block ∧ E ad.block
theorem rls_of_recs {w : World} {B : Nat} {v : Value} {L : List S9.Pc.Rcd} (h : S9.Recs w B v L) : Rls w B (fun k => B ≤ k) v L := by
 obtain ⟨xs, ho, he⟩ := h
 refine ⟨xs, ho, fun j hj => ?_⟩
 obtain ⟨d, h1, h2⟩ := he j hj
 obtain ⟨p, c, rfl, hr⟩ := rowAt_own rfl h2
 refine ⟨p, c, h1, hr, fun ad e => ?_⟩
 subst e
 refine ⟨(h2.lt ad.block rfl).2, fun e2 => ?_, (h2.lt ad.block rfl).1⟩
 rcases ho.2 with ⟨rfl, _⟩ | ⟨g, cap, cur, rfl, _, hg, _⟩
 ·
  cases e2
 ·
  have e3 : g = ad.block := Option.some.inj e2
  rcases h2.2 with ⟨h3, _⟩ | ⟨g', cap', cur', h3, _, hg', _⟩
  ·
   cases h3
  ·
   simp only [Value.slice.injEq, Option.some.injEq] at h3
   rw [h3.1] at e3
   have e4 : g = g' := e3
   rw [← e4, hg] at hg'
   simp at hg'
theorem Rls.mono {w : World} {B : Nat} {E E' : Nat → Prop} {v : Value} {L : List S9.Pc.Rcd} (h : Rls w B E v L) (he : ∀ k, k < w.heap.size → E k → E' k) : Rls w B E' v L := by
 obtain ⟨xs, ho, hx⟩ := h
 refine ⟨xs, ho, fun j hj => ?_⟩
 obtain ⟨p, c, h1, h2, h3⟩ := hx j hj
 exact ⟨p, c, h1, h2, fun ad e => ⟨(h3 ad e).1, (h3 ad e).2.1, he _ (h3 ad e).1 (h3 ad e).2.2⟩⟩
theorem Rls.stays {w w' : World} {B : Nat} {E : Nat → Prop} {v : Value} {L : List S9.Pc.Rcd} (h : Rls w B E v L) (hs : w.heap.size ≤ w'.heap.size) (hk : ∀ k, k < w.heap.size → (v.ownBlock = some k ∨ E k) → w'.heap[k]? = w.heap[k]?) : Rls w' B E v L := by
 obtain ⟨xs, ho, hx⟩ := h
 refine ⟨xs, ?_, fun j hj => ?_⟩
 ·
  refine ⟨ho.1, ?_⟩
  rcases ho.2 with h2 | ⟨q, cap, cur, e, hB, hq, hr⟩
  ·
   exact .inl h2
  ·
   exact .inr ⟨q, cap, cur, e, hB, by rw [hk q (lt_of_block hq) (.inl (by rw [e]; rfl))]; exact hq, hr⟩
 ·
  obtain ⟨p, c, h1, h2, h3⟩ := hx j hj
  exact ⟨p, c, h1, row_stays h2 (fun ad e hl => hk _ hl (.inr (h3 ad e).2.2)), fun ad e => ⟨Nat.lt_of_lt_of_le (h3 ad e).1 hs, (h3 ad e).2⟩⟩
theorem Rls.next {w w' : World} {B : Nat} {E : Nat → Prop} {v : Value} {L : List S9.Pc.Rcd} (h : Rls w B E v L) (hb : Below w.heap.size w w') : Rls w' B E v L := h.stays hb.size (fun k hk _ => hb.block k hk)
theorem Rls.lt {w : World} {B : Nat} {E : Nat → Prop} {v : Value} {L : List S9.Pc.Rcd} (h : Rls w B E v L) (k : Nat) (hk : v.ownBlock = some k) : B ≤ k ∧ k < w.heap.size := by
 obtain ⟨xs, ho, _⟩ := h
 exact ho.lt k hk
theorem Rls.place {w : World} {B g n c : Nat} {E : Nat → Prop} {L : List S9.Pc.Rcd} (h : Rls w B E (.slice (some ⟨g, 0, none⟩) n c) L) (hn : L.length = n) (j : Nat) (hj : j < n * 4) : (∃ u, w.cell? ⟨g, j, none⟩ = some u) ∧ w.frozen? ⟨g, j, none⟩ = false := by
 obtain ⟨xs, ho, _⟩ := h
 rw [hn] at ho
 refine ⟨?_, ho.frozenAt j⟩
 rw [ho.cellAt j hj]
 exact ⟨_, List.getElem?_eq_getElem (by rw [ho.1]; exact hj)⟩
theorem Rls.load {w : World} {B g n c : Nat} {E : Nat → Prop} {L : List S9.Pc.Rcd} (h : Rls w B E (.slice (some ⟨g, 0, none⟩) n c) L) (hn : L.length = n) (k : Nat) (hk : k < L.length) : ∃ p cc, w.cell? ⟨g, k * 4 + 3, none⟩ = some (.slice p L[k].data.length cc) ∧ L[k].data.length ≤ cc := by
 obtain ⟨xs, ho, hx⟩ := h
 rw [hn] at ho
 obtain ⟨p, cc, h1, h2, _⟩ := hx k hk
 exact ⟨p, cc, by rw [ho.cellAt _ (by omega)]; exact h1.data, h2.le⟩
theorem Rls.block {w : World} {B n c : Nat} {E : Nat → Prop} {a : Option Addr} {L : List S9.Pc.Rcd} (h : Rls w B E (.slice a n c) L) (hn : 0 < n) : ∃ g, a = some ⟨g, 0, none⟩ := by
 obtain ⟨xs, ho, _⟩ := h
 rcases ho.2 with ⟨e, h0⟩ | ⟨g, cap, cur, e, _⟩
 ·
  simp only [Value.slice.injEq] at e; omega
 ·
  simp only [Value.slice.injEq] at e; exact ⟨g, e.1⟩
theorem Rls.at {w : World} {B : Nat} {E : Nat → Prop} {v : Value} {L : List S9.Pc.Rcd} (h : Rls w B E v L) (hok : ∀ r ∈ L, r.Ok) : ∃ a c, v = .slice a L.length c ∧ S9.RecsAt w a L := by
 obtain ⟨xs, ho, he⟩ := h
 rcases ho.2 with ⟨rfl, h0⟩ | ⟨g, cap, cur, rfl, hb, hg, _⟩
 ·
  exact ⟨none, 0, by rw [h0], .inl (List.eq_nil_of_length_eq_zero h0)⟩
 ·
  refine ⟨_, cap, rfl, .inr ⟨g, 0, rfl, lt_of_block hg, fun j hj => ?_⟩⟩
  obtain ⟨p, c, h1, h2, _⟩ := he j hj
  have e := ho.cells (g := g) rfl
  simp only [Go.WideShapes.add_plain] at e
  exact ⟨p, c, e _ _ h1.sec, by rw [Nat.add_assoc]; exact e _ _ h1.frac, by rw [Nat.add_assoc]; exact e _ _ h1.len, by rw [Nat.add_assoc]; exact e _ _ h1.data, RowAt.to9 h2, hok _ (List.getElem_mem hj)⟩
/-- One cell of a record's is written. -/
theorem Rls.write {w : World} {B g n c : Nat} {E : Nat → Prop} {L : List S9.Pc.Rcd} (h : Rls w B E (.slice (some ⟨g, 0, none⟩) n c) L) (hn : L.length = n) (k i : Nat) (hi : i < 4) (hk : k < L.length) (u : Value) (r : S9.Pc.Rcd)
  (hnew : ∀ (xs : List Value) (p : Option Addr) (cc : Nat), k * 4 + 3 < xs.length → S9.CellsAt xs k L[k] (.slice p L[k].data.length cc) → w.cell? ⟨g, k * 4 + 3, none⟩ = some (.slice p L[k].data.length cc) → RowAt w p cc L[k].data → (∀ ad, p = some ad → ad.block < w.heap.size ∧ ad.block ≠ g ∧ E ad.block) →
   ∃ p2 c2, S9.CellsAt (xs.set (k * 4 + i) u) k r (.slice p2 r.data.length c2) ∧ RowAt w p2 c2 r.data ∧ ∀ ad, p2 = some ad → ad.block < w.heap.size ∧ ad.block ≠ g ∧ E ad.block) :
  Rls (w.setCell ⟨g, k * 4 + i, none⟩ u) B E (.slice (some ⟨g, 0, none⟩) n c) (L.set k r) := by
 obtain ⟨xs, ho, hx⟩ := h
 rw [hn] at ho
 have hst := ho.stored (k * 4 + i) u
 have hl : xs.length = n * 4 := ho.1
 have hsz := hst.2.size
 have hrow : ∀ (p : Option Addr) (cc : Nat) (b : List UInt8), RowAt w p cc b → (∀ ad, p = some ad → ad.block < w.heap.size ∧ ad.block ≠ g ∧ E ad.block) → RowAt (w.setCell ⟨g, k * 4 + i, none⟩ u) p cc b ∧ ∀ ad, p = some ad → ad.block < (w.setCell ⟨g, k * 4 + i, none⟩ u).heap.size ∧ (Value.slice (some ⟨g, 0, none⟩) n c).ownBlock ≠ some ad.block ∧ E ad.block := by
  intro p cc b hr ha
  refine ⟨row_grown hr hst.2 (fun ad e e2 => (ha ad e).2.1 (Option.some.inj e2).symm), fun ad e => ⟨Nat.lt_of_lt_of_le (ha ad e).1 hsz, fun e2 => (ha ad e).2.1 (Option.some.inj e2).symm, (ha ad e).2.2⟩⟩
 refine ⟨xs.set (k * 4 + i) u, by rw [List.length_set, hn]; exact hst.1, fun j hj => ?_⟩
 rw [List.length_set] at hj
 by_cases hjk : k = j
 ·
  subst hjk
  obtain ⟨p, cc, h1, h2, h3⟩ := hx k hk
  have e := ho.cells (g := g) rfl
  simp only [Go.WideShapes.add_plain] at e
  obtain ⟨p2, c2, q1, q2, q3⟩ := hnew xs p cc (by omega) h1 (by have := e _ _ h1.data; simpa using this) h2 (fun ad e => ⟨(h3 ad e).1, fun e2 => (h3 ad e).2.1 (by rw [e2]; rfl), (h3 ad e).2.2⟩)
  rw [List.getElem_set_self]
  obtain ⟨q4, q5⟩ := hrow p2 c2 r.data q2 q3
  exact ⟨p2, c2, q1, q4, q5⟩
 ·
  obtain ⟨p, cc, h1, h2, h3⟩ := hx j hj
  rw [List.getElem_set_ne hjk]
  obtain ⟨q4, q5⟩ := hrow p cc _ h2 (fun ad e => ⟨(h3 ad e).1, fun e2 => (h3 ad e).2.1 (by rw [e2]; rfl), (h3 ad e).2.2⟩)
  refine ⟨p, cc, ⟨?_, ?_, ?_, ?_⟩, q4, q5⟩
  ·
   rw [List.getElem?_set_ne (by omega)]; exact h1.sec
  ·
   rw [List.getElem?_set_ne (by omega)]; exact h1.frac
  ·
   rw [List.getElem?_set_ne (by omega)]; exact h1.len
  ·
   rw [List.getElem?_set_ne (by omega)]; exact h1.data
theorem Rls.sec {w : World} {B g n c : Nat} {E : Nat → Prop} {L : List S9.Pc.Rcd} (h : Rls w B E (.slice (some ⟨g, 0, none⟩) n c) L) (hn : L.length = n) (k : Nat) (hk : k < L.length) (s : Nat) :
  Rls (w.setCell ⟨g, k * 4, none⟩ (.int .u32 (s : Int))) B E (.slice (some ⟨g, 0, none⟩) n c) (L.set k { L[k] with sec := s }) :=
 h.write hn k 0 (by omega) hk _ _ (fun xs p cc hl h1 _ h2 h3 => ⟨p, cc, ⟨List.getElem?_set_self (by omega), by rw [List.getElem?_set_ne (by omega)]; exact h1.frac, by rw [List.getElem?_set_ne (by omega)]; exact h1.len, by rw [List.getElem?_set_ne (by omega)]; exact h1.data⟩, h2, h3⟩)
theorem Rls.frac {w : World} {B g n c : Nat} {E : Nat → Prop} {L : List S9.Pc.Rcd} (h : Rls w B E (.slice (some ⟨g, 0, none⟩) n c) L) (hn : L.length = n) (k : Nat) (hk : k < L.length) (s : Nat) :
  Rls (w.setCell ⟨g, k * 4 + 1, none⟩ (.int .u32 (s : Int))) B E (.slice (some ⟨g, 0, none⟩) n c) (L.set k { L[k] with frac := s }) :=
 h.write hn k 1 (by omega) hk _ _ (fun xs p cc hl h1 _ h2 h3 => ⟨p, cc, ⟨by rw [List.getElem?_set_ne (by omega)]; exact h1.sec, List.getElem?_set_self (by omega), by rw [List.getElem?_set_ne (by omega)]; exact h1.len, by rw [List.getElem?_set_ne (by omega)]; exact h1.data⟩, h2, h3⟩)
theorem Rls.len {w : World} {B g n c : Nat} {E : Nat → Prop} {L : List S9.Pc.Rcd} (h : Rls w B E (.slice (some ⟨g, 0, none⟩) n c) L) (hn : L.length = n) (k : Nat) (hk : k < L.length) (s : Nat) :
  Rls (w.setCell ⟨g, k * 4 + 2, none⟩ (.int .u32 (s : Int))) B E (.slice (some ⟨g, 0, none⟩) n c) (L.set k { L[k] with len := s }) :=
 h.write hn k 2 (by omega) hk _ _ (fun xs p cc hl h1 _ h2 h3 => ⟨p, cc, ⟨by rw [List.getElem?_set_ne (by omega)]; exact h1.sec, by rw [List.getElem?_set_ne (by omega)]; exact h1.frac, List.getElem?_set_self (by omega), by rw [List.getElem?_set_ne (by omega)]; exact h1.data⟩, h2, h3⟩)
theorem Rls.data {w : World} {B g n c : Nat} {E : Nat → Prop} {L : List S9.Pc.Rcd} (h : Rls w B E (.slice (some ⟨g, 0, none⟩) n c) L) (hn : L.length = n) (k : Nat) (hk : k < L.length) (p : Option Addr) (cc m : Nat) (hc : w.cell? ⟨g, k * 4 + 3, none⟩ = some (.slice p m cc)) (h0 : 1 ≤ m) :
  Rls (w.setCell ⟨g, k * 4 + 3, none⟩ (.slice (if cc = 1 then p else p.map (·.add 1)) (m - 1) (cc - 1))) B E (.slice (some ⟨g, 0, none⟩) n c) (L.set k { L[k] with data := L[k].data.drop 1 }) :=
 h.write hn k 3 (by omega) hk _ _ (fun xs p' cc' hl h1 hc' h2 h3 => by
  rw [hc] at hc'
  simp only [Option.some.injEq, Value.slice.injEq] at hc'
  obtain ⟨rfl, hm, rfl⟩ := hc'
  have h4 := h2.cut 1 m (by omega) (by omega)
  rw [List.take_of_length_le (by omega)] at h4
  refine ⟨_, _, ⟨by rw [List.getElem?_set_ne (by omega)]; exact h1.sec, by rw [List.getElem?_set_ne (by omega)]; exact h1.frac, by rw [List.getElem?_set_ne (by omega)]; exact h1.len, ?_⟩, h4, fun ad e => ?_⟩
  ·
   rw [List.getElem?_set_self (by omega), List.length_drop, hm]
  ·
   split at e
   ·
    exact h3 ad e
   ·
    cases p with
    | none => simp at e
    | some a9 =>
     simp only [Option.map_some, Option.some.injEq] at e
     have e3 : (a9.add 1).block = a9.block := by unfold Addr.add; split <;> rfl
     rw [← e, e3]; exact h3 a9 rfl)
end Go.Proofs.YtbbnkmhlgfoacaaDoor
