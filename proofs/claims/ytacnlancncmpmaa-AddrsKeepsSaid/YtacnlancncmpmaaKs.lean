/- Options whose Data are one's own to write; worlds that differ in a stretch of memory. -/
import Derived.Test.YtacnlancncmpmaaTr
namespace Go.Proofs.Ytacnlancncmpmaa
open Go.RowKit Go.Maps S2 S12

/-- n bytes of one's own, from B on and below S. -/
def Wr (w : World) (B S : Nat) (d : Value) (n : Nat) : Prop := (∃ ys : List UInt8, ys.length = n ∧ w.ownsRow B 5 1 d n (Lib.byteCells ys)) ∧ ∀ g, d.ownBlock = some g → g < S
theorem Wr.set {w : World} {B S n : Nat} {d : Value} (h : Wr w B S d n) (g i : Nat) (y : UInt8) : Wr (w.setCell ⟨g, i, none⟩ (.int .u8 (y.toNat : Int))) B S d n := by
  obtain ⟨⟨ys, hl, ho⟩, hs⟩ := h
  refine ⟨?_, hs⟩
  rcases ho.2 with ⟨rfl, h0⟩ | ⟨g', cap, cur, rfl, hB, hg, hc, hm, hcur, htk⟩
  · exact ⟨ys, hl, ho.1, .inl ⟨rfl, h0⟩⟩
  · by_cases e : g' = g
    · subst e
      refine ⟨ys.set i y, by simpa using hl, by rw [Lib.byteCells_length, List.length_set, hl, Nat.mul_one], .inr ⟨g', cap, _, rfl, hB, heap_setCell_same w g' i cur 5 _ hg, hc, hm, by rw [Array.size_setIfInBounds]; exact hcur, ?_⟩⟩
      rw [Array.toList_setIfInBounds, List.take_set, htk, ← cells_set]
    · exact ⟨ys, hl, ho.1, .inr ⟨g', cap, cur, rfl, hB, by rw [heap_setCell_other _ _ _ _ (by simpa using e)]; exact hg, hc, hm, hcur, htk⟩⟩
/-- A list of one's own, of options whose Data are one's own. -/
def Scr (w : World) (B S : Nat) (v : Value) (ns : List Nat) : Prop :=
  ∃ xs : List Value, w.ownsRow B 24 2 v ns.length xs ∧ ∀ j (h : j < ns.length), ∃ d, xs[j * 2 + 1]? = some d ∧ Wr w B S d ns[j]
theorem Scr.set {w : World} {B S : Nat} {v : Value} {ns : List Nat} {g : Nat} {cur : Array Value} {fz : Nat × Nat} (h : Scr w B S v ns) (hg : w.heap[g]? = some (.cells cur 5 fz)) (i : Nat) (y : UInt8) : Scr (w.setCell ⟨g, i, none⟩ (.int .u8 (y.toNat : Int))) B S v ns := by
  obtain ⟨xs, ho, he⟩ := h
  refine ⟨xs, ?_, fun j hj => ?_⟩
  · rcases ho.2 with ⟨rfl, h0⟩ | ⟨g', cap, cur', rfl, hB, hg', hr⟩
    · exact ⟨ho.1, .inl ⟨rfl, h0⟩⟩
    · have e : g' ≠ g := fun e => by
        rw [e, hg] at hg'
        injection hg' with hg'
        injection hg' with _ hg'
        exact absurd hg' (by decide)
      exact ⟨ho.1, .inr ⟨g', cap, cur', rfl, hB, by rw [heap_setCell_other _ _ _ _ (by simpa using e)]; exact hg', hr⟩⟩
  · obtain ⟨d, h1, h2⟩ := he j hj
    exact ⟨d, h1, h2.set g i y⟩
theorem Opts.scr {w : World} {B S : Nat} {v : Value} {L : List Ot.O} (h : Opts w B v L) (hS : w.heap.size ≤ S) : Scr w B S v (L.map (fun x => x.data.length)) := by
  obtain ⟨xs, ho, he⟩ := h
  refine ⟨xs, by rw [List.length_map]; exact ho, fun j hj => ?_⟩
  rw [List.length_map] at hj
  obtain ⟨d, h1, h2⟩ := he j hj
  refine ⟨d, h1.data, ⟨L[j].data, by simp, ?_⟩, fun g e => Nat.lt_of_lt_of_le (h2.lt g e).2 hS⟩
  rw [List.getElem_map]; exact h2
theorem Scr.next {w w' : World} {B S : Nat} {v : Value} {ns : List Nat} (h : Scr w B S v ns) (hb : Below w.heap.size w w') : Scr w' B S v ns := by
  obtain ⟨xs, ho, he⟩ := h
  refine ⟨xs, ownsRow_next ho hb, fun j hj => ?_⟩
  obtain ⟨d, h1, ⟨ys, hl, h2⟩, h3⟩ := he j hj
  exact ⟨d, h1, ⟨ys, hl, ownsRow_next h2 hb⟩, h3⟩
/-- The i-th option's Data. -/
theorem Scr.at {w : World} {B S n c : Nat} {a : Option Addr} {ns : List Nat} (h : Scr w B S (.slice a n c) ns) (hn : ns.length = n) (i : Nat) (hi : i < ns.length) :
    ∃ gl p m k cur, a = some ⟨gl, 0, none⟩ ∧ w.cell? ⟨gl, i * 2 + 1, none⟩ = some (.slice p m k) ∧ ns[i] = m ∧ Wr w B S (.slice p m k) m ∧ w.heap[gl]? = some (.cells cur 24 (0, 0)) := by
  obtain ⟨xs, ho, he⟩ := h
  obtain ⟨d, h1, h2⟩ := he i hi
  obtain ⟨⟨ys, hl, h3⟩, h4⟩ := h2
  obtain ⟨p, k, rfl⟩ := own_slice h3
  rw [hn] at ho
  rcases ho.2 with ⟨_, h0⟩ | ⟨g', cap, cur, hv, hB, hg, hr⟩
  · omega
  · simp only [Value.slice.injEq, true_and] at hv
    obtain ⟨rfl, rfl⟩ := hv
    exact ⟨g', p, ns[i], k, cur, rfl, by rw [ho.cellAt (i * 2 + 1) (by omega)]; exact h1, rfl, ⟨⟨ys, hl, h3⟩, h4⟩, hg⟩
theorem cell_aside {w : World} {g gl i j : Nat} {cur cur' : Array Value} {u v : Value} (hg : w.heap[g]? = some (.cells cur 5 (0, 0))) (hl : w.heap[gl]? = some (.cells cur' 24 (0, 0))) (h : w.cell? ⟨gl, i, none⟩ = some v) : (w.setCell ⟨g, j, none⟩ u).cell? ⟨gl, i, none⟩ = some v := by
  have e : gl ≠ g := fun e => by
    rw [e, hg] at hl
    injection hl with hl
    injection hl with _ hl
    exact absurd hl (by decide)
  rw [← h]
  simp only [World.cell?]
  rw [heap_setCell_other _ _ _ _ (by simpa using e)]
/-- The k-th byte of it. -/
theorem Wr.at {w : World} {B S m c : Nat} {p : Option Addr} (h : Wr w B S (.slice p m c) m) (k : Nat) (hk : k < m) :
    ∃ g, ∃ y : UInt8, ∃ cur, p = some ⟨g, 0, none⟩ ∧ w.cell? ⟨g, k, none⟩ = some (.int .u8 (y.toNat : Int)) ∧ w.frozen? ⟨g, k, none⟩ = false ∧ w.heap[g]? = some (.cells cur 5 (0, 0)) ∧ B ≤ g ∧ g < S := by
  obtain ⟨⟨ys, hl, ho⟩, hs⟩ := h
  rcases ho.2 with ⟨_, h0⟩ | ⟨g, cap, cur, hv, hB, hg, hr⟩
  · omega
  · simp only [Value.slice.injEq, true_and] at hv
    obtain ⟨rfl, rfl⟩ := hv
    refine ⟨g, ys[k]'(by omega), cur, rfl, ?_, frozen_of_row _ _ _ _ _ hg, hg, hB, hs g rfl⟩
    rw [ho.cellAt k (by omega)]
    simp [Lib.byteCells, hl, hk]
/-- Worlds that differ from B up to S alone, and in new memory. -/
structure Mid (B S : Nat) (w w' : World) : Prop where
  below : Below B w w'
  up : ∀ k, S ≤ k → k < w.heap.size → w'.heap[k]? = w.heap[k]?
theorem Mid.refl (B S : Nat) (w : World) : Mid B S w w := ⟨Below.refl _ _, fun _ _ _ => rfl⟩
theorem Mid.set {B S : Nat} {w w' : World} (h : Mid B S w w') {g : Nat} (hB : B ≤ g) (hg : g < S) (i : Nat) (u : Value) : Mid B S w (w'.setCell ⟨g, i, none⟩ u) :=
  ⟨h.below.setCell (p := ⟨g, i, none⟩) hB u, fun k h1 h2 => by rw [heap_setCell_other _ _ _ _ (by show k ≠ g; omega)]; exact h.up k h1 h2⟩
theorem Mid.drew {B S : Nat} {w w' : World} (h : Mid B S w w') : Mid B S w w'.drew := ⟨h.below.drew, h.up⟩
theorem own_mid {w w' : World} {B S U e s n : Nat} {v : Value} {xs : List Value} (h : w.ownsRow U e s v n xs) (hm : Mid B S w w') (hS : S ≤ U) : w'.ownsRow U e s v n xs := by
  rcases h.2 with ⟨rfl, h0⟩ | ⟨g, cap, cur, rfl, hB, hg, hr⟩
  · exact ⟨h.1, .inl ⟨rfl, h0⟩⟩
  · exact ⟨h.1, .inr ⟨g, cap, cur, rfl, hB, by rw [hm.up g (by omega) (lt_of_block hg)]; exact hg, hr⟩⟩
theorem Opts.mid {w w' : World} {B S U : Nat} {v : Value} {L : List Ot.O} (h : Opts w U v L) (hm : Mid B S w w') (hS : S ≤ U) : Opts w' U v L := by
  obtain ⟨xs, ho, he⟩ := h
  refine ⟨xs, own_mid ho hm hS, fun j hj => ?_⟩
  obtain ⟨d, h1, h2⟩ := he j hj
  exact ⟨d, h1, own_mid h2 hm hS⟩
theorem Lopts.mid {old : Prop} {w w' W0 : World} {B S U : Nat} {v : Value} {L : List Ot.O} (h : Lopts old w W0 U v L) (hm : Mid B S w w') (hS : S ≤ U) : Lopts old w' W0 U v L := by
  obtain ⟨xs, ho, he⟩ := h
  refine ⟨xs, own_mid ho hm hS, fun j hj => ?_⟩
  obtain ⟨d, h1, h2⟩ := he j hj
  refine ⟨d, h1, ?_⟩
  rcases h2 with h2 | h2
  · exact .inl (own_mid h2 hm hS)
  · exact .inr h2
end Go.Proofs.Ytacnlancncmpmaa
