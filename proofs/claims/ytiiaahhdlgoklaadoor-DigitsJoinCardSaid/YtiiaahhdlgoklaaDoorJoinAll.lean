/- DigitsJoin: the walk, at every input. -/
import Derived.Test.YtiiaahhdlgoklaaDoorJoinWalk
namespace Go.Proofs.YtiiaahhdlgoklaaDoor
open Go.RowKit Go.Sort

/-- A slice of texts, as it came in: nil, or a row of cells. -/
def IsStrs (w : World) (a : Option Addr) (len cap : Nat) (ss : List ByteArray) : Prop :=
  (a = none ∧ len = 0 ∧ cap = 0 ∧ ss = []) ∨
  ∃ x, a = some x ∧ len ≤ cap ∧ cap ≤ maxLen ∧ ss.length = cap ∧ (∀ i, i < ss.length → w.cell? (x.add i) = some (.string (ss.getD i ByteArray.empty))) ∧ ∀ s ∈ ss, s.size ≤ maxLen

theorem strs_of_row {w : World} {a : Option Addr} {len cap : Nat} {ss : List ByteArray} (h : IsStrs w a len cap ss) : ∃ L : List (List UInt8), L.length = len ∧ (L = [] ∨ ∃ b off, a = some ⟨b, off, none⟩ ∧ b < w.heap.size ∧ ∀ j (h : j < L.length), w.cell? ⟨b, off + j, none⟩ = some (.string ⟨L[j].toArray⟩)) := by
  rcases h with ⟨rfl, rfl, rfl, rfl⟩ | ⟨x, rfl, hl, hm, hz, hc, hw⟩
  · exact ⟨[], rfl, .inl rfl⟩
  · rcases Nat.eq_zero_or_pos len with rfl | hpos
    · exact ⟨[], rfl, .inl rfl⟩
    · obtain ⟨b, off, spot⟩ := x
      have hspot : spot = none := by simpa [Addr.add] using World.cell?_spot (hc 0 (by omega))
      subst hspot
      have hc2 : ∀ j, j < ss.length → w.cell? ⟨b, off + j, none⟩ = some (.string (ss.getD j ByteArray.empty)) := fun j hj => by
        have := hc j hj
        rw [Lib.add_plain] at this
        exact this
      refine ⟨(ss.take len).map fun s => s.data.toList, by simp; omega, .inr ⟨b, off, rfl, block_of_cell (hc2 0 (by omega)), ?_⟩⟩
      intro j hj
      have hj2 : j < len := by simp at hj; omega
      rw [hc2 j (by omega)]
      simp only [List.getElem_map, List.getElem_take]
      have e2 : ss[j]? = some (ss[j]'(by omega)) := List.getElem?_eq_getElem (by omega)
      rw [show ss.getD j ByteArray.empty = ss[j]'(by omega) from by rw [List.getD_eq_getElem?_getD, e2]; rfl, mk_data]

set_option maxHeartbeats 1000000 in
set_option maxRecDepth 100000 in
theorem join_none (a : Option Addr) (cap n : Nat) (w : World) (ht : Tabs w) :
    Calls Tryd.prog 8 #[.slice a 0 cap, .int .u8 (n : Int)] w fun e w' => e = .returned (.bool true) ∧ Below w.heap.size w w' := by
  have HT := Lib.hid ht
  clear ht
  go_enter Tryd.func8, Tryd.ntmps8
  go_wp2_with fail
  refine (awake_any _ HT.out).mono ?_
  rintro e w1 ⟨rfl, b1⟩
  go_wp2_with fail
  refine wp_loop_rounds 1 ?_
  rw [rounds_succ]
  go_wp2_with fail
  refine (words_l [] _ (by simp)).mono ?_
  rintro e w2 ⟨v2, rfl, o2, b2⟩
  have S2 := strsAt_own o2
  go_wp2_with fail
  refine (same_any (Dg.words []) v2 _ _ (by decide) S2 ⟨none, 0, rfl, .inl rfl⟩).mono ?_
  rintro e w3 ⟨rfl, b3⟩
  go_wp2_with fail
  go_ret
  exact ⟨rfl, Below.chain (Below.chain b1 b2) b3⟩

set_option maxHeartbeats 1000000 in
set_option maxRecDepth 100000 in
theorem join_walk (L : List (List UInt8)) (a : Option Addr) (cap n : Nat) (w : World) (hn : n ≤ 255) (hl : L.length ≤ maxLen)
    (hx : L = [] ∨ ∃ b off, a = some ⟨b, off, none⟩ ∧ b < w.heap.size ∧ ∀ j (h : j < L.length), w.cell? ⟨b, off + j, none⟩ = some (.string ⟨L[j].toArray⟩)) (ht : Tabs w) :
    Calls Tryd.prog 8 #[.slice a L.length cap, .int .u8 (n : Int)] w fun e w' => e = .returned (.bool true) ∧ Below w.heap.size w w' := by
  unfold maxLen at hl
  rcases hx with rfl | ⟨b, off, rfl, hb, hc⟩
  · exact join_none a cap n w ht
  · by_cases hg : (50 : Int) < (L.length : Int)
    · have HT := Lib.hid ht
      clear ht hc
      go_enter Tryd.func8, Tryd.ntmps8
      go_wp2_with fail
      refine (awake_any _ HT.out).mono ?_
      rintro e w1 ⟨rfl, b1⟩
      go_wp2_with fail
      refine (awake_any _ (HT.out.next b1)).mono ?_
      rintro e w2 ⟨rfl, b2⟩
      go_wp2_with fail
      go_ret
      exact ⟨rfl, Below.chain b1 b2⟩
    · exact join_main L b off cap n w hn (by omega) hb hc ht
end Go.Proofs.YtiiaahhdlgoklaaDoor
