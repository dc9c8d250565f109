/- Contracts of read and of the document's Read. -/
import Derived.Test.YtbbfhajokiajpaaSb
import Derived.Laws.OwnMore
import Derived.Deep.OwnRows
namespace Go.Proofs.Ytbbfhajokiajpaa
open Go.RowKit

/-- What read answers. -/
def ReadRes (w w' : World) (e : Ending) (K : Nat) (A : List (List UInt8) × Nat) : Prop :=
  ∃ v, e = .returned (.tuple #[v, .int .i64 (A.2 : Int)]) ∧ Below w.heap.size w w' ∧ (A.2 = 0 → w'.ownsRow w.heap.size 9 1 v K (strs A.1))
/-- The texts that were read, and room for the others. -/
def rowOf (pre : List (List UInt8)) (m : Nat) : List Value := strs pre ++ List.replicate m (.string ⟨#[]⟩)
theorem rowOf_made (K : Nat) : madeCells #[.string ⟨#[]⟩] K = (rowOf [] K).toArray := by
  rw [rowOf, show strs [] = [] from rfl, List.nil_append, ← toList_madeCells_one, Array.toArray_toList]
theorem rowOf_size (pre : List (List UInt8)) (m : Nat) : (rowOf pre m).toArray.size = pre.length + m := by simp [rowOf, strs_length]
theorem rowOf_set (pre : List (List UInt8)) (m : Nat) (t : List UInt8) : (rowOf pre (m + 1)).toArray.setIfInBounds pre.length (.string ⟨t.toArray⟩) = (rowOf (pre ++ [t]) m).toArray := by
  rw [List.setIfInBounds_toArray, rowOf, rowOf, List.set_append_right _ _ (by rw [strs_length]; exact Nat.le_refl _), strs_length, Nat.sub_self, List.replicate_succ, List.set_cons_zero, strs_append, List.append_assoc]
  rfl
theorem rowOf_own {w w' : World} {T K : Nat} {pre : List (List UInt8)} (hK : pre.length = K) (hT : w.heap.size ≤ T) (h : w'.heap[T]? = some (.cells (rowOf pre 0).toArray 9 (0, 0))) (hm : K ≤ 1000) : w'.ownsRow w.heap.size 9 1 (.slice (some ⟨T, 0, none⟩) K K) K (strs pre) := by
  refine ⟨by rw [strs_length, hK, Nat.mul_one], .inr ⟨T, K, _, rfl, hT, h, Nat.le_refl _, by unfold maxLen; omega, ?_, ?_⟩⟩
  · rw [rowOf_size, hK, Nat.mul_one, Nat.add_zero]
  · rw [rowOf, show List.replicate 0 (Value.string ⟨#[]⟩) = [] from rfl, List.append_nil, List.take_of_length_le (by simp [strs_length]; omega)]

theorem rowOf_at {pre : List (List UInt8)} {m k : Nat} (h : pre.length = k) : (rowOf pre (m + 1)).toArray[k]? = some (.string ⟨#[]⟩) := by
  rw [List.getElem?_toArray, rowOf, List.getElem?_append_right (by rw [strs_length]; omega), strs_length, h, Nat.sub_self]
  rfl
set_option maxRecDepth 100000 in
set_option maxHeartbeats 1000000 in
theorem read_any (a : Option Addr) (n c K : Nat) (xs : List UInt8) (w : World) (hn : xs.length = n) (hm : n ≤ 300000) (hK : K ≤ 1000) (h : RowAt w a c xs) :
    Calls Try.prog 17 #[.slice a n c, .int .i64 (K : Int)] w fun e w' => ReadRes w w' e K (Pp.read K xs) := by
  have i1 : (K : Int) ≤ 1000 := by omega
  have hmk := run_make_row' (P := Try.prog) 31 9 (.string ⟨#[]⟩) 16 Try.underlying31 info9 rfl .i64 .i64 K (by omega) (by omega)
  simp only [rowOf_made] at hmk
  have hA := Pp.on_read K xs
  generalize Pp.read K xs = A at *
  have HA := Lib.hid hA
  clear hA
  have b2 := below_two w (.cells #[.slice a n c] 51) (.cells (rowOf [] K).toArray 9)
  have HB2 := Lib.hid b2
  have hG0 : RestAt ((w.alloc (.cells #[.slice a n c] 51)).alloc (.cells (rowOf [] K).toArray 9)) w.heap.size a n c := heap_alloc2_old w _ _
  have hT0 := heap_alloc_new (w.alloc (.cells #[.slice a n c] 51)) (.cells (rowOf [] K).toArray 9)
  rw [show (w.alloc (.cells #[.slice a n c] 51)).heap.size = w.heap.size + 1 by simp] at hT0
  have HG0 := Lib.hid hG0
  have HT0 := Lib.hid hT0
  clear hG0 hT0 b2
  go_enter Try.func17, Try.ntmps17
  go_wp2
  go_loopw [16] (fun i wr => ∃ (k : Nat) (pre : List (List UInt8)) (r : List UInt8) (p : Option Addr) (d : Nat), k ≤ K ∧ i = .int .i64 (k : Int) ∧ pre.length = k ∧ RestAt wr w.heap.size p r.length d ∧ r.length ≤ 300000 ∧ Left a c xs p d r ∧ wr.heap[w.heap.size + 1]? = some (.cells (rowOf pre (K - k)).toArray 9 (0, 0)) ∧ Hid (Pp.on pre (Pp.reads (K - k) r) = A) ∧ Below w.heap.size w wr) (fun i _ => K - (intOf i).toNat)
  case atStart => exact ⟨0, [], xs, a, c, Nat.zero_le _, rfl, rfl, by rw [hn]; exact HG0.out, by omega, fun _ h => h, HT0.out, HA.out, HB2.out⟩
  case round =>
    obtain ⟨k, pre, r, p, d, hk, rfl, hpre, hG, hr, hL, hT, hA, hB⟩ := hrel
    by_cases hlt : k < K
    · have i2 : (k : Int) < (K : Int) := by omega
      have hc := text_any w.heap.size p r.length d r wr rfl hr ((hL w h).next hB) hG
      obtain ⟨q, hq⟩ : ∃ q, K - k = q + 1 := ⟨K - k - 1, by omega⟩
      have hq2 : K - (k + 1) = q := by omega
      rw [hq] at hT hA
      cases ho : Pp.one r with
      | none =>
        rw [ho] at hc
        have ha := hA.out
        rw [Pp.on_none ho] at ha
        subst ha
        have HC := Lib.hid hc
        have HB := Lib.hid hB
        clear hc hL hT hG hA ho hB
        go_wp2_with (refine HC.out.mono ?_; rintro e w1 ⟨rfl, b1⟩; have B1 := Lib.hid (Below.chain HB.out b1); clear b1 HC)
        go_ret2
        exact ⟨_, rfl, B1.out, fun e => by cases e⟩
      | some tr =>
        obtain ⟨t, r2⟩ := tr
        rw [ho] at hc
        have ha := hA.out
        rw [Pp.on_one ho] at ha
        have hl2 := (Pp.one_back ho)
        have hr2 : r2.length ≤ 300000 := by
          have := congrArg List.length hl2.2
          rw [List.length_cons, List.length_append] at this
          omega
        have HA := Lib.hid ha
        have HC := Lib.hid hc
        have HB := Lib.hid hB
        have HL := Lib.hid hL
        have hTl := lt_of_block hT
        clear hc hL hG hA ho hB ha hl2
        go_wp2_with fail
        refine HC.out.mono ?_
        rintro e w1 ⟨rfl, g1, p2, d2, G1, L1⟩
        have T1 := (g1.block (w.heap.size + 1) hTl (fun e => by have := Option.some.inj e; omega)).trans hT
        have B1 := Below.grown HB.out g1 HB.out.size (fun j hj => by cases hj; exact Nat.le_refl _)
        have c2 : w1.cell? ⟨w.heap.size + 1, k, none⟩ = some (.string ⟨#[]⟩) := by rw [cell_of_row _ _ _ _ _ _ T1]; exact rowOf_at hpre
        have f2 : w1.frozen? ⟨w.heap.size + 1, k, none⟩ = false := frozen_of_row _ _ _ _ _ T1
        have T2 := heap_setCell_same w1 (w.heap.size + 1) k _ _ (.string ⟨t.toArray⟩) T1
        have hset := rowOf_set pre q t
        rw [hpre] at hset
        rw [hset] at T2
        have G2 : RestAt (w1.setCell ⟨w.heap.size + 1, k, none⟩ (.string ⟨t.toArray⟩)) w.heap.size p2 r2.length d2 := (heap_setCell_other _ _ _ _ (by show w.heap.size ≠ w.heap.size + 1; omega)).trans G1
        have B2 : Below w.heap.size w (w1.setCell ⟨w.heap.size + 1, k, none⟩ (.string ⟨t.toArray⟩)) := Below.grown B1 (grown_cell w1 (w.heap.size + 1) k (.string ⟨t.toArray⟩)) B1.size (fun j hj => by cases hj; omega)
        have T2 := Lib.hid T2
        have G2 := Lib.hid G2
        have B2 := Lib.hid B2
        have L2 := Lib.hid (show Left a c xs p2 d2 r2 from fun W hW => L1 W (HL.out W hW))
        clear T1 B1 G1 L1 hset HC HB HL g1 hT
        go_wp2
        go_roundw
        case rel => exact ⟨k + 1, pre ++ [t], r2, p2, d2, by omega, by go_num, by rw [List.length_append, hpre]; rfl, G2.out, hr2, L2.out, by rw [hq2]; exact T2.out, by rw [hq2]; exact HA, B2.out⟩
        case measure => simp [intOf]; omega
    · have hkK : k = K := by omega
      subst hkK
      rw [Nat.sub_self] at hT hA
      have ha := hA.out
      rw [Pp.on_end] at ha
      have c1 : wr.cell? ⟨w.heap.size, 0, none⟩ = some (.slice p r.length d) := hG.cell
      have HT := Lib.hid (rowOf_own (w := w) (w' := wr) hpre (Nat.le_succ _) hT hK)
      have HB := Lib.hid hB
      clear hA hT hB hG hL
      by_cases h0 : r = []
      · subst h0
        rw [if_pos rfl] at ha
        subst ha
        go_wp2
        go_ret2
        exact ⟨_, rfl, HB.out, fun _ => HT.out⟩
      · rw [if_neg h0] at ha
        subst ha
        have i3 : 0 < (r.length : Int) := by have := List.length_pos_iff.2 h0; omega
        go_wp2
        go_ret2
        exact ⟨_, rfl, HB.out, fun e => by cases e⟩
end Go.Proofs.Ytbbfhajokiajpaa
