/- The law of what is put. -/
import Derived.Test.YtbbfhajokiajpaaSf
namespace Go.Proofs.Ytbbfhajokiajpaa
open Go.RowKit

theorem TextsRes.at {w w' : World} {e : Ending} {A : List UInt8 × Nat} (h : TextsRes w w' e A) {xs : List UInt8} {k n : Nat} {b : Bool} (hA : A = (xs, k)) (hn : xs.length = n) (hb : (k == 0) = b) :
    ∃ p c, e = .returned (.tuple #[.slice p n c, .bool b]) ∧ RowAt w' p c xs ∧ Below w.heap.size w w' := by
  subst hA
  subst hn
  subst hb
  obtain ⟨v, rfl, p, c, rfl, o⟩ := h
  exact ⟨p, c, rfl, o.row, o.bel⟩
/-- A call's error, and the document's answer. -/
def Err (z : Int) (b : Bool) : Prop := (z = 0 ∧ b = true) ∨ (z = 4 ∧ b = false)
theorem put_err (l : List (List UInt8)) : ∃ (xs : List UInt8) (k : Nat) (z : Int) (b : Bool), Pp.put l = (xs, k) ∧ xs.length ≤ 256 * l.length ∧ (k : Int) = z ∧ (k == 0) = b ∧ Err z b := by
  have hs := Pp.put_small l
  rcases Pp.put_cases l with ⟨_, e⟩ | ⟨_, e⟩
  · rw [e] at hs
    exact ⟨_, _, 4, false, e, hs, rfl, rfl, .inr ⟨rfl, rfl⟩⟩
  · rw [e] at hs
    exact ⟨_, _, 0, true, e, hs, rfl, rfl, .inl ⟨rfl, rfl⟩⟩
theorem LgAt.fst {w : World} {g : Nat} {s u : List UInt8} (h : LgAt w g s u) : w.cell? ⟨g, 0, none⟩ = some (.string ⟨s.toArray⟩) := cell_of_row _ _ _ _ _ _ h
theorem LgAt.snd {w : World} {g : Nat} {s u : List UInt8} (h : LgAt w g s u) : w.cell? ⟨g, 1, none⟩ = some (.string ⟨u.toArray⟩) := cell_of_row _ _ _ _ _ _ h
set_option maxRecDepth 100000 in
set_option maxHeartbeats 2000000 in
theorem puts_walk (s u t : List UInt8) (w : World) :
    Calls Try.prog 3 #[.agg (lcells s u).toArray, .string ⟨t.toArray⟩] w fun e w' => e = .returned (.bool true) ∧ Below w.heap.size w w' := by
  by_cases h1 : 1000 < s.length
  · have i1 : (1000 : Int) < (s.length : Int) := by omega
    have L0 := Lib.hid (show LgAt (w.alloc (.cells (lcells s u).toArray 23)) w.heap.size s u from heap_alloc_new _ _)
    have B0 := Lib.hid (below_one w (.cells (lcells s u).toArray 23))
    simp only [lcells]
    go_enter Try.func3, Try.ntmps3
    go_wp2_with fail
    refine (awake_any _).mono ?_
    rintro e w1 ⟨rfl, b1⟩
    have L1 := Lib.hid (L0.out.next b1)
    have B1 := Lib.hid (Below.chain B0.out b1)
    have x0 := L1.out.fst
    have x1 := L1.out.snd
    clear b1 L0 B0
    clear L1
    go_wp2_with fail
    clear x0 x1
    refine (awake_any _).mono ?_
    rintro e w2 ⟨rfl, b2⟩
    have B2 := Lib.hid (Below.chain B1.out b2)
    clear b2 B1
    go_wp2
    go_ret
    exact ⟨rfl, B2.out⟩
  have i1 : (s.length : Int) ≤ 1000 := by omega
  by_cases h2 : 1000 < u.length
  · have i2 : (1000 : Int) < (u.length : Int) := by omega
    have L0 := Lib.hid (show LgAt (w.alloc (.cells (lcells s u).toArray 23)) w.heap.size s u from heap_alloc_new _ _)
    have B0 := Lib.hid (below_one w (.cells (lcells s u).toArray 23))
    simp only [lcells]
    go_enter Try.func3, Try.ntmps3
    go_wp2_with fail
    refine (awake_any _).mono ?_
    rintro e w1 ⟨rfl, b1⟩
    have L1 := Lib.hid (L0.out.next b1)
    have B1 := Lib.hid (Below.chain B0.out b1)
    have x0 := L1.out.fst
    have x1 := L1.out.snd
    clear b1 L0 B0
    clear L1
    go_wp2_with fail
    clear x0 x1
    refine (awake_any _).mono ?_
    rintro e w2 ⟨rfl, b2⟩
    have B2 := Lib.hid (Below.chain B1.out b2)
    clear b2 B1
    go_wp2
    go_ret
    exact ⟨rfl, B2.out⟩
  have i2 : (u.length : Int) ≤ 1000 := by omega
  by_cases h3 : 1000 < t.length
  · have i3 : (1000 : Int) < (t.length : Int) := by omega
    have L0 := Lib.hid (show LgAt (w.alloc (.cells (lcells s u).toArray 23)) w.heap.size s u from heap_alloc_new _ _)
    have B0 := Lib.hid (below_one w (.cells (lcells s u).toArray 23))
    simp only [lcells]
    go_enter Try.func3, Try.ntmps3
    go_wp2_with fail
    refine (awake_any _).mono ?_
    rintro e w1 ⟨rfl, b1⟩
    have L1 := Lib.hid (L0.out.next b1)
    have B1 := Lib.hid (Below.chain B0.out b1)
    have x0 := L1.out.fst
    have x1 := L1.out.snd
    clear b1 L0 B0
    clear L1
    go_wp2_with fail
    clear x0 x1
    refine (awake_any _).mono ?_
    rintro e w2 ⟨rfl, b2⟩
    have B2 := Lib.hid (Below.chain B1.out b2)
    clear b2 B1
    go_wp2
    go_ret
    exact ⟨rfl, B2.out⟩
  have i3 : (t.length : Int) ≤ 1000 := by omega
  obtain ⟨xs, k, z, b, hp, hxs, hz, hb, he⟩ := put_err [s, u]
  obtain ⟨ys, m, y, c, hq, hys, hy, hc, hf⟩ := put_err [t]
  have HP := Lib.hid hp
  have HQ := Lib.hid hq
  have HZ := Lib.hid hz
  have HB := Lib.hid hb
  have HY := Lib.hid hy
  have HC := Lib.hid hc
  have HE := Lib.hid he
  have HF := Lib.hid hf
  clear hp hq hz hb hy hc he hf h1 h2 h3 hxs hys
  have L0 := Lib.hid (show LgAt (w.alloc (.cells (lcells s u).toArray 23)) w.heap.size s u from heap_alloc_new _ _)
  have B0 := Lib.hid (below_one w (.cells (lcells s u).toArray 23))
  simp only [lcells]
  go_enter Try.func3, Try.ntmps3
  go_wp2_with fail
  refine (awake_any _).mono ?_
  rintro e w1 ⟨rfl, b1⟩
  have L1 := Lib.hid (L0.out.next b1)
  have B1 := Lib.hid (Below.chain B0.out b1)
  have x0 := L1.out.fst
  have x1 := L1.out.snd
  clear b1 L0 B0
  go_wp2_with (refine wpList_value (by rfl) (run_load_lg (.tmp 2) rfl w.heap.size s u rfl L1.out) ?_)
  refine (putAsk_any s u w1).mono ?_
  intro e w2 p2
  obtain ⟨p, cp, rfl, r2, b2⟩ := p2.at HP.out rfl HZ.out
  have L2 := Lib.hid (L1.out.next b2)
  have B2 := Lib.hid (Below.chain B1.out b2)
  have R2 := Lib.hid r2
  clear p2 r2 b2 B1 L1 x0 x1
  have x0 := L2.out.fst
  have x1 := L2.out.snd
  have g3 := heap_alloc_new w2 (.cells (lcells s u).toArray 9)
  have T3 := Lib.hid (texts_any (some ⟨w2.heap.size, 0, none⟩) 2 2 [s, u] _ rfl (by omega) (txtsAt_block (by rw [strs_two]) g3))
  have B3 := Lib.hid (Below.chain B2.out (below_one w2 (.cells (lcells s u).toArray 9)))
  have R3 := Lib.hid (R2.out.next (below_one w2 (.cells (lcells s u).toArray 9)))
  simp only [lcells] at T3 B3 R3
  clear g3 B2 L2 R2
  go_wp2_with fail
  refine T3.out.mono ?_
  intro e w4 p4
  obtain ⟨q, cq, rfl, r4, b4⟩ := p4.at HP.out rfl HB.out
  have B4 := Lib.hid (Below.chain B3.out b4)
  have R4 := Lib.hid (R3.out.next b4)
  have Q4 := Lib.hid r4
  clear p4 r4 b4 T3 B3 R3 x0 x1
  go_wp2_with fail
  refine (putSay_any t w4).mono ?_
  intro e w5 p5
  obtain ⟨p', cp', rfl, r5, b5⟩ := p5.at HQ.out rfl HY.out
  have B5 := Lib.hid (Below.chain B4.out b5)
  have R5 := Lib.hid (R4.out.next b5)
  have Q5 := Lib.hid (Q4.out.next b5)
  have P5 := Lib.hid r5
  clear p5 r5 b5 B4 R4 Q4
  have g6 := heap_alloc_new w5 (.cells #[.string ⟨t.toArray⟩] 9)
  have T6 := Lib.hid (texts_any (some ⟨w5.heap.size, 0, none⟩) 1 1 [t] _ rfl (by omega) (txtsAt_block (by rw [strs_single]) g6))
  have b6 := below_one w5 (.cells #[.string ⟨t.toArray⟩] 9)
  have B6 := Lib.hid (Below.chain B5.out b6)
  have R6 := Lib.hid (R5.out.next b6)
  have Q6 := Lib.hid (Q5.out.next b6)
  have P6 := Lib.hid (P5.out.next b6)
  clear g6 b6 B5 R5 Q5 P5
  go_wp2_with fail
  refine T6.out.mono ?_
  intro e w7 p7
  obtain ⟨q', cq', rfl, r7, b7⟩ := p7.at HQ.out rfl HC.out
  have B7 := Lib.hid (Below.chain B6.out b7)
  have v1 := conv_row rfl (R6.out.next b7)
  have v2 := conv_row rfl (Q6.out.next b7)
  have v3 := conv_row rfl (P6.out.next b7)
  have v4 := conv_row rfl r7
  clear p7 r7 b7 T6 B6 R6 Q6 P6 HP HQ HZ HB HY HC
  generalize (⟨xs.toArray⟩ : ByteArray) = X at *
  generalize (⟨ys.toArray⟩ : ByteArray) = Y at *
  generalize xs.length = n1 at *
  generalize ys.length = n2 at *
  rcases HE.out with ⟨rfl, rfl⟩ | ⟨rfl, rfl⟩
  · rcases HF.out with ⟨rfl, rfl⟩ | ⟨rfl, rfl⟩
    · clear HE HF
      go_wp2
      go_ret
      exact ⟨rfl, B7.out⟩
    · clear HE HF
      go_wp2
      go_ret
      exact ⟨rfl, B7.out⟩
  · rcases HF.out with ⟨rfl, rfl⟩ | ⟨rfl, rfl⟩
    · clear HE HF
      go_wp2
      go_ret
      exact ⟨rfl, B7.out⟩
    · clear HE HF
      go_wp2
      go_ret
      exact ⟨rfl, B7.out⟩
end Go.Proofs.Ytbbfhajokiajpaa
