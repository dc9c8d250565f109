/- HeadBack: the walk. -/
import Derived.Test.YtphamnpafafpkaaPutsWalk
import Derived.Test.YtphamnpafafpkaaReadsWalk
namespace Go.Proofs.Ytphamnpafafpkaa
open Go.RowKit

theorem back_long (p : Int) (full short : Bool) (a : Option Addr) (len cap : Nat) (n : Nat) (w : World) (hg : (1000 : Int) < (len : Int)) :
    Calls Try.prog 5 #[.int .i64 p, .bool full, .bool short, .slice a len cap, .int .u8 (n : Int)] w fun e w' => e = .returned (.bool true) ∧ Below w.heap.size w w' := by
  go_enter Try.func5, Try.ntmps5
  go_wp2_with fail
  refine (awake_any _).mono ?_
  rintro e w1 ⟨rfl, b1⟩
  go_wp2_with fail
  refine (awake_any _).mono ?_
  rintro e w2 ⟨rfl, b2⟩
  go_wp2
  go_ret
  exact ⟨rfl, Below.chain b1 b2⟩
theorem back_bad (p : Int) (full short : Bool) (a : Option Addr) (len cap : Nat) (n : Nat) (w : World) (hg : ¬ (1000 : Int) < (len : Int)) (h : Hd.may p = false) :
    Calls Try.prog 5 #[.int .i64 p, .bool full, .bool short, .slice a len cap, .int .u8 (n : Int)] w fun e w' => e = .returned (.bool true) ∧ Below w.heap.size w w' := by
  go_enter Try.func5, Try.ntmps5
  go_wp2_with fail
  refine (awake_any _).mono ?_
  rintro e w1 ⟨rfl, b1⟩
  go_wp2_with fail
  refine (headput_bad p full short _ h).mono ?_
  rintro e w2 ⟨rfl, h2⟩
  rw [h2]
  clear h2
  go_wp2_with fail
  refine (may_any p _).mono ?_
  rintro e w3 ⟨rfl, h3⟩
  rw [h3, h]
  clear h3
  go_wp2
  go_ret
  exact ⟨rfl, b1⟩

set_option maxRecDepth 100000 in
set_option maxHeartbeats 4000000 in
theorem back_good (p : Nat) (full short : Bool) (a : Option Addr) (m cap : Nat) (n : Nat) (xs : List UInt8) (w : World) (hm : xs.length = m) (hn : n < 256) (hr : RowAt w a cap xs) (hg : ¬ (1000 : Int) < (m : Int)) (h : Hd.may (p : Int) = true) :
    Calls Try.prog 5 #[.int .i64 (p : Int), .bool full, .bool short, .slice a m cap, .int .u8 (n : Int)] w fun e w' => e = .returned (.bool true) ∧ Below w.heap.size w w' := by
  have c9 := fun W => headput_good p full short W h
  have hpos := Hd.put_pos p full short
  have h1 := Hd.read_put p full short xs h
  have h2 := fun k => Hd.read_cut p full short k h
  generalize Hd.put p full short = X at *
  obtain ⟨x, hx⟩ : ∃ x, X.length = x := ⟨_, rfl⟩
  rw [hx] at hpos h1 h2
  have h3 : Hd.body (X ++ xs) = xs := by
    rw [Hd.body_good _ (by rw [h1]), h1]
    show (X ++ xs).drop x = xs
    rw [← hx, List.drop_left]
  have c15 := fun W A C (r : RowAt W A C (X ++ xs)) => body_any A C (x + m) (X ++ xs) W (by rw [List.length_append, hx, hm]) (by omega) r
  rw [h1, h3] at c15
  obtain ⟨k, hk⟩ : ∃ k, k = n % x := ⟨_, rfl⟩
  have hkx : k < x := by rw [hk]; exact Nat.mod_lt _ (by omega)
  have hrem : (n : Int) % (x : Int) = (k : Int) := by rw [hk]; simp
  have c13 := fun W A C (r : RowAt W A C (X.take k)) => read_any A C k (X.take k) W (by rw [List.length_take, hx]; omega) (by omega) r
  rw [h2 k hkx] at c13
  have i0 : ((x : Int) == 0) = false := by simp; omega
  have i1 : ¬ (x : Int) = 0 := by omega
  have i2 : (x : Int) ≤ 4 := by omega
  have i3 : (0 : Int) < (x : Int) := by omega
  have Hr := Lib.hid hr
  have Hm := Lib.hid hm
  have Hx := Lib.hid hx
  have C9 := Lib.hid c9
  have C13 := Lib.hid c13
  have C15 := Lib.hid c15
  clear c9 c13 c15 h1 h2 h3 hk hr hm hx
  go_enter Try.func5, Try.ntmps5
  go_wp2_with fail
  refine (awake_any _).mono ?_
  rintro e w1 ⟨rfl, b1⟩
  have H1 := Lib.hid (Hr.out.next b1)
  have B1 := Lib.hid b1
  clear b1 Hr
  go_wp2_with fail
  refine (C9.out _).mono ?_
  intro e w2 hp2
  obtain ⟨a2, c2, rfl, r2, _, b2⟩ := hp2.row Hx.out
  have B2 := Lib.hid (Below.chain B1.out b2)
  have H2 := Lib.hid (H1.out.next b2)
  have R2 := Lib.hid r2
  have hc2 := r2.le
  rw [Hx.out] at hc2
  clear b2 B1 H1 r2 hp2 C9
  go_wp2_with (first
    | (at_builtin; refine wpList_append_row rfl (.tmp 44) (.tmp 45) rfl w2.heap.size _ 0 [] rfl (World.ownsRow_made w2 #[] 0 (Nat.le_refl _) (Nat.zero_le _) rfl) a2 x c2 X rfl Hx.out (rowAt_alloc R2.out _) (by omega) (by simp) ?_; intro v3 w3 o3 g3; have B3 := Lib.hid (Below.grown ((Below.refl w2.heap.size w2).alloc (Nat.le_refl _) _) g3 (by simp) (fun j hj => ((World.ownsRow_made (base := w2.heap.size) (e := 5) (size := 1) w2 #[] 0 (Nat.le_refl _) (Nat.zero_le _) rfl).lt j hj).1)); rw [Nat.zero_add, List.nil_append] at o3; have O3 := Lib.hid o3; have H3 := Lib.hid (H2.out.next B3.out); clear o3 g3)
    | (at_builtin; refine wpList_append_row rfl (.tmp 46) (.tmp 47) rfl w2.heap.size _ x _ rfl O3.out a m cap xs rfl Hm.out H3.out (by omega) B3.out.size ?_; intro v4 w4 o4 g4))
  have b4 : Below w2.heap.size w2 w4 := Below.grown B3.out g4 B3.out.size (fun j hj => (O3.out.lt j hj).1)
  rw [← Lib.byteCells_append] at o4
  obtain ⟨a4, c4, rfl, r4⟩ := rowAt_own (by rw [List.length_append, Hx.out, Hm.out]) o4
  have B4 := Lib.hid (Below.chain B2.out b4)
  have H4 := Lib.hid (H2.out.next b4)
  have R4 := Lib.hid (R2.out.next b4)
  have Q4 := Lib.hid r4
  clear b4 o4 g4 r4 B3 O3 H3 B2 H2 R2
  refine (C15.out _ _ _ Q4.out).mono ?_
  intro e w5 hp5
  obtain ⟨a5, c5, rfl, r5, _, b5⟩ := hp5.row Hm.out
  have B5 := Lib.hid (Below.chain B4.out b5)
  have H5 := Lib.hid (H4.out.next b5)
  have R5 := Lib.hid (R4.out.next b5)
  have Q5 := Lib.hid r5
  clear b5 r5 B4 H4 R4 Q4 hp5 C15
  have i4 : (k : Int) ≤ (c2 : Int) := by omega
  go_wp2_with fail
  refine (C13.out _ _ _ (R5.out.head k (by rw [Hx.out]; omega))).mono ?_
  rintro e w6 ⟨rfl, b6⟩
  simp only [hcells]
  have B6 := Lib.hid ((Below.chain B5.out b6))
  have y1 : ∀ o, (convert 23 9 (.slice a5 m c5)).run Try.prog (w6.alloc o) = .ok (.string ⟨xs.toArray⟩) (w6.alloc o) := fun o => conv_row Hm.out (rowAt_alloc (Q5.out.next b6) o)
  have y2 : ∀ o, (convert 23 9 (.slice a m cap)).run Try.prog (w6.alloc o) = .ok (.string ⟨xs.toArray⟩) (w6.alloc o) := fun o => conv_row Hm.out (rowAt_alloc (H5.out.next b6) o)
  generalize (⟨xs.toArray⟩ : ByteArray) = Z at y1 y2
  clear b6 B5 H5 R5 Q5 C13
  go_wp2_with fail
  refine (may_any p _).mono ?_
  rintro e w7 ⟨rfl, h7⟩
  rw [h7, h]
  clear h7
  go_wp2
  go_ret
  exact ⟨rfl, B6.out.alloc B6.out.size _⟩

theorem back_walk (p : Int) (full short : Bool) (a : Option Addr) (cap : Nat) (n : Nat) (xs : List UInt8) (w : World) (hn : n < 256) (hr : RowAt w a cap xs) :
    Calls Try.prog 5 #[.int .i64 p, .bool full, .bool short, .slice a xs.length cap, .int .u8 (n : Int)] w fun e w' => e = .returned (.bool true) ∧ Below w.heap.size w w' := by
  by_cases hg : (1000 : Int) < (xs.length : Int)
  · exact back_long p full short a _ cap n w hg
  · cases h : Hd.may p with
    | false => exact back_bad p full short a _ cap n w hg h
    | true =>
      have hm := (Hd.may_iff _).1 h
      obtain ⟨q, rfl⟩ := Int.eq_ofNat_of_zero_le (by omega : 0 ≤ p)
      exact back_good q full short a _ cap n xs w rfl hn hr hg h
end Go.Proofs.Ytphamnpafafpkaa
