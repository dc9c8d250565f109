/- FramePuts: the walk. -/
import Derived.Test.YthmljgpnkealaaaFj
namespace Go.Proofs.Ythmljgpnkealaaa
open Go.RowKit

theorem RowRes.row {w w' : World} {e : Ending} {A : List UInt8 × Nat} {q : Nat} (h : RowRes w w' e A) (hq : A.1.length = q) : ∃ p c, e = .returned (.tuple #[.slice p q c, .int .i64 (A.2 : Nat)]) ∧ RowAt w' p c A.1 ∧ Below w.heap.size w w' := by
  obtain ⟨v, rfl, o, b⟩ := h
  obtain ⟨p, c, rfl, r⟩ := rowAt_own rfl o
  exact ⟨p, c, by rw [hq], r, b⟩

set_option maxRecDepth 100000 in
set_option maxHeartbeats 4000000 in
theorem puts_n (m : Nat) (wide : Bool) (a : Option Addr) (cap n : Nat) (L : List (List UInt8)) (w : World) (hn : L.length = n) (hm : m < 4294967296) (h : PartsAt w a L) :
    Calls Try.prog 3 #[.slice a n cap, .int .u32 (m : Int), .bool wide] w fun e w' => e = .returned (.bool true) ∧ Below w.heap.size w w' := by
  have Hn := Lib.hid hn
  have H := Lib.hid h
  clear hn h
  go_enter Try.func3, Try.ntmps3
  go_wp2_with fail
  refine (awake_any _).mono ?_
  rintro e w1 ⟨rfl, b1⟩
  have H1 := Lib.hid (H.out.next b1)
  go_wp2_with fail
  refine (few_any a cap n L _ Hn.out H1.out).mono ?_
  rintro e w2 ⟨⟨r, rfl, hr⟩, h2⟩
  rw [h2]
  clear h2
  cases r with
  | false =>
    clear hr
    go_wp2_with fail
    refine (awake_any _).mono ?_
    rintro e w3 ⟨rfl, b3⟩
    go_wp2
    go_ret
    exact ⟨rfl, Below.chain b1 b3⟩
  | true =>
    obtain ⟨h50, h70⟩ := hr rfl
    clear hr
    have c10 := row_any m wide a cap n L w1 Hn.out hm (by omega) (by omega) H1.out
    have c11 := fun (W : World) (h : PartsAt W a L) => refRow_any m wide a cap n L W Hn.out hm (by omega) (by omega) h
    generalize Fr.rowOf m wide L = A at c10 c11
    obtain ⟨X, er⟩ := A
    obtain ⟨x, hx⟩ : ∃ x, X.length = x := ⟨_, rfl⟩
    have C10 := Lib.hid c10
    have C11 := Lib.hid c11
    have Hx := Lib.hid hx
    have B1 := Lib.hid b1
    clear c10 c11 hx b1
    go_wp2_with fail
    refine C10.out.mono ?_
    intro e w3 h3
    obtain ⟨p3, c3, rfl, r3, b3⟩ := h3.row Hx.out
    have H3 := Lib.hid (H1.out.next b3)
    have R3 := Lib.hid r3
    have B3 := Lib.hid (Below.chain B1.out b3)
    clear h3 r3 b3 B1 H1 C10
    go_wp2_with fail
    refine (C11.out _ H3.out).mono ?_
    intro e w4 h4
    obtain ⟨p4, c4, rfl, r4, b4⟩ := h4.row Hx.out
    have H4 := Lib.hid (H3.out.next b4)
    have k1 : (convert 26 9 (.slice p3 x c3)).run Try.prog w4 = .ok (.string ⟨X.toArray⟩) w4 := conv_row Hx.out (R3.out.next b4)
    have k2 : (convert 26 9 (.slice p4 x c4)).run Try.prog w4 = .ok (.string ⟨X.toArray⟩) w4 := conv_row Hx.out r4
    generalize (⟨X.toArray⟩ : ByteArray) = S at k1 k2
    have B4 := Lib.hid (Below.chain B3.out b4)
    clear h4 r4 b4 B3 R3 C11
    by_cases hn0 : n = 0
    · have i0 : (n : Int) = 0 := by omega
      clear hn0
      go_wp2
      go_ret
      exact ⟨rfl, B4.out⟩
    · have i0 : ¬ (n : Int) = 0 := by omega
      have i1 : (0 : Int) < (n : Int) := by omega
      have hk' : 0 < L.length := by rw [Hn.out]; omega
      obtain ⟨b, off, p, c, rfl, hcell, hrow⟩ := PartsAt.at H4.out 0 hk'
      have hfl := flat_le L 1
      rw [flat_step L 0 hk', List.length_append] at hfl
      obtain ⟨y, hy⟩ : ∃ y, y = L[0] := ⟨_, rfl⟩
      rw [← hy] at hcell hrow hfl
      clear hy hk'
      obtain ⟨q, hq⟩ : ∃ q, y.length = q := ⟨_, rfl⟩
      rw [hq] at hcell hfl
      rw [Nat.add_zero] at hcell
      have c12 := put_any m wide p c q y w4 hq hm (by omega) hrow
      have c11 := fun (W : World) (h : RowAt W p c y) => refRow_any m wide _ 1 1 [y] _ rfl hm (by omega) (by simp; omega) (parts_one hq h)
      generalize Fr.rowOf m wide [y] = A at c12 c11
      obtain ⟨Y, er2⟩ := A
      obtain ⟨z, hz⟩ : ∃ z, Y.length = z := ⟨_, rfl⟩
      have C12 := Lib.hid c12
      have C11 := Lib.hid c11
      have Hz := Lib.hid hz
      have Hrow := Lib.hid hrow
      clear c12 c11 hz hrow hn0
      go_wp2_with fail
      refine C12.out.mono ?_
      intro e w5 h5
      obtain ⟨p5, c5, rfl, r5, b5⟩ := h5.row Hz.out
      have hcell5 := hcell
      rw [← b5.cell (World.block_lt_of_cell? _ _ hcell)] at hcell5
      have R5 := Lib.hid r5
      have Hrow5 := Lib.hid (Hrow.out.next b5)
      have B5 := Lib.hid (Below.chain B4.out b5)
      clear h5 r5 b5 B4 C12 hcell Hrow k1 k2
      go_wp2_with fail
      refine (C11.out _ Hrow5.out).mono ?_
      intro e w6 h6
      obtain ⟨p6, c6, rfl, r6, b6⟩ := h6.row Hz.out
      have b56 := below_alloc b6
      have k3 : (convert 26 9 (.slice p5 z c5)).run Try.prog w6 = .ok (.string ⟨Y.toArray⟩) w6 := conv_row Hz.out (R5.out.next b56)
      have k4 : (convert 26 9 (.slice p6 z c6)).run Try.prog w6 = .ok (.string ⟨Y.toArray⟩) w6 := conv_row Hz.out r6
      generalize (⟨Y.toArray⟩ : ByteArray) = S2 at k3 k4
      have B6 := Lib.hid (Below.chain B5.out b56)
      clear h6 r6 b6 b56 B5 R5 C11 hcell5
      go_wp2
      go_ret
      exact ⟨rfl, B6.out⟩
theorem puts_walk (m : Nat) (wide : Bool) (a : Option Addr) (cap : Nat) (L : List (List UInt8)) (w : World) (hm : m < 4294967296) (h : PartsAt w a L) :
    Calls Try.prog 3 #[.slice a L.length cap, .int .u32 (m : Int), .bool wide] w fun e w' => e = .returned (.bool true) ∧ Below w.heap.size w w' := puts_n m wide a cap _ L w rfl hm h
end Go.Proofs.Ythmljgpnkealaaa
