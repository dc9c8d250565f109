/- DigitsBack: the walk. -/
import Derived.Test.YtiiaahhdlgoklaaDoorRd
import Derived.Deep.DeepCutAuto
namespace Go.Proofs.YtiiaahhdlgoklaaDoor
open Go.RowKit Go.Sort

set_option maxHeartbeats 4000000 in
set_option maxRecDepth 100000 in
theorem back_main (n m : Nat) (a : Option Addr) (cap : Nat) (xs : List UInt8) (s : ByteArray) (w : World) (hn : n < 18446744073709551616) (hm : m < 18446744073709551616) (hg : ¬ (2000 : Int) < (xs.length : Int)) (hg2 : ¬ (2000 : Int) < (s.size : Int)) (hx : BytesAt w a xs) (ht : Tabs w) :
    Calls Tryd.prog 5 #[.int .u64 (n : Int), .int .u64 (m : Int), .slice a xs.length cap, .string s] w fun e w' => e = .returned (.bool true) ∧ Below w.heap.size w w' := by
  have hxl : xs.length ≤ 2000 := by omega
  have hsl : s.size ≤ 2000 := by omega
  have HT := Lib.hid ht
  have HX := Lib.hid hx
  clear ht hx
  obtain ⟨oA, hoA⟩ : ∃ o, o = Dg.rdN 10 s.data.toList := ⟨_, rfl⟩
  obtain ⟨oC, hoC⟩ : ∃ o, o = Dg.rdN 16 s.data.toList := ⟨_, rfl⟩
  obtain ⟨oD, hoD⟩ : ∃ o, o = Dg.unhex s.data.toList := ⟨_, rfl⟩
  have R8 : Hid (∀ W, Calls Tryd.prog 15 #[.string s] W fun e w' => e = .returned (.tuple #[.int .u64 ((oA.getD 0 : Nat) : Int), .bool oA.isSome]) ∧ Below W.heap.size W w') := fun W => by rw [hoA]; exact readDec_any s W (by unfold maxLen; omega)
  have R9 : Hid (∀ W, Calls Tryd.prog 17 #[.string s] W fun e w' => e = .returned (.tuple #[.int .u64 ((oC.getD 0 : Nat) : Int), .bool oC.isSome]) ∧ Below W.heap.size W w') := fun W => by rw [hoC]; exact readHex_any s W (by unfold maxLen; omega)
  have R10 : Hid (∀ W, Calls Tryd.prog 18 #[.string s] W fun e w' => ∃ v, e = .returned (.tuple #[v, .bool oD.isSome]) ∧ w'.ownsRow W.heap.size 5 1 v (oD.getD []).length (Lib.byteCells (oD.getD [])) ∧ Below W.heap.size W w') := fun W => by rw [hoD]; exact readBytes_u s W (by omega)
  have HA := Lib.hid hoA
  have HC := Lib.hid hoC
  have HD := Lib.hid hoD
  clear hoA hoC hoD
  go_enter Tryd.func5, Tryd.ntmps5
  go_wp2_with fail
  refine (awake_any _ HT.out).mono ?_
  rintro e w1 ⟨rfl, b1⟩
  have T1 := Lib.hid (HT.out.next b1)
  go_wp2_with fail
  refine (dec_any n hn _ T1.out).mono ?_
  rintro e w2 ⟨rfl, b2⟩
  have T2 := Lib.hid (T1.out.next b2)
  go_wp2_with fail
  refine (readDec_dec n hn _).mono ?_
  rintro e w3 ⟨rfl, b3⟩
  have T3 := Lib.hid (T2.out.next b3)
  go_wp2_with fail
  refine (hex_any n hn _ T3.out).mono ?_
  rintro e w4 ⟨rfl, b4⟩
  have T4 := Lib.hid (T3.out.next b4)
  go_wp2_with fail
  refine (readHex_hex n hn _).mono ?_
  rintro e w5 ⟨rfl, b5⟩
  have B5 := Below.chain (Below.chain (Below.chain (Below.chain b1 b2) b3) b4) b5
  clear b1 b2 b3 b4 b5 T1 T2 T3 T4
  go_wp2_with fail
  refine (bytes_at a cap xs _ (by omega) (HX.out.below B5)).mono ?_
  rintro e w6 ⟨rfl, b6⟩
  have B6 := Below.chain B5 b6
  clear B5 b6
  go_wp2_with fail
  refine (readBytes_hex xs hxl _).mono ?_
  rintro e w7 ⟨v7, rfl, o7, b7⟩
  have B7 := Below.chain B6 b7
  have c1 := conv_own xs v7 w7 _ _ rfl o7
  have c2 := conv_at a cap xs w7 (HX.out.below B7)
  clear B6 b7 o7
  go_wp2_with fail
  refine (R8.out _).mono ?_
  rintro e w8 ⟨rfl, b8⟩
  clear c1 c2
  go_wp2_with fail
  refine (R9.out _).mono ?_
  rintro e w9 ⟨rfl, b9⟩
  go_wp2_with fail
  refine (R10.out _).mono ?_
  rintro e w10 ⟨v, rfl, o10, b10⟩
  have B10 := Below.chain (Below.chain (Below.chain B7 b8) b9) b10
  have T10 := Lib.hid (HT.out.next B10)
  clear B7 b8 b9 b10 HX
  clear R8 R9 R10
  go_upto_region 11 with fail
  go_cut [118] (fun c wx => c = .bool false ∧ Below w.heap.size w wx)
  case first =>
    cases oA with
    | none =>
      cases oC with
      | none =>
        cases oD with
        | none =>
          go_wp2_with fail
          go_meet
          case rel => exact ⟨rfl, B10⟩
        | some ys =>
          go_wp2_with fail
          refine (bytes_back s hsl ys HD.out.symm v _ _ o10).mono ?_
          rintro e x3 ⟨rfl, y3⟩
          go_wp2_with fail
          go_meet
          case rel => exact ⟨rfl, (Below.chain B10 y3)⟩
      | some z =>
        cases oD with
        | none =>
          go_wp2_with fail
          refine (hex_back s z HC.out.symm _ T10.out).mono ?_
          rintro e x2 ⟨rfl, y2⟩
          go_wp2_with fail
          go_meet
          case rel => exact ⟨rfl, (Below.chain B10 y2)⟩
        | some ys =>
          go_wp2_with fail
          refine (hex_back s z HC.out.symm _ T10.out).mono ?_
          rintro e x2 ⟨rfl, y2⟩
          have oy2 := ownsRow_below o10 y2 (fun g hg => (World.ownsRow.lt o10 g hg).2)
          go_wp2_with fail
          refine (bytes_back s hsl ys HD.out.symm v _ _ oy2).mono ?_
          rintro e x3 ⟨rfl, y3⟩
          go_wp2_with fail
          go_meet
          case rel => exact ⟨rfl, (Below.chain (Below.chain B10 y2) y3)⟩
    | some u =>
      cases oC with
      | none =>
        cases oD with
        | none =>
          go_wp2_with fail
          refine (dec_back s u HA.out.symm _ T10.out).mono ?_
          rintro e x1 ⟨rfl, y1⟩
          have T11 := Lib.hid (T10.out.next y1)
          go_wp2_with fail
          go_meet
          case rel => exact ⟨rfl, (Below.chain B10 y1)⟩
        | some ys =>
          go_wp2_with fail
          refine (dec_back s u HA.out.symm _ T10.out).mono ?_
          rintro e x1 ⟨rfl, y1⟩
          have T11 := Lib.hid (T10.out.next y1)
          have oy1 := ownsRow_below o10 y1 (fun g hg => (World.ownsRow.lt o10 g hg).2)
          go_wp2_with fail
          refine (bytes_back s hsl ys HD.out.symm v _ _ oy1).mono ?_
          rintro e x3 ⟨rfl, y3⟩
          go_wp2_with fail
          go_meet
          case rel => exact ⟨rfl, (Below.chain (Below.chain B10 y1) y3)⟩
      | some z =>
        cases oD with
        | none =>
          go_wp2_with fail
          refine (dec_back s u HA.out.symm _ T10.out).mono ?_
          rintro e x1 ⟨rfl, y1⟩
          have T11 := Lib.hid (T10.out.next y1)
          go_wp2_with fail
          refine (hex_back s z HC.out.symm _ T11.out).mono ?_
          rintro e x2 ⟨rfl, y2⟩
          go_wp2_with fail
          go_meet
          case rel => exact ⟨rfl, (Below.chain (Below.chain B10 y1) y2)⟩
        | some ys =>
          go_wp2_with fail
          refine (dec_back s u HA.out.symm _ T10.out).mono ?_
          rintro e x1 ⟨rfl, y1⟩
          have T11 := Lib.hid (T10.out.next y1)
          go_wp2_with fail
          refine (hex_back s z HC.out.symm _ T11.out).mono ?_
          rintro e x2 ⟨rfl, y2⟩
          have oy1 := ownsRow_below o10 y1 (fun g hg => (World.ownsRow.lt o10 g hg).2)
          have oy2 := ownsRow_below oy1 y2 (fun g hg => (World.ownsRow.lt oy1 g hg).2)
          go_wp2_with fail
          refine (bytes_back s hsl ys HD.out.symm v _ _ oy2).mono ?_
          rintro e x3 ⟨rfl, y3⟩
          go_wp2_with fail
          go_meet
          case rel => exact ⟨rfl, (Below.chain (Below.chain (Below.chain B10 y1) y2) y3)⟩
  case rest =>
    obtain ⟨rfl, hB⟩ := hcut
    clear HA HC HD B10 T10 o10
    have T0 := Lib.hid (HT.out.next hB)
    clear HT
    obtain ⟨X, hX⟩ : ∃ X : ByteArray, X = ⟨(Dg.putB 10 n).toArray⟩ := ⟨_, rfl⟩
    obtain ⟨Y, hY⟩ : ∃ Y : ByteArray, Y = ⟨(Dg.putB 10 m).toArray⟩ := ⟨_, rfl⟩
    obtain ⟨X6, hX6⟩ : ∃ X : ByteArray, X = ⟨(Dg.putB 16 n).toArray⟩ := ⟨_, rfl⟩
    obtain ⟨Y6, hY6⟩ : ∃ Y : ByteArray, Y = ⟨(Dg.putB 16 m).toArray⟩ := ⟨_, rfl⟩
    have dX : Hid (∀ W, Tabs W → Calls Tryd.prog 10 #[.int .u64 (n : Int)] W fun e w' => e = .returned (.string X) ∧ Below W.heap.size W w') := fun W t => by rw [hX]; exact dec_any n hn W t
    have dY : Hid (∀ W, Tabs W → Calls Tryd.prog 10 #[.int .u64 (m : Int)] W fun e w' => e = .returned (.string Y) ∧ Below W.heap.size W w') := fun W t => by rw [hY]; exact dec_any m hm W t
    have eX : Hid (∀ W, Tabs W → Calls Tryd.prog 12 #[.int .u64 (n : Int)] W fun e w' => e = .returned (.string X6) ∧ Below W.heap.size W w') := fun W t => by rw [hX6]; exact hex_any n hn W t
    have eY : Hid (∀ W, Tabs W → Calls Tryd.prog 12 #[.int .u64 (m : Int)] W fun e w' => e = .returned (.string Y6) ∧ Below W.heap.size W w') := fun W t => by rw [hY6]; exact hex_any m hm W t
    have inj : X.toList = Y.toList → n = m := by
      rw [hX, hY, Lib.toList_data, Lib.toList_data, data_mk, data_mk]
      exact Dg.putB_inj 10 n m (by omega) (by omega) hn hm
    have mono10 : m ≤ n → Y.size ≤ X.size := fun h => by rw [hX, hY, size_mk, size_mk]; exact Dg.putB_mono 10 m n (by omega) h
    have mono16 : m ≤ n → Y6.size ≤ X6.size := fun h => by rw [hX6, hY6, size_mk, size_mk]; exact Dg.putB_mono 16 m n (by omega) h
    have z1 : X.size ≤ 20 := by rw [hX, size_mk]; exact Dg.putB_len20 10 n (by omega) hn
    have z2 : Y.size ≤ 20 := by rw [hY, size_mk]; exact Dg.putB_len20 10 m (by omega) hm
    have z3 : X6.size ≤ 20 := by rw [hX6, size_mk]; exact Dg.putB_len20 16 n (by omega) hn
    have z4 : Y6.size ≤ 20 := by rw [hY6, size_mk]; exact Dg.putB_len20 16 m (by omega) hm
    clear hX hY hX6 hY6
    rcases Nat.lt_trichotomy n m with h | h | h
    · have h1 : (n : Int) < (m : Int) := by omega
      have h2 : (X.toList == Y.toList) = false := by rw [beq_eq_false_iff_ne]; intro e; have := inj e; omega
      have h3 : ((n : Int) == (m : Int)) = false := by rw [beq_eq_false_iff_ne]; omega
      clear inj mono10 mono16
      go_wp2_with fail
      refine (dX.out _ T0.out).mono ?_
      rintro e x1 ⟨rfl, y1⟩
      have T1 := Lib.hid (T0.out.next y1)
      go_wp2_with fail
      refine (dY.out _ T1.out).mono ?_
      rintro e x2 ⟨rfl, y2⟩
      go_wp2_with fail
      go_ret
      exact ⟨rfl, Below.chain (Below.chain hB y1) y2⟩
    · subst h
      have h1 : ¬ (n : Int) < (n : Int) := by omega
      clear inj mono10 mono16 dY eY z2 z4 Y Y6
      go_wp2_with fail
      refine (dX.out _ T0.out).mono ?_
      rintro e x1 ⟨rfl, y1⟩
      have T1 := Lib.hid (T0.out.next y1)
      go_wp2_with fail
      refine (dX.out _ T1.out).mono ?_
      rintro e x2 ⟨rfl, y2⟩
      have T2 := Lib.hid (T1.out.next y2)
      go_wp2_with fail
      refine (dX.out _ T2.out).mono ?_
      rintro e x3 ⟨rfl, y3⟩
      have T3 := Lib.hid (T2.out.next y3)
      go_wp2_with fail
      refine (dX.out _ T3.out).mono ?_
      rintro e x4 ⟨rfl, y4⟩
      have T4 := Lib.hid (T3.out.next y4)
      go_wp2_with fail
      refine (eX.out _ T4.out).mono ?_
      rintro e x5 ⟨rfl, y5⟩
      have T5 := Lib.hid (T4.out.next y5)
      go_wp2_with fail
      refine (eX.out _ T5.out).mono ?_
      rintro e x6 ⟨rfl, y6⟩
      go_wp2_with fail
      go_ret
      exact ⟨rfl, Below.chain (Below.chain (Below.chain (Below.chain (Below.chain (Below.chain hB y1) y2) y3) y4) y5) y6⟩
    · have h1 : ¬ (n : Int) < (m : Int) := by omega
      have h2 : (X.toList == Y.toList) = false := by rw [beq_eq_false_iff_ne]; intro e; have := inj e; omega
      have h3 : ((n : Int) == (m : Int)) = false := by rw [beq_eq_false_iff_ne]; omega
      have h4 : (Y.size : Int) ≤ (X.size : Int) := by have := mono10 (by omega); omega
      have h5 : (Y6.size : Int) ≤ (X6.size : Int) := by have := mono16 (by omega); omega
      clear inj mono10 mono16
      go_wp2_with fail
      refine (dX.out _ T0.out).mono ?_
      rintro e x1 ⟨rfl, y1⟩
      have T1 := Lib.hid (T0.out.next y1)
      go_wp2_with fail
      refine (dY.out _ T1.out).mono ?_
      rintro e x2 ⟨rfl, y2⟩
      have T2 := Lib.hid (T1.out.next y2)
      go_wp2_with fail
      refine (dX.out _ T2.out).mono ?_
      rintro e x3 ⟨rfl, y3⟩
      have T3 := Lib.hid (T2.out.next y3)
      go_wp2_with fail
      refine (dY.out _ T3.out).mono ?_
      rintro e x4 ⟨rfl, y4⟩
      have T4 := Lib.hid (T3.out.next y4)
      go_wp2_with fail
      refine (eX.out _ T4.out).mono ?_
      rintro e x5 ⟨rfl, y5⟩
      have T5 := Lib.hid (T4.out.next y5)
      go_wp2_with fail
      refine (eY.out _ T5.out).mono ?_
      rintro e x6 ⟨rfl, y6⟩
      go_wp2_with fail
      go_ret
      exact ⟨rfl, Below.chain (Below.chain (Below.chain (Below.chain (Below.chain (Below.chain hB y1) y2) y3) y4) y5) y6⟩
end Go.Proofs.YtiiaahhdlgoklaaDoor
