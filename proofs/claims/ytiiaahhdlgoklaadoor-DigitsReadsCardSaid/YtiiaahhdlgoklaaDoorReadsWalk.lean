/- DigitsReads: the walk. -/
import Derived.Test.YtiiaahhdlgoklaaDoorRc
namespace Go.Proofs.YtiiaahhdlgoklaaDoor
open Go.RowKit Go.Sort

theorem get10 (s : ByteArray) (w : World) (hs : s.size ≤ 100000) :
    Calls Tryd.prog 16 #[.string s, .int .u64 10] w fun e w' => e = .returned (.tuple #[.int .u64 (((Dg.rdN 10 s.data.toList).getD 0 : Nat) : Int), .bool (Dg.rdN 10 s.data.toList).isSome]) ∧ Below w.heap.size w w' := get_any s 10 w hs (by omega) (by omega)
theorem get16 (s : ByteArray) (w : World) (hs : s.size ≤ 100000) :
    Calls Tryd.prog 16 #[.string s, .int .u64 16] w fun e w' => e = .returned (.tuple #[.int .u64 (((Dg.rdN 16 s.data.toList).getD 0 : Nat) : Int), .bool (Dg.rdN 16 s.data.toList).isSome]) ∧ Below w.heap.size w w' := get_any s 16 w hs (by omega) (by omega)

set_option maxHeartbeats 2000000 in
set_option maxRecDepth 100000 in
theorem reads_walk (s : ByteArray) (w : World) (hs : s.size ≤ maxLen) (ht : Tabs w) :
    Calls Tryd.prog 4 #[.string s] w fun e w' => e = .returned (.bool true) ∧ Below w.heap.size w w' := by
  unfold maxLen at hs
  have HT := Lib.hid ht
  clear ht
  by_cases hg : (2000 : Int) < (s.size : Int)
  · go_enter Tryd.func4, Tryd.ntmps4
    go_wp2_with fail
    refine (awake_any _ HT.out).mono ?_
    rintro e w1 ⟨rfl, b1⟩
    go_wp2_with fail
    refine (awake_any _ (HT.out.next b1)).mono ?_
    rintro e w2 ⟨rfl, b2⟩
    go_wp2_with fail
    go_ret
    exact ⟨rfl, Below.chain b1 b2⟩
  · have hsz : s.size ≤ 2000 := by omega
    obtain ⟨oA, hoA⟩ : ∃ o, o = Dg.rdN 10 s.data.toList := ⟨_, rfl⟩
    obtain ⟨oC, hoC⟩ : ∃ o, o = Dg.rdN 16 s.data.toList := ⟨_, rfl⟩
    obtain ⟨oD, hoD⟩ : ∃ o, o = Dg.unhex s.data.toList := ⟨_, rfl⟩
    have R1 : Hid (∀ W, Calls Tryd.prog 15 #[.string s] W fun e w' => e = .returned (.tuple #[.int .u64 ((oA.getD 0 : Nat) : Int), .bool oA.isSome]) ∧ Below W.heap.size W w') := fun W => by rw [hoA]; exact readDec_any s W (by unfold maxLen; omega)
    have R2 : Hid (∀ W, Calls Tryd.prog 16 #[.string s, .int .u64 10] W fun e w' => e = .returned (.tuple #[.int .u64 ((oA.getD 0 : Nat) : Int), .bool oA.isSome]) ∧ Below W.heap.size W w') := fun W => by rw [hoA]; exact get10 s W (by omega)
    have R3 : Hid (∀ W, Calls Tryd.prog 17 #[.string s] W fun e w' => e = .returned (.tuple #[.int .u64 ((oC.getD 0 : Nat) : Int), .bool oC.isSome]) ∧ Below W.heap.size W w') := fun W => by rw [hoC]; exact readHex_any s W (by unfold maxLen; omega)
    have R4 : Hid (∀ W, Calls Tryd.prog 16 #[.string s, .int .u64 16] W fun e w' => e = .returned (.tuple #[.int .u64 ((oC.getD 0 : Nat) : Int), .bool oC.isSome]) ∧ Below W.heap.size W w') := fun W => by rw [hoC]; exact get16 s W (by omega)
    have R5 : Hid (∀ W, Calls Tryd.prog 18 #[.string s] W fun e w' => ∃ v, e = .returned (.tuple #[v, .bool oD.isSome]) ∧ w'.ownsRow W.heap.size 5 1 v (oD.getD []).length (Lib.byteCells (oD.getD [])) ∧ Below W.heap.size W w') := fun W => by rw [hoD]; exact readBytes_u s W (by omega)
    have R6 : Hid (∀ W, Calls Tryd.prog 19 #[.string s] W fun e w' => ∃ v, e = .returned (.tuple #[v, .bool oD.isSome]) ∧ w'.ownsRow W.heap.size 5 1 v (oD.getD []).length (Lib.byteCells (oD.getD [])) ∧ Below W.heap.size W w') := fun W => by rw [hoD]; exact refReadBytes_any s W (by omega)
    clear hoA hoC hoD
    generalize oA.getD 0 = qa at *
    generalize oA.isSome = ba at *
    generalize oC.getD 0 = qc at *
    generalize oC.isSome = bc at *
    generalize oD.getD [] = ys at *
    generalize oD.isSome = bd at *
    go_enter Tryd.func4, Tryd.ntmps4
    go_wp2_with fail
    refine (awake_any _ HT.out).mono ?_
    rintro e w1 ⟨rfl, b1⟩
    go_wp2_with fail
    refine (R1.out _).mono ?_
    rintro e w2 ⟨rfl, b2⟩
    go_wp2_with fail
    refine (R2.out _).mono ?_
    rintro e w3 ⟨rfl, b3⟩
    go_wp2_with fail
    refine (R3.out _).mono ?_
    rintro e w4 ⟨rfl, b4⟩
    go_wp2_with fail
    refine (R4.out _).mono ?_
    rintro e w5 ⟨rfl, b5⟩
    go_wp2_with fail
    refine (R5.out _).mono ?_
    rintro e w6 ⟨v1, rfl, o1, b6⟩
    go_wp2_with fail
    refine (R6.out _).mono ?_
    rintro e w7 ⟨v2, rfl, o2, b7⟩
    have c1 := conv_own ys v1 w7 _ _ rfl (ownsRow_below o1 b7 (fun g hg => (World.ownsRow.lt o1 g hg).2))
    have c2 := conv_own ys v2 w7 _ _ rfl o2
    have B := Below.chain (Below.chain (Below.chain (Below.chain (Below.chain (Below.chain b1 b2) b3) b4) b5) b6) b7
    clear b1 b2 b3 b4 b5 b6 b7 o1 o2 R1 R2 R3 R4 R5 R6
    go_wp2
    go_ret
    exact ⟨rfl, B⟩
end Go.Proofs.YtiiaahhdlgoklaaDoor
