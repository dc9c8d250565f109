/- DigitsPuts: the walk. -/
import Derived.Test.YtiiaahhdlgoklaaDoorRa
import Derived.Test.YtiiaahhdlgoklaaDoorLb
namespace Go.Proofs.YtiiaahhdlgoklaaDoor
open Go.RowKit Go.Sort

theorem bytes_at (a : Option Addr) (cap : Nat) (xs : List UInt8) (w : World) (hl : xs.length ≤ 100000) (h : BytesAt w a xs) :
    Calls Tryd.prog 13 #[.slice a xs.length cap] w fun e w' => e = .returned (.string ⟨(Dg.hexs xs).toArray⟩) ∧ Below w.heap.size w w' := by
  rcases h with rfl | ⟨b, off, rfl, hb, hc⟩
  · exact bytes_none a cap w
  · exact bytes_some b off cap xs w hl hb hc
theorem refBytes_at (a : Option Addr) (cap : Nat) (xs : List UInt8) (w : World) (hl : xs.length ≤ 100000) (h : BytesAt w a xs) :
    Calls Tryd.prog 14 #[.slice a xs.length cap] w fun e w' => e = .returned (.string ⟨(Dg.hexs xs).toArray⟩) ∧ Below w.heap.size w w' := by
  rcases h with rfl | ⟨b, off, rfl, hb, hc⟩
  · exact refBytes_none a cap w
  · exact refBytes_some b off cap xs w hl hb hc
theorem BytesAt.below {w w' : World} {a : Option Addr} {xs : List UInt8} (h : BytesAt w a xs) (hb : Below w.heap.size w w') : BytesAt w' a xs := by
  rcases h with rfl | ⟨b, off, rfl, h1, h2⟩
  · exact .inl rfl
  · exact .inr ⟨b, off, rfl, Nat.lt_of_lt_of_le h1 hb.size, fun j hj => by rw [hb.cell (p := ⟨b, off + j, none⟩) h1]; exact h2 j hj⟩

theorem put10 (n : Nat) (w : World) (hn : n < 18446744073709551616) : Calls Tryd.prog 11 #[.int .u64 (n : Int), .int .u64 10] w fun e w' => e = .returned (.string ⟨(Dg.putB 10 n).toArray⟩) ∧ Below w.heap.size w w' := put_any n 10 w hn (by omega) (by omega)
theorem put16 (n : Nat) (w : World) (hn : n < 18446744073709551616) : Calls Tryd.prog 11 #[.int .u64 (n : Int), .int .u64 16] w fun e w' => e = .returned (.string ⟨(Dg.putB 16 n).toArray⟩) ∧ Below w.heap.size w w' := put_any n 16 w hn (by omega) (by omega)

/-- A chain of worlds. -/
theorem Below.chain {a b c : World} (h : Below a.heap.size a b) (k : Below b.heap.size b c) : Below a.heap.size a c := h.trans (k.mono h.size)
theorem Tabs.next {w w' : World} (h : Tabs w) (hb : Below w.heap.size w w') : Tabs w' := h.below hb h.2.2

set_option maxHeartbeats 2000000 in
set_option maxRecDepth 100000 in
theorem puts_walk (n : Nat) (a : Option Addr) (cap : Nat) (xs : List UInt8) (w : World) (hn : n < 18446744073709551616) (hl : xs.length ≤ maxLen) (hx : BytesAt w a xs) (ht : Tabs w) :
    Calls Tryd.prog 3 #[.int .u64 (n : Int), .slice a xs.length cap] w fun e w' => e = .returned (.bool true) ∧ Below w.heap.size w w' := by
  unfold maxLen at hl
  have HT := Lib.hid ht
  have HX := Lib.hid hx
  clear ht hx
  by_cases hg : (2000 : Int) < (xs.length : Int)
  · go_enter Tryd.func3, Tryd.ntmps3
    go_wp2_with fail
    refine (awake_any _ HT.out).mono ?_
    rintro e w1 ⟨rfl, b1⟩
    go_wp2_with fail
    refine (awake_any _ (HT.out.next b1)).mono ?_
    rintro e w2 ⟨rfl, b2⟩
    go_wp2_with fail
    go_ret
    exact ⟨rfl, Below.chain b1 b2⟩
  · go_enter Tryd.func3, Tryd.ntmps3
    go_wp2_with fail
    refine (awake_any _ HT.out).mono ?_
    rintro e w1 ⟨rfl, b1⟩
    have HT1 := Lib.hid (HT.out.next b1)
    go_wp2_with fail
    refine (dec_any n hn _ HT1.out).mono ?_
    rintro e w2 ⟨rfl, b2⟩
    have HT2 := Lib.hid (HT1.out.next b2)
    go_wp2_with fail
    refine (put10 n _ hn).mono ?_
    rintro e w3 ⟨rfl, b3⟩
    have HT3 := Lib.hid (HT2.out.next b3)
    go_wp2_with fail
    refine (hex_any n hn _ HT3.out).mono ?_
    rintro e w4 ⟨rfl, b4⟩
    go_wp2_with fail
    refine (put16 n _ hn).mono ?_
    rintro e w5 ⟨rfl, b5⟩
    have b15 := Below.chain (Below.chain (Below.chain (Below.chain b1 b2) b3) b4) b5
    clear b1 b2 b3 b4 b5 HT1 HT2 HT3
    go_wp2_with fail
    refine (bytes_at a cap xs _ (by omega) (HX.out.below b15)).mono ?_
    rintro e w6 ⟨rfl, b6⟩
    have b16 := Below.chain b15 b6
    go_wp2_with fail
    refine (refBytes_at a cap xs _ (by omega) (HX.out.below b16)).mono ?_
    rintro e w7 ⟨rfl, b7⟩
    go_wp2_with fail
    go_ret
    exact ⟨rfl, Below.chain b16 b7⟩
end Go.Proofs.YtiiaahhdlgoklaaDoor
