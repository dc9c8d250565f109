/- Contracts of split, Magic, Rejected and of the document's. -/
import Derived.Test.YtbpkhjjabnboaaaPa
import Derived.Test.YtbpkhjjabnboaaaOctb
namespace Go.Proofs.Ytbpkhjjabnboaaa
open Go.RowKit S2 S12

set_option maxRecDepth 100000 in
set_option maxHeartbeats 1000000 in
theorem split_any (a : Option Addr) (n cap k : Nat) (xs : List UInt8) (w : World) (hn : xs.length = n) (hm : n ≤ 200000) (hk : 1 ≤ k) (hk8 : k ≤ 8) (h : RowAt w a cap xs) :
    Calls Try.prog 29 #[.slice a n cap, .int .i64 (k : Int)] w fun e w' => NumRes .u64 w w' e (Pk.split xs k) := by
  by_cases hnk : n < k
  · have C1 := Lib.hid (cut_bad a n cap 0 (k : Int) w (by omega) (by omega) (by omega) (by omega))
    rw [Pk.split_few (by omega)]
    clear hn h
    go_enter Try.func29, Try.ntmps29
    go_wp2_with fail
    refine C1.out.mono ?_
    rintro e w1 ⟨rfl, h1⟩; rw [h1]; clear h1 C1
    go_wp2
    go_ret3
    exact num_none (Below.refl _ _)
  · rw [Pk.split_good (by omega)]
    have c1 := cut_good a cap xs 0 k w (by omega) (by omega) h
    rw [hn, List.drop_zero] at c1
    have C1 : Hid (Calls Try.prog 35 #[.slice a n cap, .int .i64 0, .int .i64 (k : Int)] w fun e w' => ∃ v, e = .returned (.tuple #[v, .bool true]) ∧ w'.ownsRow w.heap.size 5 1 v k (Lib.byteCells (xs.take k)) ∧ Below w.heap.size w w') := c1
    have hl : (xs.take k).length = k := by rw [List.length_take]; omega
    have C2 := Lib.hid (fun (a' : Option Addr) (c' : Nat) (W : World) (r : RowAt W a' c' (xs.take k)) => by have := S2.get_at a' c' (xs.take k) true W (by omega) (by omega) r.bytes; rw [hl] at this; exact this)
    have C3 := Lib.hid (fun (W : World) (r : RowAt W a cap xs) => by have := behind_in a cap xs k W (by omega) r (by omega); rw [hn] at this; exact this)
    have HL := Lib.hid hl
    have H := Lib.hid h
    clear c1 hl h
    go_enter Try.func29, Try.ntmps29
    go_wp2_with fail
    refine C1.out.mono ?_
    rintro e w1 ⟨v1, rfl, o1, b1⟩
    obtain ⟨a1, c1, rfl, r1⟩ := rowAt_own HL.out o1
    have B1 := Lib.hid b1
    have R1 := Lib.hid r1
    have H1 := Lib.hid (H.out.next b1)
    clear o1 r1 b1 C1
    go_wp2_with fail
    refine (C2.out a1 c1 w1 R1.out).mono ?_
    rintro e w2 ⟨rfl, h2⟩; rw [h2]; clear h2 C2
    go_wp2_with fail
    refine (C3.out w1 H1.out).mono ?_
    rintro e w3 ⟨v3, rfl, o3, b3⟩
    have B3 := Lib.hid (Below.chain B1.out b3)
    have O3 := Lib.hid (ownsRow_lower o3 B1.out.size)
    clear o3 b3 B1 R1 H1 C3
    go_wp2
    go_ret3
    exact ⟨_, rfl, O3.out, B3.out⟩

theorem num_out {k : IntKind} {w w' : World} {A : Nat × List UInt8 × Bool} (h : A = (0, [], false)) (b : Below w.heap.size w w') : NumRes k w w' (.returned (.tuple #[.int k 0, .slice none 0 0, .bool false])) A := by
  subst h
  exact num_none b

set_option maxRecDepth 100000 in
set_option maxHeartbeats 1000000 in
theorem magic_any (x : Pk.P) (p : Option Addr) (n c : Nat) (w : World) (hn : x.data.length = n) (hm : n ≤ 200000) (h : RowAt w p c x.data) :
    Calls Try.prog 17 #[.agg (pcells x (.slice p n c)).toArray] w fun e w' => NumRes .u32 w w' e (Pk.magic x) := by
  have B0 := Lib.hid (one_pkt w (pcells x (.slice p n c)).toArray).1
  have T0 := Lib.hid (one_pkt w (pcells x (.slice p n c)).toArray).2
  have H := Lib.hid (h.next B0.out)
  simp only [pcells] at B0 T0 H ⊢
  clear h
  by_cases hc : 9 ≤ x.code ∧ x.code ≤ 11
  · rw [Pk.magic_in hc]
    have R := Lib.hid (split_any p n c 4 x.data _ hn hm (by omega) (by omega) H.out)
    have hlt := Pk.split_lt x.data 4
    generalize Pk.split x.data 4 = A at *
    obtain ⟨m, l, q⟩ := A
    have hw : IntKind.u32.wrap (m : Int) = (m : Int) := by rw [IntKind.wrap_u32]; simp only at hlt; omega
    obtain ⟨l1, l2⟩ := hc
    have hcs : x.code = 9 ∨ x.code = 10 ∨ x.code = 11 := by omega
    generalize x.code = cd at *
    clear hn H T0 hlt
    rcases hcs with rfl | rfl | rfl
    · clear l1 l2
      go_enter Try.func17, Try.ntmps17
      go_wp2_with fail
      refine R.out.mono ?_
      rintro e w1 h1
      obtain ⟨a1, c1, rfl, o1, r1, b1⟩ := h1.row
      have B1 := Lib.hid (Below.chain B0.out b1)
      have O1 := Lib.hid (ownsRow_lower o1 B0.out.size)
      clear o1 r1 b1 h1 R
      simp only
      go_wp2
      go_ret3
      exact ⟨_, rfl, O1.out, B1.out⟩
    · clear l1 l2
      go_enter Try.func17, Try.ntmps17
      go_wp2_with fail
      refine R.out.mono ?_
      rintro e w1 h1
      obtain ⟨a1, c1, rfl, o1, r1, b1⟩ := h1.row
      have B1 := Lib.hid (Below.chain B0.out b1)
      have O1 := Lib.hid (ownsRow_lower o1 B0.out.size)
      clear o1 r1 b1 h1 R
      simp only
      go_wp2
      go_ret3
      exact ⟨_, rfl, O1.out, B1.out⟩
    · clear l1 l2
      go_enter Try.func17, Try.ntmps17
      go_wp2_with fail
      refine R.out.mono ?_
      rintro e w1 h1
      obtain ⟨a1, c1, rfl, o1, r1, b1⟩ := h1.row
      have B1 := Lib.hid (Below.chain B0.out b1)
      have O1 := Lib.hid (ownsRow_lower o1 B0.out.size)
      clear o1 r1 b1 h1 R
      simp only
      go_wp2
      go_ret3
      exact ⟨_, rfl, O1.out, B1.out⟩
  · have hc0 := Lib.hid (Pk.magic_out hc)
    have d1 : (x.code == 9) = false := by simp; omega
    have d2 : (x.code == 10) = false := by simp; omega
    have d3 : (x.code == 11) = false := by simp; omega
    clear hn hc H T0
    go_enter Try.func17, Try.ntmps17
    go_wp2
    go_ret3
    exact num_out hc0.out B0.out

set_option maxRecDepth 100000 in
set_option maxHeartbeats 1000000 in
theorem rejected_any (x : Pk.P) (p : Option Addr) (n c : Nat) (w : World) (hn : x.data.length = n) (hm : n ≤ 200000) (h : RowAt w p c x.data) :
    Calls Try.prog 19 #[.agg (pcells x (.slice p n c)).toArray] w fun e w' => NumRes .i64 w w' e (Pk.rejected x) := by
  have B0 := Lib.hid (one_pkt w (pcells x (.slice p n c)).toArray).1
  have T0 := Lib.hid (one_pkt w (pcells x (.slice p n c)).toArray).2
  have H := Lib.hid (h.next B0.out)
  simp only [pcells] at B0 T0 H ⊢
  clear h
  by_cases hc : x.code = 8
  · rw [Pk.rejected_in hc]
    have R := Lib.hid (split_any p n c 2 x.data _ hn hm (by omega) (by omega) H.out)
    have hlt := Pk.split_lt x.data 2
    generalize Pk.split x.data 2 = A at *
    obtain ⟨m, l, q⟩ := A
    have hw : IntKind.i64.wrap (m : Int) = (m : Int) := by rw [IntKind.wrap_i64]; simp only at hlt; omega
    generalize x.code = cd at *
    subst hc
    clear hn H T0 hlt
    go_enter Try.func19, Try.ntmps19
    go_wp2_with fail
    refine R.out.mono ?_
    rintro e w1 h1
    obtain ⟨a1, c1, rfl, o1, r1, b1⟩ := h1.row
    have B1 := Lib.hid (Below.chain B0.out b1)
    have O1 := Lib.hid (ownsRow_lower o1 B0.out.size)
    clear o1 r1 b1 h1 R
    simp only
    go_wp2
    go_ret3
    exact ⟨_, rfl, O1.out, B1.out⟩
  · have hc0 := Lib.hid (Pk.rejected_out hc)
    have d1 : (x.code != 8) = true := by simpa using hc
    clear hn hc H T0
    go_enter Try.func19, Try.ntmps19
    go_wp2
    go_ret3
    exact num_out hc0.out B0.out
end Go.Proofs.Ytbpkhjjabnboaaa
