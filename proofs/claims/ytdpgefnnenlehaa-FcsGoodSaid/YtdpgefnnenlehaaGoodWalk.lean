/- FcsGood: the walk. -/
import Derived.Test.YtdpgefnnenlehaaKeepsWalk
namespace Go.Proofs.Ytdpgefnnenlehaa
open Go.RowKit
namespace Fc
theorem turn_one (T k : Nat) (h : T / 2 ^ k % 2 = 1) : T % 2 ^ (k + 1) = T % 2 ^ k ^^^ 2 ^ k := by
  apply Nat.eq_of_testBit_eq
  intro i
  rw [Nat.testBit_mod_two_pow, Nat.testBit_xor, Nat.testBit_mod_two_pow, Nat.testBit_two_pow]
  by_cases e : k = i
  · subst e
    have hb : T.testBit k = true := by rw [Nat.testBit_eq_decide_div_mod_eq]; exact decide_eq_true h
    simp [hb]
  · have h1 : (i < k + 1) = (i < k) := by rw [eq_iff_iff]; omega
    simp [e, h1]
theorem turn_none (T k : Nat) (h : ¬ T / 2 ^ k % 2 = 1) : T % 2 ^ (k + 1) = T % 2 ^ k := by
  rw [Nat.pow_succ, Nat.mod_mul, show T / 2 ^ k % 2 = 0 by omega, Nat.mul_zero, Nat.add_zero]
theorem turn_pos (T k : Nat) (h : T / 2 ^ k % 2 = 1) : ¬ T % 2 ^ (k + 1) = 0 := by
  rw [Nat.pow_succ, Nat.mod_mul, h, Nat.mul_one]
  have : 0 < 2 ^ k := Nat.pow_pos (by omega)
  omega
theorem burst_step (f k A : Nat) : 2 ^ f * (A ^^^ 2 ^ k) = 2 ^ f * A ^^^ 2 ^ (f + k) := by
  rw [mul_xor, Nat.pow_add]
/-- The bits that are turned so far. -/
structure Turned (Z ys : List UInt8) (f T k : Nat) : Prop where
  len : ys.length = Z.length
  num : val ys = val Z ^^^ 2 ^ f * (T % 2 ^ k)
theorem Turned.start (Z : List UInt8) (f T : Nat) : Turned Z Z f T 0 := ⟨rfl, by simp [Nat.mod_one]⟩
theorem Turned.stay {Z ys : List UInt8} {f T k : Nat} (h : Turned Z ys f T k) (hb : ¬ T / 2 ^ k % 2 = 1) : Turned Z ys f T (k + 1) := ⟨h.len, by rw [turn_none T k hb]; exact h.num⟩
theorem Turned.turn {Z ys : List UInt8} {f T k q r : Nat} (h : Turned Z ys f T k) (hb : T / 2 ^ k % 2 = 1) (hq : q < ys.length) (hr : r < 8) (hqr : 8 * q + r = f + k) : Turned Z (ys.set q (UInt8.ofNat (ys[q].toNat ^^^ 2 ^ r))) f T (k + 1) := by
  refine ⟨by rw [List.length_set]; exact h.len, ?_⟩
  rw [val_set _ _ _ hq hr, h.num, turn_one T k hb, burst_step, hqr, Nat.xor_assoc]
end Fc

set_option maxRecDepth 10000 in
set_option maxHeartbeats 1000000 in
theorem good_long_ (a : Option Addr) (cap n m T : Nat) (wide : Bool) (w : World) (hg : (2000 : Int) < (n : Int)) :
    Calls Try.prog 5 #[.slice a n cap, .bool wide, .int .u16 (m : Int), .int .u32 (T : Int)] w fun e w' => e = .returned (.bool true) ∧ Below w.heap.size w w' := by
  go_enter Try.func5, Try.ntmps5
  go_wp2_with fail
  refine (awake_any _).mono ?_
  rintro e w1 ⟨rfl, b1⟩
  go_wp2_with fail
  refine (awake_any _).mono ?_
  rintro e w2 ⟨rfl, b2⟩
  go_wp2
  go_ret
  exact ⟨rfl, Below.chain b1 b2⟩




set_option maxRecDepth 100000 in
set_option maxHeartbeats 4000000 in
theorem good_main (a : Option Addr) (cap : Nat) (xs : List UInt8) (n m T : Nat) (wide : Bool) (w : World) (hn : xs.length = n) (h : RowAt w a cap xs) (hm : m < 65536) (hT : T < 4294967296) (hg : ¬ (2000 : Int) < (n : Int)) :
    Calls Try.prog 5 #[.slice a n cap, .bool wide, .int .u16 (m : Int), .int .u32 (T : Int)] w fun e w' => e = .returned (.bool true) ∧ Below w.heap.size w w' := by
  have hZl : (Fc.sealed xs wide).length = n + Fc.size wide := by rw [Fc.sealed_length, hn]
  have hs4 := Fc.size_le wide
  have hs2 := Fc.size_pos wide
  have hZg := Fc.sealed_good xs wide
  have hZt : (Fc.sealed xs wide).take (n + Fc.size wide - Fc.size wide) = xs := by
    rw [Nat.add_sub_cancel, ← hn]; unfold Fc.sealed; exact List.take_left
  have c19 : ∀ (a : Option Addr) (cap : Nat) (W : World), RowAt W a cap xs → _ := fun a cap W h => seal_any a n cap xs wide W hn (by omega) h
  have c16 : ∀ (a : Option Addr) (cap : Nat) (W : World), RowAt W a cap (Fc.sealed xs wide) → _ := fun a cap W h => open_good a (n + Fc.size wide) cap (Fc.sealed xs wide) wide W hZl (by omega) h hZg
  have c18 : ∀ (a : Option Addr) (cap : Nat) (ys : List UInt8) (W : World), ys.length = n + Fc.size wide → RowAt W a cap ys → _ := fun a cap ys W hl h => good_any a (n + Fc.size wide) cap ys wide W hl (by omega) h
  have hbu : ∀ (ys : List UInt8) (f k : Nat), Fc.Turned (Fc.sealed xs wide) ys f T k → k ≤ 8 * Fc.size wide → f ≤ 8 * (n + Fc.size wide) → Fc.good ys wide = decide (T % 2 ^ k = 0) := fun ys f k ht hk hf =>
    Fc.burst (Fc.sealed xs wide) ys wide f (T % 2 ^ k) hZg ht.len (by omega) (by omega) (Nat.lt_of_lt_of_le (Nat.mod_lt _ (Nat.pow_pos (by omega))) (Nat.pow_le_pow_right (by omega) hk)) ht.num
  have hsz := fun w => size_any wide w
  simp only [hZl] at c19
  simp only [hZt] at c16
  simp only [Nat.add_sub_cancel] at c16
  clear hZt
  have hst := fun f => Fc.Turned.start (Fc.sealed xs wide) f T
  generalize Fc.sealed xs wide = Z at c19 c16 hZl hZg hbu hst
  have hz1 : n + Fc.size wide ≤ 3000 := by omega
  have hz2 : 2 ≤ n + Fc.size wide := by omega
  obtain ⟨z, hz⟩ : ∃ z, z = n + Fc.size wide := ⟨_, rfl⟩
  rw [← hz] at c19 c16 c18 hZl hz1 hz2 hbu
  obtain ⟨s, hs⟩ : ∃ s, s = Fc.size wide := ⟨_, rfl⟩
  rw [← hs] at hsz hs2 hs4 hz hbu
  have hzi : (n : Int) + (s : Int) = (z : Int) := by omega
  have h8s : 8 * (s : Int) = ((8 * s : Nat) : Int) := by omega
  have h8z : 8 * (z : Int) = ((8 * z : Nat) : Int) := by omega
  obtain ⟨n2, hn2⟩ : ∃ n2, n2 = 8 * s := ⟨_, rfl⟩
  obtain ⟨z8, hz8⟩ : ∃ z8, z8 = 8 * z := ⟨_, rfl⟩
  rw [← hn2] at h8s hbu
  rw [← hz8] at h8z hbu
  obtain ⟨f, hf⟩ : ∃ f, f = m % z8 := ⟨_, rfl⟩
  have hfl : f < z8 := by rw [hf]; exact Nat.mod_lt _ (by omega)
  have hrem : (m : Int) % (z8 : Int) = (f : Int) := by rw [hf]; simp
  have hnz : ((z8 : Int) == 0) = false := by simp; omega
  have hnz2 : ¬ (z8 : Int) = 0 := by omega
  have H := Lib.hid h
  have Hn := Lib.hid hn
  have HZl := Lib.hid hZl
  have HZg := Lib.hid hZg
  have C19 := Lib.hid c19
  have C16 := Lib.hid c16
  have C18 := Lib.hid c18
  have Hbu := Lib.hid hbu
  have Hz8 := Lib.hid hz8
  have hn2l : n2 ≤ 32 := by omega
  have hz8l : z8 ≤ 24000 := by omega
  have hst2 := Lib.hid (hst f)
  have Hst := hst2
  clear h hn hZl c19 c16 c18 hbu hZg hst hst2 hf hz hs hn2 hz8
  go_enter Try.func5, Try.ntmps5
  go_wp2_with fail
  refine (awake_any _).mono ?_
  rintro e w5 ⟨rfl, b05⟩
  go_wp2_with fail
  refine (C19.out a cap w5 (H.out.next b05)).mono ?_
  rintro e w6 ⟨v6, rfl, o6, b6⟩
  obtain ⟨a6, c6, rfl, r6⟩ := rowAt_own HZl.out o6
  have O6 := Lib.hid (ownsRow_lower o6 b05.size)
  have R6 := Lib.hid r6
  replace b05 := Below.chain b05 b6
  clear o6 r6 b6
  go_wp2_with fail
  refine (C16.out a6 c6 w6 R6.out).mono ?_
  rintro e w7 ⟨v7, rfl, o7, b7⟩
  obtain ⟨a7, c7, rfl, r7⟩ := rowAt_own Hn.out o7
  replace b05 := Below.chain b05 b7
  have hcv7 := conv_row Hn.out r7
  have hcva := conv_row Hn.out (H.out.next b05)
  have O6w := Lib.hid (ownsRow_next O6.out b7)
  have R6w := Lib.hid (R6.out.next b7)
  clear o7 r7 b7 O6 R6
  go_wp2_with (go_at_call 14; refine (hsz _).mono ?_; rintro e w' ⟨rfl, h⟩; rw [h]; clear h)
  have h18 := C18.out a6 c6 Z w7 HZl.out R6w.out
  rw [HZg.out] at h18
  refine h18.mono ?_
  rintro e w8 ⟨rfl, b8⟩
  replace b05 := Below.chain b05 b8
  have O8 := Lib.hid (ownsRow_next O6w.out b8)
  clear h18 hcv7 hcva O6w R6w b8
  go_wp2_with (go_at_call 14; refine (hsz _).mono ?_; rintro e w' ⟨rfl, h⟩; rw [h]; clear h)
  have B05 := Lib.hid b05
  clear b05
  go_loopw [14, 15] (fun sm i wr => ∃ (k : Nat) (ys : List UInt8), k ≤ n2 ∧ f + k ≤ z8 ∧ i = .int .i64 (k : Int) ∧ sm = .bool (!decide (T % 2 ^ k = 0)) ∧ Fc.Turned Z ys f T k ∧ wr.ownsRow w.heap.size 5 1 (.slice a6 z c6) z (Lib.byteCells ys) ∧ Below w.heap.size w wr) (fun _ i _ => n2 - (intOf i).toNat)
  case atStart => exact ⟨0, Z, Nat.zero_le _, by omega, rfl, by simp [Nat.mod_one], Hst.out, O8.out, B05.out⟩
  case round =>
    obtain ⟨k, ys, hk, hfk, rfl, rfl, htu, hown, hbw⟩ := hrel
    clear O8 B05 Hst
    by_cases hlt : (k : Int) < (n2 : Int) ∧ (f : Int) + (k : Int) < (z8 : Int)
    · obtain ⟨hl1, hl2⟩ := hlt
      by_cases hb : T / 2 ^ k % 2 = 1
      · obtain ⟨q, hq⟩ : ∃ q, q = (f + k) / 8 := ⟨_, rfl⟩
        obtain ⟨r, hr⟩ : ∃ r, r = (f + k) % 8 := ⟨_, rfl⟩
        have hqz : q < z := by have := Hz8.out; omega
        have hyl : ys.length = z := by rw [htu.len, HZl.out]
        have hql : q < ys.length := by omega
        have hr8 : r < 8 := by omega
        have hqi : ((f : Int) + (k : Int)) / 8 = (q : Int) := by omega
        have hri : ((f : Int) + (k : Int)) % 8 = (r : Int) := by omega
        have htt := htu.turn hb hql hr8 (by omega)
        have hps := Fc.turn_pos T k hb
        have hand := Fc.and1 (T / 2 ^ k) (Nat.lt_of_le_of_lt (Nat.div_le_self _ _) hT)
        rw [hb, show ((T / 2 ^ k : Nat) : Int) = (T : Int) / 2 ^ k by simp] at hand
        rcases hown.2 with ⟨hv, h0⟩ | ⟨g, c', cur, hv, hB, _, _, _, _, _⟩
        · omega
        · simp only [Value.slice.injEq, true_and] at hv
          obtain ⟨rfl, rfl⟩ := hv
          have hqz1 : q < z * 1 := by omega
          have hcell := hown.cellAt q hqz1
          have hfz := hown.frozenAt q
          have hyk : (Lib.byteCells ys)[q]? = some (.int .u8 ((ys[q]'hql).toNat : Int)) := by simp [Lib.byteCells, hql]
          rw [hyk] at hcell
          have hy8 : ys[q].toNat < 256 := UInt8.toNat_lt _
          have h2r : 2 ^ r < 256 := Nat.pow_lt_pow_right (a := 2) (n := 8) (by omega) hr8
          have hxr := Fc.xor8 ys[q].toNat (2 ^ r) hy8 h2r
          have hxl : ys[q].toNat ^^^ 2 ^ r < 256 := Nat.xor_lt_two_pow (n := 8) hy8 h2r
          have hst := hown.stored q (.int .u8 ((UInt8.ofNat (ys[q].toNat ^^^ 2 ^ r)).toNat : Int))
          rw [← cells_set] at hst
          have hto : ((UInt8.ofNat (ys[q].toNat ^^^ 2 ^ r)).toNat : Int) = ((ys[q].toNat ^^^ 2 ^ r : Nat) : Int) := by rw [UInt8.toNat_ofNat_of_lt' hxl]
          rw [← hxr] at hto
          generalize ys.set q (UInt8.ofNat (ys[q].toNat ^^^ 2 ^ r)) = ys2 at htt hst
          generalize (UInt8.ofNat (ys[q].toNat ^^^ 2 ^ r)).toNat = u2 at hst hto
          generalize ys[q].toNat = y at hcell hto
          have h2i : (2 : Int) ^ r % 256 = ((2 ^ r : Nat) : Int) := by
            have e1 : ((2 ^ r : Nat) : Int) = (2 : Int) ^ r := by simp
            rw [← e1]; exact Int.emod_eq_of_lt (Int.natCast_nonneg _) (by exact_mod_cast h2r)
          have H2i := Lib.hid h2i
          have hkw : (k : Int) % 18446744073709551616 = (k : Int) := by omega
          have hrw : (r : Int) % 18446744073709551616 = (r : Int) := by omega
          have hqzi : (q : Int) < (z : Int) := by omega
          have Htt := Lib.hid htt
          have Hst2 := Lib.hid hst
          have Hto := Lib.hid hto
          have Hps := Lib.hid hps
          have Hq := Lib.hid hq
          clear h2i h2r hy8 htt hst hto hps hq hr hyk hqz1 hxr hxl htu hown hyl hql hb
          go_wp2
          go_roundw
          case rel => exact ⟨k + 1, ys2, by omega, by omega, by go_num, by rw [decide_eq_false Hps.out]; rfl, Htt.out, by rw [H2i.out, ← Hto.out]; exact Hst2.out.1, by rw [H2i.out, ← Hto.out]; exact hbw.setCell hB _⟩
          case measure => simp [intOf]; omega
      · have hand := Fc.and1 (T / 2 ^ k) (Nat.lt_of_le_of_lt (Nat.div_le_self _ _) hT)
        rw [show T / 2 ^ k % 2 = 0 by omega, show ((T / 2 ^ k : Nat) : Int) = (T : Int) / 2 ^ k by simp] at hand
        have Htu := Lib.hid (htu.stay hb)
        have htn := Fc.turn_none T k hb
        rw [← htn]
        have hkw : (k : Int) % 18446744073709551616 = (k : Int) := by omega
        have Hown := Lib.hid hown
        clear htu hb htn hown
        go_wp2
        go_roundw
        case rel => exact ⟨k + 1, ys, by omega, by omega, by go_num, rfl, Htu.out, Hown.out, hbw⟩
        case measure => simp [intOf]; omega
    · have hcase : (¬ (k : Int) < (n2 : Int)) ∨ ((k : Int) < (n2 : Int) ∧ ¬ (f : Int) + (k : Int) < (z8 : Int)) := by omega
      obtain ⟨a', c', he, r⟩ := rowAt_own (show ys.length = z by rw [htu.len, HZl.out]) hown
      cases he
      have h18 := C18.out a6 c6 ys wr (by rw [htu.len, HZl.out]) r
      rw [Hbu.out ys f k htu hk (by omega)] at h18
      have H18 := Lib.hid h18
      have Hbw := Lib.hid hbw
      clear h18 htu hown r hbw hlt
      generalize decide (T % 2 ^ k = 0) = g at H18 ⊢
      rcases hcase with hx | ⟨hx, hy⟩
      · go_wp2_with fail
        refine H18.out.mono ?_
        rintro e w9 ⟨rfl, b9⟩
        go_wp2
        go_ret
        exact ⟨by cases g <;> rfl, Below.chain Hbw.out b9⟩
      · go_wp2_with fail
        refine H18.out.mono ?_
        rintro e w9 ⟨rfl, b9⟩
        go_wp2
        go_ret
        exact ⟨by cases g <;> rfl, Below.chain Hbw.out b9⟩

theorem good_walk (a : Option Addr) (cap : Nat) (xs : List UInt8) (m T : Nat) (wide : Bool) (w : World) (h : RowAt w a cap xs) (hm : m < 65536) (hT : T < 4294967296) :
    Calls Try.prog 5 #[.slice a xs.length cap, .bool wide, .int .u16 (m : Int), .int .u32 (T : Int)] w fun e w' => e = .returned (.bool true) ∧ Below w.heap.size w w' := by
  by_cases hg : (2000 : Int) < (xs.length : Int)
  · exact good_long_ a cap xs.length m T wide w hg
  · exact good_main a cap xs xs.length m T wide w rfl h hm hT hg
end Go.Proofs.Ytdpgefnnenlehaa
