/- Plain mathematics of layer 1 (digits), sixth part: a nought ahead, a sign behind. No program stands in it. -/
import Derived.Test.YtiiaahhdlgoklaaDoorPlaind
namespace Go.Proofs.YtiiaahhdlgoklaaDoor
namespace Dg

theorem putB_ne (b n : Nat) : putB b n ≠ [] := by
  rw [putB]; split <;> simp
/-- A nought ahead of digits makes them none's. -/
theorem rdN_ahead (b n : Nat) : rdN b (48 :: putB b n) = none := by
  rw [rdN_cons, if_pos ⟨rfl, putB_ne b n⟩]
/-- A sign behind a small number's digits. -/
theorem rdN_behind (b n : Nat) (c : UInt8) (hb : 10 ≤ b) (hb2 : b ≤ 16) (hn : n < 1000) : (rdN b (putB b n ++ [c])).isSome = (okb b c && decide (n ≠ 0)) := by
  rcases Nat.eq_zero_or_pos n with rfl | hpos
  · rw [putB_small b 0 (by omega)]
    have e : rdN b ([sg 0] ++ [c]) = none := by
      show rdN b (sg 0 :: [c]) = none
      rw [rdN_cons, if_pos ⟨by decide, by simp⟩]
    rw [e]; simp
  · obtain ⟨d, t, e, h1, h2⟩ := putB_head b n (by omega) hb2 hpos
    have h3 : rdN b (putB b n ++ [c]) = rd b n [c] := by
      have h4 := rd_putB b n [c] (by omega) hb2 (by omega)
      rw [← h4, e, List.cons_append, rdN_cons, if_neg]
      rintro ⟨h5, _⟩
      have := sg_zero d (by omega) h5
      omega
    rw [h3]
    cases hv : dv c.toNat with
    | none => rw [rd_none b n c [] hv]; simp [okb, hv]
    | some x =>
      have hx := dv_lt hv
      rw [rd_cons b n c [] x hv]
      have hle : n ≤ (18446744073709551615 - x) / b := by
        rw [Nat.le_div_iff_mul_le (by omega)]
        have : n * b ≤ n * 16 := Nat.mul_le_mul_left _ hb2
        omega
      by_cases hxb : x < b
      · rw [if_pos ⟨hxb, hle⟩]
        simp [rd, okb, hv, hxb]
        omega
      · rw [if_neg (by omega)]
        simp [okb, hv]
        omega
theorem okb10 (c : UInt8) : okb 10 c = (decide (48 ≤ c.toNat) && decide (c.toNat ≤ 57)) := by
  unfold okb dv
  by_cases h1 : 48 ≤ c.toNat ∧ c.toNat ≤ 57
  · rw [if_pos h1]; simp [h1]; omega
  · rw [if_neg h1]
    by_cases h2 : 97 ≤ c.toNat ∧ c.toNat ≤ 102
    · rw [if_pos h2, Bool.eq_iff_iff]; simp; omega
    · rw [if_neg h2]; simp; omega
theorem okb16 (c : UInt8) : okb 16 c = ((decide (48 ≤ c.toNat) && decide (c.toNat ≤ 57)) || (decide (97 ≤ c.toNat) && decide (c.toNat ≤ 102))) := by
  unfold okb dv
  by_cases h1 : 48 ≤ c.toNat ∧ c.toNat ≤ 57
  · rw [if_pos h1]; simp [h1]; omega
  · rw [if_neg h1]
    by_cases h2 : 97 ≤ c.toNat ∧ c.toNat ≤ 102
    · rw [if_pos h2]; simp [h2]; omega
    · rw [if_neg h2]; simp; omega
theorem unhex_great (c : UInt8) : unhex (putB 16 255 ++ [70] ++ [c]) = none :=
  unhex_bad _ 70 (by simp) (by decide)
end Dg
end Go.Proofs.YtiiaahhdlgoklaaDoor
