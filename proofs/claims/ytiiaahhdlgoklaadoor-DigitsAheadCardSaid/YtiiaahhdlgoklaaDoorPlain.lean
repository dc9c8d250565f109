/- Plain mathematics of layer 1 (digits): digits, numbers read of them, bytes, words. No program stands in it. -/
import Derived.Lib.Strings
import Derived.Laws.RangeAny
import Derived.Laws.Bits64
namespace Go.Proofs.YtiiaahhdlgoklaaDoor
namespace Dg

/-- The digit of a number below sixteen. -/
def sg (d : Nat) : UInt8 := if d < 10 then (48 + d).toUInt8 else (87 + d).toUInt8

/-- The number that a rune is the digit of. -/
def dv (r : Nat) : Option Nat := if 48 ≤ r ∧ r ≤ 57 then some (r - 48) else if 97 ≤ r ∧ r ≤ 102 then some (r - 87) else none

/-- A number read on from n. -/
def rd (b : Nat) : Nat → List UInt8 → Option Nat
  | n, [] => some n
  | n, c :: t => match dv c.toNat with
    | none => none
    | some d => if d < b ∧ n ≤ (18446744073709551615 - d) / b then rd b (n * b + d) t else none

/-- The number whose digits a text is. -/
def rdN (b : Nat) : List UInt8 → Option Nat
  | [] => none
  | c :: t => if c = 48 ∧ t ≠ [] then none else rd b 0 (c :: t)

theorem dv_lt {r d : Nat} (h : dv r = some d) : d < 16 := by
  unfold dv at h
  split at h
  · simp at h; omega
  · split at h
    · simp at h; omega
    · simp at h
theorem dv_high {r : Nat} (h : 128 ≤ r) : dv r = none := by
  unfold dv
  rw [if_neg (by omega), if_neg (by omega)]

/-- Bytes from 33 to 126 alone. -/
def pl (l : List UInt8) : Bool := l.all fun c => decide (33 ≤ c.toNat) && decide (c.toNat ≤ 126)
/-- A text that is one word of printable ASCII. -/
def plain (l : List UInt8) : Bool := !l.isEmpty && pl l

theorem drop_at (s : ByteArray) (k : Nat) (h : k < s.size) : s.data.toList.drop k = s[k] :: s.data.toList.drop (k + 1) := by
  rw [List.drop_eq_getElem_cons (by simpa using h)]; rfl
theorem drop_end (s : ByteArray) (k : Nat) (h : ¬ k < s.size) : s.data.toList.drop k = [] := by
  apply List.drop_of_length_le; simp; exact Nat.le_of_not_lt h
theorem pl_cons (c : UInt8) (l : List UInt8) : pl (c :: l) = (decide (33 ≤ c.toNat) && decide (c.toNat ≤ 126) && pl l) := rfl
theorem list_at (s : ByteArray) (h : 0 < s.size) : s.data.toList = s[0] :: s.data.toList.drop 1 := by
  have := drop_at s 0 h; simpa using this
theorem list_nil (s : ByteArray) (h : ¬ 0 < s.size) : s.data.toList = [] := by
  have := drop_end s 0 h; simpa using this
theorem rdN_cons (b : Nat) (c : UInt8) (t : List UInt8) : rdN b (c :: t) = if c = 48 ∧ t ≠ [] then none else rd b 0 (c :: t) := rfl
theorem rd_cons (b n : Nat) (c : UInt8) (t : List UInt8) (d : Nat) (h : dv c.toNat = some d) : rd b n (c :: t) = if d < b ∧ n ≤ (18446744073709551615 - d) / b then rd b (n * b + d) t else none := by
  rw [rd, h]
theorem rd_none (b n : Nat) (c : UInt8) (t : List UInt8) (h : dv c.toNat = none) : rd b n (c :: t) = none := by
  rw [rd, h]
theorem rd_great (b n : Nat) (c : UInt8) (t : List UInt8) (d : Nat) (h : dv c.toNat = some d) (h1 : b ≤ d) : rd b n (c :: t) = none := by
  rw [rd_cons b n c t d h, if_neg (by omega)]
theorem rd_over (b n : Nat) (c : UInt8) (t : List UInt8) (d : Nat) (h : dv c.toNat = some d) (h1 : (18446744073709551615 - d) / b < n) : rd b n (c :: t) = none := by
  rw [rd_cons b n c t d h, if_neg (by omega)]
theorem rd_on (b n : Nat) (c : UInt8) (t : List UInt8) (d : Nat) (h : dv c.toNat = some d) (h0 : d < b) (h1 : n ≤ (18446744073709551615 - d) / b) : rd b n (c :: t) = rd b (n * b + d) t := by
  rw [rd_cons b n c t d h, if_pos ⟨h0, h1⟩]
theorem rdN_nought (b : Nat) (s : ByteArray) (h : 0 < s.size) (h1 : (s[0]'h).toNat = 48) (h2 : 1 < s.size) : rdN b s.data.toList = none := by
  rw [list_at s h, rdN, if_pos]
  refine ⟨UInt8.toNat_inj.1 h1, ?_⟩
  rw [drop_at s 1 h2]; simp
theorem rdN_plain (b : Nat) (s : ByteArray) (h : 0 < s.size) (h1 : (s[0]'h).toNat = 48 → ¬ 1 < s.size) : rd b 0 s.data.toList = rdN b s.data.toList := by
  rw [list_at s h, rdN_cons, if_neg]
  rintro ⟨h2, h3⟩
  exact h3 (drop_end s 1 (h1 (by rw [h2]; rfl)))
theorem cast_rest (d b : Nat) (hd : d ≤ 15) : (((18446744073709551615 - d) / b : Nat) : Int) = (18446744073709551615 - (d : Int)) / (b : Int) := by
  rw [Int.natCast_ediv, show ((18446744073709551615 - d : Nat) : Int) = 18446744073709551615 - (d : Int) by omega]
theorem over_nat (m d b : Nat) (hd : d ≤ 15) (h : (18446744073709551615 - (d : Int)) / (b : Int) < (m : Int)) : (18446744073709551615 - d) / b < m := by
  rw [← cast_rest d b hd] at h; omega
theorem on_nat (m d b : Nat) (hd : d ≤ 15) (h : (m : Int) ≤ (18446744073709551615 - (d : Int)) / (b : Int)) : m ≤ (18446744073709551615 - d) / b := by
  rw [← cast_rest d b hd] at h; omega
theorem fits_nat (m d b : Nat) (hd : d ≤ 15) (hb : 0 < b) (h : m ≤ (18446744073709551615 - d) / b) : m * b + d ≤ 18446744073709551615 := by
  have := (Nat.le_div_iff_mul_le hb).1 h
  omega
theorem wrap_nat (m d b : Nat) (h : m * b + d ≤ 18446744073709551615) : Value.int .u64 (IntKind.u64.wrap (IntKind.u64.wrap ((m : Int) * (b : Int)) + (d : Int))) = Value.int .u64 ((m * b + d : Nat) : Int) := by
  have e : (m : Int) * (b : Int) = ((m * b : Nat) : Int) := by simp
  rw [e]
  congr 1
  rw [IntKind.wrap_u64, IntKind.wrap_u64]
  omega

/-- A number's digits by a base. -/
def putB (b : Nat) (n : Nat) : List UInt8 := if _h : b ≤ n ∧ 2 ≤ b then putB b (n / b) ++ [sg (n % b)] else [sg n]
  termination_by n
  decreasing_by exact Nat.div_lt_self (by omega) (by omega)

theorem putB_small (b n : Nat) (h : n < b) : putB b n = [sg n] := by rw [putB, dif_neg (by omega)]
theorem putB_big (b n : Nat) (hb : 2 ≤ b) (h : b ≤ n) : putB b n = putB b (n / b) ++ [sg (n % b)] := by rw [putB, dif_pos ⟨h, hb⟩]
theorem hx_step (k m : Nat) (hk : 50 ≤ k) (h : m < 16 ^ (k - 49)) (h1 : 16 ≤ m) : 51 ≤ k ∧ m / 16 < 16 ^ (k - 1 - 49) := by
  have h2 : 51 ≤ k := by
    rcases Nat.lt_or_ge k 51 with h3 | h3
    · have : k = 50 := by omega
      subst this
      simp at h
      omega
    · exact h3
  refine ⟨h2, ?_⟩
  rw [show k - 49 = (k - 1 - 49) + 1 by omega, Nat.pow_succ] at h
  omega

/-- Two digits for each byte, the higher one first. -/
def hexs (xs : List UInt8) : List UInt8 := xs.flatMap fun c => [sg (c.toNat / 16), sg (c.toNat % 16)]
theorem hexs_length (xs : List UInt8) : (hexs xs).length = 2 * xs.length := by
  induction xs with
  | nil => rfl
  | cons c t ih => simp [hexs] at ih ⊢; omega
theorem hexs_snoc (xs : List UInt8) (k : Nat) (h : k < xs.length) : hexs (xs.take (k + 1)) = hexs (xs.take k) ++ [sg (xs[k].toNat / 16), sg (xs[k].toNat % 16)] := by
  rw [List.take_succ_eq_append_getElem h, hexs, List.flatMap_append]; simp only [List.flatMap_cons, List.flatMap_nil, List.append_nil]; rfl

end Dg
end Go.Proofs.YtiiaahhdlgoklaaDoor
