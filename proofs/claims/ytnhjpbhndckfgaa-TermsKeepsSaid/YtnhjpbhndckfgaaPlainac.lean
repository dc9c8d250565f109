/- Plain mathematics of layer 5 (accm): maps of control characters as numbers of 32 bits. No program stands in it. -/
import Derived.Test.YtnhjpbhndckfgaaPlainoc
import Derived.Lib.OthersKept
namespace Go.Proofs.Ytnhjpbhndckfgaa.S5
namespace Ac

theorem wraps_u32 (n : Int) (h₀ : 0 ≤ n) (h₁ : n < 2 ^ 32) : IntKind.u32.wrap n = n := by rw [IntKind.wrap_u32]; omega
theorem and32 (a b : Nat) (ha : a < 4294967296) (hb : b < 4294967296) : bits .and .u32 (a : Int) (b : Int) = ((a &&& b : Nat) : Int) := (bits_nat .u32 32 (by decide) wraps_u32 a b ha hb).1
theorem or32 (a b : Nat) (ha : a < 4294967296) (hb : b < 4294967296) : bits .or .u32 (a : Int) (b : Int) = ((a ||| b : Nat) : Int) := (bits_nat .u32 32 (by decide) wraps_u32 a b ha hb).2

/-- The bit of a character; what is 32 or above has none. -/
def bit (c : Nat) : Nat := if c < 32 then 2 ^ c else 0
theorem bit_lt (c : Nat) : bit c < 4294967296 := by
  unfold bit
  split
  · have := Nat.pow_lt_pow_right (a := 2) (by omega) ‹c < 32›
    simpa using this
  · omega
theorem bit_int (c : Nat) : (2 : Int) ^ min c 32 % 4294967296 = ((bit c : Nat) : Int) := by
  have h := bit_lt c
  unfold bit at h ⊢
  by_cases hc : c < 32
  · rw [if_pos hc] at h ⊢
    rw [Nat.min_eq_left (by omega), show (2 : Int) ^ c = ((2 ^ c : Nat) : Int) by simp]
    generalize 2 ^ c = q at h ⊢
    omega
  · rw [if_neg hc, Nat.min_eq_right (by omega)]
    rfl
theorem bit_test (c i : Nat) : (bit c).testBit i = decide (c < 32 ∧ c = i) := by
  unfold bit
  split
  · rw [Nat.testBit_two_pow]; simp [*]
  · simp [*]
/-- Is the character in the map? -/
def has (m c : Nat) : Bool := m.testBit c
theorem has_high (m c : Nat) (hm : m < 4294967296) (hc : 32 ≤ c) : has m c = false :=
  Nat.testBit_lt_two_pow (Nat.lt_of_lt_of_le hm (by have := Nat.pow_le_pow_right (n := 2) (by omega) hc; simpa using this))
theorem has_div (m c : Nat) : has m c = decide (m / 2 ^ c % 2 = 1) := Nat.testBit_eq_decide_div_mod_eq
theorem and_bit (m c : Nat) (hm : m < 4294967296) : (m &&& bit c ≠ 0) ↔ has m c = true := by
  constructor
  · intro h
    obtain ⟨i, hi⟩ := Nat.exists_testBit_of_ne_zero h
    rw [Nat.testBit_and, bit_test] at hi
    simp at hi
    rw [has, hi.2.2]; exact hi.1
  · intro h e
    have hc : c < 32 := by
      apply Nat.lt_of_not_le
      intro hc
      rw [has_high m c hm hc] at h
      cases h
    have : (m &&& bit c).testBit c = true := by
      rw [Nat.testBit_and, bit_test]; simp [hc]; exact h
    rw [e] at this
    simp at this
theorem and_int (m c : Nat) (hm : m < 4294967296) : (bits .and .u32 (m : Int) ((bit c : Nat) : Int) != 0) = has m c := by
  rw [and32 m _ hm (bit_lt c), Bool.eq_iff_iff, ← and_bit m c hm]
  simp
/-- Is the byte told apart? -/
def apart (m c : Nat) : Bool := decide (c = 125) || decide (c = 126) || has m c
/-- The map with one character besides. -/
theorem or_lt (a b : Nat) (ha : a < 4294967296) (hb : b < 4294967296) : a ||| b < 4294967296 := Nat.or_lt_two_pow (n := 32) ha hb
theorem or_eq (m c : Nat) (h : has m c = true) : m ||| bit c = m := by
  apply Nat.eq_of_testBit_eq
  intro i
  rw [Nat.testBit_or, bit_test]
  by_cases e : c = i
  · subst e; rw [show m.testBit c = true from h]; simp
  · simp [e]
theorem or_high (m c : Nat) (h : ¬ c < 32) : m ||| bit c = m := by simp [bit, h]
theorem or_add (m c : Nat) (hm : m < 4294967296) (hc : c < 32) (h : has m c = false) : m ||| bit c = m + 2 ^ c := by
  have hb : bit c = 2 ^ c := if_pos hc
  have hbl := bit_lt c
  rw [hb] at hbl ⊢
  have hand : m &&& 2 ^ c = 0 := by
    apply Nat.eq_of_testBit_eq
    intro i
    rw [Nat.testBit_and, Nat.testBit_two_pow]
    by_cases e : c = i
    · subst e; rw [show m.testBit c = false from h]; simp
    · simp [e]
  have h1 : (BitVec.ofNat 33 m) &&& (BitVec.ofNat 33 (2 ^ c)) = 0#33 := by
    apply BitVec.eq_of_toNat_eq
    simp only [BitVec.toNat_and, BitVec.toNat_ofNat]
    rw [Nat.mod_eq_of_lt (by omega), Nat.mod_eq_of_lt (by omega), hand]
  have h2 := congrArg BitVec.toNat (BitVec.add_eq_or_of_and_eq_zero _ _ h1)
  simp only [BitVec.toNat_add, BitVec.toNat_or, BitVec.toNat_ofNat] at h2
  rw [Nat.mod_eq_of_lt (by omega : m < 2 ^ 33), Nat.mod_eq_of_lt (by omega : 2 ^ c < 2 ^ 33), Nat.mod_eq_of_lt (by omega)] at h2
  exact h2.symm

/-- The map with characters besides. -/
def withs (m : Nat) (l : List UInt8) : Nat := l.foldl (fun m c => m ||| bit c.toNat) m
theorem withs_nil (m : Nat) : withs m [] = m := rfl
theorem withs_snoc (m : Nat) (l : List UInt8) (c : UInt8) : withs m (l ++ [c]) = withs m l ||| bit c.toNat := by simp [withs]
theorem withs_cons (m : Nat) (c : UInt8) (l : List UInt8) : withs m (c :: l) = withs (m ||| bit c.toNat) l := rfl
theorem withs_lt (l : List UInt8) : ∀ m, m < 4294967296 → withs m l < 4294967296 := by
  induction l with
  | nil => intro m h; exact h
  | cons c l ih => intro m h; rw [withs_cons]; exact ih _ (or_lt _ _ h (bit_lt _))
theorem withs_test (l : List UInt8) (i : Nat) : ∀ m, (withs m l).testBit i = (m.testBit i || (decide (i < 32) && l.any fun c => decide (c.toNat = i))) := by
  induction l with
  | nil => intro m; simp [withs]
  | cons c l ih =>
    intro m
    rw [withs_cons, ih, Nat.testBit_or, bit_test, List.any_cons]
    by_cases e : c.toNat = i
    · subst e
      by_cases h : c.toNat < 32
      · simp [h]
      · simp [h]
    · simp [e]

/-- The characters of a map that are below k, rising. -/
def list (m k : Nat) : List UInt8 := ((List.range k).filter (has m)).map Nat.toUInt8
theorem list_zero (m : Nat) : list m 0 = [] := rfl
theorem list_in (m k : Nat) (h : has m k = true) : list m (k + 1) = list m k ++ [k.toUInt8] := by simp [list, List.range_succ, h]
theorem list_out (m k : Nat) (h : has m k = false) : list m (k + 1) = list m k := by simp [list, List.range_succ, h]
theorem list_length (m k : Nat) : (list m k).length ≤ k := by
  have := List.length_filter_le (has m) (List.range k)
  simpa [list] using this
theorem list_any (m k i : Nat) (hk : k ≤ 256) : ((list m k).any fun c => decide (c.toNat = i)) = (decide (i < k) && has m i) := by
  rw [Bool.eq_iff_iff, List.any_eq_true]
  simp only [list, List.mem_map, List.mem_filter, List.mem_range, decide_eq_true_eq, Bool.and_eq_true]
  constructor
  · rintro ⟨c, ⟨j, ⟨hj, hm⟩, rfl⟩, e⟩
    have : j.toUInt8.toNat = j := by simp [Nat.toUInt8]; omega
    rw [this] at e
    subst e
    exact ⟨hj, hm⟩
  · rintro ⟨hi, hm⟩
    exact ⟨i.toUInt8, ⟨i, ⟨hi, hm⟩, rfl⟩, by simp [Nat.toUInt8]; omega⟩
/-- A map's characters besides another's. -/
theorem withs_list (m n : Nat) (hn : n < 4294967296) : withs m (list n 32) = m ||| n := by
  apply Nat.eq_of_testBit_eq
  intro i
  rw [withs_test, list_any n 32 i (by omega), Nat.testBit_or]
  by_cases h : i < 32
  · simp [h, has]
  · have := has_high n i hn (by omega)
    rw [has] at this
    simp [h, this]
theorem withs_back (m : Nat) (hm : m < 4294967296) : withs 0 (list m 32) = m := by rw [withs_list 0 m hm]; simp
theorem list_inj (m n : Nat) (hm : m < 4294967296) (hn : n < 4294967296) (h : list m 32 = list n 32) : m = n := by
  rw [← withs_back m hm, ← withs_back n hn, h]
theorem has_or (m n c : Nat) : has (m ||| n) c = (has m c || has n c) := Nat.testBit_or ..
/-- They rise. -/
theorem list_rise (m k : Nat) (hk : k ≤ 256) : (list m k).Pairwise fun a b => a.toNat < b.toNat := by
  unfold list
  rw [List.pairwise_map]
  have h := List.Pairwise.filter (has m) (List.pairwise_lt_range (n := k))
  refine List.Pairwise.imp_of_mem ?_ h
  intro a b ha hb hab
  simp only [List.mem_filter, List.mem_range] at ha hb
  simp [Nat.toUInt8]
  omega
theorem list_step (m k i : Nat) (hk : k ≤ 256) (h : i + 1 < (list m k).length) : ((list m k)[i]'(by omega)).toNat < ((list m k)[i + 1]).toNat :=
  List.pairwise_iff_getElem.1 (list_rise m k hk) i (i + 1) (by omega) h (by omega)
end Ac
end Go.Proofs.Ytnhjpbhndckfgaa.S5
