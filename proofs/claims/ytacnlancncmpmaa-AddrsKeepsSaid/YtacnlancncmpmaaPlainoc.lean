/- Plain mathematics of layer 2 (octet): a number's digits in base 256, numbers of them, both orders. No program stands in it. -/
import Derived.Lib.Strings
import Derived.Laws.Bits64
import Derived.Laws.BitsAllLaws
import Derived.Laws.BitsLemmas
namespace Go.Proofs.Ytacnlancncmpmaa.S2
namespace Oc

/-- The digit of 256 to the power of i. -/
def dg (n i : Nat) : UInt8 := (n / 256 ^ i).toUInt8
theorem dg_nat (n i : Nat) : (dg n i).toNat = n / 256 ^ i % 256 := by simp [dg]

/-- The lowest k digits, the lowest one first. -/
def lit (n k : Nat) : List UInt8 := (List.range k).map (dg n)
theorem lit_length (n k : Nat) : (lit n k).length = k := by simp [lit]
theorem lit_snoc (n k : Nat) : lit n (k + 1) = lit n k ++ [dg n k] := by simp [lit, List.range_succ]
theorem lit_zero (n : Nat) : lit n 0 = [] := rfl

/-- One order or the other. -/
def turn (big : Bool) (l : List UInt8) : List UInt8 := if big then l.reverse else l
theorem turn_length (big : Bool) (l : List UInt8) : (turn big l).length = l.length := by unfold turn; split <;> simp
theorem turn_turn (big : Bool) (l : List UInt8) : turn big (turn big l) = l := by unfold turn; split <;> simp
theorem turn_not (big : Bool) (l : List UInt8) : turn (!big) l = (turn big l).reverse := by unfold turn; cases big <;> simp
theorem turn_not_rev (big : Bool) (l : List UInt8) : (turn (!big) l).reverse = turn big l := by rw [turn_not]; simp

/-- Where the digit of 256 to the power of i stands. -/
def at' (i size : Nat) (big : Bool) : Nat := if big then size - 1 - i else i
theorem at_lt (i size : Nat) (big : Bool) (h : i < size) : at' i size big < size := by unfold at'; split <;> omega

theorem turn_get (big : Bool) (l : List UInt8) (i : Nat) (h : i < l.length) : (turn big l)[i]? = l[at' i l.length big]? := by
  unfold turn at'
  cases big
  · rfl
  · simp [List.getElem?_reverse h]
theorem turn_set (big : Bool) (l : List UInt8) (i : Nat) (v : UInt8) (h : i < l.length) : (turn big l).set (at' i l.length big) v = turn big (l.set i v) := by
  unfold turn at'
  cases big
  · rfl
  · simp only [if_true]
    apply List.ext_getElem?
    intro j
    by_cases hj : j < l.length
    · rw [List.getElem?_reverse (by simpa using hj), List.getElem?_set, List.getElem?_reverse hj, List.getElem?_set]
      simp only [List.length_reverse, List.length_set]
      by_cases e : l.length - 1 - i = j
      · rw [if_pos e, if_pos (by omega), if_pos (by omega), if_pos (by omega)]
      · rw [if_neg e, if_neg (by omega)]
    · rw [List.getElem?_eq_none (by simp; omega), List.getElem?_eq_none (by simp; omega)]

/-- What stands there when k digits are written. -/
def part (n size k : Nat) : List UInt8 := (List.range size).map fun i => if i < k then dg n i else 0
theorem part_length (n size k : Nat) : (part n size k).length = size := by simp [part]
theorem part_zero (n size : Nat) : part n size 0 = List.replicate size 0 := by
  apply List.ext_getElem
  · simp [part]
  · intro i h1 h2; simp [part]
theorem part_all (n size : Nat) : part n size size = lit n size := by
  apply List.ext_getElem
  · simp [part, lit]
  · intro i h1 h2
    have : i < size := by simpa [part] using h1
    simp [part, lit, this]
theorem part_set (n size k : Nat) : (part n size k).set k (dg n k) = part n size (k + 1) := by
  apply List.ext_getElem
  · simp [part]
  · intro i h1 h2
    rw [List.getElem_set]
    simp only [part, List.getElem_map, List.getElem_range]
    by_cases e : k = i
    · subst e; rw [if_pos rfl, if_pos (by omega)]
    · rw [if_neg e]
      by_cases h : i < k
      · rw [if_pos h, if_pos (by omega)]
      · rw [if_neg h, if_neg (by omega)]
theorem part_step (n size k : Nat) (big : Bool) (h : k < size) : (turn big (part n size k)).set (at' k size big) (dg n k) = turn big (part n size (k + 1)) := by
  have := turn_set big (part n size k) k (dg n k) (by rw [part_length]; exact h)
  rw [part_length] at this
  rw [this, part_set]
theorem turn_zero (big : Bool) (n size : Nat) : turn big (part n size 0) = List.replicate size 0 := by
  rw [part_zero]; unfold turn; split <;> simp

/-- The bytes of a number. -/
def put (n size : Nat) (big : Bool) : List UInt8 := turn big (lit n size)
theorem put_length (n size : Nat) (big : Bool) : (put n size big).length = size := by rw [put, turn_length, lit_length]
theorem put_part (n size : Nat) (big : Bool) : turn big (part n size size) = put n size big := by rw [part_all]; rfl

/-- The number of digits, the lowest one first. -/
def val : List UInt8 → Nat
  | [] => 0
  | x :: l => x.toNat + 256 * val l
theorem val_lt : ∀ l : List UInt8, val l < 256 ^ l.length
  | [] => by simp [val]
  | x :: l => by
    have h := val_lt l
    have hx := x.toNat_lt
    simp only [val, List.length_cons, Nat.pow_succ]
    omega
theorem val_snoc : ∀ (l : List UInt8) (x : UInt8), val (l ++ [x]) = val l + x.toNat * 256 ^ l.length
  | [], x => by simp [val]
  | y :: l, x => by
    have h := val_snoc l x
    simp only [List.cons_append, val, h, List.length_cons, Nat.pow_succ]
    have e : x.toNat * (256 ^ l.length * 256) = 256 * (x.toNat * 256 ^ l.length) := by
      rw [← Nat.mul_assoc, Nat.mul_comm]
    omega
theorem val_lit : ∀ (n k : Nat), val (lit n k) = n % 256 ^ k
  | n, 0 => by simp [lit, val, Nat.mod_one]
  | n, k + 1 => by
    rw [lit_snoc, val_snoc, val_lit n k, lit_length, dg_nat, Nat.pow_succ, Nat.mod_mul, Nat.mul_comm (256 ^ k)]
theorem val_lit_fits (n k : Nat) (h : n < 256 ^ k) : val (lit n k) = n := by rw [val_lit, Nat.mod_eq_of_lt h]
theorem dg_zero (x : UInt8) (m : Nat) : dg (x.toNat + 256 * m) 0 = x := by
  apply UInt8.toNat_inj.1
  rw [dg_nat]
  have := x.toNat_lt
  simp only [Nat.pow_zero, Nat.div_one]
  omega
theorem dg_succ (x : UInt8) (m i : Nat) : dg (x.toNat + 256 * m) (i + 1) = dg m i := by
  apply UInt8.toNat_inj.1
  rw [dg_nat, dg_nat, Nat.pow_succ, Nat.mul_comm (256 ^ i), ← Nat.div_div_eq_div_mul]
  have := x.toNat_lt
  rw [show (x.toNat + 256 * m) / 256 = m by omega]
theorem lit_val : ∀ l : List UInt8, lit (val l) l.length = l
  | [] => rfl
  | x :: l => by
    have h := lit_val l
    simp only [lit, val, List.length_cons, List.range_succ_eq_map, List.map_cons, List.map_map, dg_zero]
    congr 1
    rw [← h]
    simp only [lit, List.length_map, List.length_range]
    apply List.map_congr_left
    intro i _
    rw [show (dg (x.toNat + 256 * val (List.map (dg (val l)) (List.range l.length))) ∘ Nat.succ) i = dg (x.toNat + 256 * val (List.map (dg (val l)) (List.range l.length))) (i + 1) from rfl, dg_succ]
    have h2 : val (List.map (dg (val l)) (List.range l.length)) = val l := by
      rw [show List.map (dg (val l)) (List.range l.length) = lit (val l) l.length from rfl, h]
    rw [h2]

/-- The number of digits, the highest one first. -/
def hor (l : List UInt8) : Nat := val l.reverse
theorem hor_snoc (l : List UInt8) (x : UInt8) : hor (l ++ [x]) = 256 * hor l + x.toNat := by
  simp [hor, val]; omega
theorem hor_nil : hor [] = 0 := rfl
theorem hor_lt (l : List UInt8) : hor l < 256 ^ l.length := by have := val_lt l.reverse; simpa [hor] using this

/-- The number whose bytes a text is. -/
def get (l : List UInt8) (big : Bool) : Nat := val (turn big l)
theorem get_hor (l : List UInt8) (big : Bool) : hor (turn (!big) l) = get l big := by rw [hor, turn_not_rev]; rfl
theorem get_lt (l : List UInt8) (big : Bool) : get l big < 256 ^ l.length := by have := val_lt (turn big l); rwa [turn_length] at this
theorem get_put (n size : Nat) (big : Bool) (h : n < 256 ^ size) : get (put n size big) big = n := by
  rw [get, put, turn_turn, val_lit_fits n size h]
theorem put_get (l : List UInt8) (big : Bool) : put (get l big) l.length big = l := by
  have h := lit_val (turn big l)
  rw [turn_length] at h
  rw [get, put, h, turn_turn]
theorem put_not (n size : Nat) (big : Bool) : put n size (!big) = (put n size big).reverse := by rw [put, turn_not]; rfl
theorem get_zero_size (l : List UInt8) : l.length = 0 → l = [] := List.eq_nil_of_length_eq_zero

theorem pow_le (k : Nat) (h : k ≤ 8) : 256 ^ k ≤ 18446744073709551616 := by
  have := Nat.pow_le_pow_right (n := 256) (by omega) h
  simpa using this
theorem pow_eq (k : Nat) : 256 ^ k = 2 ^ (8 * k) := by rw [Nat.pow_mul]

/-- Does it fit? -/
def fits (n : Nat) (size : Int) : Bool := decide (1 ≤ size ∧ size ≤ 8 ∧ n < 256 ^ size.toNat)
theorem fits_iff (n : Nat) (size : Int) : fits n size = true ↔ 1 ≤ size ∧ size ≤ 8 ∧ n < 256 ^ size.toNat := by simp [fits]
theorem fits_in (n s : Nat) (h1 : 1 ≤ s) (h2 : s ≤ 8) : fits n (s : Int) = decide (n < 256 ^ s) := by
  unfold fits; apply decide_eq_decide.2; simp; omega
theorem fits_div (n s : Nat) : (n / 256 ^ s = 0) ↔ n < 256 ^ s := by
  rw [Nat.div_eq_zero_iff]
  have : 0 < 256 ^ s := Nat.pow_pos (by omega)
  omega

/-- A shift to the right by so many bytes. -/
theorem shr (n k : Nat) (hk : k ≤ 8) : (n : Int) / 2 ^ min (8 * (k : Int)).toNat 64 = ((n / 256 ^ k : Nat) : Int) := by
  have e : min (8 * (k : Int)).toNat 64 = 8 * k := by omega
  rw [e, pow_eq]
  simp
theorem div_test (n m s : Nat) (h : m = n / 256 ^ s) : ((m : Int) == 0) = decide (n < 256 ^ s) := by
  have e := fits_div n s
  rw [← h] at e
  rw [Bool.eq_iff_iff]
  simp only [beq_iff_eq, decide_eq_true_eq, ← e]
  omega
theorem shr_test (n s : Nat) : ((n : Int) / 2 ^ (8 * s) == 0) = decide (n < 256 ^ s) := by
  rw [← div_test n (n / 256 ^ s) s rfl, pow_eq]
  simp
theorem wrap8 (n : Nat) : IntKind.u8.wrap (n : Int) = ((n % 256 : Nat) : Int) := by rw [IntKind.wrap_u8]; simp
/-- A shift to the left by so many bytes, of a byte. -/
theorem shl (x : UInt8) (k : Nat) (hk : k < 8) : IntKind.u64.wrap ((x.toNat : Int) * 2 ^ min (8 * (k : Int)).toNat 64) = ((x.toNat * 256 ^ k : Nat) : Int) := by
  have e : min (8 * (k : Int)).toNat 64 = 8 * k := by omega
  have hx := x.toNat_lt
  have h : x.toNat * 256 ^ k < 18446744073709551616 := by
    have h1 : x.toNat * 256 ^ k < 256 * 256 ^ k := Nat.mul_lt_mul_of_pos_right hx (Nat.pow_pos (by omega))
    have h2 := pow_le (k + 1) (by omega)
    rw [Nat.pow_succ, Nat.mul_comm] at h2
    omega
  rw [e, IntKind.wrap_u64]
  have e2 : (x.toNat : Int) * 2 ^ (8 * k) = ((x.toNat * 256 ^ k : Nat) : Int) := by rw [pow_eq]; simp
  rw [e2]
  omega
theorem shl2 (x : UInt8) (k : Nat) (hk : k < 8) : IntKind.u64.wrap (IntKind.u64.wrap (x.toNat : Int) * 2 ^ (8 * k)) = ((x.toNat * 256 ^ k : Nat) : Int) := by
  have h := shl x k hk
  rw [show min (8 * (k : Int)).toNat 64 = 8 * k by omega] at h
  have hx := x.toNat_lt
  rw [show IntKind.u64.wrap (x.toNat : Int) = (x.toNat : Int) by rw [IntKind.wrap_u64]; omega]
  exact h
theorem dg_int (n k : Nat) : (n : Int) / 2 ^ (8 * k) % 256 = ((dg n k).toNat : Int) := by
  rw [dg_nat, pow_eq]
  simp
theorem put_zero (n : Nat) (big : Bool) : put n 0 big = [] := by cases big <;> rfl
theorem put_big (n k : Nat) : put n (k + 1) true = [dg n k] ++ put n k true := by simp [put, turn, lit_snoc]
theorem put_little (n k : Nat) : put n (k + 1) false = put n k false ++ [dg n k] := by simp [put, turn, lit_snoc]
/-- What lies apart is joined as a sum. -/
theorem or_join (a : Nat) (x : UInt8) (k : Nat) (hk : k < 8) (ha : a < 256 ^ k) : bits .or .u64 (a : Int) ((x.toNat * 256 ^ k : Nat) : Int) = ((a + x.toNat * 256 ^ k : Nat) : Int) := by
  have hx := x.toNat_lt
  have h2 := pow_le (k + 1) (by omega)
  have h1 : x.toNat * 256 ^ k < 256 * 256 ^ k := Nat.mul_lt_mul_of_pos_right hx (Nat.pow_pos (by omega))
  rw [Nat.pow_succ, Nat.mul_comm] at h2
  have h3 : a < 18446744073709551616 := Nat.lt_of_lt_of_le ha (pow_le k (by omega))
  rw [(bits_nat .u64 64 (by decide) (fun n h₀ h₁ => by rw [IntKind.wrap_u64]; omega) a _ (by simpa using h3) (by have : (2 : Nat) ^ 64 = 18446744073709551616 := rfl; omega)).2]
  have ha' := ha
  rw [pow_eq] at ha'
  have e := Nat.two_pow_add_eq_or_of_lt ha' x.toNat
  rw [← pow_eq] at e
  rw [Nat.or_comm, Nat.mul_comm, ← e, Nat.add_comm]
end Oc
end Go.Proofs.Ytacnlancncmpmaa.S2
