/- Contracts of an earlier layer, brought to this seat by names (port.py): Plain, Wa, Wb, Wc, Wd, Held, Plainh, Ha, Hb, Hc, Hr, Hp. -/
import Derived.Test.YtbbnkmhlgfoacaaDoorChecked
import Derived.Lib.Strings
import Derived.Laws.Bits64
import Derived.Laws.BitsAllLaws
import Derived.Laws.BitsLemmas
import Derived.WalkKit
import Derived.WalkSpells
import Derived.WalkLawsBesides
import Derived.Lib.OthersKept
import Derived.Lib.Hide
import Derived.BigQuiet
import Derived.Deep.QuietTactic
import Derived.Deep.RegionLaw
import Derived.Lib.Bytes
import Derived.Laws.AppendOwnNone
import Derived.Lib.AppendZeros
import Derived.OrdersHeld
import Derived.Deep.RegionHeld
import Derived.Deep.WholeRow

namespace Go.Proofs.YtbbnkmhlgfoacaaDoor.S8
namespace Oc

/-- The digit of 256 to the power of i. -/
def dg (n i : Nat) : UInt8 := (n / 256 ^ i).toUInt8
theorem dg_nat (n i : Nat) : (dg n i).toNat = n / 256 ^ i % 256 := by simp [dg]

/-- The lowest k digits, the lowest one first. -/
def lit (n k : Nat) : List UInt8 := (List.range k).map (dg n)
theorem lit_length (n k : Nat) : (lit n k).length = k := by simp [lit]
theorem lit_snoc (n k : Nat) : lit n (k + 1) = lit n k ++ [dg n k] := by simp [lit, List.range_succ]
theorem lit_zero (n : Nat) : lit n 0 = [] := rfl

/-- One order or the other. -/
def turn (big : Bool) (l : List UInt8) : List UInt8 := if big then l.reverse else l
theorem turn_length (big : Bool) (l : List UInt8) : (turn big l).length = l.length := by unfold turn; split <;> simp
theorem turn_turn (big : Bool) (l : List UInt8) : turn big (turn big l) = l := by unfold turn; split <;> simp
theorem turn_not (big : Bool) (l : List UInt8) : turn (!big) l = (turn big l).reverse := by unfold turn; cases big <;> simp
theorem turn_not_rev (big : Bool) (l : List UInt8) : (turn (!big) l).reverse = turn big l := by rw [turn_not]; simp

/-- Where the digit of 256 to the power of i stands. -/
def at' (i size : Nat) (big : Bool) : Nat := if big then size - 1 - i else i
theorem at_lt (i size : Nat) (big : Bool) (h : i < size) : at' i size big < size := by unfold at'; split <;> omega

theorem turn_get (big : Bool) (l : List UInt8) (i : Nat) (h : i < l.length) : (turn big l)[i]? = l[at' i l.length big]? := by
  unfold turn at'
  cases big
  · rfl
  · simp [List.getElem?_reverse h]
theorem turn_set (big : Bool) (l : List UInt8) (i : Nat) (v : UInt8) (h : i < l.length) : (turn big l).set (at' i l.length big) v = turn big (l.set i v) := by
  unfold turn at'
  cases big
  · rfl
  · simp only [if_true]
    apply List.ext_getElem?
    intro j
    by_cases hj : j < l.length
    · rw [List.getElem?_reverse (by simpa using hj), List.getElem?_set, List.getElem?_reverse hj, List.getElem?_set]
      simp only [List.length_reverse, List.length_set]
      by_cases e : l.length - 1 - i = j
      · rw [if_pos e, if_pos (by omega), if_pos (by omega), if_pos (by omega)]
      · rw [if_neg e, if_neg (by omega)]
    · rw [List.getElem?_eq_none (by simp; omega), List.getElem?_eq_none (by simp; omega)]

/-- What stands there when k digits are written. -/
def part (n size k : Nat) : List UInt8 := (List.range size).map fun i => if i < k then dg n i else 0
theorem part_length (n size k : Nat) : (part n size k).length = size := by simp [part]
theorem part_zero (n size : Nat) : part n size 0 = List.replicate size 0 := by
  apply List.ext_getElem
  · simp [part]
  · intro i h1 h2; simp [part]
theorem part_all (n size : Nat) : part n size size = lit n size := by
  apply List.ext_getElem
  · simp [part, lit]
  · intro i h1 h2
    have : i < size := by simpa [part] using h1
    simp [part, lit, this]
theorem part_set (n size k : Nat) : (part n size k).set k (dg n k) = part n size (k + 1) := by
  apply List.ext_getElem
  · simp [part]
  · intro i h1 h2
    rw [List.getElem_set]
    simp only [part, List.getElem_map, List.getElem_range]
    by_cases e : k = i
    · subst e; rw [if_pos rfl, if_pos (by omega)]
    · rw [if_neg e]
      by_cases h : i < k
      · rw [if_pos h, if_pos (by omega)]
      · rw [if_neg h, if_neg (by omega)]
theorem part_step (n size k : Nat) (big : Bool) (h : k < size) : (turn big (part n size k)).set (at' k size big) (dg n k) = turn big (part n size (k + 1)) := by
  have := turn_set big (part n size k) k (dg n k) (by rw [part_length]; exact h)
  rw [part_length] at this
  rw [this, part_set]
theorem turn_zero (big : Bool) (n size : Nat) : turn big (part n size 0) = List.replicate size 0 := by
  rw [part_zero]; unfold turn; split <;> simp

/-- The bytes of a number. -/
def put (n size : Nat) (big : Bool) : List UInt8 := turn big (lit n size)
theorem put_length (n size : Nat) (big : Bool) : (put n size big).length = size := by rw [put, turn_length, lit_length]
theorem put_part (n size : Nat) (big : Bool) : turn big (part n size size) = put n size big := by rw [part_all]; rfl

/-- The number of digits, the lowest one first. -/
def val : List UInt8 → Nat
  | [] => 0
  | x :: l => x.toNat + 256 * val l
theorem val_lt : ∀ l : List UInt8, val l < 256 ^ l.length
  | [] => by simp [val]
  | x :: l => by
    have h := val_lt l
    have hx := x.toNat_lt
    simp only [val, List.length_cons, Nat.pow_succ]
    omega
theorem val_snoc : ∀ (l : List UInt8) (x : UInt8), val (l ++ [x]) = val l + x.toNat * 256 ^ l.length
  | [], x => by simp [val]
  | y :: l, x => by
    have h := val_snoc l x
    simp only [List.cons_append, val, h, List.length_cons, Nat.pow_succ]
    have e : x.toNat * (256 ^ l.length * 256) = 256 * (x.toNat * 256 ^ l.length) := by
      rw [← Nat.mul_assoc, Nat.mul_comm]
    omega
theorem val_lit : ∀ (n k : Nat), val (lit n k) = n % 256 ^ k
  | n, 0 => by simp [lit, val, Nat.mod_one]
  | n, k + 1 => by
    rw [lit_snoc, val_snoc, val_lit n k, lit_length, dg_nat, Nat.pow_succ, Nat.mod_mul, Nat.mul_comm (256 ^ k)]
theorem val_lit_fits (n k : Nat) (h : n < 256 ^ k) : val (lit n k) = n := by rw [val_lit, Nat.mod_eq_of_lt h]
theorem dg_zero (x : UInt8) (m : Nat) : dg (x.toNat + 256 * m) 0 = x := by
  apply UInt8.toNat_inj.1
  rw [dg_nat]
  have := x.toNat_lt
  simp only [Nat.pow_zero, Nat.div_one]
  omega
theorem dg_succ (x : UInt8) (m i : Nat) : dg (x.toNat + 256 * m) (i + 1) = dg m i := by
  apply UInt8.toNat_inj.1
  rw [dg_nat, dg_nat, Nat.pow_succ, Nat.mul_comm (256 ^ i), ← Nat.div_div_eq_div_mul]
  have := x.toNat_lt
  rw [show (x.toNat + 256 * m) / 256 = m by omega]
theorem lit_val : ∀ l : List UInt8, lit (val l) l.length = l
  | [] => rfl
  | x :: l => by
    have h := lit_val l
    simp only [lit, val, List.length_cons, List.range_succ_eq_map, List.map_cons, List.map_map, dg_zero]
    congr 1
    rw [← h]
    simp only [lit, List.length_map, List.length_range]
    apply List.map_congr_left
    intro i _
    rw [show (dg (x.toNat + 256 * val (List.map (dg (val l)) (List.range l.length))) ∘ Nat.succ) i = dg (x.toNat + 256 * val (List.map (dg (val l)) (List.range l.length))) (i + 1) from rfl, dg_succ]
    have h2 : val (List.map (dg (val l)) (List.range l.length)) = val l := by
      rw [show List.map (dg (val l)) (List.range l.length) = lit (val l) l.length from rfl, h]
    rw [h2]

/-- The number of digits, the highest one first. -/
def hor (l : List UInt8) : Nat := val l.reverse
theorem hor_snoc (l : List UInt8) (x : UInt8) : hor (l ++ [x]) = 256 * hor l + x.toNat := by
  simp [hor, val]; omega
theorem hor_nil : hor [] = 0 := rfl
theorem hor_lt (l : List UInt8) : hor l < 256 ^ l.length := by have := val_lt l.reverse; simpa [hor] using this

/-- The number whose bytes a text is. -/
def get (l : List UInt8) (big : Bool) : Nat := val (turn big l)
theorem get_hor (l : List UInt8) (big : Bool) : hor (turn (!big) l) = get l big := by rw [hor, turn_not_rev]; rfl
theorem get_lt (l : List UInt8) (big : Bool) : get l big < 256 ^ l.length := by have := val_lt (turn big l); rwa [turn_length] at this
theorem get_put (n size : Nat) (big : Bool) (h : n < 256 ^ size) : get (put n size big) big = n := by
  rw [get, put, turn_turn, val_lit_fits n size h]
theorem put_get (l : List UInt8) (big : Bool) : put (get l big) l.length big = l := by
  have h := lit_val (turn big l)
  rw [turn_length] at h
  rw [get, put, h, turn_turn]
theorem put_not (n size : Nat) (big : Bool) : put n size (!big) = (put n size big).reverse := by rw [put, turn_not]; rfl
theorem get_zero_size (l : List UInt8) : l.length = 0 → l = [] := List.eq_nil_of_length_eq_zero

theorem pow_le (k : Nat) (h : k ≤ 8) : 256 ^ k ≤ 18446744073709551616 := by
  have := Nat.pow_le_pow_right (n := 256) (by omega) h
  simpa using this
theorem pow_eq (k : Nat) : 256 ^ k = 2 ^ (8 * k) := by rw [Nat.pow_mul]

/-- Does it fit? -/
def fits (n : Nat) (size : Int) : Bool := decide (1 ≤ size ∧ size ≤ 8 ∧ n < 256 ^ size.toNat)
theorem fits_iff (n : Nat) (size : Int) : fits n size = true ↔ 1 ≤ size ∧ size ≤ 8 ∧ n < 256 ^ size.toNat := by simp [fits]
theorem fits_in (n s : Nat) (h1 : 1 ≤ s) (h2 : s ≤ 8) : fits n (s : Int) = decide (n < 256 ^ s) := by
  unfold fits; apply decide_eq_decide.2; simp; omega
theorem fits_div (n s : Nat) : (n / 256 ^ s = 0) ↔ n < 256 ^ s := by
  rw [Nat.div_eq_zero_iff]
  have : 0 < 256 ^ s := Nat.pow_pos (by omega)
  omega

/-- A shift to the right by so many bytes. -/
theorem shr (n k : Nat) (hk : k ≤ 8) : (n : Int) / 2 ^ min (8 * (k : Int)).toNat 64 = ((n / 256 ^ k : Nat) : Int) := by
  have e : min (8 * (k : Int)).toNat 64 = 8 * k := by omega
  rw [e, pow_eq]
  simp
theorem div_test (n m s : Nat) (h : m = n / 256 ^ s) : ((m : Int) == 0) = decide (n < 256 ^ s) := by
  have e := fits_div n s
  rw [← h] at e
  rw [Bool.eq_iff_iff]
  simp only [beq_iff_eq, decide_eq_true_eq, ← e]
  omega
theorem shr_test (n s : Nat) : ((n : Int) / 2 ^ (8 * s) == 0) = decide (n < 256 ^ s) := by
  rw [← div_test n (n / 256 ^ s) s rfl, pow_eq]
  simp
theorem wrap8 (n : Nat) : IntKind.u8.wrap (n : Int) = ((n % 256 : Nat) : Int) := by rw [IntKind.wrap_u8]; simp
/-- A shift to the left by so many bytes, of a byte. -/
theorem shl (x : UInt8) (k : Nat) (hk : k < 8) : IntKind.u64.wrap ((x.toNat : Int) * 2 ^ min (8 * (k : Int)).toNat 64) = ((x.toNat * 256 ^ k : Nat) : Int) := by
  have e : min (8 * (k : Int)).toNat 64 = 8 * k := by omega
  have hx := x.toNat_lt
  have h : x.toNat * 256 ^ k < 18446744073709551616 := by
    have h1 : x.toNat * 256 ^ k < 256 * 256 ^ k := Nat.mul_lt_mul_of_pos_right hx (Nat.pow_pos (by omega))
    have h2 := pow_le (k + 1) (by omega)
    rw [Nat.pow_succ, Nat.mul_comm] at h2
    omega
  rw [e, IntKind.wrap_u64]
  have e2 : (x.toNat : Int) * 2 ^ (8 * k) = ((x.toNat * 256 ^ k : Nat) : Int) := by rw [pow_eq]; simp
  rw [e2]
  omega
theorem shl2 (x : UInt8) (k : Nat) (hk : k < 8) : IntKind.u64.wrap (IntKind.u64.wrap (x.toNat : Int) * 2 ^ (8 * k)) = ((x.toNat * 256 ^ k : Nat) : Int) := by
  have h := shl x k hk
  rw [show min (8 * (k : Int)).toNat 64 = 8 * k by omega] at h
  have hx := x.toNat_lt
  rw [show IntKind.u64.wrap (x.toNat : Int) = (x.toNat : Int) by rw [IntKind.wrap_u64]; omega]
  exact h
theorem dg_int (n k : Nat) : (n : Int) / 2 ^ (8 * k) % 256 = ((dg n k).toNat : Int) := by
  rw [dg_nat, pow_eq]
  simp
theorem put_zero (n : Nat) (big : Bool) : put n 0 big = [] := by cases big <;> rfl
theorem put_big (n k : Nat) : put n (k + 1) true = [dg n k] ++ put n k true := by simp [put, turn, lit_snoc]
theorem put_little (n k : Nat) : put n (k + 1) false = put n k false ++ [dg n k] := by simp [put, turn, lit_snoc]
/-- What lies apart is joined as a sum. -/
theorem or_join (a : Nat) (x : UInt8) (k : Nat) (hk : k < 8) (ha : a < 256 ^ k) : bits .or .u64 (a : Int) ((x.toNat * 256 ^ k : Nat) : Int) = ((a + x.toNat * 256 ^ k : Nat) : Int) := by
  have hx := x.toNat_lt
  have h2 := pow_le (k + 1) (by omega)
  have h1 : x.toNat * 256 ^ k < 256 * 256 ^ k := Nat.mul_lt_mul_of_pos_right hx (Nat.pow_pos (by omega))
  rw [Nat.pow_succ, Nat.mul_comm] at h2
  have h3 : a < 18446744073709551616 := Nat.lt_of_lt_of_le ha (pow_le k (by omega))
  rw [(bits_nat .u64 64 (by decide) (fun n h₀ h₁ => by rw [IntKind.wrap_u64]; omega) a _ (by simpa using h3) (by have : (2 : Nat) ^ 64 = 18446744073709551616 := rfl; omega)).2]
  have ha' := ha
  rw [pow_eq] at ha'
  have e := Nat.two_pow_add_eq_or_of_lt ha' x.toNat
  rw [← pow_eq] at e
  rw [Nat.or_comm, Nat.mul_comm, ← e, Nat.add_comm]
end Oc
end Go.Proofs.YtbbnkmhlgfoacaaDoor.S8

namespace Go.Proofs.YtbbnkmhlgfoacaaDoor.S8
open Go.RowKit

theorem ret_bool {a b : Bool} (h : a = b) : Ending.returned (.bool a) = .returned (.bool b) := by rw [h]
theorem ret_int {k : IntKind} {a b : Int} (h : a = b) : Ending.returned (.int k a) = .returned (.int k b) := by rw [h]
theorem ret_u64b {a b : Int} {c d : Bool} (h : a = b) (g : c = d) : Ending.returned (.tuple #[.int .u64 a, .bool c]) = .returned (.tuple #[.int .u64 b, .bool d]) := by rw [h, g]

/-- The bytes that a slice holds. -/
def BytesAt (w : World) (a : Option Addr) (xs : List UInt8) : Prop :=
  xs = [] ∨ ∃ b off, a = some ⟨b, off, none⟩ ∧ b < w.heap.size ∧ ∀ j (h : j < xs.length), w.cell? ⟨b, off + j, none⟩ = some (.int .u8 (xs[j].toNat : Int))
theorem BytesAt.below {w w' : World} {B : Nat} {a : Option Addr} {xs : List UInt8} (h : BytesAt w a xs) (hb : Below B w w') (hB : ∀ b off, a = some ⟨b, off, none⟩ → b < w.heap.size → b < B) : BytesAt w' a xs := by
  rcases h with rfl | ⟨b, off, rfl, h1, h2⟩
  · exact .inl rfl
  · exact .inr ⟨b, off, rfl, Nat.lt_of_lt_of_le h1 hb.size, fun j hj => by rw [hb.cell (p := ⟨b, off + j, none⟩) (hB b off rfl h1)]; exact h2 j hj⟩
theorem BytesAt.next {w w' : World} {a : Option Addr} {xs : List UInt8} (h : BytesAt w a xs) (hb : Below w.heap.size w w') : BytesAt w' a xs := h.below hb fun _ _ _ h => h
theorem Below.chain {a b c : World} (h : Below a.heap.size a b) (k : Below b.heap.size b c) : Below a.heap.size a c := h.trans (k.mono h.size)

theorem fits_any (n : Nat) (size : Int) (w : World) :
    Calls Tryd.prog 64 #[.int .u64 (n : Int), .int .i64 size] w fun e w' => e = .returned (.bool (Oc.fits n size)) ∧ w' = w := by
  by_cases h1 : 1 ≤ size
  · by_cases h2 : size ≤ 8
    · obtain ⟨s, rfl⟩ := Int.eq_ofNat_of_zero_le (by omega : 0 ≤ size)
      go_enter Tryd.func64, Tryd.ntmps64
      go_wp2
      go_ret
      refine ⟨ret_bool ?_, rfl⟩
      rw [Oc.fits_in n s (by omega) (by omega), Oc.shr_test]
    · go_enter Tryd.func64, Tryd.ntmps64
      go_wp2
      go_ret
      exact ⟨ret_bool (by simp [Oc.fits]; omega), rfl⟩
  · go_enter Tryd.func64, Tryd.ntmps64
    go_wp2
    go_ret
    exact ⟨ret_bool (by simp [Oc.fits]; omega), rfl⟩

theorem place_any (i size : Nat) (big : Bool) (w : World) (h : i < size) (hs : size ≤ 1000) :
    Calls Tryd.prog 77 #[.int .i64 (i : Int), .int .i64 (size : Int), .bool big] w fun e w' => e = .returned (.int .i64 (Oc.at' i size big : Nat)) ∧ w' = w := by
  have i1 : (i : Int) < (size : Int) := by omega
  have i2 : (size : Int) ≤ 1000 := by omega
  cases big
  · go_enter Tryd.func77, Tryd.ntmps77
    go_wp2
    go_ret
    exact ⟨rfl, rfl⟩
  · go_enter Tryd.func77, Tryd.ntmps77
    go_wp2
    go_ret
    exact ⟨ret_int (by unfold Oc.at'; rw [if_pos rfl]; omega), rfl⟩

theorem get_few (a : Option Addr) (len cap : Nat) (big : Bool) (w : World) (h : len < 1 ∨ 8 < len) :
    Calls Tryd.prog 75 #[.slice a len cap, .bool big] w fun e w' => e = .returned (.tuple #[.int .u64 0, .bool false]) ∧ w' = w := by
  rcases h with h | h
  · have i1 : (len : Int) < 1 := by omega
    go_enter Tryd.func75, Tryd.ntmps75
    go_wp2
    go_ret2
    exact ⟨rfl, rfl⟩
  · have i1 : ¬ (len : Int) < 1 := by omega
    have i2 : 8 < (len : Int) := by omega
    go_enter Tryd.func75, Tryd.ntmps75
    go_wp2
    go_ret2
    exact ⟨rfl, rfl⟩

set_option maxHeartbeats 1000000 in
theorem get_some (b off cap : Nat) (xs : List UInt8) (big : Bool) (w : World) (h1 : 1 ≤ xs.length) (h8 : xs.length ≤ 8) (hc : ∀ j (h : j < xs.length), w.cell? ⟨b, off + j, none⟩ = some (.int .u8 (xs[j].toNat : Int))) :
    Calls Tryd.prog 75 #[.slice (some ⟨b, off, none⟩) xs.length cap, .bool big] w fun e w' => e = .returned (.tuple #[.int .u64 (Oc.get xs big : Nat), .bool true]) ∧ w' = w := by
  have Hc := Lib.hid hc
  clear hc
  have i1 : ¬ (xs.length : Int) < 1 := by omega
  have i2 : ¬ 8 < (xs.length : Int) := by omega
  go_enter Tryd.func75, Tryd.ntmps75
  go_wp2
  go_loop [7, 18] (fun n i => ∃ k : Nat, k ≤ xs.length ∧ i = .int .i64 (k : Int) ∧ n = .int .u64 (Oc.val ((Oc.turn big xs).take k) : Nat)) (fun _ i => xs.length - (intOf i).toNat)
  case atStart => exact ⟨0, Nat.zero_le _, rfl, rfl⟩
  case round =>
    obtain ⟨k, hk, rfl, rfl⟩ := hrel
    by_cases hlt : (k : Int) < (xs.length : Int)
    · have hk' : k < xs.length := by omega
      have hat := Oc.at_lt k xs.length big hk'
      have hat' : ((Oc.at' k xs.length big : Nat) : Int) < (xs.length : Int) := by omega
      have hcell := Hc.out (Oc.at' k xs.length big) hat
      obtain ⟨x, hx⟩ : ∃ x, x = xs[Oc.at' k xs.length big] := ⟨_, rfl⟩
      rw [← hx] at hcell
      have hvl : Oc.val ((Oc.turn big xs).take k) < 256 ^ k := by
        have := Oc.val_lt ((Oc.turn big xs).take k)
        rw [List.length_take, Oc.turn_length, Nat.min_eq_left hk] at this
        exact this
      have hor := Oc.or_join (Oc.val ((Oc.turn big xs).take k)) x k (by omega) hvl
      have hst : Oc.val ((Oc.turn big xs).take k) + x.toNat * 256 ^ k = Oc.val ((Oc.turn big xs).take (k + 1)) := by
        have e : (Oc.turn big xs).take (k + 1) = (Oc.turn big xs).take k ++ [x] := by
          rw [List.take_add_one, Oc.turn_get big xs k hk', List.getElem?_eq_getElem hat, ← hx]; rfl
        rw [e, Oc.val_snoc, List.length_take, Oc.turn_length, Nat.min_eq_left hk]
      have Hst := Lib.hid hst
      clear hst hx hvl
      go_wp2_with (go_at_call 77; refine (place_any k xs.length big _ hk' (by omega)).mono ?_; rintro e w' ⟨rfl, rfl⟩)
      go_round
      case rel => exact ⟨k + 1, by omega, by go_num, by rw [← Hst.out, Oc.shl2 x k (by omega), hor]⟩
      case measure => simp [intOf]; omega
    · go_wp2
      go_ret2
      exact ⟨ret_u64b (by rw [List.take_of_length_le (by rw [Oc.turn_length]; omega)]; rfl) rfl, rfl⟩

theorem get_at (a : Option Addr) (cap : Nat) (xs : List UInt8) (big : Bool) (w : World) (h1 : 1 ≤ xs.length) (h8 : xs.length ≤ 8) (h : BytesAt w a xs) :
    Calls Tryd.prog 75 #[.slice a xs.length cap, .bool big] w fun e w' => e = .returned (.tuple #[.int .u64 (Oc.get xs big : Nat), .bool true]) ∧ w' = w := by
  rcases h with rfl | ⟨b, off, rfl, hb, hc⟩
  · simp at h1
  · exact get_some b off cap xs big w h1 h8 hc

end Go.Proofs.YtbbnkmhlgfoacaaDoor.S8

namespace Go.Proofs.YtbbnkmhlgfoacaaDoor.S8
open Go.RowKit

theorem info5 : (Tryd.prog.info? 5).map (fun i => (i.zero, i.size, i.bytes)) = some (some (.int .u8 0), 1, 1) := by kernel_rfl
theorem info23 : (Tryd.prog.info? 28).map (fun i => (i.zero, i.size, i.bytes)) = some (some (.slice none 0 0), 1, 24) := by kernel_rfl

theorem cells_set (l : List UInt8) (j : Nat) (x : UInt8) : Lib.byteCells (l.set j x) = (Lib.byteCells l).set j (.int .u8 (x.toNat : Int)) := by
  simp [Lib.byteCells, List.map_set]
theorem cells_one (l : List UInt8) : ∀ u ∈ Lib.byteCells l, u.oneCell' = true := by
  intro u hu
  simp only [Lib.byteCells, List.mem_map] at hu
  obtain ⟨x, _, rfl⟩ := hu
  rfl

/-- A slice that was built of one value. -/
theorem owns_built (w : World) (base : Nat) (e : TypeId) (u : Value) (hb : base ≤ w.heap.size) : (w.alloc (.cells #[u] e)).ownsRow base e 1 (.slice (some ⟨w.heap.size, 0, none⟩) 1 1) 1 [u] :=
  ⟨rfl, .inr ⟨w.heap.size, 1, #[u], rfl, hb, heap_alloc_new w _, Nat.le_refl _, by unfold maxLen; omega, rfl, rfl⟩⟩

/-- append of a slice of one's own onto a slice of one's own, whether it is nil or not. -/
theorem wpList_append_owns {P : Program} {w : World} {ops : Array Oper} {rest : List Oper} {o : Oper} {a : Act} {Q : Exit → Act → World → Prop} (hgd : o.guard = none) (s x : Operand) (t : TypeId)
    (ho : o.op = .call { callee := .builtin .append, args := #[s, x], argTypes := #[t, t] })
    (base base2 : Nat) (e : TypeId) (i : TypeInfo) (z : Value) (size bytes : Nat) (ht : P.underlying t = some (.slice e)) (hi : P.info? e = some i) (hz : i.zero = some z)
    (hsize : i.size = size) (hby : i.bytes = bytes) (hzs : z.cells.size = size) (hsz : 0 < size)
    (v : Value) (n : Nat) (xs : List Value) (hs : a.eval s = v) (hown : w.ownsRow base e size v n xs)
    (vx : Value) (m : Nat) (news : List Value) (hx : a.eval x = vx) (hownx : w.ownsRow base2 e size vx m news) (h1 : ∀ u ∈ news, u.oneCell' = true)
    (h63 : n + m ≤ maxLen) (hbytes : (n + m) * bytes ≤ 140737488355328) (hbase : base ≤ w.heap.size)
    (h : ∀ v' w', w'.ownsRow base e size v' (n + m) (xs ++ news) → w.grownBy w' v.ownBlock → wpList P ops Q rest (a.put o.dst v') w') : wpList P ops Q (o :: rest) a w := by
  rcases hownx.2 with ⟨h0, rfl⟩ | ⟨g, cap, cur, h0, _⟩
  · have hn : news = [] := List.eq_nil_of_length_eq_zero (by rw [hownx.1]; simp)
    subst hn
    exact wpList_append_own_none hgd s x t ho base e i size ht hi v n xs hs hown (by rw [hx, h0]) (h v w (by simpa using hown) ⟨rfl, rfl, rfl, Nat.le_refl _, fun _ _ _ => rfl⟩)
  · exact wpList_append_own w hgd s x t ho base e i z size bytes ht hi hz hsize hby hzs hsz v n xs hs hown ⟨g, 0, none⟩ m cap news (by rw [hx, h0]) hownx.1 (hownx.cells (by rw [h0]; rfl)) h1 h63 hbytes hbase (fun v' w' a1 a2 _ => h v' w' a1 a2)

theorem put_not (n : Nat) (size : Int) (big : Bool) (w : World) (h : Oc.fits n size = false) :
    Calls Tryd.prog 65 #[.int .u64 (n : Int), .int .i64 size, .bool big] w fun e w' => e = .returned (.tuple #[.slice none 0 0, .bool false]) ∧ w' = w := by
  go_enter Tryd.func65, Tryd.ntmps65
  go_wp2_with (go_at_call 64; refine (fits_any n size _).mono ?_; rintro e w' ⟨rfl, rfl⟩)
  go_ret2
  exact ⟨rfl, rfl⟩

set_option maxHeartbeats 1000000 in
set_option maxRecDepth 100000 in
theorem put_fits (n s : Nat) (big : Bool) (w : World) (h1 : 1 ≤ s) (h8 : s ≤ 8) (h : n < 256 ^ s) :
    Calls Tryd.prog 65 #[.int .u64 (n : Int), .int .i64 (s : Int), .bool big] w fun e w' => ∃ v, e = .returned (.tuple #[v, .bool true]) ∧ w'.ownsRow w.heap.size 5 1 v s (Lib.byteCells (Oc.put n s big)) ∧ Below w.heap.size w w' := by
  obtain ⟨i0, hi, hz0, hz1, hz2⟩ := info_parts info5
  have hf : Oc.fits n (s : Int) = true := by rw [Oc.fits_in n s h1 h8]; exact decide_eq_true h
  have Hf := Lib.hid hf
  clear h
  go_enter Tryd.func65, Tryd.ntmps65
  go_wp2_with (first | (go_at_call 64; refine (fits_any n s _).mono ?_; rintro e w' ⟨rfl, rfl⟩) | (at_make; refine wpList_make_full _ rfl _ _ 28 rfl w'.heap.size 5 i0 (.int .u8 0) 1 Tryd.underlying28 hi hz0 hz1 .i64 .i64 _ _ s rfl rfl (by omega) (by omega) (by rw [hz2]; omega) (by unfold maxLen; omega) (Nat.le_refl _) ?_; intro w1 hown hgr))
  have hbw : Below w'.heap.size w' w1 := (Below.refl _ _).grown hgr (Nat.le_refl _) (fun k h => by cases h)
  have hown0 : w1.ownsRow w'.heap.size 5 1 (.slice (some ⟨w'.heap.size, 0, none⟩) s s) s (Lib.byteCells (Oc.turn big (Oc.part n s 0))) := by
    have e : Lib.byteCells (Oc.turn big (Oc.part n s 0)) = (madeCells (Value.int .u8 0).cells (s * 1)).toList := by
      rw [Oc.turn_zero, Nat.mul_one, show (Value.int .u8 0).cells = #[.int .u8 0] from rfl, toList_madeCells_one]; simp [Lib.byteCells]
    rw [e]; exact hown
  clear hgr hown
  go_loopw [17] (fun i wr => ∃ k : Nat, k ≤ s ∧ i = .int .i64 (k : Int) ∧ wr.ownsRow w'.heap.size 5 1 (.slice (some ⟨w'.heap.size, 0, none⟩) s s) s (Lib.byteCells (Oc.turn big (Oc.part n s k))) ∧ Below w'.heap.size w' wr) (fun i _ => s - (intOf i).toNat)
  case atStart => exact ⟨0, Nat.zero_le _, rfl, hown0, hbw⟩
  case round =>
    obtain ⟨k, hk, rfl, hown, hbw⟩ := hrel
    clear hown0
    by_cases hlt : (k : Int) < (s : Int)
    · have hk' : k < s := by omega
      have hat := Oc.at_lt k s big hk'
      have hat' : ((Oc.at' k s big : Nat) : Int) < (s : Int) := by omega
      have hcell := hown.cellAt (Oc.at' k s big) (by omega)
      have hfz := hown.frozenAt (Oc.at' k s big)
      have hps := Oc.part_step n s k big hk'
      obtain ⟨u, hu⟩ : ∃ u, (Lib.byteCells (Oc.turn big (Oc.part n s k)))[Oc.at' k s big]? = some u := ⟨_, List.getElem?_eq_getElem (by rw [Lib.byteCells_length, Oc.turn_length, Oc.part_length]; exact hat)⟩
      rw [hu] at hcell
      have Hps := Lib.hid hps
      clear hps
      have hw8 : IntKind.i64.wrap (8 * (k : Int)) = 8 * (k : Int) := by rw [IntKind.wrap_i64]; omega
      have hk0 : ¬ 8 * (k : Int) < 0 := by omega
      have hsh := Oc.shr n k (by omega)
      go_wp2
      go_region_with (go_at_call 77; refine (place_any k s big _ hk' (by omega)).mono ?_; rintro e w2 ⟨rfl, rfl⟩)
      all_goals
        go_wp2
        go_roundw
        case rel =>
          refine ⟨k + 1, by omega, by go_num, ?_, ?_⟩
          · show (wr.setCell ⟨w'.heap.size, Oc.at' k s big, none⟩ (.int .u8 ((n : Int) / 2 ^ (8 * k) % 256))).ownsRow _ _ _ _ _ _
            rw [Oc.dg_int, ← Hps.out, cells_set]
            exact (hown.stored (Oc.at' k s big) (.int .u8 ((Oc.dg n k).toNat : Int))).1
          · exact (hbw.setCell (Nat.le_refl _) _).drew
        case measure => simp [intOf]; omega
    · have hks : k = s := by omega
      subst hks
      rw [Oc.put_part] at hown
      go_wp2
      go_ret2
      exact ⟨_, rfl, hown, hbw⟩

end Go.Proofs.YtbbnkmhlgfoacaaDoor.S8

namespace Go.Proofs.YtbbnkmhlgfoacaaDoor.S8
open Go.RowKit

/-- The bytes that a slice holds, nil or not. -/
structure RowAt (w : World) (a : Option Addr) (c : Nat) (xs : List UInt8) : Prop where
  le : xs.length ≤ c
  max : c ≤ maxLen
  nil : a = none → c = 0
  cell : ∀ ad, a = some ad → ∀ j u, (Lib.byteCells xs)[j]? = some u → w.cell? (ad.add j) = some u
theorem RowAt.bytes {w : World} {a : Option Addr} {c : Nat} {xs : List UInt8} (h : RowAt w a c xs) : BytesAt w a xs := by
  rcases Nat.eq_zero_or_pos xs.length with h0 | h0
  · exact .inl (List.eq_nil_of_length_eq_zero h0)
  · right
    cases a with
    | none => have := h.nil rfl; have := h.le; omega
    | some ad =>
      obtain ⟨b, off, spot⟩ := ad
      have hc : ∀ j (hj : j < xs.length), w.cell? ((⟨b, off, spot⟩ : Addr).add j) = some (.int .u8 (xs[j].toNat : Int)) := fun j hj => h.cell _ rfl j _ (by simp [Lib.byteCells, hj])
      have hspot : spot = none := by simpa [Addr.add] using World.cell?_spot (hc 0 h0)
      subst hspot
      refine ⟨b, off, rfl, World.block_lt_of_cell? w _ (hc 0 h0), fun j hj => ?_⟩
      rw [← Go.WideShapes.add_plain]; exact hc j hj
theorem RowAt.next {w w' : World} {a : Option Addr} {c : Nat} {xs : List UInt8} (h : RowAt w a c xs) (hb : Below w.heap.size w w') : RowAt w' a c xs :=
  ⟨h.le, h.max, h.nil, fun ad e j u hu => by
    have h1 := h.cell ad e j u hu
    rw [hb.cell (p := ad.add j) (World.block_lt_of_cell? w _ h1)]; exact h1⟩
theorem rowAt_nil (w : World) : RowAt w none 0 [] := ⟨Nat.le_refl _, Nat.zero_le _, fun _ => rfl, fun _ e => by cases e⟩
/-- A slice of one's own, as a slice that is handed on. -/
theorem rowAt_own {w : World} {B n : Nat} {v : Value} {xs : List UInt8} (hn : xs.length = n) (h : w.ownsRow B 5 1 v n (Lib.byteCells xs)) : ∃ a c, v = .slice a n c ∧ RowAt w a c xs := by
  rcases h.2 with ⟨rfl, h0⟩ | ⟨g, cap, cur, rfl, _, _, h1, h2, _, _⟩
  · have : xs = [] := List.eq_nil_of_length_eq_zero (by omega)
    subst this
    subst h0
    exact ⟨none, 0, rfl, rowAt_nil w⟩
  · exact ⟨some ⟨g, 0, none⟩, cap, rfl, ⟨by omega, h2, (fun e => by cases e), (fun ad e j u hu => by cases e; exact h.cells (g := g) rfl j u hu)⟩⟩

theorem conv_nil (w : World) : (convert 28 9 (.slice none 0 0)).run Tryd.prog w = .ok (.string ⟨#[]⟩) w := by kernel_rfl
/-- The text of a slice. -/
theorem conv_row {w : World} {a : Option Addr} {c n : Nat} {xs : List UInt8} (hn : xs.length = n) (h : RowAt w a c xs) : (convert 28 9 (.slice a n c)).run Tryd.prog w = .ok (.string ⟨xs.toArray⟩) w := by
  subst hn
  cases a with
  | none =>
    have h0 := h.nil rfl
    have h1 := h.le
    have : xs = [] := List.eq_nil_of_length_eq_zero (by omega)
    subst this
    subst h0
    exact conv_nil w
  | some ad => exact run_convert_bytes_back (P := Tryd.prog) w 28 9 5 ad c xs Tryd.underlying28 Tryd.underlying5 Tryd.underlying9 (fun j hj => h.cell ad rfl j _ (by simp [Lib.byteCells, hj]))

theorem grow_zero (w : World) : Calls Tryd.prog 78 #[.slice none 0 0, .int .i64 0] w fun e w' => e = .returned (.slice none 0 0) ∧ w' = w := by
  go_enter Tryd.func78, Tryd.ntmps78
  go_wp2
  go_ret
  exact ⟨rfl, rfl⟩

set_option maxHeartbeats 1000000 in
theorem grow_some (n : Nat) (w : World) (h1 : 0 < n) (hn : n ≤ 1000000) :
    Calls Tryd.prog 78 #[.slice none 0 0, .int .i64 (n : Int)] w fun e w' => ∃ v, e = .returned v ∧ w'.ownsRow w.heap.size 5 1 v 0 [] ∧ Below w.heap.size w w' := by
  obtain ⟨i0, hi, hz0, hz1, hz2⟩ := info_parts info5
  have i1 : ¬ (n : Int) < 0 := by omega
  have i2 : (0 : Int) < (n : Int) := by omega
  have hrz : ∀ ty, (Builtin.append_ #[28, 3] ty #[.slice none 0 0, .int .i64 (n : Int)]).run Tryd.prog w =
      .ok (.slice (some ⟨w.heap.size, 0, none⟩) n (grownCap w n 0 5)) (w.drew.alloc (.cells (Builtin.zeroCells (Value.int .u8 0).cells n ++ Builtin.zeroCells (Value.int .u8 0).cells (grownCap w n 0 5 - n)) 5)) := fun ty =>
    Lib.run_append_nil_zeros w 28 3 ty 5 i0 (.int .u8 0) .i64 .i64 Tryd.underlying28 Tryd.underlying3 hi hz0 n h1 (by omega) (by omega) (by rw [hz2]; omega)
  have hG := grownCap_ge w n 0 5
  have hGm := grownCap_le_maxLen w n 0 5 (by unfold maxLen; omega)
  have hown := World.ownsRow_made (base := w.heap.size) (e := 5) (size := 1) w.drew (Builtin.zeroCells (Value.int .u8 0).cells n ++ Builtin.zeroCells (Value.int .u8 0).cells (grownCap w n 0 5 - n)) (grownCap w n 0 5) (Nat.le_refl _) hGm (by rw [Array.size_append, size_zeroCells, size_zeroCells]; simp [Value.cells]; omega)
  have hbw : Below w.heap.size w (w.drew.alloc (.cells (Builtin.zeroCells (Value.int .u8 0).cells n ++ Builtin.zeroCells (Value.int .u8 0).cells (grownCap w n 0 5 - n)) 5)) := (Below.refl _ _).drew.alloc (Nat.le_refl _) _
  have Hown := Lib.hid hown
  have Hbw := Lib.hid hbw
  clear hown hbw
  go_enter Tryd.func78, Tryd.ntmps78
  go_wp2_with (at_builtin; refine Lib.wpList_append_run _ rfl _ _ _ _ rfl _ _ rfl rfl _ _ (hrz _) ?_)
  go_ret
  exact ⟨_, rfl, Hown.out, Hbw.out⟩

theorem grow_any (n : Nat) (w : World) (hn : n ≤ 1000000) :
    Calls Tryd.prog 78 #[.slice none 0 0, .int .i64 (n : Int)] w fun e w' => ∃ v, e = .returned v ∧ w'.ownsRow w.heap.size 5 1 v 0 [] ∧ Below w.heap.size w w' := by
  rcases Nat.eq_zero_or_pos n with rfl | h
  · refine (grow_zero w).mono ?_
    rintro e w' ⟨rfl, rfl⟩
    exact ⟨_, rfl, World.ownsRow_nil _ _ _ _, Below.refl _ _⟩
  · exact grow_some n w h hn

/-- append of whatever slice of bytes onto a slice of one's own. -/
theorem wpList_append_row {w : World} {ops : Array Oper} {rest : List Oper} {o : Oper} {a : Act} {Q : Exit → Act → World → Prop} (hgd : o.guard = none) (s x : Operand)
    (ho : o.op = .call { callee := .builtin .append, args := #[s, x], argTypes := #[28, 28] })
    (base : Nat) (v : Value) (n : Nat) (xs : List Value) (hs : a.eval s = v) (hown : w.ownsRow base 5 1 v n xs)
    (p : Option Addr) (m c : Nat) (ys : List UInt8) (hx : a.eval x = .slice p m c) (hm : ys.length = m) (hrow : RowAt w p c ys)
    (h63 : n + m ≤ 1000000) (hbase : base ≤ w.heap.size)
    (h : ∀ v' w', w'.ownsRow base 5 1 v' (n + m) (xs ++ Lib.byteCells ys) → w.grownBy w' v.ownBlock → wpList Tryd.prog ops Q rest (a.put o.dst v') w') : wpList Tryd.prog ops Q (o :: rest) a w := by
  obtain ⟨i0, hi, hz0, hz1, hz2⟩ := info_parts info5
  cases p with
  | none =>
    have h0 := hrow.nil rfl
    have h1 := hrow.le
    have hy : ys = [] := List.eq_nil_of_length_eq_zero (by omega)
    subst hy
    subst h0
    simp at hm
    subst hm
    exact wpList_append_own_none hgd s x 28 ho base 5 i0 1 Tryd.underlying28 hi v n xs hs hown hx (h v w (by simpa [Lib.byteCells] using hown) ⟨rfl, rfl, rfl, Nat.le_refl _, fun _ _ _ => rfl⟩)
  | some ad =>
    exact wpList_append_own w hgd s x 28 ho base 5 i0 (.int .u8 0) 1 1 Tryd.underlying28 hi hz0 hz1 hz2 rfl (by decide) v n xs hs hown ad m c (Lib.byteCells ys) hx (by rw [Lib.byteCells_length, hm, Nat.mul_one]) (hrow.cell ad rfl) (cells_one ys) (by unfold maxLen; omega) (by omega) hbase (fun v' w' a1 a2 _ => h v' w' a1 a2)

/-- The lists of bytes that a slice of slices holds. -/
def PartsAt (w : World) (a : Option Addr) (L : List (List UInt8)) : Prop :=
  L = [] ∨ ∃ b off, a = some ⟨b, off, none⟩ ∧ b < w.heap.size ∧ ∀ j (h : j < L.length), ∃ p c, w.cell? ⟨b, off + j, none⟩ = some (.slice p L[j].length c) ∧ RowAt w p c L[j]
theorem PartsAt.next {w w' : World} {a : Option Addr} {L : List (List UInt8)} (h : PartsAt w a L) (hb : Below w.heap.size w w') : PartsAt w' a L := by
  rcases h with rfl | ⟨b, off, rfl, h1, h2⟩
  · exact .inl rfl
  · refine .inr ⟨b, off, rfl, Nat.lt_of_lt_of_le h1 hb.size, fun j hj => ?_⟩
    obtain ⟨p, c, h3, h4⟩ := h2 j hj
    exact ⟨p, c, by rw [hb.cell (p := ⟨b, off + j, none⟩) h1]; exact h3, h4.next hb⟩

theorem flat_step (L : List (List UInt8)) (k : Nat) (h : k < L.length) : (L.take (k + 1)).flatten = (L.take k).flatten ++ L[k] := by
  rw [List.take_succ_eq_append_getElem h, List.flatten_append]; simp
/-- How many bytes the first parts have. -/
def tot (L : List (List UInt8)) (k : Nat) : Nat := (L.take k).flatten.length
theorem tot_step (L : List (List UInt8)) (k : Nat) (h : k < L.length) : tot L (k + 1) = tot L k + L[k].length := by unfold tot; rw [flat_step L k h, List.length_append]
theorem tot_all (L : List (List UInt8)) : tot L L.length = L.flatten.length := by unfold tot; rw [List.take_length]
theorem flat_le (L : List (List UInt8)) (k : Nat) : (L.take k).flatten.length ≤ L.flatten.length := by
  have h : L.flatten = (L.take k).flatten ++ (L.drop k).flatten := by rw [← List.flatten_append, List.take_append_drop]
  rw [h, List.length_append]; omega

theorem tot_le (L : List (List UInt8)) (k : Nat) : tot L k ≤ L.flatten.length := flat_le L k

theorem concat_none (a : Option Addr) (cap : Nat) (w : World) :
    Calls Tryd.prog 66 #[.slice a 0 cap] w fun e w' => e = .returned (.slice none 0 0) ∧ w' = w := by
  go_enter Tryd.func66, Tryd.ntmps66
  go_wp2
  refine wp_loop_rounds 1 ?_
  rw [rounds_succ]
  go_wp2_with (go_at_call 78; refine (grow_zero _).mono ?_; rintro e w' ⟨rfl, rfl⟩)
  refine wp_loop_rounds 1 ?_
  rw [rounds_succ]
  go_wp2
  go_ret
  exact ⟨rfl, rfl⟩

set_option maxHeartbeats 2000000 in
set_option maxRecDepth 100000 in
theorem concat_some (b off cap : Nat) (L : List (List UInt8)) (F : List UInt8) (w : World) (HF : Hid (L.flatten = F)) (hL : L.length ≤ 100000) (hsum : F.length ≤ 100000) (hb : b < w.heap.size)
    (hc : ∀ j (h : j < L.length), ∃ p c, w.cell? ⟨b, off + j, none⟩ = some (.slice p L[j].length c) ∧ RowAt w p c L[j]) :
    Calls Tryd.prog 66 #[.slice (some ⟨b, off, none⟩) L.length cap] w fun e w' => ∃ v, e = .returned v ∧ w'.ownsRow w.heap.size 5 1 v F.length (Lib.byteCells F) ∧ Below w.heap.size w w' := by
  have Hc := Lib.hid hc
  clear hc
  go_enter Tryd.func66, Tryd.ntmps66
  go_wp2
  go_loop [3, 11] (fun n i => ∃ k : Nat, k ≤ L.length ∧ i = .int .i64 (k : Int) ∧ n = .int .i64 (tot L k : Nat)) (fun _ i => L.length - (intOf i).toNat)
  case atStart => exact ⟨0, Nat.zero_le _, rfl, rfl⟩
  case round =>
    obtain ⟨k, hk, rfl, rfl⟩ := hrel
    have hle := tot_le L k
    rw [HF.out] at hle
    by_cases hlt : (k : Int) < (L.length : Int)
    · have hk' : k < L.length := by omega
      obtain ⟨p, c, hcell, hrow⟩ := Hc.out k hk'
      clear hrow
      have hle2 := tot_le L (k + 1)
      have hst := tot_step L k hk'
      rw [hst, HF.out] at hle2
      have hs1 : ¬ (tot L k : Int) + (L[k].length : Int) < 0 := by omega
      have Hst := Lib.hid hst
      clear hst
      go_wp2
      go_round
      case rel => exact ⟨k + 1, by omega, by go_num, by rw [Hst.out]; go_num⟩
      case measure => simp [intOf]; omega
    · have hkl : k = L.length := by omega
      subst hkl
      go_wp2_with (go_at_call 78; refine (grow_any _ _ (by omega)).mono ?_; rintro e w1 ⟨v1, rfl, hown1, hb1⟩)
      go_loopw [6, 27] (fun v i wr => ∃ k : Nat, k ≤ L.length ∧ i = .int .i64 (k : Int) ∧ wr.ownsRow w.heap.size 5 1 v (L.take k).flatten.length (Lib.byteCells (L.take k).flatten) ∧ Below w.heap.size w wr) (fun _ i _ => L.length - (intOf i).toNat)
      case atStart => exact ⟨0, Nat.zero_le _, rfl, hown1, hb1⟩
      case round =>
        obtain ⟨k, hk, rfl, hown, hbw⟩ := hrel
        have hle := flat_le L k
        rw [HF.out] at hle
        by_cases hlt : (k : Int) < (L.length : Int)
        · have hk' : k < L.length := by omega
          obtain ⟨p, c, hcell0, hrow0⟩ := Hc.out k hk'
          have hcell : wr.cell? ⟨b, off + k, none⟩ = some (.slice p L[k].length c) := by rw [hbw.cell (p := ⟨b, off + k, none⟩) hb]; exact hcell0
          have hrow := hrow0.next hbw
          have Hrow := Lib.hid hrow
          clear hcell0 hrow0 hrow
          have hle2 := flat_le L (k + 1)
          rw [flat_step L k hk', List.length_append, HF.out] at hle2
          go_wp2_with (at_builtin; refine wpList_append_row rfl _ _ rfl w.heap.size _ _ _ rfl hown p L[k].length c L[k] rfl rfl Hrow.out (by omega) hbw.size ?_; intro v2 w2 hown2 hgr2)
          have hbw2 : Below w.heap.size w w2 := Below.grown hbw hgr2 hbw.size (fun j hj => (hown.lt j hj).1)
          go_roundw
          case rel => exact ⟨k + 1, by omega, by go_num, by rw [flat_step L k hk', Lib.byteCells_append, List.length_append]; exact hown2, hbw2⟩
          case measure => simp [intOf]; omega
        · have hkl : k = L.length := by omega
          subst hkl
          rw [List.take_length, HF.out] at hown
          go_wp2
          go_ret
          exact ⟨_, rfl, hown, hbw⟩

theorem concat_at (a : Option Addr) (cap : Nat) (L : List (List UInt8)) (w : World) (hL : L.length ≤ 100000) (hsum : L.flatten.length ≤ 100000) (h : PartsAt w a L) :
    Calls Tryd.prog 66 #[.slice a L.length cap] w fun e w' => ∃ v, e = .returned v ∧ w'.ownsRow w.heap.size 5 1 v L.flatten.length (Lib.byteCells L.flatten) ∧ Below w.heap.size w w' := by
  rcases h with rfl | ⟨b, off, rfl, hb, hc⟩
  · refine (concat_none a cap w).mono ?_
    rintro e w' ⟨rfl, rfl⟩
    exact ⟨_, rfl, World.ownsRow_nil _ _ _ _, Below.refl _ _⟩
  · exact concat_some b off cap L L.flatten w rfl hL hsum hb hc

theorem join_at (a : Option Addr) (n cap : Nat) (L : List (List UInt8)) (F : List UInt8) (w : World) (hn : L.length = n) (hF : L.flatten = F) (hL : L.length ≤ 100000) (hsum : F.length ≤ 100000) (h : PartsAt w a L) :
    Calls Tryd.prog 53 #[.slice a n cap] w fun e w' => ∃ v, e = .returned v ∧ w'.ownsRow w.heap.size 5 1 v F.length (Lib.byteCells F) ∧ Below w.heap.size w w' := by
  subst hn
  have H := Lib.hid (hF ▸ concat_at a cap L w hL (by rw [hF]; exact hsum) h)
  clear h
  go_enter Tryd.func53, Tryd.ntmps53
  go_wp2_with (go_at_call 66; refine H.out.mono ?_; rintro e w' ⟨v, rfl, h1, h2⟩)
  go_ret
  exact ⟨v, rfl, h1, h2⟩
end Go.Proofs.YtbbnkmhlgfoacaaDoor.S8

namespace Go.Proofs.YtbbnkmhlgfoacaaDoor.S8
open Go.RowKit

theorem RowAt.cut {w : World} {a : Option Addr} {c : Nat} {xs : List UInt8} (h : RowAt w a c xs) (l r : Nat) (hlr : l ≤ r) (hr : r ≤ xs.length) : RowAt w (if c = l then a else a.map (·.add l)) (c - l) ((xs.take r).drop l) := by
  have h1 := h.le
  have h2 := h.max
  refine ⟨by simp; omega, by omega, fun e => ?_, fun ad e j u hu => ?_⟩
  · split at e
    · have := h.nil e; omega
    · cases a with
      | none => have := h.nil rfl; omega
      | some x => simp at e
  · have hj : j < r - l := by
      have := (List.getElem?_eq_some_iff.1 hu).1
      rw [Lib.byteCells_length] at this
      simp at this
      omega
    split at e
    · omega
    · cases a with
      | none => simp at e
      | some x =>
        simp at e
        subst e
        have hu2 : (Lib.byteCells xs)[l + j]? = some u := by
          simp only [Lib.byteCells, List.getElem?_map, List.getElem?_drop, List.getElem?_take] at hu ⊢
          rw [if_pos (by omega)] at hu
          exact hu
        have h3 := h.cell x rfl (l + j) u hu2
        have h0 := h.cell x rfl 0 _ (List.getElem?_eq_getElem (by rw [Lib.byteCells_length]; omega))
        obtain ⟨b, off, spot⟩ := x
        have hspot : spot = none := by simpa [Addr.add] using World.cell?_spot h0
        subst hspot
        rw [Go.WideShapes.add_plain] at h3 ⊢
        rw [Go.WideShapes.add_plain, Nat.add_assoc]
        exact h3

theorem ownsRow_lower {w : World} {base base' : Nat} {e : TypeId} {size : Nat} {v : Value} {n : Nat} {xs : List Value} (h : w.ownsRow base e size v n xs) (hb : base' ≤ base) : w.ownsRow base' e size v n xs := by
  refine ⟨h.1, ?_⟩
  rcases h.2 with h2 | ⟨g, cap, cur, a, b, c⟩
  · exact .inl h2
  · exact .inr ⟨g, cap, cur, a, Nat.le_trans hb b, c⟩
theorem below_alloc {w w' : World} {o : Obj} (h : Below (w.alloc o).heap.size (w.alloc o) w') : Below w.heap.size w w' := ((Below.refl _ _).alloc (Nat.le_refl _) _).trans (h.mono (by simp))

theorem parts_one {w : World} {p : Option Addr} {c n : Nat} {ys : List UInt8} (hn : ys.length = n) (h : RowAt w p c ys) : PartsAt (w.alloc (.cells #[.slice p n c] 28)) (some ⟨w.heap.size, 0, none⟩) [ys] := by
  subst hn
  refine .inr ⟨w.heap.size, 0, rfl, by simp, fun j hj => ?_⟩
  have : j = 0 := by simpa using hj
  subst this
  exact ⟨p, c, by simp only [World.cell?, heap_alloc_new]; rfl, h.next ((Below.refl _ _).alloc (Nat.le_refl _) _)⟩

theorem cut_bad (a : Option Addr) (len cap : Nat) (l m : Int) (w : World) (hm : len ≤ 100000) (hl : -9223372036854775808 ≤ l) (hl2 : l ≤ 9223372036854775807) (h : l < 0 ∨ m < 0 ∨ (len : Int) - l < m) :
    Calls Tryd.prog 72 #[.slice a len cap, .int .i64 l, .int .i64 m] w fun e w' => e = .returned (.tuple #[.slice none 0 0, .bool false]) ∧ w' = w := by
  by_cases h1 : l < 0
  · go_enter Tryd.func72, Tryd.ntmps72
    go_wp2
    go_ret2
    exact ⟨rfl, rfl⟩
  · by_cases h2 : m < 0
    · go_enter Tryd.func72, Tryd.ntmps72
      go_wp2
      go_ret2
      exact ⟨rfl, rfl⟩
    · have h3 : (len : Int) - l < m := by omega
      clear h
      go_enter Tryd.func72, Tryd.ntmps72
      go_wp2
      go_ret2
      exact ⟨rfl, rfl⟩

set_option maxHeartbeats 1000000 in
theorem cut_good (a : Option Addr) (cap : Nat) (xs : List UInt8) (l m : Nat) (w : World) (hm : xs.length ≤ 100000) (hlm : l + m ≤ xs.length) (h : RowAt w a cap xs) :
    Calls Tryd.prog 72 #[.slice a xs.length cap, .int .i64 (l : Int), .int .i64 (m : Int)] w fun e w' => ∃ v, e = .returned (.tuple #[v, .bool true]) ∧ w'.ownsRow w.heap.size 5 1 v m (Lib.byteCells ((xs.drop l).take m)) ∧ Below w.heap.size w w' := by
  have hle := h.le
  have h1 : ¬ (l : Int) < 0 := by omega
  have h2 : ¬ (m : Int) < 0 := by omega
  have h3 : ¬ (xs.length : Int) - (l : Int) < (m : Int) := by omega
  have hcut := h.cut l (l + m) (by omega) hlm
  have hys : (xs.take (l + m)).drop l = (xs.drop l).take m := by rw [List.drop_take, Nat.add_sub_cancel_left]
  rw [hys] at hcut
  clear hys
  obtain ⟨ys, hy⟩ : ∃ ys, ys = (xs.drop l).take m := ⟨_, rfl⟩
  have hyl : ys.length = m := by rw [hy]; simp; omega
  rw [← hy] at hcut ⊢
  clear hy
  have hfl : [ys].flatten = ys := by simp
  have HF := Lib.hid hfl
  clear hfl
  by_cases hcl : cap = l
  · rw [if_pos hcl] at hcut
    have hm0 : m = 0 := by omega
    subst hm0
    subst hcl
    rw [Nat.sub_self] at hcut
    have Hcut := Lib.hid hcut
    clear hcut h
    go_enter Tryd.func72, Tryd.ntmps72
    go_wp2_with (go_at_call 53; refine (join_at _ 1 1 [ys] ys _ rfl HF.out (by simp) (by omega) (parts_one hyl Hcut.out)).mono ?_; rintro e w' ⟨v, rfl, o1, b1⟩)
    go_ret2
    exact ⟨v, rfl, hyl ▸ ownsRow_lower o1 (by simp), below_alloc b1⟩
  · rw [if_neg hcl] at hcut
    have Hcut := Lib.hid hcut
    clear hcut h
    go_enter Tryd.func72, Tryd.ntmps72
    go_wp2_with (go_at_call 53; refine (join_at _ 1 1 [ys] ys _ rfl HF.out (by simp) (by omega) (parts_one hyl Hcut.out)).mono ?_; rintro e w' ⟨v, rfl, o1, b1⟩)
    go_ret2
    exact ⟨v, rfl, hyl ▸ ownsRow_lower o1 (by simp), below_alloc b1⟩

set_option maxHeartbeats 1000000 in
theorem behind_neg (a : Option Addr) (cap : Nat) (xs : List UInt8) (i : Int) (w : World) (hm : xs.length ≤ 100000) (h : RowAt w a cap xs) (hi : i < 0) :
    Calls Tryd.prog 74 #[.slice a xs.length cap, .int .i64 i] w fun e w' => ∃ v, e = .returned v ∧ w'.ownsRow w.heap.size 5 1 v xs.length (Lib.byteCells xs) ∧ Below w.heap.size w w' := by
  have hle := h.le
  have hfl : [xs].flatten = xs := by simp
  have HF := Lib.hid hfl
  clear hfl
  have H := Lib.hid h
  clear h
  have hp := parts_one rfl H.out
  have Hp := Lib.hid hp
  clear hp
  go_enter Tryd.func74, Tryd.ntmps74
  go_wp2_with (go_at_call 53; refine (join_at _ 1 1 [xs] xs _ rfl HF.out (by simp) hm Hp.out).mono ?_; rintro e w' ⟨v, rfl, o1, b1⟩)
  go_ret
  exact ⟨v, rfl, ownsRow_lower o1 (by simp), below_alloc b1⟩

set_option maxHeartbeats 1000000 in
theorem behind_in (a : Option Addr) (cap : Nat) (xs : List UInt8) (i : Int) (l : Nat) (w : World) (hm : xs.length ≤ 100000) (h : RowAt w a cap xs) (hl : l ≤ xs.length) (hi : i = (l : Int) ∨ (l = xs.length ∧ (xs.length : Int) < i)) :
    Calls Tryd.prog 74 #[.slice a xs.length cap, .int .i64 i] w fun e w' => ∃ v, e = .returned v ∧ w'.ownsRow w.heap.size 5 1 v (xs.drop l).length (Lib.byteCells (xs.drop l)) ∧ Below w.heap.size w w' := by
  have hle := h.le
  have hcut := h.cut l xs.length hl (Nat.le_refl _)
  rw [List.take_length] at hcut
  have hyl : (xs.drop l).length = xs.length - l := by simp
  obtain ⟨ys, hy⟩ : ∃ ys, ys = xs.drop l := ⟨_, rfl⟩
  rw [← hy] at hcut hyl ⊢
  clear hy
  have hfl : [ys].flatten = ys := by simp
  have HF := Lib.hid hfl
  clear hfl
  have i0 : ¬ i < 0 := by omega
  by_cases hcl : cap = l
  · rw [if_pos hcl, hcl, Nat.sub_self] at hcut
    have hxl : xs.length = l := by omega
    have hyl0 : ys.length = 0 := by omega
    have Hyl := Lib.hid hyl0
    have hcx : cap = xs.length := by omega
    have hi' : i = (xs.length : Int) ∨ (xs.length : Int) < i := by omega
    have Hcut := Lib.hid hcut
    clear hcut h hyl0 hyl hcl hxl hi
    subst hcx
    rcases hi' with hi3 | hi2
    · subst hi3
      go_enter Tryd.func74, Tryd.ntmps74
      go_wp2_with (go_at_call 53; refine (join_at _ 1 1 [ys] ys _ rfl HF.out (by simp) (by have := Hyl.out; omega) (parts_one Hyl.out Hcut.out)).mono ?_; rintro e w' ⟨v, rfl, o1, b1⟩)
      go_ret
      exact ⟨v, rfl, ownsRow_lower o1 (by simp), below_alloc b1⟩
    · go_enter Tryd.func74, Tryd.ntmps74
      go_wp2_with (go_at_call 53; refine (join_at _ 1 1 [ys] ys _ rfl HF.out (by simp) (by have := Hyl.out; omega) (parts_one Hyl.out Hcut.out)).mono ?_; rintro e w' ⟨v, rfl, o1, b1⟩)
      go_ret
      exact ⟨v, rfl, ownsRow_lower o1 (by simp), below_alloc b1⟩
  · rw [if_neg hcl] at hcut
    have Hcut := Lib.hid hcut
    have Hyl := Lib.hid hyl
    clear hcut h hyl
    rcases hi with hi | ⟨hi1, hi2⟩
    · subst hi
      have i1 : ¬ (xs.length : Int) < (l : Int) := by omega
      go_enter Tryd.func74, Tryd.ntmps74
      go_wp2_with (go_at_call 53; refine (join_at _ 1 1 [ys] ys _ rfl HF.out (by simp) (by have := Hyl.out; omega) (parts_one Hyl.out Hcut.out)).mono ?_; rintro e w' ⟨v, rfl, o1, b1⟩)
      go_ret
      exact ⟨v, rfl, ownsRow_lower o1 (by simp), below_alloc b1⟩
    · subst hi1
      rw [Nat.sub_self] at Hyl
      go_enter Tryd.func74, Tryd.ntmps74
      go_wp2_with (go_at_call 53; refine (join_at _ 1 1 [ys] ys _ rfl HF.out (by simp) (by have := Hyl.out; omega) (parts_one Hyl.out Hcut.out)).mono ?_; rintro e w' ⟨v, rfl, o1, b1⟩)
      go_ret
      exact ⟨v, rfl, ownsRow_lower o1 (by simp), below_alloc b1⟩

theorem behind_at (a : Option Addr) (cap : Nat) (xs : List UInt8) (i : Int) (w : World) (hm : xs.length ≤ 100000) (h : RowAt w a cap xs) :
    Calls Tryd.prog 74 #[.slice a xs.length cap, .int .i64 i] w fun e w' => ∃ v, e = .returned v ∧ w'.ownsRow w.heap.size 5 1 v (xs.drop i.toNat).length (Lib.byteCells (xs.drop i.toNat)) ∧ Below w.heap.size w w' := by
  by_cases hi : i < 0
  · rw [show i.toNat = 0 by omega, List.drop_zero]
    exact behind_neg a cap xs i w hm h hi
  · by_cases hl : i.toNat ≤ xs.length
    · exact behind_in a cap xs i i.toNat w hm h hl (.inl (by omega))
    · rw [List.drop_of_length_le (by omega), ← List.drop_length (l := xs)]
      exact behind_in a cap xs i xs.length w hm h (Nat.le_refl _) (.inr ⟨rfl, by omega⟩)
/-- A slice that was built of bytes. -/
theorem rowAt_built (w : World) (xs : List UInt8) (n : Nat) (cs : Array Value) (hn : xs.length = n) (hcs : cs = (Lib.byteCells xs).toArray) (hm : n ≤ 100000) (fz : Nat × Nat) : RowAt (w.alloc (.cells cs 5 fz)) (some ⟨w.heap.size, 0, none⟩) n xs := by
  subst hcs
  subst hn
  refine ⟨Nat.le_refl _, by unfold maxLen; omega, (fun e => by cases e), fun ad e j u hu => ?_⟩
  cases e
  rw [Go.WideShapes.add_plain]
  simp only [World.cell?, heap_alloc_new]
  simpa using hu
theorem ownsRow_below {w w' : World} {base B : Nat} {e : TypeId} {size : Nat} {v : Value} {n : Nat} {xs : List Value} (h : w.ownsRow base e size v n xs) (hb : Below B w w') (hB : ∀ g, v.ownBlock = some g → g < B) : w'.ownsRow base e size v n xs := by
  obtain ⟨h1, h2⟩ := h
  refine ⟨h1, ?_⟩
  rcases h2 with h2 | ⟨g, cap, cur, a, b, c, d⟩
  · exact .inl h2
  · exact .inr ⟨g, cap, cur, a, b, by rw [hb.block g (hB g (by rw [a]; rfl))]; exact c, d⟩
theorem ownsRow_next {w w' : World} {base : Nat} {e : TypeId} {size : Nat} {v : Value} {n : Nat} {xs : List Value} (h : w.ownsRow base e size v n xs) (hb : Below w.heap.size w w') : w'.ownsRow base e size v n xs :=
  ownsRow_below h hb fun g hg => (h.lt g hg).2
theorem keeps_drewN {w : World} {a : Option Addr} {c : Nat} {xs : List UInt8} (h : RowAt w a c xs) (n : Nat) : RowAt (w.drewN n) a c xs := h.next ((Below.refl _ _).trans ⟨rfl, rfl, rfl, Nat.le_refl _, fun _ _ => rfl⟩)
theorem keeps_below {B : Nat} {a w : World} (h : Below B a w) (n : Nat) : Below B a (w.drewN n) := h.trans ⟨rfl, rfl, rfl, Nat.le_refl _, fun _ _ => rfl⟩

theorem RowAt.head {w : World} {a : Option Addr} {c : Nat} {xs : List UInt8} (h : RowAt w a c xs) (r : Nat) (hr : r ≤ xs.length) : RowAt w a c (xs.take r) := by
  refine ⟨by have := h.le; simp; omega, h.max, h.nil, fun ad e j u hu => h.cell ad e j u ?_⟩
  have hj : j < r := by
    have := (List.getElem?_eq_some_iff.1 hu).1
    rw [Lib.byteCells_length] at this
    simp at this
    omega
  simp only [Lib.byteCells, List.getElem?_map, List.getElem?_take, if_pos hj] at hu ⊢
  exact hu

/-- A slice of one's own stays when another one is written. -/
theorem row_kept {w w0 w' : World} {B B5 n m : Nat} {v v5 : Value} {xs ys : List UInt8} (hn : xs.length = n) (h : w.ownsRow B 5 1 v n (Lib.byteCells xs)) (h5 : w0.ownsRow B5 5 1 v5 m (Lib.byteCells ys)) (hB : w0.heap.size ≤ B) (hg : w.grownBy w' v5.ownBlock) :
    ∃ a c, v = .slice a n c ∧ RowAt w' a c xs := by
  refine rowAt_own hn (h.kept hg ?_)
  cases hv : v.ownBlock with
  | none => exact .inl rfl
  | some k =>
    right
    intro e
    have h1 := (h.lt k hv).1
    have h2 := (h5.lt k e.symm).2
    omega
theorem grownBy_trans {a b c : World} {r : Option Nat} (h : a.grownBy b r) (k : b.grownBy c r) : a.grownBy c r :=
  ⟨k.os.trans h.os, k.tape.trans h.tape, k.output.trans h.output, Nat.le_trans h.size k.size, fun i hi hr => (k.block i (Nat.lt_of_lt_of_le hi h.size) hr).trans (h.block i hi hr)⟩

end Go.Proofs.YtbbnkmhlgfoacaaDoor.S8

namespace Go.Proofs.YtbbnkmhlgfoacaaDoor.S8

section
variable {P : Program} {l : List Oper} {Q : Exit → Act → World → Prop} {S : World → Prop}

theorem held_start (n : Nat) {id : Nat} {a : Act} {w : World} (hm : P.follows .mixedOrders = true) (hn : l.length = n) (h : wpAnyH P .any l.toArray Q S n (Array.replicate n false) a w.drew) : (Code.region id l.toArray true).wp P Q a w := by
  subst hn
  exact wp_region_held hm (by simpa using h)

/-- An operation that is wanted, and yields v in every world that meets S, is taken first. -/
theorem held_take (i : Nat) {oi : Oper} {v : Value} {fuel : Nat} {listed : Array Bool} {a : Act} {w : World} (hi : l[i]? = some oi) (hs : Region.noSelect l.toArray = true) (hf : Region.free .any l.toArray listed i = true)
    (hr : (Region.ready .any l.toArray listed).contains i = true) (hQ : ∀ c a w, Q (.panic c) (a.put oi.dst v) w → Q (.panic c) a w) (hS : S w)
    (hw : Region.wanted oi (yielded l.toArray a.tmps) = true) (hy : ∀ w, S w → (execOp a.eval oi).run P w = .ok (.value v) w)
    (h : wpAnyH P .any l.toArray Q S fuel (listed.setIfInBounds i true) (a.put oi.dst v) w) : wpAnyH P .any l.toArray Q S (fuel + 1) listed a w :=
  wpAnyH_take (by simpa using hi) hs hf hr hQ (Or.inl ⟨hw, hy⟩) hS h

/-- An operation that isn't wanted is taken first. -/
theorem held_skip (i : Nat) {oi : Oper} {fuel : Nat} {listed : Array Bool} {a : Act} {w : World} (hi : l[i]? = some oi) (hs : Region.noSelect l.toArray = true) (hf : Region.free .any l.toArray listed i = true)
    (hr : (Region.ready .any l.toArray listed).contains i = true) (hQ : ∀ c a w, Q (.panic c) (a.put oi.dst undef) w → Q (.panic c) a w) (hS : S w)
    (hw : Region.wanted oi (yielded l.toArray a.tmps) = false)
    (h : wpAnyH P .any l.toArray Q S fuel (listed.setIfInBounds i true) (a.put oi.dst undef) w) : wpAnyH P .any l.toArray Q S (fuel + 1) listed a w :=
  wpAnyH_take (by simpa using hi) hs hf hr hQ (Or.inr ⟨hw, rfl⟩) hS h

/-- A call that alone may come up is met by its contract. -/
theorem held_call (i : Nat) {oi : Oper} {f : FuncId} {args : Array Value} {fuel : Nat} {listed : Array Bool} {a : Act} {w : World} (hi : l[i]? = some oi) (hr : Region.ready .any l.toArray listed = [i])
    (hw : Region.wanted oi (yielded l.toArray a.tmps) = true) (he : (execOp a.eval oi).run P w = .ok (.enter f args) w)
    (h : Calls P f args w fun e w' => ∃ v, e = .returned v ∧ S w' ∧ wpAnyH P .any l.toArray Q S fuel (listed.setIfInBounds i true) (a.put oi.dst v) w') : wpAnyH P .any l.toArray Q S (fuel + 1) listed a w := by
  refine ⟨(fun h0 => by rw [hr] at h0; cases h0), fun j hj => ?_⟩
  rw [hr] at hj
  obtain rfl : j = i := by simpa using hj
  unfold wpOp
  have ho : l.toArray[j]? = some oi := by simpa using hi
  simp only [ho, hw, if_true]
  refine .inl ?_
  unfold Oper.wp
  rw [he]
  simp only [Oper.upon]
  refine h.mono ?_
  rintro e w' ⟨v, rfl, h1, h2⟩
  exact ⟨h1, h2⟩

/-- An operation that alone may come up, and turns the world. -/
theorem held_alone (i : Nat) {oi : Oper} {fuel : Nat} {listed : Array Bool} {a : Act} {w w' : World} (hi : l[i]? = some oi) (hr : Region.ready .any l.toArray listed = [i])
    (hw : Region.wanted oi (yielded l.toArray a.tmps) = true) (he : (execOp a.eval oi).run P w = .ok .skip w') (hS : S w')
    (h : wpAnyH P .any l.toArray Q S fuel (listed.setIfInBounds i true) (a.put oi.dst undef) w') : wpAnyH P .any l.toArray Q S (fuel + 1) listed a w := by
  refine ⟨(fun h0 => by rw [hr] at h0; cases h0), fun j hj => ?_⟩
  rw [hr] at hj
  obtain rfl : j = i := by simpa using hj
  unfold wpOp
  have ho : l.toArray[j]? = some oi := by simpa using hi
  simp only [ho, hw, if_true]
  refine .inl ?_
  unfold Oper.wp
  rw [he]
  exact ⟨hS, h⟩
/-- An operation that alone may come up, yields a value and makes memory. -/
theorem held_makes (i : Nat) {oi : Oper} {v : Value} {fuel : Nat} {listed : Array Bool} {a : Act} {w w' : World} (hi : l[i]? = some oi) (hr : Region.ready .any l.toArray listed = [i])
    (hw : Region.wanted oi (yielded l.toArray a.tmps) = true) (he : (execOp a.eval oi).run P w = .ok (.value v) w') (hS : S w')
    (h : wpAnyH P .any l.toArray Q S fuel (listed.setIfInBounds i true) (a.put oi.dst v) w') : wpAnyH P .any l.toArray Q S (fuel + 1) listed a w := by
  refine ⟨(fun h0 => by rw [hr] at h0; cases h0), fun j hj => ?_⟩
  rw [hr] at hj
  obtain rfl : j = i := by simpa using hj
  unfold wpOp
  have ho : l.toArray[j]? = some oi := by simpa using hi
  simp only [ho, hw, if_true]
  refine .inl ?_
  unfold Oper.wp
  rw [he]
  exact ⟨hS, h⟩

/-- An operation that yields a value, and a call: either may come up first. -/
theorem held_two (i j : Nat) {oi oj : Oper} {v : Value} {f : FuncId} {args : Array Value} {fuel : Nat} {listed : Array Bool} {a : Act} {w : World} (hi : l[i]? = some oi) (hj : l[j]? = some oj) (hr : Region.ready .any l.toArray listed = [i, j])
    (hwi : Region.wanted oi (yielded l.toArray a.tmps) = true) (hwj : Region.wanted oj (yielded l.toArray a.tmps) = true) (hei : (execOp a.eval oi).run P w = .ok (.value v) w) (hej : (execOp a.eval oj).run P w = .ok (.enter f args) w) (hS : S w)
    (h1 : wpAnyH P .any l.toArray Q S fuel (listed.setIfInBounds i true) (a.put oi.dst v) w)
    (h2 : Calls P f args w fun e w' => ∃ u, e = .returned u ∧ S w' ∧ wpAnyH P .any l.toArray Q S fuel (listed.setIfInBounds j true) (a.put oj.dst u) w') : wpAnyH P .any l.toArray Q S (fuel + 1) listed a w := by
  refine ⟨(fun h0 => by rw [hr] at h0; cases h0), fun k hk => ?_⟩
  rw [hr] at hk
  have hk' : k = i ∨ k = j := by simpa using hk
  rcases hk' with rfl | rfl
  · unfold wpOp
    have ho : l.toArray[k]? = some oi := by simpa using hi
    simp only [ho, hwi, if_true]
    refine .inl ?_
    unfold Oper.wp
    rw [hei]
    exact ⟨hS, h1⟩
  · unfold wpOp
    have ho : l.toArray[k]? = some oj := by simpa using hj
    simp only [ho, hwj, if_true]
    refine .inl ?_
    unfold Oper.wp
    rw [hej]
    simp only [Oper.upon]
    refine h2.mono ?_
    rintro e w' ⟨u, rfl, h3, h4⟩
    exact ⟨h3, h4⟩

/-- Two operations that make memory: either may come up first. -/
theorem held_two_mm (i j : Nat) {oi oj : Oper} {v u : Value} {fuel : Nat} {listed : Array Bool} {a : Act} {w w1 w2 : World} (hi : l[i]? = some oi) (hj : l[j]? = some oj) (hr : Region.ready .any l.toArray listed = [i, j])
    (hwi : Region.wanted oi (yielded l.toArray a.tmps) = true) (hwj : Region.wanted oj (yielded l.toArray a.tmps) = true) (hei : (execOp a.eval oi).run P w = .ok (.value v) w1) (hej : (execOp a.eval oj).run P w = .ok (.value u) w2) (hS1 : S w1) (hS2 : S w2)
    (h1 : wpAnyH P .any l.toArray Q S fuel (listed.setIfInBounds i true) (a.put oi.dst v) w1)
    (h2 : wpAnyH P .any l.toArray Q S fuel (listed.setIfInBounds j true) (a.put oj.dst u) w2) : wpAnyH P .any l.toArray Q S (fuel + 1) listed a w := by
  refine ⟨(fun h0 => by rw [hr] at h0; cases h0), fun k hk => ?_⟩
  rw [hr] at hk
  have hk' : k = i ∨ k = j := by simpa using hk
  rcases hk' with rfl | rfl
  · unfold wpOp
    have ho : l.toArray[k]? = some oi := by simpa using hi
    simp only [ho, hwi, if_true]
    refine .inl ?_
    unfold Oper.wp
    rw [hei]
    exact ⟨hS1, h1⟩
  · unfold wpOp
    have ho : l.toArray[k]? = some oj := by simpa using hj
    simp only [ho, hwj, if_true]
    refine .inl ?_
    unfold Oper.wp
    rw [hej]
    exact ⟨hS2, h2⟩
/-- A call, and an operation that makes memory: either may come up first. -/
theorem held_two_cm (j i : Nat) {oi oj : Oper} {v : Value} {f : FuncId} {args : Array Value} {fuel : Nat} {listed : Array Bool} {a : Act} {w w1 : World} (hj : l[j]? = some oj) (hi : l[i]? = some oi) (hr : Region.ready .any l.toArray listed = [j, i])
    (hwj : Region.wanted oj (yielded l.toArray a.tmps) = true) (hwi : Region.wanted oi (yielded l.toArray a.tmps) = true) (hej : (execOp a.eval oj).run P w = .ok (.enter f args) w) (hei : (execOp a.eval oi).run P w = .ok (.value v) w1) (hS : S w1)
    (h2 : Calls P f args w fun e w' => ∃ u, e = .returned u ∧ S w' ∧ wpAnyH P .any l.toArray Q S fuel (listed.setIfInBounds j true) (a.put oj.dst u) w')
    (h1 : wpAnyH P .any l.toArray Q S fuel (listed.setIfInBounds i true) (a.put oi.dst v) w1) : wpAnyH P .any l.toArray Q S (fuel + 1) listed a w := by
  refine ⟨(fun h0 => by rw [hr] at h0; cases h0), fun k hk => ?_⟩
  rw [hr] at hk
  have hk' : k = j ∨ k = i := by simpa using hk
  rcases hk' with rfl | rfl
  · unfold wpOp
    have ho : l.toArray[k]? = some oj := by simpa using hj
    simp only [ho, hwj, if_true]
    refine .inl ?_
    unfold Oper.wp
    rw [hej]
    simp only [Oper.upon]
    refine h2.mono ?_
    rintro e w' ⟨u, rfl, h3, h4⟩
    exact ⟨h3, h4⟩
  · unfold wpOp
    have ho : l.toArray[k]? = some oi := by simpa using hi
    simp only [ho, hwi, if_true]
    refine .inl ?_
    unfold Oper.wp
    rw [hei]
    exact ⟨hS, h1⟩

/-- All have come up. -/
theorem held_done {listed : Array Bool} {a : Act} {w : World} {fuel : Nat} (hr : Region.ready .any l.toArray listed = []) (h : Q .normal a w) : wpAnyH P .any l.toArray Q S fuel listed a w := wpAnyH_done hr h fuel

/-- More may be asked of the worlds from here on. -/
theorem held_more {S' : World → Prop} (hS : ∀ w, S' w → S w) : ∀ (fuel : Nat) (listed : Array Bool) (a : Act) (w : World), wpAnyH P .any l.toArray Q S' fuel listed a w → wpAnyH P .any l.toArray Q S fuel listed a w
  | 0, _, _, _, h => h
  | fuel + 1, _, _, _, h => ⟨h.1, fun i hi => wpOp_mono (fun a' w' h' => ⟨hS w' h'.1, held_more hS fuel _ a' w' h'.2⟩) (h.2 i hi)⟩
end
end Go.Proofs.YtbbnkmhlgfoacaaDoor.S8

namespace Go.Proofs.YtbbnkmhlgfoacaaDoor.S8
namespace Hd

/-- May a protocol be? -/
def may (p : Int) : Bool := decide (1 ≤ p ∧ p ≤ 65535 ∧ p % 2 = 1 ∧ p / 256 % 2 = 0 ∧ p ≠ 255)
theorem may_iff (p : Int) : may p = true ↔ 1 ≤ p ∧ p ≤ 65535 ∧ p % 2 = 1 ∧ p / 256 % 2 = 0 ∧ p ≠ 255 := by simp [may]
theorem may_not (p : Int) : may p = false ↔ ¬ (1 ≤ p ∧ p ≤ 65535 ∧ p % 2 = 1 ∧ p / 256 % 2 = 0 ∧ p ≠ 255) := by unfold may; exact decide_eq_false_iff_not

/-- The byte at a place, 0 where there is none. -/
def bt (xs : List UInt8) (k : Nat) : Nat := (xs[k]?.map UInt8.toNat).getD 0
theorem bt_lt (xs : List UInt8) (k : Nat) : bt xs k < 256 := by
  unfold bt
  cases xs[k]? with
  | none => simp
  | some x => simpa using x.toNat_lt
theorem bt_out (xs : List UInt8) (k : Nat) (h : xs.length ≤ k) : bt xs k = 0 := by simp [bt, h]
theorem bt_in (xs : List UInt8) (k : Nat) (h : k < xs.length) : bt xs k = xs[k].toNat := by simp [bt, h]

/-- Two bytes at a place, 0 where they are not there. -/
def two (xs : List UInt8) (k : Nat) : Nat := if k + 2 ≤ xs.length then 256 * bt xs k + bt xs (k + 1) else 0
theorem get_one (xs : List UInt8) (k : Nat) (h : k + 1 ≤ xs.length) : Oc.get ((xs.drop k).take 1) true = bt xs k := by
  have e : (xs.drop k).take 1 = [xs[k]] := by rw [List.drop_eq_getElem_cons (by omega)]; rfl
  rw [bt_in xs k (by omega), e]
  simp [Oc.get, Oc.turn, Oc.val]
theorem get_two (xs : List UInt8) (k : Nat) (h : k + 2 ≤ xs.length) : Oc.get ((xs.drop k).take 2) true = two xs k := by
  have e : (xs.drop k).take 2 = [xs[k], xs[k + 1]] := by rw [List.drop_eq_getElem_cons (by omega), List.drop_eq_getElem_cons (by omega)]; rfl
  rw [two, if_pos h, bt_in xs k (by omega), bt_in xs (k + 1) (by omega), e]
  simp [Oc.get, Oc.turn, Oc.val]
  omega
theorem two_lt (xs : List UInt8) (k : Nat) : two xs k < 65536 := by
  unfold two
  have h1 := bt_lt xs k
  have h2 := bt_lt xs (k + 1)
  split <;> omega

/-- The place behind address and control, and the error. -/
def pass (xs : List UInt8) : Nat × Nat :=
  if bt xs 0 ≠ 255 then (0, 0) else if xs.length < 2 then (0, 2) else if bt xs 1 ≠ 3 then (0, 3) else (2, 0)
/-- The protocol at a place, the place behind it, and the error. -/
def tail (xs : List UInt8) (k : Nat) : Nat × Nat × Nat :=
  if bt xs k % 2 = 1 then (if bt xs k = 255 then (0, 0, 3) else (bt xs k, k + 1, 0))
  else if xs.length < k + 2 then (0, 0, 2) else if may (256 * bt xs k + bt xs (k + 1) : Nat) = true then (256 * bt xs k + bt xs (k + 1), k + 2, 0) else (0, 0, 3)
/-- What a frame's beginning is read as. -/
def read (xs : List UInt8) : Nat × Nat × Nat := if (pass xs).2 = 0 then tail xs (pass xs).1 else (0, 0, (pass xs).2)

theorem may_one (c : Nat) (h : c < 256) : may (c : Int) = decide (c % 2 = 1 ∧ c ≠ 255) := by
  rw [Bool.eq_iff_iff, may_iff]
  simp only [decide_eq_true_eq]
  omega
theorem may_two (c d : Nat) (hc : c < 256) (hd : d < 256) (h : c % 2 = 0) : may ((256 * c + d : Nat) : Int) = decide (d % 2 = 1 ∧ ¬ (c = 0 ∧ d = 255)) := by
  rw [Bool.eq_iff_iff, may_iff]
  simp only [decide_eq_true_eq]
  omega

theorem pass_zero (xs : List UInt8) (h : bt xs 0 ≠ 255) : pass xs = (0, 0) := by simp [pass, h]
theorem pass_end (xs : List UInt8) (h : bt xs 0 = 255) (h2 : xs.length < 2) : pass xs = (0, 2) := by simp [pass, h, h2]
theorem pass_form (xs : List UInt8) (h : bt xs 0 = 255) (h2 : ¬ xs.length < 2) (h3 : bt xs 1 ≠ 3) : pass xs = (0, 3) := by simp [pass, h, h2, h3]
theorem pass_full (xs : List UInt8) (h : bt xs 0 = 255) (h2 : ¬ xs.length < 2) (h3 : bt xs 1 = 3) : pass xs = (2, 0) := by simp [pass, h, h2, h3]
theorem pass_le (xs : List UInt8) : (pass xs).1 ≤ xs.length ∧ (pass xs).1 ≤ 2 := by
  unfold pass
  by_cases h : bt xs 0 ≠ 255
  · rw [if_pos h]; exact ⟨Nat.zero_le _, by omega⟩
  · rw [if_neg h]
    by_cases h2 : xs.length < 2
    · rw [if_pos h2]; exact ⟨Nat.zero_le _, by omega⟩
    · rw [if_neg h2]
      by_cases h3 : bt xs 1 ≠ 3
      · rw [if_pos h3]; exact ⟨Nat.zero_le _, by omega⟩
      · rw [if_neg h3]; exact ⟨by omega, by omega⟩
theorem pass_err (xs : List UInt8) : (pass xs).2 ≤ 3 := by
  unfold pass
  split
  · omega
  · split
    · omega
    · split <;> omega

theorem tail_one (xs : List UInt8) (k : Nat) (h : bt xs k % 2 = 1) (h2 : bt xs k ≠ 255) : tail xs k = (bt xs k, k + 1, 0) := by simp [tail, h, h2]
theorem tail_ff (xs : List UInt8) (k : Nat) (h2 : bt xs k = 255) : tail xs k = (0, 0, 3) := by simp [tail, h2]
theorem tail_end (xs : List UInt8) (k : Nat) (h : ¬ bt xs k % 2 = 1) (h2 : xs.length < k + 2) : tail xs k = (0, 0, 2) := by simp only [tail]; rw [if_neg h, if_pos h2]
theorem tail_two (xs : List UInt8) (k : Nat) (h : ¬ bt xs k % 2 = 1) (h2 : ¬ xs.length < k + 2) (h3 : may (256 * bt xs k + bt xs (k + 1) : Nat) = true) : tail xs k = (256 * bt xs k + bt xs (k + 1), k + 2, 0) := by simp only [tail]; rw [if_neg h, if_neg h2, if_pos h3]
theorem tail_form (xs : List UInt8) (k : Nat) (h : ¬ bt xs k % 2 = 1) (h2 : ¬ xs.length < k + 2) (h3 : may (256 * bt xs k + bt xs (k + 1) : Nat) = false) : tail xs k = (0, 0, 3) := by
  simp only [tail]; rw [if_neg h, if_neg h2, if_neg (by rw [h3]; exact Bool.false_ne_true)]

/-- What is known of what is read. -/
structure Known (xs : List UInt8) (p t e : Nat) : Prop where
  le : t ≤ xs.length
  small : p < 65536
  err : e ≤ 3
  bad : e ≠ 0 → p = 0 ∧ t = 0
  good : e = 0 → may (p : Int) = true ∧ 1 ≤ t
theorem tail_known (xs : List UInt8) (k : Nat) : Known xs (tail xs k).1 (tail xs k).2.1 (tail xs k).2.2 := by
  have hb := bt_lt xs k
  have hb1 := bt_lt xs (k + 1)
  by_cases h1 : bt xs k % 2 = 1
  · by_cases h2 : bt xs k = 255
    · rw [tail_ff xs k h2]; exact ⟨Nat.zero_le _, by decide, by decide, fun _ => ⟨rfl, rfl⟩, fun h => by cases h⟩
    · rw [tail_one xs k h1 h2]
      have hk : k < xs.length := by
        rcases Nat.lt_or_ge k xs.length with h | h
        · exact h
        · rw [bt_out xs k h] at h1; omega
      exact ⟨hk, by show bt xs k < 65536; omega, Nat.zero_le _, fun h => absurd rfl h, fun _ => ⟨by show may (bt xs k : Int) = true; rw [may_one _ hb]; exact decide_eq_true ⟨h1, h2⟩, by show 1 ≤ k + 1; omega⟩⟩
  · by_cases h2 : xs.length < k + 2
    · rw [tail_end xs k h1 h2]; exact ⟨Nat.zero_le _, by decide, by decide, fun _ => ⟨rfl, rfl⟩, fun h => by cases h⟩
    · cases h3 : may (256 * bt xs k + bt xs (k + 1) : Nat) with
      | true => rw [tail_two xs k h1 h2 h3]; exact ⟨by show k + 2 ≤ _; omega, by show 256 * bt xs k + bt xs (k + 1) < 65536; omega, Nat.zero_le _, fun h => absurd rfl h, fun _ => ⟨h3, by show 1 ≤ k + 2; omega⟩⟩
      | false => rw [tail_form xs k h1 h2 h3]; exact ⟨Nat.zero_le _, by decide, by decide, fun _ => ⟨rfl, rfl⟩, fun h => by cases h⟩
theorem read_known (xs : List UInt8) : Known xs (read xs).1 (read xs).2.1 (read xs).2.2 := by
  unfold read
  by_cases h : (pass xs).2 = 0
  · rw [if_pos h]; exact tail_known xs _
  · rw [if_neg h]; exact ⟨Nat.zero_le _, by show 0 < 65536; omega, pass_err xs, fun _ => ⟨rfl, rfl⟩, fun h2 => absurd h2 h⟩
theorem read_pass (xs : List UInt8) (k : Nat) (h : pass xs = (k, 0)) : read xs = tail xs k := by simp [read, h]
theorem read_err (xs : List UInt8) (e : Nat) (h : pass xs = (0, e)) (he : e ≠ 0) : read xs = (0, 0, e) := by simp [read, h, he]

/-- How many bytes a protocol is put in. -/
def wide (p : Nat) (short : Bool) : Nat := if short = true ∧ p < 256 then 1 else 2
theorem wide_le (p : Nat) (short : Bool) : 1 ≤ wide p short ∧ wide p short ≤ 2 := by unfold wide; split <;> omega
theorem wide_fits (p : Nat) (short : Bool) (h : p < 65536) : p < 256 ^ wide p short := by
  unfold wide
  split <;> omega
/-- Address and control. -/
def ahead (full : Bool) : List UInt8 := if full = true then [255, 3] else []
/-- How a frame begins. -/
def put (p : Nat) (full short : Bool) : List UInt8 := ahead full ++ Oc.put p (wide p short) true
theorem put_length (p : Nat) (full short : Bool) : (put p full short).length = (ahead full).length + wide p short := by rw [put, List.length_append, Oc.put_length]
theorem put_pos (p : Nat) (full short : Bool) : 1 ≤ (put p full short).length ∧ (put p full short).length ≤ 4 := by
  rw [put_length]
  have := wide_le p short
  cases full <;> simp [ahead] <;> omega
theorem oput_one (p : Nat) : Oc.put p 1 true = [Oc.dg p 0] := rfl
theorem oput_two (p : Nat) : Oc.put p 2 true = [Oc.dg p 1, Oc.dg p 0] := rfl

theorem tail_put (p : Nat) (short : Bool) (A more : List UInt8) (h : may (p : Int) = true) : tail (A ++ Oc.put p (wide p short) true ++ more) A.length = (p, A.length + wide p short, 0) := by
  have hm := (may_iff _).1 h
  by_cases hs : short = true ∧ p < 256
  · have hw : wide p short = 1 := by unfold wide; rw [if_pos hs]
    rw [hw, oput_one]
    have hb : bt (A ++ [Oc.dg p 0] ++ more) A.length = p := by
      simp [bt, Oc.dg_nat]
      omega
    rw [tail_one _ _ (by rw [hb]; omega) (by rw [hb]; omega), hb]
  · have hw : wide p short = 2 := by unfold wide; rw [if_neg hs]
    rw [hw, oput_two]
    have hb : bt (A ++ [Oc.dg p 1, Oc.dg p 0] ++ more) A.length = p / 256 := by
      simp [bt, Oc.dg_nat]; omega
    have hb1 : bt (A ++ [Oc.dg p 1, Oc.dg p 0] ++ more) (A.length + 1) = p % 256 := by
      simp [bt, Oc.dg_nat]
    have e : 256 * (p / 256) + p % 256 = p := by omega
    rw [tail_two _ _ (by rw [hb]; omega) (by simp) (by rw [hb, hb1, e]; exact h), hb, hb1, e]
theorem bt_put0 (p : Nat) (short : Bool) (more : List UInt8) (h : may (p : Int) = true) : bt (Oc.put p (wide p short) true ++ more) 0 ≠ 255 := by
  have hm := (may_iff _).1 h
  by_cases hs : short = true ∧ p < 256
  · have hw : wide p short = 1 := by unfold wide; rw [if_pos hs]
    rw [hw, oput_one]
    simp [bt, Oc.dg_nat]
    omega
  · have hw : wide p short = 2 := by unfold wide; rw [if_neg hs]
    rw [hw, oput_two]
    simp [bt, Oc.dg_nat]
    omega
/-- What is put is read as it was, whatever stands behind. -/
theorem read_put (p : Nat) (full short : Bool) (more : List UInt8) (h : may (p : Int) = true) : read (put p full short ++ more) = (p, (put p full short).length, 0) := by
  rw [put_length]
  have ht := tail_put p short (ahead full) more h
  cases full with
  | false =>
    have e : put p false short = Oc.put p (wide p short) true := rfl
    rw [e, read_pass _ 0 (pass_zero _ (bt_put0 p short more h))]
    exact ht
  | true =>
    have hp : pass (put p true short ++ more) = (2, 0) := pass_full _ rfl (by simp [put, ahead]) rfl
    rw [read_pass _ 2 hp]
    exact ht
theorem take_even (p k : Nat) (short : Bool) (h : may (p : Int) = true) (hk : k < wide p short) (A : List UInt8) : tail (A ++ (Oc.put p (wide p short) true).take k) A.length = (0, 0, 2) := by
  have hm := (may_iff _).1 h
  have hw := wide_le p short
  have hk2 : k = 0 ∨ (k = 1 ∧ wide p short = 2) := by omega
  rcases hk2 with rfl | ⟨rfl, h2⟩
  · exact tail_end _ _ (by rw [bt_out _ _ (by simp)]; omega) (by simp)
  · rw [h2, oput_two]
    refine tail_end _ _ ?_ (by simp)
    simp [bt, Oc.dg_nat]
    omega
/-- What is put and cut off is at its end. -/
theorem read_cut (p : Nat) (full short : Bool) (k : Nat) (h : may (p : Int) = true) (hk : k < (put p full short).length) : read ((put p full short).take k) = (0, 0, 2) := by
  rw [put_length] at hk
  have hm := (may_iff _).1 h
  cases full with
  | false =>
    have e : put p false short = Oc.put p (wide p short) true := rfl
    have hk2 : k < wide p short := by simpa [ahead] using hk
    have ht := take_even p k short h hk2 []
    rw [e]
    rw [read_pass _ 0 (pass_zero _ ?_)]
    · exact ht
    · have h0 := bt_put0 p short [] h
      rw [List.append_nil] at h0
      rcases Nat.eq_zero_or_pos k with rfl | h1
      · rw [bt_out _ _ (by simp)]; omega
      · intro h2
        refine h0 ?_
        rw [← h2]
        unfold bt
        rw [List.getElem?_take, if_pos h1]
  | true =>
    have hk2 : k < 2 + wide p short := by simpa [ahead] using hk
    rcases Nat.lt_or_ge k 2 with h1 | h1
    · have hk3 : k = 0 ∨ k = 1 := by omega
      rcases hk3 with rfl | rfl
      · rfl
      · rfl
    · obtain ⟨j, rfl⟩ : ∃ j, k = 2 + j := ⟨k - 2, by omega⟩
      have e : (put p true short).take (2 + j) = [255, 3] ++ (Oc.put p (wide p short) true).take j := by
        show ((255 : UInt8) :: 3 :: Oc.put p (wide p short) true).take (2 + j) = _
        rw [Nat.add_comm]; rfl
      rw [e, read_pass _ 2 (pass_full _ rfl (by simp) rfl)]
      exact take_even p j short h (by omega) [255, 3]

/-- The four ways, one after another. -/
def way (p i : Nat) : List UInt8 := put p (decide (i % 2 = 1)) (decide (i / 2 = 1))
/-- Is one of the first k ways the text? -/
def hit (p : Nat) (ys : List UInt8) : Nat → Bool
  | 0 => false
  | k + 1 => hit p ys k || decide (way p k = ys)
theorem hit_of (p : Nat) (ys : List UInt8) (i : Nat) (h : way p i = ys) : ∀ k, i < k → hit p ys k = true
  | 0, hk => by omega
  | k + 1, hk => by
    unfold hit
    rcases Nat.lt_or_ge i k with h1 | h1
    · rw [hit_of p ys i h k h1]; rfl
    · obtain rfl : i = k := by omega
      rw [h]; simp
theorem tail_way (xs A : List UInt8) (k : Nat) (hA : xs.take k = A) (he : (tail xs k).2.2 = 0) :
    ∃ short : Bool, A ++ Oc.put (tail xs k).1 (wide (tail xs k).1 short) true = xs.take (tail xs k).2.1 := by
  have hb := bt_lt xs k
  have hb1 := bt_lt xs (k + 1)
  by_cases h1 : bt xs k % 2 = 1
  · by_cases h2 : bt xs k = 255
    · rw [tail_ff xs k h2] at he; cases he
    · rw [tail_one xs k h1 h2]
      have hk2 : k < xs.length := by
        rcases Nat.lt_or_ge k xs.length with h | h
        · exact h
        · rw [bt_out xs k h] at h1; omega
      refine ⟨true, ?_⟩
      have hw : wide (bt xs k) true = 1 := by unfold wide; rw [if_pos ⟨rfl, hb⟩]
      show A ++ Oc.put (bt xs k) (wide (bt xs k) true) true = xs.take (k + 1)
      rw [hw, oput_one, List.take_succ_eq_append_getElem hk2, hA]
      congr 2
      apply UInt8.toNat_inj.1
      rw [Oc.dg_nat, bt_in xs k hk2]
      have := xs[k].toNat_lt
      omega
  · by_cases h2 : xs.length < k + 2
    · rw [tail_end xs k h1 h2] at he; cases he
    · cases h3 : may (256 * bt xs k + bt xs (k + 1) : Nat) with
      | false => rw [tail_form xs k h1 h2 h3] at he; cases he
      | true =>
        rw [tail_two xs k h1 h2 h3]
        refine ⟨false, ?_⟩
        show A ++ Oc.put (256 * bt xs k + bt xs (k + 1)) 2 true = xs.take (k + 2)
        have hk2 : k < xs.length := by omega
        have hk3 : k + 1 < xs.length := by omega
        rw [oput_two, List.take_succ_eq_append_getElem hk3, List.take_succ_eq_append_getElem hk2, hA, List.append_assoc]
        have e1 : Oc.dg (256 * bt xs k + bt xs (k + 1)) 1 = xs[k] := by
          apply UInt8.toNat_inj.1
          rw [Oc.dg_nat, ← bt_in xs k hk2]
          omega
        have e0 : Oc.dg (256 * bt xs k + bt xs (k + 1)) 0 = xs[k + 1] := by
          apply UInt8.toNat_inj.1
          rw [Oc.dg_nat, ← bt_in xs (k + 1) hk3]
          omega
        rw [e1, e0]; rfl
/-- What is read is put in one of the ways. -/
theorem read_hit (xs : List UInt8) (he : (read xs).2.2 = 0) : hit (read xs).1 (xs.take (read xs).2.1) 4 = true := by
  have main : ∀ full : Bool, ∀ k, xs.take k = ahead full → read xs = tail xs k → hit (read xs).1 (xs.take (read xs).2.1) 4 = true := by
    intro full k hA hr
    rw [hr] at he ⊢
    obtain ⟨short, hs⟩ := tail_way xs _ k hA he
    cases full <;> cases short
    · exact hit_of _ _ 0 hs 4 (by omega)
    · exact hit_of _ _ 2 hs 4 (by omega)
    · exact hit_of _ _ 1 hs 4 (by omega)
    · exact hit_of _ _ 3 hs 4 (by omega)
  by_cases h0 : bt xs 0 ≠ 255
  · exact main false 0 rfl (read_pass xs 0 (pass_zero xs h0))
  · have h0' : bt xs 0 = 255 := by omega
    by_cases h2 : xs.length < 2
    · rw [read_err xs 2 (pass_end xs h0' h2) (by omega)] at he; cases he
    · by_cases h3 : bt xs 1 = 3
      · refine main true 2 ?_ (read_pass xs 2 (pass_full xs h0' h2 h3))
        rw [List.take_succ_eq_append_getElem (by omega), List.take_succ_eq_append_getElem (by omega)]
        rw [bt_in xs 0 (by omega)] at h0'
        rw [bt_in xs 1 (by omega)] at h3
        have e0 : xs[0] = 255 := UInt8.toNat_inj.1 h0'
        have e1 : xs[1] = 3 := UInt8.toNat_inj.1 h3
        rw [e0, e1]; rfl
      · rw [read_err xs 3 (pass_form xs h0' h2 h3) (by omega)] at he; cases he
end Hd
end Go.Proofs.YtbbnkmhlgfoacaaDoor.S8

namespace Go.Proofs.YtbbnkmhlgfoacaaDoor.S8
open Go.RowKit

theorem i64_and1 (n : Int) : bits .and .i64 n 1 = n % 2 := by
  have h1 : (BitVec.ofInt 64 1).toNat = 2 ^ 1 - 1 := by decide
  have key : (BitVec.ofInt 64 n &&& BitVec.ofInt 64 1).toNat = (n % ((2 ^ 64 : Nat) : Int)).toNat % 2 ^ 1 := by
    rw [BitVec.toNat_and, BitVec.toNat_ofInt, h1, Nat.and_two_pow_sub_one_eq_mod]
  show IntKind.i64.wrap ((BitVec.ofInt 64 n &&& BitVec.ofInt 64 1).toNat : Nat) = n % 2
  rw [key, IntKind.wrap_i64]
  omega

theorem lower_any (c : Int) (w : World) :
    Calls Tryd.prog 49 #[.int .i64 c] w fun e w' => e = .returned (.bool (c % 2 == 1)) ∧ w' = w := by
  have h := i64_and1 c
  go_enter Tryd.func49, Tryd.ntmps49
  go_wp2
  go_ret
  exact ⟨rfl, rfl⟩

theorem may_any (p : Int) (w : World) :
    Calls Tryd.prog 29 #[.int .i64 p] w fun e w' => e = .returned (.bool (Hd.may p)) ∧ w' = w := by
  by_cases h1 : 1 ≤ p
  · by_cases h2 : p ≤ 65535
    · by_cases h3 : p % 2 = 1
      · by_cases h4 : p / 256 % 2 = 1
        · have hm : Hd.may p = false := (Hd.may_not p).2 (by omega)
          rw [hm]
          go_enter Tryd.func29, Tryd.ntmps29
          go_wp2_with (go_at_call 49; refine (lower_any _ _).mono ?_; rintro e w' ⟨rfl, h⟩; rw [h]; clear h)
          go_ret
          exact ⟨rfl, rfl⟩
        · by_cases h5 : p = 255
          · have hm : Hd.may p = false := (Hd.may_not p).2 (by omega)
            rw [hm]
            subst h5
            go_enter Tryd.func29, Tryd.ntmps29
            go_wp2_with (go_at_call 49; refine (lower_any _ _).mono ?_; rintro e w' ⟨rfl, h⟩; rw [h]; clear h)
            go_ret
            exact ⟨rfl, rfl⟩
          · have hm : Hd.may p = true := (Hd.may_iff p).2 (by omega)
            rw [hm]
            go_enter Tryd.func29, Tryd.ntmps29
            go_wp2_with (go_at_call 49; refine (lower_any _ _).mono ?_; rintro e w' ⟨rfl, h⟩; rw [h]; clear h)
            go_ret
            exact ⟨ret_bool (by simp; omega), rfl⟩
      · have hm : Hd.may p = false := (Hd.may_not p).2 (by omega)
        rw [hm]
        go_enter Tryd.func29, Tryd.ntmps29
        go_wp2_with (go_at_call 49; refine (lower_any _ _).mono ?_; rintro e w' ⟨rfl, h⟩; rw [h]; clear h)
        go_ret
        exact ⟨rfl, rfl⟩
    · have hm : Hd.may p = false := (Hd.may_not p).2 (by omega)
      rw [hm]
      go_enter Tryd.func29, Tryd.ntmps29
      go_wp2
      go_ret
      exact ⟨rfl, rfl⟩
  · have hm : Hd.may p = false := (Hd.may_not p).2 (by omega)
    rw [hm]
    go_enter Tryd.func29, Tryd.ntmps29
    go_wp2
    go_ret
    exact ⟨rfl, rfl⟩

theorem get_n (a : Option Addr) (cap n : Nat) (xs : List UInt8) (w : World) (hn : xs.length = n) (h1 : 1 ≤ n) (h8 : n ≤ 8) (h : RowAt w a cap xs) :
    Calls Tryd.prog 75 #[.slice a n cap, .bool true] w fun e w' => e = .returned (.tuple #[.int .u64 (Oc.get xs true : Nat), .bool true]) ∧ w' = w := by
  subst hn
  exact get_at a cap xs true w h1 h8 h.bytes

theorem number_in (a : Option Addr) (cap : Nat) (xs : List UInt8) (k s G : Nat) (w : World) (hm : xs.length ≤ 100000) (hs1 : 1 ≤ s) (hs2 : s ≤ 2) (hks : k + s ≤ xs.length) (hG : Oc.get ((xs.drop k).take s) true = G) (hG2 : G < 65536) (h : RowAt w a cap xs) :
    Calls Tryd.prog 92 #[.slice a xs.length cap, .int .i64 (k : Int), .int .i64 (s : Int)] w fun e w' => e = .returned (.tuple #[.int .i64 (G : Int), .bool true]) ∧ Below w.heap.size w w' := by
  have hc := cut_good a cap xs k s w hm hks h
  have hyl : ((xs.drop k).take s).length = s := by simp; omega
  obtain ⟨ys, hy⟩ : ∃ ys, ys = (xs.drop k).take s := ⟨_, rfl⟩
  rw [← hy] at hc hyl hG
  have C := Lib.hid hc
  have Hyl := Lib.hid hyl
  have HG := Lib.hid hG
  clear hc hyl hG hy h
  go_enter Tryd.func92, Tryd.ntmps92
  go_wp2_with fail
  refine C.out.mono ?_
  rintro e w1 ⟨v, rfl, o1, b1⟩
  obtain ⟨a1, c1, rfl, r1⟩ := rowAt_own Hyl.out o1
  have R1 := Lib.hid r1
  clear o1 r1
  go_wp2_with fail
  refine (get_n a1 c1 s ys _ Hyl.out hs1 (by omega) R1.out).mono ?_
  rintro e w2 ⟨rfl, h2⟩
  rw [h2, HG.out]
  clear h2
  go_wp2
  go_ret2
  exact ⟨rfl, b1⟩
theorem number_out (a : Option Addr) (len cap k s : Nat) (w : World) (hm : len ≤ 100000) (hk : k ≤ 100000) (hks : len < k + s) :
    Calls Tryd.prog 92 #[.slice a len cap, .int .i64 (k : Int), .int .i64 (s : Int)] w fun e w' => e = .returned (.tuple #[.int .i64 0, .bool false]) ∧ Below w.heap.size w w' := by
  have C := Lib.hid (cut_bad a len cap k s w hm (by omega) (by omega) (by omega))
  go_enter Tryd.func92, Tryd.ntmps92
  go_wp2_with fail
  refine C.out.mono ?_
  rintro e w1 ⟨rfl, h1⟩
  rw [h1]
  clear h1
  go_wp2_with fail
  refine (get_few none 0 0 true _ (by omega)).mono ?_
  rintro e w2 ⟨rfl, h2⟩
  rw [h2]
  clear h2
  go_wp2
  go_ret2
  exact ⟨rfl, Below.refl _ _⟩

/-- One byte. -/
theorem number_one (a : Option Addr) (cap : Nat) (xs : List UInt8) (k : Nat) (w : World) (hm : xs.length ≤ 90000) (hk : k ≤ 90000) (h : RowAt w a cap xs) :
    Calls Tryd.prog 92 #[.slice a xs.length cap, .int .i64 (k : Int), .int .i64 1] w fun e w' => e = .returned (.tuple #[.int .i64 (Hd.bt xs k : Nat), .bool (decide (k < xs.length))]) ∧ Below w.heap.size w w' := by
  by_cases hks : k < xs.length
  · rw [decide_eq_true hks]
    exact number_in a cap xs k 1 _ w (by omega) (by omega) (by omega) (by omega) (Hd.get_one xs k (by omega)) (by have := Hd.bt_lt xs k; omega) h
  · rw [decide_eq_false hks, Hd.bt_out xs k (by omega)]
    exact number_out a _ cap k 1 w (by omega) (by omega) (by omega)
/-- Two bytes. -/
theorem number_two (a : Option Addr) (cap : Nat) (xs : List UInt8) (k : Nat) (w : World) (hm : xs.length ≤ 90000) (hk : k ≤ 90000) (h : RowAt w a cap xs) :
    Calls Tryd.prog 92 #[.slice a xs.length cap, .int .i64 (k : Int), .int .i64 2] w fun e w' => e = .returned (.tuple #[.int .i64 (Hd.two xs k : Nat), .bool (decide (k + 2 ≤ xs.length))]) ∧ Below w.heap.size w w' := by
  by_cases hks : k + 2 ≤ xs.length
  · rw [decide_eq_true hks]
    exact number_in a cap xs k 2 _ w (by omega) (by omega) (by omega) (by omega) (Hd.get_two xs k hks) (Hd.two_lt xs k) h
  · rw [decide_eq_false hks, show Hd.two xs k = 0 by unfold Hd.two; rw [if_neg hks]]
    exact number_out a _ cap k 2 w (by omega) (by omega) (by omega)

theorem pass_any (a : Option Addr) (cap n : Nat) (xs : List UInt8) (w : World) (hn : xs.length = n) (hm : n ≤ 90000) (h : RowAt w a cap xs) :
    Calls Tryd.prog 83 #[.slice a n cap] w fun e w' => e = .returned (.tuple #[.int .i64 ((Hd.pass xs).1 : Nat), .int .i64 ((Hd.pass xs).2 : Nat)]) ∧ Below w.heap.size w w' := by
  have c1 := fun W h => hn ▸ number_one a cap xs 0 W (by omega) (by omega) h
  have c2 := fun W h => hn ▸ number_one a cap xs 1 W (by omega) (by omega) h
  have q0 := Hd.pass_zero xs
  have q1 := Hd.pass_end xs
  have q2 := Hd.pass_form xs
  have q3 := Hd.pass_full xs
  rw [hn] at q1 q2 q3
  generalize Hd.bt xs 0 = x at c1 q0 q1 q2 q3
  generalize Hd.bt xs 1 = y at c2 q2 q3
  generalize Hd.pass xs = A at q0 q1 q2 q3 ⊢
  have C1 := Lib.hid c1
  have C2 := Lib.hid c2
  have H := Lib.hid h
  clear c1 c2 h hn
  by_cases hx : x = 255
  · by_cases h2 : n < 2
    · obtain rfl := q1 hx h2
      subst hx
      clear q0 q1 q2 q3
      have e2 : decide (1 < n) = false := decide_eq_false (by omega)
      rw [e2] at C2
      clear e2
      go_enter Tryd.func83, Tryd.ntmps83
      go_wp2_with fail
      refine (C1.out _ H.out).mono ?_
      rintro e w1 ⟨rfl, b1⟩
      go_wp2_with fail
      refine (C2.out _ (H.out.next b1)).mono ?_
      rintro e w2 ⟨rfl, b2⟩
      go_wp2
      go_ret2
      exact ⟨rfl, Below.chain b1 b2⟩
    · have e2 : decide (1 < n) = true := decide_eq_true (by omega)
      rw [e2] at C2
      clear e2
      by_cases h3 : y = 3
      · obtain rfl := q3 hx h2 h3
        subst hx
        subst h3
        clear q0 q1 q2 q3
        go_enter Tryd.func83, Tryd.ntmps83
        go_wp2_with fail
        refine (C1.out _ H.out).mono ?_
        rintro e w1 ⟨rfl, b1⟩
        go_wp2_with fail
        refine (C2.out _ (H.out.next b1)).mono ?_
        rintro e w2 ⟨rfl, b2⟩
        go_wp2
        go_ret2
        exact ⟨rfl, Below.chain b1 b2⟩
      · obtain rfl := q2 hx h2 h3
        subst hx
        have i3 : ((y : Int) == 3) = false := by simp; omega
        clear q0 q1 q2 q3
        go_enter Tryd.func83, Tryd.ntmps83
        go_wp2_with fail
        refine (C1.out _ H.out).mono ?_
        rintro e w1 ⟨rfl, b1⟩
        go_wp2_with fail
        refine (C2.out _ (H.out.next b1)).mono ?_
        rintro e w2 ⟨rfl, b2⟩
        go_wp2
        go_ret2
        exact ⟨rfl, Below.chain b1 b2⟩
  · obtain rfl := q0 hx
    have i3 : ((x : Int) == 255) = false := by simp; omega
    clear q0 q1 q2 q3
    go_enter Tryd.func83, Tryd.ntmps83
    go_wp2_with fail
    refine (C1.out _ H.out).mono ?_
    rintro e w1 ⟨rfl, b1⟩
    go_wp2_with fail
    refine (C2.out _ (H.out.next b1)).mono ?_
    rintro e w2 ⟨rfl, b2⟩
    go_wp2
    go_ret2
    exact ⟨rfl, Below.chain b1 b2⟩
end Go.Proofs.YtbbnkmhlgfoacaaDoor.S8

namespace Go.Proofs.YtbbnkmhlgfoacaaDoor.S8
open Go.RowKit

/-- A head's cells. -/
def hcells (p t : Nat) : List Value := [.int .i64 (p : Int), .int .i64 (t : Int)]
theorem info31 : (Tryd.prog.info? 137).map (·.size) = some 2 := by kernel_rfl
theorem hcells_one (p t : Nat) : (hcells p t).toArray.all (·.oneCell') = true := by rw [List.all_toArray]; simp [hcells, Value.oneCell']

/-- Two results, the first one in a cell. -/
theorem results_cell_tmp_row {P : Program} {fn : Func} {q p : Tmp} {ty : TypeId} (h : fn.results = #[.cell p ty, .tmp q]) (tmps : Array Value) (w : World) (g : Nat) (t : TypeId) (cs : Array Value) (fr : Nat × Nat) (d : TypeDesc)
    (hp : tmps.getD p undef = .pointer (some ⟨g, 0, none⟩)) (hg : w.heap[g]? = some (.cells cs t fr))
    (hu : P.underlying ty = some d) (hd : (match d with | .struct _ | .array _ _ => true | _ => false) = true) (hi : (P.info? ty).map (·.size) = some cs.size) :
    (results fn tmps).run P w = .ok (.tuple #[.agg cs, tmps.getD q undef]) w := by
  have hp' : tmps[p]?.getD undef = .pointer (some ⟨g, 0, none⟩) := by simpa using hp
  simp [results, h, hp', asAddr, run_loadVar_row w g t ty cs fr d hg hu hd hi]

theorem wpList_store_head {w : World} {ops : Array Oper} {rest : List Oper} {o : Oper} {a : Act} {Q : Exit → Act → World → Prop} (hgd : o.guard = none) (x y : Operand) (ho : o.op = .store 137 x y) (R p t : Nat) (cur : Array Value)
    (hx : a.eval x = .pointer (some ⟨R, 0, none⟩)) (hy : a.eval y = .agg (hcells p t).toArray) (hR : w.heap[R]? = some (.cells cur 137 (0, 0))) (hcur : cur.size = 2)
    (h : wpList Tryd.prog ops Q rest (a.put o.dst undef) (w.setRow R (hcells p t).toArray)) : wpList Tryd.prog ops Q (o :: rest) a w :=
  wpList_store_row hgd 137 x y ho R _ hx hy 137 cur hR info31 hcur (hcells_one p t) h

/-- What is read. -/
def HeadRes (w w' : World) (e : Ending) (p t r : Nat) : Prop := e = .returned (.tuple #[.agg (hcells p t).toArray, .int .i64 (r : Int)]) ∧ Below w.heap.size w w'

theorem head_ret {w w' : World} {fn : Func} {q p : Tmp} {P T r : Nat} {tmps : Array Value} {cs : Array Value} (h : fn.results = #[.cell p 137, .tmp q]) (hp : tmps.getD p undef = .pointer (some ⟨w.heap.size, 0, none⟩)) (hq : tmps.getD q undef = .int .i64 (r : Int)) (hR : w'.heap[w.heap.size]? = some (.cells cs 137 (0, 0))) :
    (results fn tmps).run Tryd.prog (w'.setRow w.heap.size (hcells P T).toArray) = .ok (.tuple #[.agg (hcells P T).toArray, .int .i64 (r : Int)]) (w'.setRow w.heap.size (hcells P T).toArray) := by
  have := results_cell_tmp_row (P := Tryd.prog) h tmps (w'.setRow w.heap.size (hcells P T).toArray) w.heap.size 137 _ _ _ hp (setRow_heap _ _ _ _ _ _ hR) Tryd.underlying137 rfl info31
  rw [hq] at this
  exact this
theorem below_setRow {w w' : World} {B g : Nat} (h : Below B w w') (hg : B ≤ g) (cs : Array Value) : Below B w (w'.setRow g cs) :=
  ⟨h.os, h.tape, h.output, by rw [setRow_size]; exact h.size, fun k hk => by rw [setRow_other _ _ _ _ (by omega)]; exact h.block k hk⟩
/-- The block that was made first stays, whatever is called. -/
theorem first_kept {w w' : World} {o : Obj} (b : Below (w.alloc o).heap.size (w.alloc o) w') : w'.heap[w.heap.size]? = some o := by
  rw [b.block _ (by simp)]; exact heap_alloc_new w o
theorem rowAt_alloc {w : World} {a : Option Addr} {c : Nat} {xs : List UInt8} (h : RowAt w a c xs) (o : Obj) : RowAt (w.alloc o) a c xs := h.next ((Below.refl _ _).alloc (Nat.le_refl _) _)

set_option maxHeartbeats 1000000 in
theorem proto_any (a : Option Addr) (cap n : Nat) (xs : List UInt8) (k : Nat) (w : World) (hn : xs.length = n) (hm : n ≤ 90000) (hk : k ≤ 2) (h : RowAt w a cap xs) :
    Calls Tryd.prog 84 #[.slice a n cap, .int .i64 (k : Int)] w fun e w' => HeadRes w w' e (Hd.tail xs k).1 (Hd.tail xs k).2.1 (Hd.tail xs k).2.2 := by
  have c1 := fun W h => hn ▸ number_one a cap xs k W (by omega) (by omega) h
  have c2 := fun W h => hn ▸ number_two a cap xs k W (by omega) (by omega) h
  have q0 := Hd.tail_one xs k
  have q1 := Hd.tail_ff xs k
  have q2 := Hd.tail_end xs k
  have q3 := Hd.tail_two xs k
  have q4 := Hd.tail_form xs k
  have hb := Hd.bt_lt xs k
  have q5 : ¬ n < k + 2 → 256 * Hd.bt xs k + Hd.bt xs (k + 1) = Hd.two xs k := fun h => by unfold Hd.two; rw [hn, if_pos (by omega)]
  have ht := Hd.two_lt xs k
  rw [hn] at q2 q3 q4
  generalize Hd.bt xs k = x at *
  generalize Hd.two xs k = y at *
  generalize Hd.tail xs k = A at *
  have hmx := Hd.may_one x hb
  have C1 := Lib.hid c1
  have C2 := Lib.hid c2
  have H := Lib.hid h
  clear c1 c2 h hn
  have i2 : (k : Int) ≤ 2 := by omega
  by_cases hx : x % 2 = 1
  · by_cases hx2 : x = 255
    · obtain rfl := q1 hx2
      have m1 : Hd.may (x : Int) = false := by rw [hmx]; exact decide_eq_false (by omega)
      have m2 : ((x : Int) % 2 == 1) = true := by simp; omega
      clear q0 q1 q2 q3 q4 q5 hmx hx hx2
      go_enter Tryd.func84, Tryd.ntmps84
      go_wp2_with fail
      refine (C1.out _ (rowAt_alloc H.out _)).mono ?_
      rintro e w1 ⟨rfl, b1⟩
      have H1 := Lib.hid ((rowAt_alloc H.out _).next b1)
      go_wp2_with fail
      refine (C2.out _ H1.out).mono ?_
      rintro e w2 ⟨rfl, b2⟩
      have hR := Lib.hid (first_kept (Below.chain b1 b2))
      have hB := Lib.hid (below_alloc (Below.chain b1 b2))
      clear b1 b2 H1 C1 C2 H
      go_wp2_with (first | (go_at_call 29; refine (may_any _ _).mono ?_; rintro e w' ⟨rfl, h⟩; rw [h, m1]; clear h) | (go_at_call 49; refine (lower_any _ _).mono ?_; rintro e w' ⟨rfl, h⟩; rw [h, m2]; clear h) | (refine wpList_store_head rfl (.tmp 4) (.tmp 32) rfl w.heap.size 0 0 _ rfl rfl hR.out rfl ?_))
      refine bodyPost_ret (head_ret Tryd.results84 rfl rfl hR.out) rfl ⟨rfl, below_setRow hB.out (Nat.le_refl _) _⟩
    · obtain rfl := q0 hx hx2
      have m1 : Hd.may (x : Int) = true := by rw [hmx]; exact decide_eq_true ⟨hx, hx2⟩
      clear q0 q1 q2 q3 q4 q5 hmx hx hx2
      go_enter Tryd.func84, Tryd.ntmps84
      go_wp2_with fail
      refine (C1.out _ (rowAt_alloc H.out _)).mono ?_
      rintro e w1 ⟨rfl, b1⟩
      have H1 := Lib.hid ((rowAt_alloc H.out _).next b1)
      go_wp2_with fail
      refine (C2.out _ H1.out).mono ?_
      rintro e w2 ⟨rfl, b2⟩
      have hR := Lib.hid (first_kept (Below.chain b1 b2))
      have hB := Lib.hid (below_alloc (Below.chain b1 b2))
      clear b1 b2 H1 C1 C2 H
      go_wp2_with (first | (go_at_call 29; refine (may_any _ _).mono ?_; rintro e w' ⟨rfl, h⟩; rw [h, m1]; clear h) | (refine wpList_store_head rfl (.tmp 4) (.tmp 28) rfl w.heap.size x (k + 1) _ rfl rfl hR.out rfl ?_))
      refine bodyPost_ret (head_ret Tryd.results84 rfl rfl hR.out) rfl ⟨rfl, below_setRow hB.out (Nat.le_refl _) _⟩
  · have m1 : Hd.may (x : Int) = false := by rw [hmx]; exact decide_eq_false (by omega)
    have m2 : ((x : Int) % 2 == 1) = false := by simp; omega
    by_cases h2 : n < k + 2
    · obtain rfl := q2 hx h2
      have e2 : decide (k + 2 ≤ n) = false := decide_eq_false (by omega)
      rw [e2] at C2
      clear q0 q1 q2 q3 q4 q5 hmx hx h2 e2
      go_enter Tryd.func84, Tryd.ntmps84
      go_wp2_with fail
      refine (C1.out _ (rowAt_alloc H.out _)).mono ?_
      rintro e w1 ⟨rfl, b1⟩
      have H1 := Lib.hid ((rowAt_alloc H.out _).next b1)
      go_wp2_with fail
      refine (C2.out _ H1.out).mono ?_
      rintro e w2 ⟨rfl, b2⟩
      have hR := Lib.hid (first_kept (Below.chain b1 b2))
      have hB := Lib.hid (below_alloc (Below.chain b1 b2))
      clear b1 b2 H1 C1 C2 H
      go_wp2_with (first | (go_at_call 29; refine (may_any _ _).mono ?_; rintro e w' ⟨rfl, h⟩; rw [h, m1]; clear h) | (go_at_call 49; refine (lower_any _ _).mono ?_; rintro e w' ⟨rfl, h⟩; rw [h, m2]; clear h) | (refine wpList_store_head rfl (.tmp 4) (.tmp 36) rfl w.heap.size 0 0 _ rfl rfl hR.out rfl ?_))
      refine bodyPost_ret (head_ret Tryd.results84 rfl rfl hR.out) rfl ⟨rfl, below_setRow hB.out (Nat.le_refl _) _⟩
    · have e2 : decide (k + 2 ≤ n) = true := decide_eq_true (by omega)
      rw [e2] at C2
      rw [q5 h2] at q3 q4
      cases h3 : Hd.may (y : Int) with
      | true =>
        obtain rfl := q3 hx h2 h3
        clear q0 q1 q2 q3 q4 q5 hmx hx h2 e2
        go_enter Tryd.func84, Tryd.ntmps84
        go_wp2_with fail
        refine (C1.out _ (rowAt_alloc H.out _)).mono ?_
        rintro e w1 ⟨rfl, b1⟩
        have H1 := Lib.hid ((rowAt_alloc H.out _).next b1)
        go_wp2_with fail
        refine (C2.out _ H1.out).mono ?_
        rintro e w2 ⟨rfl, b2⟩
        have hR := Lib.hid (first_kept (Below.chain b1 b2))
        have hB := Lib.hid (below_alloc (Below.chain b1 b2))
        clear b1 b2 H1 C1 C2 H
        go_wp2_with (first | (go_at_call 29; refine (may_any _ _).mono ?_; rintro e w' ⟨rfl, h⟩; rw [h, m1]; clear h) | (go_at_call 29; refine (may_any _ _).mono ?_; rintro e w' ⟨rfl, h⟩; rw [h, h3]; clear h) | (go_at_call 49; refine (lower_any _ _).mono ?_; rintro e w' ⟨rfl, h⟩; rw [h, m2]; clear h) | (refine wpList_store_head rfl (.tmp 4) (.tmp 45) rfl w.heap.size y (k + 2) _ rfl rfl hR.out rfl ?_))
        refine bodyPost_ret (head_ret Tryd.results84 rfl rfl hR.out) rfl ⟨rfl, below_setRow hB.out (Nat.le_refl _) _⟩
      | false =>
        obtain rfl := q4 hx h2 h3
        clear q0 q1 q2 q3 q4 q5 hmx hx h2 e2
        go_enter Tryd.func84, Tryd.ntmps84
        go_wp2_with fail
        refine (C1.out _ (rowAt_alloc H.out _)).mono ?_
        rintro e w1 ⟨rfl, b1⟩
        have H1 := Lib.hid ((rowAt_alloc H.out _).next b1)
        go_wp2_with fail
        refine (C2.out _ H1.out).mono ?_
        rintro e w2 ⟨rfl, b2⟩
        have hR := Lib.hid (first_kept (Below.chain b1 b2))
        have hB := Lib.hid (below_alloc (Below.chain b1 b2))
        clear b1 b2 H1 C1 C2 H
        go_wp2_with (first | (go_at_call 29; refine (may_any _ _).mono ?_; rintro e w' ⟨rfl, h⟩; rw [h, m1]; clear h) | (go_at_call 29; refine (may_any _ _).mono ?_; rintro e w' ⟨rfl, h⟩; rw [h, h3]; clear h) | (go_at_call 49; refine (lower_any _ _).mono ?_; rintro e w' ⟨rfl, h⟩; rw [h, m2]; clear h) | (refine wpList_store_head rfl (.tmp 4) (.tmp 41) rfl w.heap.size 0 0 _ rfl rfl hR.out rfl ?_))
        refine bodyPost_ret (head_ret Tryd.results84 rfl rfl hR.out) rfl ⟨rfl, below_setRow hB.out (Nat.le_refl _) _⟩

theorem read_any (a : Option Addr) (cap n : Nat) (xs : List UInt8) (w : World) (hn : xs.length = n) (hm : n ≤ 90000) (h : RowAt w a cap xs) :
    Calls Tryd.prog 73 #[.slice a n cap] w fun e w' => HeadRes w w' e (Hd.read xs).1 (Hd.read xs).2.1 (Hd.read xs).2.2 := by
  have c1 := fun W h => pass_any a cap n xs W hn hm h
  have c2 := fun W h => proto_any a cap n xs (Hd.pass xs).1 W hn hm (Hd.pass_le xs).2 h
  have H := Lib.hid h
  clear h
  have he3 := Hd.pass_err xs
  by_cases he : (Hd.pass xs).2 = 0
  · have hr : Hd.read xs = Hd.tail xs (Hd.pass xs).1 := by unfold Hd.read; rw [if_pos he]
    rw [← hr] at c2
    clear hr
    generalize Hd.read xs = A at c2 ⊢
    rw [he] at c1
    clear he he3
    generalize (Hd.pass xs).1 = k at c1 c2
    obtain ⟨p, t, r⟩ := A
    have C1 := Lib.hid c1
    have C2 := Lib.hid c2
    clear c1 c2 hn hm
    go_enter Tryd.func73, Tryd.ntmps73
    go_wp2_with fail
    refine (C1.out _ (rowAt_alloc H.out _)).mono ?_
    rintro e w1 ⟨rfl, b1⟩
    have H1 := Lib.hid ((rowAt_alloc H.out _).next b1)
    go_wp2_with fail
    refine (C2.out _ H1.out).mono ?_
    rintro e w2 ⟨rfl, b2⟩
    have hR := Lib.hid (first_kept (Below.chain b1 b2))
    have hB := Lib.hid (below_alloc (Below.chain b1 b2))
    clear b1 b2 H1 C1 C2 H
    go_wp2_with (refine wpList_store_head rfl (.tmp 2) (.tmp 18) rfl w.heap.size p t _ rfl rfl hR.out rfl ?_)
    refine bodyPost_ret (head_ret Tryd.results73 rfl rfl hR.out) rfl ⟨rfl, below_setRow hB.out (Nat.le_refl _) _⟩
  · have hr : Hd.read xs = (0, 0, (Hd.pass xs).2) := by unfold Hd.read; rw [if_neg he]
    rw [hr]
    clear hr c2
    generalize (Hd.pass xs).2 = r at *
    generalize (Hd.pass xs).1 = k at c1
    have C1 := Lib.hid c1
    have i1 : ((r : Int) == 0) = false := by simp; omega
    clear c1 hn hm
    go_enter Tryd.func73, Tryd.ntmps73
    go_wp2_with fail
    refine (C1.out _ (rowAt_alloc H.out _)).mono ?_
    rintro e w1 ⟨rfl, b1⟩
    have hR := Lib.hid (first_kept b1)
    have hB := Lib.hid (below_alloc b1)
    clear b1 C1 H
    go_wp2_with (refine wpList_store_head rfl (.tmp 2) (.tmp 13) rfl w.heap.size 0 0 _ rfl rfl hR.out rfl ?_)
    refine bodyPost_ret (head_ret Tryd.results73 rfl rfl hR.out) rfl ⟨rfl, below_setRow hB.out (Nat.le_refl _) _⟩
end Go.Proofs.YtbbnkmhlgfoacaaDoor.S8

namespace Go.Proofs.YtbbnkmhlgfoacaaDoor.S8
open Go.RowKit

/-- What stands behind a beginning. -/
def Hd.body (xs : List UInt8) : List UInt8 := if (Hd.read xs).2.2 = 0 then xs.drop (Hd.read xs).2.1 else []
theorem Hd.body_good (xs : List UInt8) (h : (Hd.read xs).2.2 = 0) : Hd.body xs = xs.drop (Hd.read xs).2.1 := by unfold Hd.body; rw [if_pos h]
theorem Hd.body_bad (xs : List UInt8) (h : (Hd.read xs).2.2 ≠ 0) : Hd.body xs = [] := by unfold Hd.body; rw [if_neg h]
theorem Hd.body_le (xs : List UInt8) : (Hd.body xs).length ≤ xs.length := by
  unfold Hd.body
  split
  · simp
  · simp

theorem behind_n (a : Option Addr) (cap n : Nat) (xs : List UInt8) (t : Nat) (w : World) (hn : xs.length = n) (hm : n ≤ 90000) (h : RowAt w a cap xs) :
    Calls Tryd.prog 74 #[.slice a n cap, .int .i64 (t : Int)] w fun e w' => ∃ v, e = .returned v ∧ w'.ownsRow w.heap.size 5 1 v (xs.drop t).length (Lib.byteCells (xs.drop t)) ∧ Below w.heap.size w w' := by
  subst hn
  exact behind_at a cap xs t w (by omega) h

/-- A body that is answered. -/
def BodyRes (w w' : World) (e : Ending) (p : Nat) (X : List UInt8) (r : Nat) : Prop :=
  ∃ v, e = .returned (.tuple #[.int .i64 (p : Int), v, .int .i64 (r : Int)]) ∧ w'.ownsRow w.heap.size 5 1 v X.length (Lib.byteCells X) ∧ Below w.heap.size w w'

set_option maxHeartbeats 1000000 in
theorem body_any (a : Option Addr) (cap n : Nat) (xs : List UInt8) (w : World) (hn : xs.length = n) (hm : n ≤ 90000) (h : RowAt w a cap xs) :
    Calls Tryd.prog 61 #[.slice a n cap] w fun e w' => BodyRes w w' e (Hd.read xs).1 (Hd.body xs) (Hd.read xs).2.2 := by
  have c1 := read_any a cap n xs w hn hm h
  have c2 := fun W (h : RowAt W a cap xs) => behind_n a cap n xs (Hd.read xs).2.1 W hn hm h
  have hk := Hd.read_known xs
  have q0 := Hd.body_good xs
  have q1 := Hd.body_bad xs
  generalize Hd.read xs = A at *
  generalize Hd.body xs = X at *
  obtain ⟨p, t, r⟩ := A
  have H := Lib.hid h
  have C1 := Lib.hid c1
  have C2 := Lib.hid c2
  clear h c1 c2
  by_cases hr : r = 0
  · have hX := q0 hr
    rw [show (xs.drop (p, t, r).2.1) = X from hX.symm] at C2
    have hp := hk.small
    clear q0 q1 hX hk
    subst hr
    go_enter Tryd.func61, Tryd.ntmps61
    go_wp2_with fail
    refine C1.out.mono ?_
    rintro e w1 ⟨rfl, b1⟩
    have H1 := Lib.hid (H.out.next b1)
    simp only [hcells]
    go_wp2_with fail
    have hS : (w1.alloc (.cells (hcells p t).toArray 137)).drew.heap[w1.heap.size]? = some (.cells (hcells p t).toArray 137 (0, 0)) := heap_alloc_new w1 _
    have b2 : Below w.heap.size w (w1.alloc (.cells (hcells p t).toArray 137)).drew := (b1.alloc b1.size _).drew
    have H2 := Lib.hid (H1.out.next ((Below.refl w1.heap.size w1).alloc (Nat.le_refl _) (.cells (hcells p t).toArray 137)).drew)
    have e2 : (w1.alloc (.cells #[.int .i64 (p : Int), .int .i64 (t : Int)] 137)).drew = (w1.alloc (.cells (hcells p t).toArray 137)).drew := rfl
    refine held_start (S := fun W => W.heap[w1.heap.size]? = some (.cells (hcells p t).toArray 137 (0, 0))) 9 (by kernel_rfl) rfl ?_
    rw [e2]
    clear e2 H1 C1
    generalize (w1.alloc (.cells (hcells p t).toArray 137)).drew = w2 at hS b2 H2 ⊢
    generalize w1.heap.size = T at hS ⊢
    clear b1
    refine held_take 0 (v := ?_) rfl (by kernel_rfl) (by kernel_rfl) (by kernel_rfl) (fun _ _ _ h => h) (by assumption) (by rfl) ?_ ?_
    rotate_left
    · (intro W hW; go_simp; try with_reducible rfl)
    simp only [Act.put, List.setIfInBounds_toArray, List.set_cons_zero, List.set_cons_succ]
    refine held_take 1 (v := ?_) rfl (by kernel_rfl) (by kernel_rfl) (by kernel_rfl) (fun _ _ _ h => h) (by assumption) (by rfl) ?_ ?_
    rotate_left
    · (intro W hW; (have t0 : W.cell? ⟨T, 0, none⟩ = some (.int .i64 (p : Int)) := cell_of_row _ _ _ _ _ _ hW); clear hW; go_simp; try with_reducible rfl)
    simp only [Act.put, List.setIfInBounds_toArray, List.set_cons_zero, List.set_cons_succ]
    refine held_take 2 (v := ?_) rfl (by kernel_rfl) (by kernel_rfl) (by kernel_rfl) (fun _ _ _ h => h) (by assumption) (by rfl) ?_ ?_
    rotate_left
    · (intro W hW; go_simp; try with_reducible rfl)
    simp only [Act.put, List.setIfInBounds_toArray, List.set_cons_zero, List.set_cons_succ]
    refine held_take 3 (v := ?_) rfl (by kernel_rfl) (by kernel_rfl) (by kernel_rfl) (fun _ _ _ h => h) (by assumption) (by rfl) ?_ ?_
    rotate_left
    · (intro W hW; go_simp; try with_reducible rfl)
    simp only [Act.put, List.setIfInBounds_toArray, List.set_cons_zero, List.set_cons_succ]
    refine held_take 4 (v := ?_) rfl (by kernel_rfl) (by kernel_rfl) (by kernel_rfl) (fun _ _ _ h => h) (by assumption) (by rfl) ?_ ?_
    rotate_left
    · (intro W hW; (have t0 : W.cell? ⟨T, 1, none⟩ = some (.int .i64 (t : Int)) := cell_of_row _ _ _ _ _ _ hW); clear hW; go_simp; try with_reducible rfl)
    simp only [Act.put, List.setIfInBounds_toArray, List.set_cons_zero, List.set_cons_succ]
    refine held_call 5 (f := 74) (args := #[.slice a n cap, .int .i64 (t : Int)]) rfl (by kernel_rfl) (by rfl) (by go_simp) ?_
    refine (C2.out _ H2.out).mono ?_
    rintro e w3 ⟨v, rfl, o3, b3⟩
    have hS3 : w3.heap[T]? = some (.cells (hcells p t).toArray 137 (0, 0)) := by rw [b3.block T (lt_of_block hS)]; exact hS
    have B3 := Lib.hid (Below.chain b2 b3)
    have O3 := Lib.hid (ownsRow_lower o3 b2.size)
    refine ⟨_, rfl, hS3, ?_⟩
    clear o3 b3 b2 hS H2
    simp only [Act.put, List.setIfInBounds_toArray, List.set_cons_zero, List.set_cons_succ]
    refine held_take 6 (v := ?_) rfl (by kernel_rfl) (by kernel_rfl) (by kernel_rfl) (fun _ _ _ h => h) (by assumption) (by rfl) ?_ ?_
    rotate_left
    · (intro W hW; go_simp; try with_reducible rfl)
    simp only [Act.put, List.setIfInBounds_toArray, List.set_cons_zero, List.set_cons_succ]
    refine held_take 7 (v := ?_) rfl (by kernel_rfl) (by kernel_rfl) (by kernel_rfl) (fun _ _ _ h => h) (by assumption) (by rfl) ?_ ?_
    rotate_left
    · (intro W hW; go_simp; try with_reducible rfl)
    simp only [Act.put, List.setIfInBounds_toArray, List.set_cons_zero, List.set_cons_succ]
    refine held_take 8 (v := ?_) rfl (by kernel_rfl) (by kernel_rfl) (by kernel_rfl) (fun _ _ _ h => h) (by assumption) (by rfl) ?_ ?_
    rotate_left
    · (intro W hW; go_simp; try with_reducible rfl)
    simp only [Act.put, List.setIfInBounds_toArray, List.set_cons_zero, List.set_cons_succ]
    refine held_done (by kernel_rfl) ?_
    go_wp2
    go_ret3
    exact ⟨_, rfl, O3.out, B3.out⟩
  · have hX := q1 hr
    obtain ⟨rfl, rfl⟩ := hk.bad hr
    have he := hk.err
    subst hX
    have i1 : ((r : Int) == 0) = false := by simp; omega
    clear q0 q1 C2 hk
    go_enter Tryd.func61, Tryd.ntmps61
    go_wp2_with fail
    refine C1.out.mono ?_
    rintro e w1 ⟨rfl, b1⟩
    simp only [hcells]
    clear hr
    go_wp2
    go_ret3
    exact ⟨_, rfl, World.ownsRow_nil _ _ _ _, b1.alloc b1.size _⟩

theorem headput_bad (p : Int) (full short : Bool) (w : World) (h : Hd.may p = false) :
    Calls Tryd.prog 50 #[.int .i64 p, .bool full, .bool short] w fun e w' => e = .returned (.tuple #[.slice none 0 0, .int .i64 1]) ∧ w' = w := by
  go_enter Tryd.func50, Tryd.ntmps50
  go_wp2_with (go_at_call 29; refine (may_any _ _).mono ?_; rintro e w' ⟨rfl, h⟩; rw [h]; clear h)
  go_ret2
  exact ⟨rfl, rfl⟩

/-- Address and control, and what stands behind them. -/
theorem parts_full {w : World} {p : Option Addr} {c n : Nat} {ys : List UInt8} (hn : ys.length = n) (h : RowAt w p c ys) :
    PartsAt ((w.alloc (.cells #[.int .u8 255, .int .u8 3] 5)).alloc (.cells #[.slice (some ⟨w.heap.size, 0, none⟩) 2 2, .slice p n c] 28)) (some ⟨w.heap.size + 1, 0, none⟩) [[255, 3], ys] := by
  subst hn
  have hx := rowAt_built w [255, 3] 2 _ rfl rfl (by omega) (0, 0)
  have hy := rowAt_alloc h (.cells #[.int .u8 255, .int .u8 3] 5)
  have e : w.heap.size + 1 = (w.alloc (.cells #[.int .u8 255, .int .u8 3] 5)).heap.size := by simp
  rw [e]
  refine .inr ⟨_, 0, rfl, by simp, fun j hj => ?_⟩
  have h2 : j = 0 ∨ j = 1 := by simp at hj; omega
  rcases h2 with rfl | rfl
  · exact ⟨_, 2, by simp only [World.cell?, heap_alloc_new]; rfl, rowAt_alloc hx _⟩
  · exact ⟨p, c, by simp only [World.cell?, heap_alloc_new]; rfl, rowAt_alloc hy _⟩

/-- A list that is answered. -/
def PutRes (w w' : World) (e : Ending) (X : List UInt8) : Prop := ∃ v, e = .returned (.tuple #[v, .int .i64 0]) ∧ w'.ownsRow w.heap.size 5 1 v X.length (Lib.byteCells X) ∧ Below w.heap.size w w'

set_option maxHeartbeats 1000000 in
theorem headput_size (p s : Nat) (full short : Bool) (w : World) (h : Hd.may (p : Int) = true) (hs : Hd.wide p short = s) :
    Calls Tryd.prog 50 #[.int .i64 (p : Int), .bool full, .bool short] w fun e w' => PutRes w w' e (Hd.put p full short) := by
  have hm := (Hd.may_iff _).1 h
  have hw := Hd.wide_le p short
  have hf := Hd.wide_fits p short (by omega)
  rw [hs] at hw hf
  have F := fun W => fits_any p 1 W
  have hF : Oc.fits p 1 = decide (p < 256) := Oc.fits_in p 1 (by omega) (by omega)
  rw [hF] at F
  clear hF
  have i1 : (p : Int) ≤ 65535 := by omega
  have hz : short = true ∧ p < 256 ∧ s = 1 ∨ short = true ∧ ¬ p < 256 ∧ s = 2 ∨ short = false ∧ s = 2 := by
    unfold Hd.wide at hs
    cases short
    · right; right; exact ⟨rfl, by simpa using hs.symm⟩
    · by_cases h2 : p < 256
      · left; rw [if_pos ⟨rfl, h2⟩] at hs; exact ⟨rfl, h2, hs.symm⟩
      · right; left; rw [if_neg (by omega)] at hs; exact ⟨rfl, h2, hs.symm⟩
  have C := Lib.hid (put_fits p s true w (by omega) (by omega) hf)
  have hl := Oc.put_length p s true
  obtain ⟨Y, hY⟩ : ∃ Y, Y = Oc.put p s true := ⟨_, rfl⟩
  rw [← hY] at C hl
  rw [Hd.put, hs, ← hY]
  have Hl := Lib.hid hl
  clear hY hl hf hs
  clear hm hw
  have i0 : ¬ (p : Int) < 0 := by omega
  rcases hz with ⟨rfl, h2, rfl⟩ | ⟨rfl, h2, rfl⟩ | ⟨rfl, rfl⟩
  · rw [decide_eq_true h2] at F
    have HF := Lib.hid F
    clear h2 F
    cases full
    · go_enter Tryd.func50, Tryd.ntmps50
      go_wp2_with (first | (go_at_call 29; refine (may_any _ _).mono ?_; rintro e w' ⟨rfl, h0⟩; rw [h0, h]; clear h0) | (go_at_call 64; refine (HF.out _).mono ?_; rintro e w' ⟨rfl, h0⟩; rw [h0]; clear h0) | (go_at_call 65; refine C.out.mono ?_; rintro e w1 ⟨v, rfl, o1, b1⟩))
      go_ret2
      exact ⟨v, rfl, by simpa [Hd.ahead, Hl.out] using o1, b1⟩
    · go_enter Tryd.func50, Tryd.ntmps50
      go_wp2_with (first | (go_at_call 29; refine (may_any _ _).mono ?_; rintro e w' ⟨rfl, h0⟩; rw [h0, h]; clear h0) | (go_at_call 64; refine (HF.out _).mono ?_; rintro e w' ⟨rfl, h0⟩; rw [h0]; clear h0) | (go_at_call 65; refine C.out.mono ?_; rintro e w1 ⟨v, rfl, o1, b1⟩; obtain ⟨a1, c1, rfl, r1⟩ := rowAt_own Hl.out o1; have R1 := Lib.hid r1; clear r1 o1) | (go_at_call 53; refine (join_at _ 2 2 [[255, 3], Y] ([255, 3] ++ Y) _ rfl (by simp) (by simp) (by simp [Hl.out]) (parts_full Hl.out R1.out)).mono ?_; rintro e w2 ⟨v2, rfl, o2, b2⟩))
      go_ret2
      exact ⟨v2, rfl, ownsRow_lower o2 (by have := b1.size; simp; omega), Below.chain b1 (below_alloc (below_alloc b2))⟩
  · rw [decide_eq_false h2] at F
    have HF := Lib.hid F
    clear h2 F
    cases full
    · go_enter Tryd.func50, Tryd.ntmps50
      go_wp2_with (first | (go_at_call 29; refine (may_any _ _).mono ?_; rintro e w' ⟨rfl, h0⟩; rw [h0, h]; clear h0) | (go_at_call 64; refine (HF.out _).mono ?_; rintro e w' ⟨rfl, h0⟩; rw [h0]; clear h0) | (go_at_call 65; refine C.out.mono ?_; rintro e w1 ⟨v, rfl, o1, b1⟩))
      go_ret2
      exact ⟨v, rfl, by simpa [Hd.ahead, Hl.out] using o1, b1⟩
    · go_enter Tryd.func50, Tryd.ntmps50
      go_wp2_with (first | (go_at_call 29; refine (may_any _ _).mono ?_; rintro e w' ⟨rfl, h0⟩; rw [h0, h]; clear h0) | (go_at_call 64; refine (HF.out _).mono ?_; rintro e w' ⟨rfl, h0⟩; rw [h0]; clear h0) | (go_at_call 65; refine C.out.mono ?_; rintro e w1 ⟨v, rfl, o1, b1⟩; obtain ⟨a1, c1, rfl, r1⟩ := rowAt_own Hl.out o1; have R1 := Lib.hid r1; clear r1 o1) | (go_at_call 53; refine (join_at _ 2 2 [[255, 3], Y] ([255, 3] ++ Y) _ rfl (by simp) (by simp) (by simp [Hl.out]) (parts_full Hl.out R1.out)).mono ?_; rintro e w2 ⟨v2, rfl, o2, b2⟩))
      go_ret2
      exact ⟨v2, rfl, ownsRow_lower o2 (by have := b1.size; simp; omega), Below.chain b1 (below_alloc (below_alloc b2))⟩
  · clear F
    cases full
    · go_enter Tryd.func50, Tryd.ntmps50
      go_wp2_with (first | (go_at_call 29; refine (may_any _ _).mono ?_; rintro e w' ⟨rfl, h0⟩; rw [h0, h]; clear h0) | (go_at_call 65; refine C.out.mono ?_; rintro e w1 ⟨v, rfl, o1, b1⟩))
      go_ret2
      exact ⟨v, rfl, by simpa [Hd.ahead, Hl.out] using o1, b1⟩
    · go_enter Tryd.func50, Tryd.ntmps50
      go_wp2_with (first | (go_at_call 29; refine (may_any _ _).mono ?_; rintro e w' ⟨rfl, h0⟩; rw [h0, h]; clear h0) | (go_at_call 65; refine C.out.mono ?_; rintro e w1 ⟨v, rfl, o1, b1⟩; obtain ⟨a1, c1, rfl, r1⟩ := rowAt_own Hl.out o1; have R1 := Lib.hid r1; clear r1 o1) | (go_at_call 53; refine (join_at _ 2 2 [[255, 3], Y] ([255, 3] ++ Y) _ rfl (by simp) (by simp) (by simp [Hl.out]) (parts_full Hl.out R1.out)).mono ?_; rintro e w2 ⟨v2, rfl, o2, b2⟩))
      go_ret2
      exact ⟨v2, rfl, ownsRow_lower o2 (by have := b1.size; simp; omega), Below.chain b1 (below_alloc (below_alloc b2))⟩

theorem headput_good (p : Nat) (full short : Bool) (w : World) (h : Hd.may (p : Int) = true) :
    Calls Tryd.prog 50 #[.int .i64 (p : Int), .bool full, .bool short] w fun e w' => PutRes w w' e (Hd.put p full short) := headput_size p _ full short w h rfl
end Go.Proofs.YtbbnkmhlgfoacaaDoor.S8

namespace Go.Proofs.YtbbnkmhlgfoacaaDoor.S8
open Go.RowKit

theorem bt_cell {w : World} {a : Option Addr} {c : Nat} {xs : List UInt8} (h : RowAt w a c xs) (h0 : 0 < xs.length) : ∃ b off, a = some ⟨b, off, none⟩ ∧ b < w.heap.size ∧ ∀ k, k < xs.length → w.cell? ⟨b, off + k, none⟩ = some (.int .u8 (Hd.bt xs k : Nat)) := by
  rcases h.bytes with rfl | ⟨b, off, rfl, hb, hc⟩
  · simp at h0
  · exact ⟨b, off, rfl, hb, fun k hk => by rw [Hd.bt_in xs k hk]; exact hc k hk⟩

/-- Two heads of nothing. -/
def w00 (w : World) : World := (w.alloc (.cells #[.int .i64 0, .int .i64 0] 137)).alloc (.cells #[.int .i64 0, .int .i64 0] 137)
theorem w00_first (w : World) : (w00 w).heap[w.heap.size]? = some (.cells (hcells 0 0).toArray 137 (0, 0)) := by
  unfold w00
  rw [Below.heap_alloc _ _ _ (by simp)]; exact heap_alloc_new w _
theorem w00_second (w : World) : (w00 w).heap[w.heap.size + 1]? = some (.cells (hcells 0 0).toArray 137 (0, 0)) := by
  have h := heap_alloc_new (w.alloc (.cells #[.int .i64 0, .int .i64 0] 137)) (.cells #[.int .i64 0, .int .i64 0] 137)
  rw [show (w.alloc (.cells #[.int .i64 0, .int .i64 0] 137)).heap.size = w.heap.size + 1 by simp] at h
  exact h
theorem w00_below (w : World) : Below w.heap.size w (w00 w) := ((Below.refl _ _).alloc (Nat.le_refl _) _).alloc (by simp) _
theorem w00_cell (w : World) (b o : Nat) (h : b < w.heap.size) : (w00 w).cell? ⟨b, o, none⟩ = w.cell? ⟨b, o, none⟩ := (w00_below w).cell (p := ⟨b, o, none⟩) h

end Go.Proofs.YtbbnkmhlgfoacaaDoor.S8

namespace Go.Proofs.YtbbnkmhlgfoacaaDoor.S8
open Go.RowKit

/-- append of bytes that were built onto a slice of one's own. -/
theorem wpList_append_built {w : World} {ops : Array Oper} {rest : List Oper} {o : Oper} {a : Act} {Q : Exit → Act → World → Prop} (hgd : o.guard = none) (s x : Operand)
    (ho : o.op = .call { callee := .builtin .append, args := #[s, x], argTypes := #[28, 28] })
    (base : Nat) (v : Value) (n : Nat) (xs : List UInt8) (hs : a.eval s = v) (hown : w.ownsRow base 5 1 v n (Lib.byteCells xs))
    (cs : Array Value) (ys : List UInt8) (m : Nat) (hx : a.eval x = .slice (some ⟨w.heap.size, 0, none⟩) m m) (hm : ys.length = m) (hcs : cs = (Lib.byteCells ys).toArray) (h63 : n + m ≤ 1000) (hb : base ≤ w.heap.size)
    (h : ∀ v' w', w'.ownsRow base 5 1 v' (n + m) (Lib.byteCells (xs ++ ys)) → Below base (w.alloc (.cells cs 5)) w' → wpList Tryd.prog ops Q rest (a.put o.dst v') w') : wpList Tryd.prog ops Q (o :: rest) a (w.alloc (.cells cs 5)) := by
  have hr := rowAt_built w ys m cs hm hcs (by omega) (0, 0)
  refine wpList_append_row hgd s x ho base v n _ hs (hown.alloc _) _ m m ys hx hm hr (by omega) (by simp; omega) ?_
  intro v' w' o1 g1
  rw [← Lib.byteCells_append] at o1
  exact h v' w' o1 (Below.grown (Below.refl _ _) g1 (by simp; omega) (fun j hj => (hown.lt j hj).1))

theorem ref_dg1 (p : Nat) : (p : Int) / 256 % 256 = ((Oc.dg p 1).toNat : Int) := by rw [Oc.dg_nat]; simp
theorem ref_dg0 (p : Nat) : (p : Int) % 256 = ((Oc.dg p 0).toNat : Int) := by rw [Oc.dg_nat]; simp

end Go.Proofs.YtbbnkmhlgfoacaaDoor.S8
