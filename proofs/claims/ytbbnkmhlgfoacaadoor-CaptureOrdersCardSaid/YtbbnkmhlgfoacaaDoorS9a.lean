/- Contracts of an earlier layer, brought to this seat by names (port.py): Plain, Wa, Wb, Wc, Wd, Held, Plainp, Pa, Pb, Ph, Pn, Pr, Ps, Pp, Pq, Pt. -/
import Derived.Test.YtbbnkmhlgfoacaaDoorChecked
import Derived.Lib.Strings
import Derived.Laws.Bits64
import Derived.Laws.BitsAllLaws
import Derived.Laws.BitsLemmas
import Derived.WalkKit
import Derived.WalkSpells
import Derived.WalkLawsBesides
import Derived.Lib.OthersKept
import Derived.Lib.Hide
import Derived.BigQuiet
import Derived.Deep.QuietTactic
import Derived.Deep.RegionLaw
import Derived.Lib.Bytes
import Derived.Laws.AppendOwnNone
import Derived.Lib.AppendZeros
import Derived.OrdersHeld
import Derived.Deep.RegionHeld
import Derived.OneCell
import Derived.Deep.WholeRow
import Derived.Laws.EntriesVeiled
import Derived.Deep.MidRow

namespace Go.Proofs.YtbbnkmhlgfoacaaDoor.S9
namespace Oc

/-- The digit of 256 to the power of i. -/
def dg (n i : Nat) : UInt8 := (n / 256 ^ i).toUInt8
theorem dg_nat (n i : Nat) : (dg n i).toNat = n / 256 ^ i % 256 := by simp [dg]

/-- The lowest k digits, the lowest one first. -/
def lit (n k : Nat) : List UInt8 := (List.range k).map (dg n)
theorem lit_length (n k : Nat) : (lit n k).length = k := by simp [lit]
theorem lit_snoc (n k : Nat) : lit n (k + 1) = lit n k ++ [dg n k] := by simp [lit, List.range_succ]
theorem lit_zero (n : Nat) : lit n 0 = [] := rfl

/-- One order or the other. -/
def turn (big : Bool) (l : List UInt8) : List UInt8 := if big then l.reverse else l
theorem turn_length (big : Bool) (l : List UInt8) : (turn big l).length = l.length := by unfold turn; split <;> simp
theorem turn_turn (big : Bool) (l : List UInt8) : turn big (turn big l) = l := by unfold turn; split <;> simp
theorem turn_not (big : Bool) (l : List UInt8) : turn (!big) l = (turn big l).reverse := by unfold turn; cases big <;> simp
theorem turn_not_rev (big : Bool) (l : List UInt8) : (turn (!big) l).reverse = turn big l := by rw [turn_not]; simp

/-- Where the digit of 256 to the power of i stands. -/
def at' (i size : Nat) (big : Bool) : Nat := if big then size - 1 - i else i
theorem at_lt (i size : Nat) (big : Bool) (h : i < size) : at' i size big < size := by unfold at'; split <;> omega

theorem turn_get (big : Bool) (l : List UInt8) (i : Nat) (h : i < l.length) : (turn big l)[i]? = l[at' i l.length big]? := by
  unfold turn at'
  cases big
  · rfl
  · simp [List.getElem?_reverse h]
theorem turn_set (big : Bool) (l : List UInt8) (i : Nat) (v : UInt8) (h : i < l.length) : (turn big l).set (at' i l.length big) v = turn big (l.set i v) := by
  unfold turn at'
  cases big
  · rfl
  · simp only [if_true]
    apply List.ext_getElem?
    intro j
    by_cases hj : j < l.length
    · rw [List.getElem?_reverse (by simpa using hj), List.getElem?_set, List.getElem?_reverse hj, List.getElem?_set]
      simp only [List.length_reverse, List.length_set]
      by_cases e : l.length - 1 - i = j
      · rw [if_pos e, if_pos (by omega), if_pos (by omega), if_pos (by omega)]
      · rw [if_neg e, if_neg (by omega)]
    · rw [List.getElem?_eq_none (by simp; omega), List.getElem?_eq_none (by simp; omega)]

/-- What stands there when k digits are written. -/
def part (n size k : Nat) : List UInt8 := (List.range size).map fun i => if i < k then dg n i else 0
theorem part_length (n size k : Nat) : (part n size k).length = size := by simp [part]
theorem part_zero (n size : Nat) : part n size 0 = List.replicate size 0 := by
  apply List.ext_getElem
  · simp [part]
  · intro i h1 h2; simp [part]
theorem part_all (n size : Nat) : part n size size = lit n size := by
  apply List.ext_getElem
  · simp [part, lit]
  · intro i h1 h2
    have : i < size := by simpa [part] using h1
    simp [part, lit, this]
theorem part_set (n size k : Nat) : (part n size k).set k (dg n k) = part n size (k + 1) := by
  apply List.ext_getElem
  · simp [part]
  · intro i h1 h2
    rw [List.getElem_set]
    simp only [part, List.getElem_map, List.getElem_range]
    by_cases e : k = i
    · subst e; rw [if_pos rfl, if_pos (by omega)]
    · rw [if_neg e]
      by_cases h : i < k
      · rw [if_pos h, if_pos (by omega)]
      · rw [if_neg h, if_neg (by omega)]
theorem part_step (n size k : Nat) (big : Bool) (h : k < size) : (turn big (part n size k)).set (at' k size big) (dg n k) = turn big (part n size (k + 1)) := by
  have := turn_set big (part n size k) k (dg n k) (by rw [part_length]; exact h)
  rw [part_length] at this
  rw [this, part_set]
theorem turn_zero (big : Bool) (n size : Nat) : turn big (part n size 0) = List.replicate size 0 := by
  rw [part_zero]; unfold turn; split <;> simp

/-- The bytes of a number. -/
def put (n size : Nat) (big : Bool) : List UInt8 := turn big (lit n size)
theorem put_length (n size : Nat) (big : Bool) : (put n size big).length = size := by rw [put, turn_length, lit_length]
theorem put_part (n size : Nat) (big : Bool) : turn big (part n size size) = put n size big := by rw [part_all]; rfl

/-- The number of digits, the lowest one first. -/
def val : List UInt8 → Nat
  | [] => 0
  | x :: l => x.toNat + 256 * val l
theorem val_lt : ∀ l : List UInt8, val l < 256 ^ l.length
  | [] => by simp [val]
  | x :: l => by
    have h := val_lt l
    have hx := x.toNat_lt
    simp only [val, List.length_cons, Nat.pow_succ]
    omega
theorem val_snoc : ∀ (l : List UInt8) (x : UInt8), val (l ++ [x]) = val l + x.toNat * 256 ^ l.length
  | [], x => by simp [val]
  | y :: l, x => by
    have h := val_snoc l x
    simp only [List.cons_append, val, h, List.length_cons, Nat.pow_succ]
    have e : x.toNat * (256 ^ l.length * 256) = 256 * (x.toNat * 256 ^ l.length) := by
      rw [← Nat.mul_assoc, Nat.mul_comm]
    omega
theorem val_lit : ∀ (n k : Nat), val (lit n k) = n % 256 ^ k
  | n, 0 => by simp [lit, val, Nat.mod_one]
  | n, k + 1 => by
    rw [lit_snoc, val_snoc, val_lit n k, lit_length, dg_nat, Nat.pow_succ, Nat.mod_mul, Nat.mul_comm (256 ^ k)]
theorem val_lit_fits (n k : Nat) (h : n < 256 ^ k) : val (lit n k) = n := by rw [val_lit, Nat.mod_eq_of_lt h]
theorem dg_zero (x : UInt8) (m : Nat) : dg (x.toNat + 256 * m) 0 = x := by
  apply UInt8.toNat_inj.1
  rw [dg_nat]
  have := x.toNat_lt
  simp only [Nat.pow_zero, Nat.div_one]
  omega
theorem dg_succ (x : UInt8) (m i : Nat) : dg (x.toNat + 256 * m) (i + 1) = dg m i := by
  apply UInt8.toNat_inj.1
  rw [dg_nat, dg_nat, Nat.pow_succ, Nat.mul_comm (256 ^ i), ← Nat.div_div_eq_div_mul]
  have := x.toNat_lt
  rw [show (x.toNat + 256 * m) / 256 = m by omega]
theorem lit_val : ∀ l : List UInt8, lit (val l) l.length = l
  | [] => rfl
  | x :: l => by
    have h := lit_val l
    simp only [lit, val, List.length_cons, List.range_succ_eq_map, List.map_cons, List.map_map, dg_zero]
    congr 1
    rw [← h]
    simp only [lit, List.length_map, List.length_range]
    apply List.map_congr_left
    intro i _
    rw [show (dg (x.toNat + 256 * val (List.map (dg (val l)) (List.range l.length))) ∘ Nat.succ) i = dg (x.toNat + 256 * val (List.map (dg (val l)) (List.range l.length))) (i + 1) from rfl, dg_succ]
    have h2 : val (List.map (dg (val l)) (List.range l.length)) = val l := by
      rw [show List.map (dg (val l)) (List.range l.length) = lit (val l) l.length from rfl, h]
    rw [h2]

/-- The number of digits, the highest one first. -/
def hor (l : List UInt8) : Nat := val l.reverse
theorem hor_snoc (l : List UInt8) (x : UInt8) : hor (l ++ [x]) = 256 * hor l + x.toNat := by
  simp [hor, val]; omega
theorem hor_nil : hor [] = 0 := rfl
theorem hor_lt (l : List UInt8) : hor l < 256 ^ l.length := by have := val_lt l.reverse; simpa [hor] using this

/-- The number whose bytes a text is. -/
def get (l : List UInt8) (big : Bool) : Nat := val (turn big l)
theorem get_hor (l : List UInt8) (big : Bool) : hor (turn (!big) l) = get l big := by rw [hor, turn_not_rev]; rfl
theorem get_lt (l : List UInt8) (big : Bool) : get l big < 256 ^ l.length := by have := val_lt (turn big l); rwa [turn_length] at this
theorem get_put (n size : Nat) (big : Bool) (h : n < 256 ^ size) : get (put n size big) big = n := by
  rw [get, put, turn_turn, val_lit_fits n size h]
theorem put_get (l : List UInt8) (big : Bool) : put (get l big) l.length big = l := by
  have h := lit_val (turn big l)
  rw [turn_length] at h
  rw [get, put, h, turn_turn]
theorem put_not (n size : Nat) (big : Bool) : put n size (!big) = (put n size big).reverse := by rw [put, turn_not]; rfl
theorem get_zero_size (l : List UInt8) : l.length = 0 → l = [] := List.eq_nil_of_length_eq_zero

theorem pow_le (k : Nat) (h : k ≤ 8) : 256 ^ k ≤ 18446744073709551616 := by
  have := Nat.pow_le_pow_right (n := 256) (by omega) h
  simpa using this
theorem pow_eq (k : Nat) : 256 ^ k = 2 ^ (8 * k) := by rw [Nat.pow_mul]

/-- Does it fit? -/
def fits (n : Nat) (size : Int) : Bool := decide (1 ≤ size ∧ size ≤ 8 ∧ n < 256 ^ size.toNat)
theorem fits_iff (n : Nat) (size : Int) : fits n size = true ↔ 1 ≤ size ∧ size ≤ 8 ∧ n < 256 ^ size.toNat := by simp [fits]
theorem fits_in (n s : Nat) (h1 : 1 ≤ s) (h2 : s ≤ 8) : fits n (s : Int) = decide (n < 256 ^ s) := by
  unfold fits; apply decide_eq_decide.2; simp; omega
theorem fits_div (n s : Nat) : (n / 256 ^ s = 0) ↔ n < 256 ^ s := by
  rw [Nat.div_eq_zero_iff]
  have : 0 < 256 ^ s := Nat.pow_pos (by omega)
  omega

/-- A shift to the right by so many bytes. -/
theorem shr (n k : Nat) (hk : k ≤ 8) : (n : Int) / 2 ^ min (8 * (k : Int)).toNat 64 = ((n / 256 ^ k : Nat) : Int) := by
  have e : min (8 * (k : Int)).toNat 64 = 8 * k := by omega
  rw [e, pow_eq]
  simp
theorem div_test (n m s : Nat) (h : m = n / 256 ^ s) : ((m : Int) == 0) = decide (n < 256 ^ s) := by
  have e := fits_div n s
  rw [← h] at e
  rw [Bool.eq_iff_iff]
  simp only [beq_iff_eq, decide_eq_true_eq, ← e]
  omega
theorem shr_test (n s : Nat) : ((n : Int) / 2 ^ (8 * s) == 0) = decide (n < 256 ^ s) := by
  rw [← div_test n (n / 256 ^ s) s rfl, pow_eq]
  simp
theorem wrap8 (n : Nat) : IntKind.u8.wrap (n : Int) = ((n % 256 : Nat) : Int) := by rw [IntKind.wrap_u8]; simp
/-- A shift to the left by so many bytes, of a byte. -/
theorem shl (x : UInt8) (k : Nat) (hk : k < 8) : IntKind.u64.wrap ((x.toNat : Int) * 2 ^ min (8 * (k : Int)).toNat 64) = ((x.toNat * 256 ^ k : Nat) : Int) := by
  have e : min (8 * (k : Int)).toNat 64 = 8 * k := by omega
  have hx := x.toNat_lt
  have h : x.toNat * 256 ^ k < 18446744073709551616 := by
    have h1 : x.toNat * 256 ^ k < 256 * 256 ^ k := Nat.mul_lt_mul_of_pos_right hx (Nat.pow_pos (by omega))
    have h2 := pow_le (k + 1) (by omega)
    rw [Nat.pow_succ, Nat.mul_comm] at h2
    omega
  rw [e, IntKind.wrap_u64]
  have e2 : (x.toNat : Int) * 2 ^ (8 * k) = ((x.toNat * 256 ^ k : Nat) : Int) := by rw [pow_eq]; simp
  rw [e2]
  omega
theorem shl2 (x : UInt8) (k : Nat) (hk : k < 8) : IntKind.u64.wrap (IntKind.u64.wrap (x.toNat : Int) * 2 ^ (8 * k)) = ((x.toNat * 256 ^ k : Nat) : Int) := by
  have h := shl x k hk
  rw [show min (8 * (k : Int)).toNat 64 = 8 * k by omega] at h
  have hx := x.toNat_lt
  rw [show IntKind.u64.wrap (x.toNat : Int) = (x.toNat : Int) by rw [IntKind.wrap_u64]; omega]
  exact h
theorem dg_int (n k : Nat) : (n : Int) / 2 ^ (8 * k) % 256 = ((dg n k).toNat : Int) := by
  rw [dg_nat, pow_eq]
  simp
theorem put_zero (n : Nat) (big : Bool) : put n 0 big = [] := by cases big <;> rfl
theorem put_big (n k : Nat) : put n (k + 1) true = [dg n k] ++ put n k true := by simp [put, turn, lit_snoc]
theorem put_little (n k : Nat) : put n (k + 1) false = put n k false ++ [dg n k] := by simp [put, turn, lit_snoc]
/-- What lies apart is joined as a sum. -/
theorem or_join (a : Nat) (x : UInt8) (k : Nat) (hk : k < 8) (ha : a < 256 ^ k) : bits .or .u64 (a : Int) ((x.toNat * 256 ^ k : Nat) : Int) = ((a + x.toNat * 256 ^ k : Nat) : Int) := by
  have hx := x.toNat_lt
  have h2 := pow_le (k + 1) (by omega)
  have h1 : x.toNat * 256 ^ k < 256 * 256 ^ k := Nat.mul_lt_mul_of_pos_right hx (Nat.pow_pos (by omega))
  rw [Nat.pow_succ, Nat.mul_comm] at h2
  have h3 : a < 18446744073709551616 := Nat.lt_of_lt_of_le ha (pow_le k (by omega))
  rw [(bits_nat .u64 64 (by decide) (fun n h₀ h₁ => by rw [IntKind.wrap_u64]; omega) a _ (by simpa using h3) (by have : (2 : Nat) ^ 64 = 18446744073709551616 := rfl; omega)).2]
  have ha' := ha
  rw [pow_eq] at ha'
  have e := Nat.two_pow_add_eq_or_of_lt ha' x.toNat
  rw [← pow_eq] at e
  rw [Nat.or_comm, Nat.mul_comm, ← e, Nat.add_comm]
end Oc
end Go.Proofs.YtbbnkmhlgfoacaaDoor.S9

namespace Go.Proofs.YtbbnkmhlgfoacaaDoor.S9
open Go.RowKit

theorem ret_bool {a b : Bool} (h : a = b) : Ending.returned (.bool a) = .returned (.bool b) := by rw [h]
theorem ret_int {k : IntKind} {a b : Int} (h : a = b) : Ending.returned (.int k a) = .returned (.int k b) := by rw [h]
theorem ret_u64b {a b : Int} {c d : Bool} (h : a = b) (g : c = d) : Ending.returned (.tuple #[.int .u64 a, .bool c]) = .returned (.tuple #[.int .u64 b, .bool d]) := by rw [h, g]

/-- The bytes that a slice holds. -/
def BytesAt (w : World) (a : Option Addr) (xs : List UInt8) : Prop :=
  xs = [] ∨ ∃ b off, a = some ⟨b, off, none⟩ ∧ b < w.heap.size ∧ ∀ j (h : j < xs.length), w.cell? ⟨b, off + j, none⟩ = some (.int .u8 (xs[j].toNat : Int))
theorem BytesAt.below {w w' : World} {B : Nat} {a : Option Addr} {xs : List UInt8} (h : BytesAt w a xs) (hb : Below B w w') (hB : ∀ b off, a = some ⟨b, off, none⟩ → b < w.heap.size → b < B) : BytesAt w' a xs := by
  rcases h with rfl | ⟨b, off, rfl, h1, h2⟩
  · exact .inl rfl
  · exact .inr ⟨b, off, rfl, Nat.lt_of_lt_of_le h1 hb.size, fun j hj => by rw [hb.cell (p := ⟨b, off + j, none⟩) (hB b off rfl h1)]; exact h2 j hj⟩
theorem BytesAt.next {w w' : World} {a : Option Addr} {xs : List UInt8} (h : BytesAt w a xs) (hb : Below w.heap.size w w') : BytesAt w' a xs := h.below hb fun _ _ _ h => h
theorem Below.chain {a b c : World} (h : Below a.heap.size a b) (k : Below b.heap.size b c) : Below a.heap.size a c := h.trans (k.mono h.size)

theorem fits_any (n : Nat) (size : Int) (w : World) :
    Calls Tryd.prog 64 #[.int .u64 (n : Int), .int .i64 size] w fun e w' => e = .returned (.bool (Oc.fits n size)) ∧ w' = w := by
  by_cases h1 : 1 ≤ size
  · by_cases h2 : size ≤ 8
    · obtain ⟨s, rfl⟩ := Int.eq_ofNat_of_zero_le (by omega : 0 ≤ size)
      go_enter Tryd.func64, Tryd.ntmps64
      go_wp2
      go_ret
      refine ⟨ret_bool ?_, rfl⟩
      rw [Oc.fits_in n s (by omega) (by omega), Oc.shr_test]
    · go_enter Tryd.func64, Tryd.ntmps64
      go_wp2
      go_ret
      exact ⟨ret_bool (by simp [Oc.fits]; omega), rfl⟩
  · go_enter Tryd.func64, Tryd.ntmps64
    go_wp2
    go_ret
    exact ⟨ret_bool (by simp [Oc.fits]; omega), rfl⟩

theorem place_any (i size : Nat) (big : Bool) (w : World) (h : i < size) (hs : size ≤ 1000) :
    Calls Tryd.prog 77 #[.int .i64 (i : Int), .int .i64 (size : Int), .bool big] w fun e w' => e = .returned (.int .i64 (Oc.at' i size big : Nat)) ∧ w' = w := by
  have i1 : (i : Int) < (size : Int) := by omega
  have i2 : (size : Int) ≤ 1000 := by omega
  cases big
  · go_enter Tryd.func77, Tryd.ntmps77
    go_wp2
    go_ret
    exact ⟨rfl, rfl⟩
  · go_enter Tryd.func77, Tryd.ntmps77
    go_wp2
    go_ret
    exact ⟨ret_int (by unfold Oc.at'; rw [if_pos rfl]; omega), rfl⟩

theorem get_few (a : Option Addr) (len cap : Nat) (big : Bool) (w : World) (h : len < 1 ∨ 8 < len) :
    Calls Tryd.prog 75 #[.slice a len cap, .bool big] w fun e w' => e = .returned (.tuple #[.int .u64 0, .bool false]) ∧ w' = w := by
  rcases h with h | h
  · have i1 : (len : Int) < 1 := by omega
    go_enter Tryd.func75, Tryd.ntmps75
    go_wp2
    go_ret2
    exact ⟨rfl, rfl⟩
  · have i1 : ¬ (len : Int) < 1 := by omega
    have i2 : 8 < (len : Int) := by omega
    go_enter Tryd.func75, Tryd.ntmps75
    go_wp2
    go_ret2
    exact ⟨rfl, rfl⟩

set_option maxHeartbeats 1000000 in
theorem get_some (b off cap : Nat) (xs : List UInt8) (big : Bool) (w : World) (h1 : 1 ≤ xs.length) (h8 : xs.length ≤ 8) (hc : ∀ j (h : j < xs.length), w.cell? ⟨b, off + j, none⟩ = some (.int .u8 (xs[j].toNat : Int))) :
    Calls Tryd.prog 75 #[.slice (some ⟨b, off, none⟩) xs.length cap, .bool big] w fun e w' => e = .returned (.tuple #[.int .u64 (Oc.get xs big : Nat), .bool true]) ∧ w' = w := by
  have Hc := Lib.hid hc
  clear hc
  have i1 : ¬ (xs.length : Int) < 1 := by omega
  have i2 : ¬ 8 < (xs.length : Int) := by omega
  go_enter Tryd.func75, Tryd.ntmps75
  go_wp2
  go_loop [7, 18] (fun n i => ∃ k : Nat, k ≤ xs.length ∧ i = .int .i64 (k : Int) ∧ n = .int .u64 (Oc.val ((Oc.turn big xs).take k) : Nat)) (fun _ i => xs.length - (intOf i).toNat)
  case atStart => exact ⟨0, Nat.zero_le _, rfl, rfl⟩
  case round =>
    obtain ⟨k, hk, rfl, rfl⟩ := hrel
    by_cases hlt : (k : Int) < (xs.length : Int)
    · have hk' : k < xs.length := by omega
      have hat := Oc.at_lt k xs.length big hk'
      have hat' : ((Oc.at' k xs.length big : Nat) : Int) < (xs.length : Int) := by omega
      have hcell := Hc.out (Oc.at' k xs.length big) hat
      obtain ⟨x, hx⟩ : ∃ x, x = xs[Oc.at' k xs.length big] := ⟨_, rfl⟩
      rw [← hx] at hcell
      have hvl : Oc.val ((Oc.turn big xs).take k) < 256 ^ k := by
        have := Oc.val_lt ((Oc.turn big xs).take k)
        rw [List.length_take, Oc.turn_length, Nat.min_eq_left hk] at this
        exact this
      have hor := Oc.or_join (Oc.val ((Oc.turn big xs).take k)) x k (by omega) hvl
      have hst : Oc.val ((Oc.turn big xs).take k) + x.toNat * 256 ^ k = Oc.val ((Oc.turn big xs).take (k + 1)) := by
        have e : (Oc.turn big xs).take (k + 1) = (Oc.turn big xs).take k ++ [x] := by
          rw [List.take_add_one, Oc.turn_get big xs k hk', List.getElem?_eq_getElem hat, ← hx]; rfl
        rw [e, Oc.val_snoc, List.length_take, Oc.turn_length, Nat.min_eq_left hk]
      have Hst := Lib.hid hst
      clear hst hx hvl
      go_wp2_with (go_at_call 77; refine (place_any k xs.length big _ hk' (by omega)).mono ?_; rintro e w' ⟨rfl, rfl⟩)
      go_round
      case rel => exact ⟨k + 1, by omega, by go_num, by rw [← Hst.out, Oc.shl2 x k (by omega), hor]⟩
      case measure => simp [intOf]; omega
    · go_wp2
      go_ret2
      exact ⟨ret_u64b (by rw [List.take_of_length_le (by rw [Oc.turn_length]; omega)]; rfl) rfl, rfl⟩

theorem get_at (a : Option Addr) (cap : Nat) (xs : List UInt8) (big : Bool) (w : World) (h1 : 1 ≤ xs.length) (h8 : xs.length ≤ 8) (h : BytesAt w a xs) :
    Calls Tryd.prog 75 #[.slice a xs.length cap, .bool big] w fun e w' => e = .returned (.tuple #[.int .u64 (Oc.get xs big : Nat), .bool true]) ∧ w' = w := by
  rcases h with rfl | ⟨b, off, rfl, hb, hc⟩
  · simp at h1
  · exact get_some b off cap xs big w h1 h8 hc

set_option maxHeartbeats 1000000 in
theorem refGet_some (b off cap : Nat) (xs : List UInt8) (big : Bool) (w : World) (h8 : xs.length ≤ 8) (hc : ∀ j (h : j < xs.length), w.cell? ⟨b, off + j, none⟩ = some (.int .u8 (xs[j].toNat : Int))) :
    Calls Tryd.prog 46 #[.slice (some ⟨b, off, none⟩) xs.length cap, .bool big] w fun e w' => e = .returned (.int .u64 (Oc.get xs big : Nat)) ∧ w' = w := by
  have Hc := Lib.hid hc
  clear hc
  have i2 : (xs.length : Int) ≤ 8 := by omega
  go_enter Tryd.func46, Tryd.ntmps46
  go_wp2
  go_loop [5, 6] (fun n i => ∃ k : Nat, k ≤ xs.length ∧ i = .int .i64 (k : Int) ∧ n = .int .u64 (Oc.hor ((Oc.turn (!big) xs).take k) : Nat)) (fun _ i => xs.length - (intOf i).toNat)
  case atStart => exact ⟨0, Nat.zero_le _, rfl, rfl⟩
  case round =>
    obtain ⟨k, hk, rfl, rfl⟩ := hrel
    by_cases hlt : (k : Int) < (xs.length : Int)
    · have hk' : k < xs.length := by omega
      have hat := Oc.at_lt k xs.length (!big) hk'
      have hcell := Hc.out (Oc.at' k xs.length (!big)) hat
      obtain ⟨x, hx⟩ : ∃ x, x = xs[Oc.at' k xs.length (!big)] := ⟨_, rfl⟩
      rw [← hx] at hcell
      have hxl := x.toNat_lt
      have hst : 256 * Oc.hor ((Oc.turn (!big) xs).take k) + x.toNat = Oc.hor ((Oc.turn (!big) xs).take (k + 1)) := by
        have e : (Oc.turn (!big) xs).take (k + 1) = (Oc.turn (!big) xs).take k ++ [x] := by
          rw [List.take_add_one, Oc.turn_get (!big) xs k hk', List.getElem?_eq_getElem hat, ← hx]; rfl
        rw [e, Oc.hor_snoc]
      have hbd : Oc.hor ((Oc.turn (!big) xs).take (k + 1)) < 18446744073709551616 := by
        have := Oc.hor_lt ((Oc.turn (!big) xs).take (k + 1))
        rw [List.length_take, Oc.turn_length, Nat.min_eq_left hk'] at this
        exact Nat.lt_of_lt_of_le this (Oc.pow_le (k + 1) (by omega))
      have Hst := Lib.hid hst
      rw [← hst] at hbd
      clear hst hx
      obtain ⟨m, hm⟩ : ∃ m, m = Oc.hor ((Oc.turn (!big) xs).take k) := ⟨_, rfl⟩
      rw [← hm] at hbd Hst ⊢
      clear hm
      cases big
      · have hai : Oc.at' k xs.length (!false) = xs.length - 1 - k := rfl
        rw [hai] at hcell
        have hpos : ((xs.length - 1 - k : Nat) : Int) = (xs.length : Int) - 1 - (k : Int) := by omega
        go_wp2
        go_round
        case rel => exact ⟨k + 1, by omega, by go_num, by rw [← Hst.out]; simp⟩
        case measure => simp [intOf]; omega
      · have hai : Oc.at' k xs.length (!true) = k := rfl
        rw [hai] at hcell
        go_wp2
        go_round
        case rel => exact ⟨k + 1, by omega, by go_num, by rw [← Hst.out]; simp⟩
        case measure => simp [intOf]; omega
    · go_wp2
      go_ret
      exact ⟨ret_int (by rw [List.take_of_length_le (by rw [Oc.turn_length]; omega), Oc.get_hor]), rfl⟩
end Go.Proofs.YtbbnkmhlgfoacaaDoor.S9

namespace Go.Proofs.YtbbnkmhlgfoacaaDoor.S9
open Go.RowKit

theorem info5 : (Tryd.prog.info? 5).map (fun i => (i.zero, i.size, i.bytes)) = some (some (.int .u8 0), 1, 1) := by kernel_rfl
theorem info28 : (Tryd.prog.info? 28).map (fun i => (i.zero, i.size, i.bytes)) = some (some (.slice none 0 0), 1, 24) := by kernel_rfl

theorem cells_set (l : List UInt8) (j : Nat) (x : UInt8) : Lib.byteCells (l.set j x) = (Lib.byteCells l).set j (.int .u8 (x.toNat : Int)) := by
  simp [Lib.byteCells, List.map_set]
theorem cells_one (l : List UInt8) : ∀ u ∈ Lib.byteCells l, u.oneCell' = true := by
  intro u hu
  simp only [Lib.byteCells, List.mem_map] at hu
  obtain ⟨x, _, rfl⟩ := hu
  rfl

/-- A slice that was built of one value. -/
theorem owns_built (w : World) (base : Nat) (e : TypeId) (u : Value) (hb : base ≤ w.heap.size) : (w.alloc (.cells #[u] e)).ownsRow base e 1 (.slice (some ⟨w.heap.size, 0, none⟩) 1 1) 1 [u] :=
  ⟨rfl, .inr ⟨w.heap.size, 1, #[u], rfl, hb, heap_alloc_new w _, Nat.le_refl _, by unfold maxLen; omega, rfl, rfl⟩⟩

/-- append of a slice of one's own onto a slice of one's own, whether it is nil or not. -/
theorem wpList_append_owns {P : Program} {w : World} {ops : Array Oper} {rest : List Oper} {o : Oper} {a : Act} {Q : Exit → Act → World → Prop} (hgd : o.guard = none) (s x : Operand) (t : TypeId)
    (ho : o.op = .call { callee := .builtin .append, args := #[s, x], argTypes := #[t, t] })
    (base base2 : Nat) (e : TypeId) (i : TypeInfo) (z : Value) (size bytes : Nat) (ht : P.underlying t = some (.slice e)) (hi : P.info? e = some i) (hz : i.zero = some z)
    (hsize : i.size = size) (hby : i.bytes = bytes) (hzs : z.cells.size = size) (hsz : 0 < size)
    (v : Value) (n : Nat) (xs : List Value) (hs : a.eval s = v) (hown : w.ownsRow base e size v n xs)
    (vx : Value) (m : Nat) (news : List Value) (hx : a.eval x = vx) (hownx : w.ownsRow base2 e size vx m news) (h1 : ∀ u ∈ news, u.oneCell' = true)
    (h63 : n + m ≤ maxLen) (hbytes : (n + m) * bytes ≤ 140737488355328) (hbase : base ≤ w.heap.size)
    (h : ∀ v' w', w'.ownsRow base e size v' (n + m) (xs ++ news) → w.grownBy w' v.ownBlock → wpList P ops Q rest (a.put o.dst v') w') : wpList P ops Q (o :: rest) a w := by
  rcases hownx.2 with ⟨h0, rfl⟩ | ⟨g, cap, cur, h0, _⟩
  · have hn : news = [] := List.eq_nil_of_length_eq_zero (by rw [hownx.1]; simp)
    subst hn
    exact wpList_append_own_none hgd s x t ho base e i size ht hi v n xs hs hown (by rw [hx, h0]) (h v w (by simpa using hown) ⟨rfl, rfl, rfl, Nat.le_refl _, fun _ _ _ => rfl⟩)
  · exact wpList_append_own w hgd s x t ho base e i z size bytes ht hi hz hsize hby hzs hsz v n xs hs hown ⟨g, 0, none⟩ m cap news (by rw [hx, h0]) hownx.1 (hownx.cells (by rw [h0]; rfl)) h1 h63 hbytes hbase (fun v' w' a1 a2 _ => h v' w' a1 a2)

theorem put_not (n : Nat) (size : Int) (big : Bool) (w : World) (h : Oc.fits n size = false) :
    Calls Tryd.prog 65 #[.int .u64 (n : Int), .int .i64 size, .bool big] w fun e w' => e = .returned (.tuple #[.slice none 0 0, .bool false]) ∧ w' = w := by
  go_enter Tryd.func65, Tryd.ntmps65
  go_wp2_with (go_at_call 64; refine (fits_any n size _).mono ?_; rintro e w' ⟨rfl, rfl⟩)
  go_ret2
  exact ⟨rfl, rfl⟩

set_option maxHeartbeats 1000000 in
set_option maxRecDepth 100000 in
theorem put_fits (n s : Nat) (big : Bool) (w : World) (h1 : 1 ≤ s) (h8 : s ≤ 8) (h : n < 256 ^ s) :
    Calls Tryd.prog 65 #[.int .u64 (n : Int), .int .i64 (s : Int), .bool big] w fun e w' => ∃ v, e = .returned (.tuple #[v, .bool true]) ∧ w'.ownsRow w.heap.size 5 1 v s (Lib.byteCells (Oc.put n s big)) ∧ Below w.heap.size w w' := by
  obtain ⟨i0, hi, hz0, hz1, hz2⟩ := info_parts info5
  have hf : Oc.fits n (s : Int) = true := by rw [Oc.fits_in n s h1 h8]; exact decide_eq_true h
  have Hf := Lib.hid hf
  clear h
  go_enter Tryd.func65, Tryd.ntmps65
  go_wp2_with (first | (go_at_call 64; refine (fits_any n s _).mono ?_; rintro e w' ⟨rfl, rfl⟩) | (at_make; refine wpList_make_full _ rfl _ _ 28 rfl w'.heap.size 5 i0 (.int .u8 0) 1 Tryd.underlying28 hi hz0 hz1 .i64 .i64 _ _ s rfl rfl (by omega) (by omega) (by rw [hz2]; omega) (by unfold maxLen; omega) (Nat.le_refl _) ?_; intro w1 hown hgr))
  have hbw : Below w'.heap.size w' w1 := (Below.refl _ _).grown hgr (Nat.le_refl _) (fun k h => by cases h)
  have hown0 : w1.ownsRow w'.heap.size 5 1 (.slice (some ⟨w'.heap.size, 0, none⟩) s s) s (Lib.byteCells (Oc.turn big (Oc.part n s 0))) := by
    have e : Lib.byteCells (Oc.turn big (Oc.part n s 0)) = (madeCells (Value.int .u8 0).cells (s * 1)).toList := by
      rw [Oc.turn_zero, Nat.mul_one, show (Value.int .u8 0).cells = #[.int .u8 0] from rfl, toList_madeCells_one]; simp [Lib.byteCells]
    rw [e]; exact hown
  clear hgr hown
  go_loopw [17] (fun i wr => ∃ k : Nat, k ≤ s ∧ i = .int .i64 (k : Int) ∧ wr.ownsRow w'.heap.size 5 1 (.slice (some ⟨w'.heap.size, 0, none⟩) s s) s (Lib.byteCells (Oc.turn big (Oc.part n s k))) ∧ Below w'.heap.size w' wr) (fun i _ => s - (intOf i).toNat)
  case atStart => exact ⟨0, Nat.zero_le _, rfl, hown0, hbw⟩
  case round =>
    obtain ⟨k, hk, rfl, hown, hbw⟩ := hrel
    clear hown0
    by_cases hlt : (k : Int) < (s : Int)
    · have hk' : k < s := by omega
      have hat := Oc.at_lt k s big hk'
      have hat' : ((Oc.at' k s big : Nat) : Int) < (s : Int) := by omega
      have hcell := hown.cellAt (Oc.at' k s big) (by omega)
      have hfz := hown.frozenAt (Oc.at' k s big)
      have hps := Oc.part_step n s k big hk'
      obtain ⟨u, hu⟩ : ∃ u, (Lib.byteCells (Oc.turn big (Oc.part n s k)))[Oc.at' k s big]? = some u := ⟨_, List.getElem?_eq_getElem (by rw [Lib.byteCells_length, Oc.turn_length, Oc.part_length]; exact hat)⟩
      rw [hu] at hcell
      have Hps := Lib.hid hps
      clear hps
      have hw8 : IntKind.i64.wrap (8 * (k : Int)) = 8 * (k : Int) := by rw [IntKind.wrap_i64]; omega
      have hk0 : ¬ 8 * (k : Int) < 0 := by omega
      have hsh := Oc.shr n k (by omega)
      go_wp2
      go_region_with (go_at_call 77; refine (place_any k s big _ hk' (by omega)).mono ?_; rintro e w2 ⟨rfl, rfl⟩)
      all_goals
        go_wp2
        go_roundw
        case rel =>
          refine ⟨k + 1, by omega, by go_num, ?_, ?_⟩
          · show (wr.setCell ⟨w'.heap.size, Oc.at' k s big, none⟩ (.int .u8 ((n : Int) / 2 ^ (8 * k) % 256))).ownsRow _ _ _ _ _ _
            rw [Oc.dg_int, ← Hps.out, cells_set]
            exact (hown.stored (Oc.at' k s big) (.int .u8 ((Oc.dg n k).toNat : Int))).1
          · exact (hbw.setCell (Nat.le_refl _) _).drew
        case measure => simp [intOf]; omega
    · have hks : k = s := by omega
      subst hks
      rw [Oc.put_part] at hown
      go_wp2
      go_ret2
      exact ⟨_, rfl, hown, hbw⟩

set_option maxHeartbeats 1000000 in
set_option maxRecDepth 100000 in
theorem refPut_any (n s : Nat) (big : Bool) (w : World) (hn : n < 18446744073709551616) (h8 : s ≤ 8) :
    Calls Tryd.prog 48 #[.int .u64 (n : Int), .int .i64 (s : Int), .bool big] w fun e w' => ∃ v, e = .returned v ∧ w'.ownsRow w.heap.size 5 1 v s (Lib.byteCells (Oc.put n s big)) ∧ Below w.heap.size w w' := by
  obtain ⟨i0, hi, hz0, hz1, hz2⟩ := info_parts info5
  have i8 : (s : Int) ≤ 8 := by omega
  go_enter Tryd.func48, Tryd.ntmps48
  go_wp2
  go_loopw [0, 7, 8] (fun mm v i wr => ∃ k m : Nat, k ≤ s ∧ i = .int .i64 (k : Int) ∧ mm = .int .u64 (m : Int) ∧ m < 18446744073709551616 ∧ Hid (m = n / 256 ^ k) ∧ wr.ownsRow w.heap.size 5 1 v k (Lib.byteCells (Oc.put n k big)) ∧ Below w.heap.size w wr) (fun _ _ i _ => s - (intOf i).toNat)
  case atStart => exact ⟨0, n, Nat.zero_le _, rfl, rfl, hn, (by simp : n = n / 256 ^ 0), by rw [Oc.put_zero]; exact World.ownsRow_nil _ _ _ _, Below.refl _ _⟩
  case round =>
    obtain ⟨k, m, hk, rfl, rfl, hm, Hm, hown, hbw⟩ := hrel
    by_cases hlt : (k : Int) < (s : Int)
    · have hd : (m : Int) % 256 = ((Oc.dg n k).toNat : Int) := by rw [Oc.dg_nat, ← Hm.out]; simp
      have hnx : m / 256 = n / 256 ^ (k + 1) := by rw [Nat.pow_succ, ← Nat.div_div_eq_div_mul, ← Hm.out]
      have Hd := Lib.hid hd
      have Hnx := Lib.hid hnx
      clear hd hnx
      cases big
      · go_wp2_with (at_builtin; refine wpList_append_own _ rfl _ _ 28 rfl w.heap.size 5 i0 (.int .u8 0) 1 1 Tryd.underlying28 hi hz0 hz1 hz2 rfl (by decide) _ _ _ rfl (hown.alloc _) ⟨wr.heap.size, 0, none⟩ 1 1 [.int .u8 ((m : Int) % 256)] rfl rfl (cell_one_new _ _ _) (fun u hu => by simp at hu; subst hu; rfl) (by unfold maxLen; omega) (by omega) (by have := hbw.size; simp; omega) ?_; intro v2 w2 hown2 hgr2 _)
        have hbw2 : Below w.heap.size w w2 := Below.grown (hbw.alloc hbw.size _) hgr2 (by have := hbw.size; simp; omega) (fun j hj => (hown.lt j hj).1)
        go_roundw
        case rel => exact ⟨k + 1, m / 256, by omega, by go_num, by simp, by omega, Hnx.out, by rw [Oc.put_little, Lib.byteCells_append]; rw [Hd.out] at hown2; exact hown2, hbw2⟩
        case measure => simp [intOf]; omega
      · go_wp2_with (at_builtin; refine wpList_append_owns rfl _ _ 28 rfl w.heap.size w.heap.size 5 i0 (.int .u8 0) 1 1 Tryd.underlying28 hi hz0 hz1 hz2 rfl (by decide) _ _ _ rfl (owns_built _ _ _ _ hbw.size) _ _ _ rfl (hown.alloc _) (cells_one _) (by unfold maxLen; omega) (by omega) (by have := hbw.size; simp; omega) ?_; intro v2 w2 hown2 hgr2)
        have hbw2 : Below w.heap.size w w2 := Below.grown (hbw.alloc hbw.size _) hgr2 (by have := hbw.size; simp; omega) (fun j hj => ((owns_built wr w.heap.size 5 (.int .u8 ((m : Int) % 256)) hbw.size).lt j hj).1)
        go_roundw
        case rel => exact ⟨k + 1, m / 256, by omega, by go_num, by simp, by omega, Hnx.out, by rw [Oc.put_big, Lib.byteCells_append, Nat.add_comm k 1]; rw [Hd.out] at hown2; exact hown2, hbw2⟩
        case measure => simp [intOf]; omega
    · have hks : k = s := by omega
      subst hks
      go_wp2
      go_ret
      exact ⟨_, rfl, hown, hbw⟩
end Go.Proofs.YtbbnkmhlgfoacaaDoor.S9

namespace Go.Proofs.YtbbnkmhlgfoacaaDoor.S9
open Go.RowKit

/-- The bytes that a slice holds, nil or not. -/
structure RowAt (w : World) (a : Option Addr) (c : Nat) (xs : List UInt8) : Prop where
  le : xs.length ≤ c
  max : c ≤ maxLen
  nil : a = none → c = 0
  cell : ∀ ad, a = some ad → ∀ j u, (Lib.byteCells xs)[j]? = some u → w.cell? (ad.add j) = some u
theorem RowAt.bytes {w : World} {a : Option Addr} {c : Nat} {xs : List UInt8} (h : RowAt w a c xs) : BytesAt w a xs := by
  rcases Nat.eq_zero_or_pos xs.length with h0 | h0
  · exact .inl (List.eq_nil_of_length_eq_zero h0)
  · right
    cases a with
    | none => have := h.nil rfl; have := h.le; omega
    | some ad =>
      obtain ⟨b, off, spot⟩ := ad
      have hc : ∀ j (hj : j < xs.length), w.cell? ((⟨b, off, spot⟩ : Addr).add j) = some (.int .u8 (xs[j].toNat : Int)) := fun j hj => h.cell _ rfl j _ (by simp [Lib.byteCells, hj])
      have hspot : spot = none := by simpa [Addr.add] using World.cell?_spot (hc 0 h0)
      subst hspot
      refine ⟨b, off, rfl, World.block_lt_of_cell? w _ (hc 0 h0), fun j hj => ?_⟩
      rw [← Go.WideShapes.add_plain]; exact hc j hj
theorem RowAt.next {w w' : World} {a : Option Addr} {c : Nat} {xs : List UInt8} (h : RowAt w a c xs) (hb : Below w.heap.size w w') : RowAt w' a c xs :=
  ⟨h.le, h.max, h.nil, fun ad e j u hu => by
    have h1 := h.cell ad e j u hu
    rw [hb.cell (p := ad.add j) (World.block_lt_of_cell? w _ h1)]; exact h1⟩
theorem rowAt_nil (w : World) : RowAt w none 0 [] := ⟨Nat.le_refl _, Nat.zero_le _, fun _ => rfl, fun _ e => by cases e⟩
/-- A slice of one's own, as a slice that is handed on. -/
theorem rowAt_own {w : World} {B n : Nat} {v : Value} {xs : List UInt8} (hn : xs.length = n) (h : w.ownsRow B 5 1 v n (Lib.byteCells xs)) : ∃ a c, v = .slice a n c ∧ RowAt w a c xs := by
  rcases h.2 with ⟨rfl, h0⟩ | ⟨g, cap, cur, rfl, _, _, h1, h2, _, _⟩
  · have : xs = [] := List.eq_nil_of_length_eq_zero (by omega)
    subst this
    subst h0
    exact ⟨none, 0, rfl, rowAt_nil w⟩
  · exact ⟨some ⟨g, 0, none⟩, cap, rfl, ⟨by omega, h2, (fun e => by cases e), (fun ad e j u hu => by cases e; exact h.cells (g := g) rfl j u hu)⟩⟩

theorem conv_nil (w : World) : (convert 28 9 (.slice none 0 0)).run Tryd.prog w = .ok (.string ⟨#[]⟩) w := by kernel_rfl
/-- The text of a slice. -/
theorem conv_row {w : World} {a : Option Addr} {c n : Nat} {xs : List UInt8} (hn : xs.length = n) (h : RowAt w a c xs) : (convert 28 9 (.slice a n c)).run Tryd.prog w = .ok (.string ⟨xs.toArray⟩) w := by
  subst hn
  cases a with
  | none =>
    have h0 := h.nil rfl
    have h1 := h.le
    have : xs = [] := List.eq_nil_of_length_eq_zero (by omega)
    subst this
    subst h0
    exact conv_nil w
  | some ad => exact run_convert_bytes_back (P := Tryd.prog) w 28 9 5 ad c xs Tryd.underlying28 Tryd.underlying5 Tryd.underlying9 (fun j hj => h.cell ad rfl j _ (by simp [Lib.byteCells, hj]))

theorem grow_zero (w : World) : Calls Tryd.prog 78 #[.slice none 0 0, .int .i64 0] w fun e w' => e = .returned (.slice none 0 0) ∧ w' = w := by
  go_enter Tryd.func78, Tryd.ntmps78
  go_wp2
  go_ret
  exact ⟨rfl, rfl⟩

set_option maxHeartbeats 1000000 in
theorem grow_some (n : Nat) (w : World) (h1 : 0 < n) (hn : n ≤ 1000000) :
    Calls Tryd.prog 78 #[.slice none 0 0, .int .i64 (n : Int)] w fun e w' => ∃ v, e = .returned v ∧ w'.ownsRow w.heap.size 5 1 v 0 [] ∧ Below w.heap.size w w' := by
  obtain ⟨i0, hi, hz0, hz1, hz2⟩ := info_parts info5
  have i1 : ¬ (n : Int) < 0 := by omega
  have i2 : (0 : Int) < (n : Int) := by omega
  have hrz : ∀ ty, (Builtin.append_ #[28, 3] ty #[.slice none 0 0, .int .i64 (n : Int)]).run Tryd.prog w =
      .ok (.slice (some ⟨w.heap.size, 0, none⟩) n (grownCap w n 0 5)) (w.drew.alloc (.cells (Builtin.zeroCells (Value.int .u8 0).cells n ++ Builtin.zeroCells (Value.int .u8 0).cells (grownCap w n 0 5 - n)) 5)) := fun ty =>
    Lib.run_append_nil_zeros w 28 3 ty 5 i0 (.int .u8 0) .i64 .i64 Tryd.underlying28 Tryd.underlying3 hi hz0 n h1 (by omega) (by omega) (by rw [hz2]; omega)
  have hG := grownCap_ge w n 0 5
  have hGm := grownCap_le_maxLen w n 0 5 (by unfold maxLen; omega)
  have hown := World.ownsRow_made (base := w.heap.size) (e := 5) (size := 1) w.drew (Builtin.zeroCells (Value.int .u8 0).cells n ++ Builtin.zeroCells (Value.int .u8 0).cells (grownCap w n 0 5 - n)) (grownCap w n 0 5) (Nat.le_refl _) hGm (by rw [Array.size_append, size_zeroCells, size_zeroCells]; simp [Value.cells]; omega)
  have hbw : Below w.heap.size w (w.drew.alloc (.cells (Builtin.zeroCells (Value.int .u8 0).cells n ++ Builtin.zeroCells (Value.int .u8 0).cells (grownCap w n 0 5 - n)) 5)) := (Below.refl _ _).drew.alloc (Nat.le_refl _) _
  have Hown := Lib.hid hown
  have Hbw := Lib.hid hbw
  clear hown hbw
  go_enter Tryd.func78, Tryd.ntmps78
  go_wp2_with (at_builtin; refine Lib.wpList_append_run _ rfl _ _ _ _ rfl _ _ rfl rfl _ _ (hrz _) ?_)
  go_ret
  exact ⟨_, rfl, Hown.out, Hbw.out⟩

theorem grow_any (n : Nat) (w : World) (hn : n ≤ 1000000) :
    Calls Tryd.prog 78 #[.slice none 0 0, .int .i64 (n : Int)] w fun e w' => ∃ v, e = .returned v ∧ w'.ownsRow w.heap.size 5 1 v 0 [] ∧ Below w.heap.size w w' := by
  rcases Nat.eq_zero_or_pos n with rfl | h
  · refine (grow_zero w).mono ?_
    rintro e w' ⟨rfl, rfl⟩
    exact ⟨_, rfl, World.ownsRow_nil _ _ _ _, Below.refl _ _⟩
  · exact grow_some n w h hn

/-- append of whatever slice of bytes onto a slice of one's own. -/
theorem wpList_append_row {w : World} {ops : Array Oper} {rest : List Oper} {o : Oper} {a : Act} {Q : Exit → Act → World → Prop} (hgd : o.guard = none) (s x : Operand)
    (ho : o.op = .call { callee := .builtin .append, args := #[s, x], argTypes := #[28, 28] })
    (base : Nat) (v : Value) (n : Nat) (xs : List Value) (hs : a.eval s = v) (hown : w.ownsRow base 5 1 v n xs)
    (p : Option Addr) (m c : Nat) (ys : List UInt8) (hx : a.eval x = .slice p m c) (hm : ys.length = m) (hrow : RowAt w p c ys)
    (h63 : n + m ≤ 1000000) (hbase : base ≤ w.heap.size)
    (h : ∀ v' w', w'.ownsRow base 5 1 v' (n + m) (xs ++ Lib.byteCells ys) → w.grownBy w' v.ownBlock → wpList Tryd.prog ops Q rest (a.put o.dst v') w') : wpList Tryd.prog ops Q (o :: rest) a w := by
  obtain ⟨i0, hi, hz0, hz1, hz2⟩ := info_parts info5
  cases p with
  | none =>
    have h0 := hrow.nil rfl
    have h1 := hrow.le
    have hy : ys = [] := List.eq_nil_of_length_eq_zero (by omega)
    subst hy
    subst h0
    simp at hm
    subst hm
    exact wpList_append_own_none hgd s x 28 ho base 5 i0 1 Tryd.underlying28 hi v n xs hs hown hx (h v w (by simpa [Lib.byteCells] using hown) ⟨rfl, rfl, rfl, Nat.le_refl _, fun _ _ _ => rfl⟩)
  | some ad =>
    exact wpList_append_own w hgd s x 28 ho base 5 i0 (.int .u8 0) 1 1 Tryd.underlying28 hi hz0 hz1 hz2 rfl (by decide) v n xs hs hown ad m c (Lib.byteCells ys) hx (by rw [Lib.byteCells_length, hm, Nat.mul_one]) (hrow.cell ad rfl) (cells_one ys) (by unfold maxLen; omega) (by omega) hbase (fun v' w' a1 a2 _ => h v' w' a1 a2)

/-- The lists of bytes that a slice of slices holds. -/
def PartsAt (w : World) (a : Option Addr) (L : List (List UInt8)) : Prop :=
  L = [] ∨ ∃ b off, a = some ⟨b, off, none⟩ ∧ b < w.heap.size ∧ ∀ j (h : j < L.length), ∃ p c, w.cell? ⟨b, off + j, none⟩ = some (.slice p L[j].length c) ∧ RowAt w p c L[j]
theorem PartsAt.next {w w' : World} {a : Option Addr} {L : List (List UInt8)} (h : PartsAt w a L) (hb : Below w.heap.size w w') : PartsAt w' a L := by
  rcases h with rfl | ⟨b, off, rfl, h1, h2⟩
  · exact .inl rfl
  · refine .inr ⟨b, off, rfl, Nat.lt_of_lt_of_le h1 hb.size, fun j hj => ?_⟩
    obtain ⟨p, c, h3, h4⟩ := h2 j hj
    exact ⟨p, c, by rw [hb.cell (p := ⟨b, off + j, none⟩) h1]; exact h3, h4.next hb⟩

theorem flat_step (L : List (List UInt8)) (k : Nat) (h : k < L.length) : (L.take (k + 1)).flatten = (L.take k).flatten ++ L[k] := by
  rw [List.take_succ_eq_append_getElem h, List.flatten_append]; simp
/-- How many bytes the first parts have. -/
def tot (L : List (List UInt8)) (k : Nat) : Nat := (L.take k).flatten.length
theorem tot_step (L : List (List UInt8)) (k : Nat) (h : k < L.length) : tot L (k + 1) = tot L k + L[k].length := by unfold tot; rw [flat_step L k h, List.length_append]
theorem tot_all (L : List (List UInt8)) : tot L L.length = L.flatten.length := by unfold tot; rw [List.take_length]
theorem flat_le (L : List (List UInt8)) (k : Nat) : (L.take k).flatten.length ≤ L.flatten.length := by
  have h : L.flatten = (L.take k).flatten ++ (L.drop k).flatten := by rw [← List.flatten_append, List.take_append_drop]
  rw [h, List.length_append]; omega

theorem tot_le (L : List (List UInt8)) (k : Nat) : tot L k ≤ L.flatten.length := flat_le L k

theorem concat_none (a : Option Addr) (cap : Nat) (w : World) :
    Calls Tryd.prog 66 #[.slice a 0 cap] w fun e w' => e = .returned (.slice none 0 0) ∧ w' = w := by
  go_enter Tryd.func66, Tryd.ntmps66
  go_wp2
  refine wp_loop_rounds 1 ?_
  rw [rounds_succ]
  go_wp2_with (go_at_call 78; refine (grow_zero _).mono ?_; rintro e w' ⟨rfl, rfl⟩)
  refine wp_loop_rounds 1 ?_
  rw [rounds_succ]
  go_wp2
  go_ret
  exact ⟨rfl, rfl⟩

set_option maxHeartbeats 2000000 in
set_option maxRecDepth 100000 in
theorem concat_some (b off cap : Nat) (L : List (List UInt8)) (F : List UInt8) (w : World) (HF : Hid (L.flatten = F)) (hL : L.length ≤ 300000) (hsum : F.length ≤ 300000) (hb : b < w.heap.size)
    (hc : ∀ j (h : j < L.length), ∃ p c, w.cell? ⟨b, off + j, none⟩ = some (.slice p L[j].length c) ∧ RowAt w p c L[j]) :
    Calls Tryd.prog 66 #[.slice (some ⟨b, off, none⟩) L.length cap] w fun e w' => ∃ v, e = .returned v ∧ w'.ownsRow w.heap.size 5 1 v F.length (Lib.byteCells F) ∧ Below w.heap.size w w' := by
  have Hc := Lib.hid hc
  clear hc
  go_enter Tryd.func66, Tryd.ntmps66
  go_wp2
  go_loop [3, 11] (fun n i => ∃ k : Nat, k ≤ L.length ∧ i = .int .i64 (k : Int) ∧ n = .int .i64 (tot L k : Nat)) (fun _ i => L.length - (intOf i).toNat)
  case atStart => exact ⟨0, Nat.zero_le _, rfl, rfl⟩
  case round =>
    obtain ⟨k, hk, rfl, rfl⟩ := hrel
    have hle := tot_le L k
    rw [HF.out] at hle
    by_cases hlt : (k : Int) < (L.length : Int)
    · have hk' : k < L.length := by omega
      obtain ⟨p, c, hcell, hrow⟩ := Hc.out k hk'
      clear hrow
      have hle2 := tot_le L (k + 1)
      have hst := tot_step L k hk'
      rw [hst, HF.out] at hle2
      have hs1 : ¬ (tot L k : Int) + (L[k].length : Int) < 0 := by omega
      have Hst := Lib.hid hst
      clear hst
      go_wp2
      go_round
      case rel => exact ⟨k + 1, by omega, by go_num, by rw [Hst.out]; go_num⟩
      case measure => simp [intOf]; omega
    · have hkl : k = L.length := by omega
      subst hkl
      go_wp2_with (go_at_call 78; refine (grow_any _ _ (by omega)).mono ?_; rintro e w1 ⟨v1, rfl, hown1, hb1⟩)
      go_loopw [6, 27] (fun v i wr => ∃ k : Nat, k ≤ L.length ∧ i = .int .i64 (k : Int) ∧ wr.ownsRow w.heap.size 5 1 v (L.take k).flatten.length (Lib.byteCells (L.take k).flatten) ∧ Below w.heap.size w wr) (fun _ i _ => L.length - (intOf i).toNat)
      case atStart => exact ⟨0, Nat.zero_le _, rfl, hown1, hb1⟩
      case round =>
        obtain ⟨k, hk, rfl, hown, hbw⟩ := hrel
        have hle := flat_le L k
        rw [HF.out] at hle
        by_cases hlt : (k : Int) < (L.length : Int)
        · have hk' : k < L.length := by omega
          obtain ⟨p, c, hcell0, hrow0⟩ := Hc.out k hk'
          have hcell : wr.cell? ⟨b, off + k, none⟩ = some (.slice p L[k].length c) := by rw [hbw.cell (p := ⟨b, off + k, none⟩) hb]; exact hcell0
          have hrow := hrow0.next hbw
          have Hrow := Lib.hid hrow
          clear hcell0 hrow0 hrow
          have hle2 := flat_le L (k + 1)
          rw [flat_step L k hk', List.length_append, HF.out] at hle2
          go_wp2_with (at_builtin; refine wpList_append_row rfl _ _ rfl w.heap.size _ _ _ rfl hown p L[k].length c L[k] rfl rfl Hrow.out (by omega) hbw.size ?_; intro v2 w2 hown2 hgr2)
          have hbw2 : Below w.heap.size w w2 := Below.grown hbw hgr2 hbw.size (fun j hj => (hown.lt j hj).1)
          go_roundw
          case rel => exact ⟨k + 1, by omega, by go_num, by rw [flat_step L k hk', Lib.byteCells_append, List.length_append]; exact hown2, hbw2⟩
          case measure => simp [intOf]; omega
        · have hkl : k = L.length := by omega
          subst hkl
          rw [List.take_length, HF.out] at hown
          go_wp2
          go_ret
          exact ⟨_, rfl, hown, hbw⟩

theorem concat_at (a : Option Addr) (cap : Nat) (L : List (List UInt8)) (w : World) (hL : L.length ≤ 300000) (hsum : L.flatten.length ≤ 300000) (h : PartsAt w a L) :
    Calls Tryd.prog 66 #[.slice a L.length cap] w fun e w' => ∃ v, e = .returned v ∧ w'.ownsRow w.heap.size 5 1 v L.flatten.length (Lib.byteCells L.flatten) ∧ Below w.heap.size w w' := by
  rcases h with rfl | ⟨b, off, rfl, hb, hc⟩
  · refine (concat_none a cap w).mono ?_
    rintro e w' ⟨rfl, rfl⟩
    exact ⟨_, rfl, World.ownsRow_nil _ _ _ _, Below.refl _ _⟩
  · exact concat_some b off cap L L.flatten w rfl hL hsum hb hc

theorem join_at (a : Option Addr) (n cap : Nat) (L : List (List UInt8)) (F : List UInt8) (w : World) (hn : L.length = n) (hF : L.flatten = F) (hL : L.length ≤ 300000) (hsum : F.length ≤ 300000) (h : PartsAt w a L) :
    Calls Tryd.prog 53 #[.slice a n cap] w fun e w' => ∃ v, e = .returned v ∧ w'.ownsRow w.heap.size 5 1 v F.length (Lib.byteCells F) ∧ Below w.heap.size w w' := by
  subst hn
  have H := Lib.hid (hF ▸ concat_at a cap L w hL (by rw [hF]; exact hsum) h)
  clear h
  go_enter Tryd.func53, Tryd.ntmps53
  go_wp2_with (go_at_call 66; refine H.out.mono ?_; rintro e w' ⟨v, rfl, h1, h2⟩)
  go_ret
  exact ⟨v, rfl, h1, h2⟩
end Go.Proofs.YtbbnkmhlgfoacaaDoor.S9

namespace Go.Proofs.YtbbnkmhlgfoacaaDoor.S9
open Go.RowKit

theorem RowAt.cut {w : World} {a : Option Addr} {c : Nat} {xs : List UInt8} (h : RowAt w a c xs) (l r : Nat) (hlr : l ≤ r) (hr : r ≤ xs.length) : RowAt w (if c = l then a else a.map (·.add l)) (c - l) ((xs.take r).drop l) := by
  have h1 := h.le
  have h2 := h.max
  refine ⟨by simp; omega, by omega, fun e => ?_, fun ad e j u hu => ?_⟩
  · split at e
    · have := h.nil e; omega
    · cases a with
      | none => have := h.nil rfl; omega
      | some x => simp at e
  · have hj : j < r - l := by
      have := (List.getElem?_eq_some_iff.1 hu).1
      rw [Lib.byteCells_length] at this
      simp at this
      omega
    split at e
    · omega
    · cases a with
      | none => simp at e
      | some x =>
        simp at e
        subst e
        have hu2 : (Lib.byteCells xs)[l + j]? = some u := by
          simp only [Lib.byteCells, List.getElem?_map, List.getElem?_drop, List.getElem?_take] at hu ⊢
          rw [if_pos (by omega)] at hu
          exact hu
        have h3 := h.cell x rfl (l + j) u hu2
        have h0 := h.cell x rfl 0 _ (List.getElem?_eq_getElem (by rw [Lib.byteCells_length]; omega))
        obtain ⟨b, off, spot⟩ := x
        have hspot : spot = none := by simpa [Addr.add] using World.cell?_spot h0
        subst hspot
        rw [Go.WideShapes.add_plain] at h3 ⊢
        rw [Go.WideShapes.add_plain, Nat.add_assoc]
        exact h3

theorem ownsRow_lower {w : World} {base base' : Nat} {e : TypeId} {size : Nat} {v : Value} {n : Nat} {xs : List Value} (h : w.ownsRow base e size v n xs) (hb : base' ≤ base) : w.ownsRow base' e size v n xs := by
  refine ⟨h.1, ?_⟩
  rcases h.2 with h2 | ⟨g, cap, cur, a, b, c⟩
  · exact .inl h2
  · exact .inr ⟨g, cap, cur, a, Nat.le_trans hb b, c⟩
theorem below_alloc {w w' : World} {o : Obj} (h : Below (w.alloc o).heap.size (w.alloc o) w') : Below w.heap.size w w' := ((Below.refl _ _).alloc (Nat.le_refl _) _).trans (h.mono (by simp))

theorem parts_one {w : World} {p : Option Addr} {c n : Nat} {ys : List UInt8} (hn : ys.length = n) (h : RowAt w p c ys) : PartsAt (w.alloc (.cells #[.slice p n c] 28)) (some ⟨w.heap.size, 0, none⟩) [ys] := by
  subst hn
  refine .inr ⟨w.heap.size, 0, rfl, by simp, fun j hj => ?_⟩
  have : j = 0 := by simpa using hj
  subst this
  exact ⟨p, c, by simp only [World.cell?, heap_alloc_new]; rfl, h.next ((Below.refl _ _).alloc (Nat.le_refl _) _)⟩

theorem cut_bad (a : Option Addr) (len cap : Nat) (l m : Int) (w : World) (hm : len ≤ 300000) (hl : -9223372036854775808 ≤ l) (hl2 : l ≤ 9223372036854775807) (h : l < 0 ∨ m < 0 ∨ (len : Int) - l < m) :
    Calls Tryd.prog 72 #[.slice a len cap, .int .i64 l, .int .i64 m] w fun e w' => e = .returned (.tuple #[.slice none 0 0, .bool false]) ∧ w' = w := by
  by_cases h1 : l < 0
  · go_enter Tryd.func72, Tryd.ntmps72
    go_wp2
    go_ret2
    exact ⟨rfl, rfl⟩
  · by_cases h2 : m < 0
    · go_enter Tryd.func72, Tryd.ntmps72
      go_wp2
      go_ret2
      exact ⟨rfl, rfl⟩
    · have h3 : (len : Int) - l < m := by omega
      clear h
      go_enter Tryd.func72, Tryd.ntmps72
      go_wp2
      go_ret2
      exact ⟨rfl, rfl⟩

set_option maxHeartbeats 1000000 in
theorem cut_good (a : Option Addr) (cap : Nat) (xs : List UInt8) (l m : Nat) (w : World) (hm : xs.length ≤ 300000) (hlm : l + m ≤ xs.length) (h : RowAt w a cap xs) :
    Calls Tryd.prog 72 #[.slice a xs.length cap, .int .i64 (l : Int), .int .i64 (m : Int)] w fun e w' => ∃ v, e = .returned (.tuple #[v, .bool true]) ∧ w'.ownsRow w.heap.size 5 1 v m (Lib.byteCells ((xs.drop l).take m)) ∧ Below w.heap.size w w' := by
  have hle := h.le
  have h1 : ¬ (l : Int) < 0 := by omega
  have h2 : ¬ (m : Int) < 0 := by omega
  have h3 : ¬ (xs.length : Int) - (l : Int) < (m : Int) := by omega
  have hcut := h.cut l (l + m) (by omega) hlm
  have hys : (xs.take (l + m)).drop l = (xs.drop l).take m := by rw [List.drop_take, Nat.add_sub_cancel_left]
  rw [hys] at hcut
  clear hys
  obtain ⟨ys, hy⟩ : ∃ ys, ys = (xs.drop l).take m := ⟨_, rfl⟩
  have hyl : ys.length = m := by rw [hy]; simp; omega
  rw [← hy] at hcut ⊢
  clear hy
  have hfl : [ys].flatten = ys := by simp
  have HF := Lib.hid hfl
  clear hfl
  by_cases hcl : cap = l
  · rw [if_pos hcl] at hcut
    have hm0 : m = 0 := by omega
    subst hm0
    subst hcl
    rw [Nat.sub_self] at hcut
    have Hcut := Lib.hid hcut
    clear hcut h
    go_enter Tryd.func72, Tryd.ntmps72
    go_wp2_with (go_at_call 53; refine (join_at _ 1 1 [ys] ys _ rfl HF.out (by simp) (by omega) (parts_one hyl Hcut.out)).mono ?_; rintro e w' ⟨v, rfl, o1, b1⟩)
    go_ret2
    exact ⟨v, rfl, hyl ▸ ownsRow_lower o1 (by simp), below_alloc b1⟩
  · rw [if_neg hcl] at hcut
    have Hcut := Lib.hid hcut
    clear hcut h
    go_enter Tryd.func72, Tryd.ntmps72
    go_wp2_with (go_at_call 53; refine (join_at _ 1 1 [ys] ys _ rfl HF.out (by simp) (by omega) (parts_one hyl Hcut.out)).mono ?_; rintro e w' ⟨v, rfl, o1, b1⟩)
    go_ret2
    exact ⟨v, rfl, hyl ▸ ownsRow_lower o1 (by simp), below_alloc b1⟩

/-- A slice that was built of bytes. -/
theorem rowAt_built (w : World) (xs : List UInt8) (n : Nat) (cs : Array Value) (hn : xs.length = n) (hcs : cs = (Lib.byteCells xs).toArray) (hm : n ≤ 300000) (fz : Nat × Nat) : RowAt (w.alloc (.cells cs 5 fz)) (some ⟨w.heap.size, 0, none⟩) n xs := by
  subst hcs
  subst hn
  refine ⟨Nat.le_refl _, by unfold maxLen; omega, (fun e => by cases e), fun ad e j u hu => ?_⟩
  cases e
  rw [Go.WideShapes.add_plain]
  simp only [World.cell?, heap_alloc_new]
  simpa using hu
theorem ownsRow_below {w w' : World} {base B : Nat} {e : TypeId} {size : Nat} {v : Value} {n : Nat} {xs : List Value} (h : w.ownsRow base e size v n xs) (hb : Below B w w') (hB : ∀ g, v.ownBlock = some g → g < B) : w'.ownsRow base e size v n xs := by
  obtain ⟨h1, h2⟩ := h
  refine ⟨h1, ?_⟩
  rcases h2 with h2 | ⟨g, cap, cur, a, b, c, d⟩
  · exact .inl h2
  · exact .inr ⟨g, cap, cur, a, b, by rw [hb.block g (hB g (by rw [a]; rfl))]; exact c, d⟩
theorem ownsRow_next {w w' : World} {base : Nat} {e : TypeId} {size : Nat} {v : Value} {n : Nat} {xs : List Value} (h : w.ownsRow base e size v n xs) (hb : Below w.heap.size w w') : w'.ownsRow base e size v n xs :=
  ownsRow_below h hb fun g hg => (h.lt g hg).2
theorem keeps_drewN {w : World} {a : Option Addr} {c : Nat} {xs : List UInt8} (h : RowAt w a c xs) (n : Nat) : RowAt (w.drewN n) a c xs := h.next ((Below.refl _ _).trans ⟨rfl, rfl, rfl, Nat.le_refl _, fun _ _ => rfl⟩)
theorem keeps_below {B : Nat} {a w : World} (h : Below B a w) (n : Nat) : Below B a (w.drewN n) := h.trans ⟨rfl, rfl, rfl, Nat.le_refl _, fun _ _ => rfl⟩

theorem RowAt.head {w : World} {a : Option Addr} {c : Nat} {xs : List UInt8} (h : RowAt w a c xs) (r : Nat) (hr : r ≤ xs.length) : RowAt w a c (xs.take r) := by
  refine ⟨by have := h.le; simp; omega, h.max, h.nil, fun ad e j u hu => h.cell ad e j u ?_⟩
  have hj : j < r := by
    have := (List.getElem?_eq_some_iff.1 hu).1
    rw [Lib.byteCells_length] at this
    simp at this
    omega
  simp only [Lib.byteCells, List.getElem?_map, List.getElem?_take, if_pos hj] at hu ⊢
  exact hu

/-- A slice of one's own stays when another one is written. -/
theorem row_kept {w w0 w' : World} {B B5 n m : Nat} {v v5 : Value} {xs ys : List UInt8} (hn : xs.length = n) (h : w.ownsRow B 5 1 v n (Lib.byteCells xs)) (h5 : w0.ownsRow B5 5 1 v5 m (Lib.byteCells ys)) (hB : w0.heap.size ≤ B) (hg : w.grownBy w' v5.ownBlock) :
    ∃ a c, v = .slice a n c ∧ RowAt w' a c xs := by
  refine rowAt_own hn (h.kept hg ?_)
  cases hv : v.ownBlock with
  | none => exact .inl rfl
  | some k =>
    right
    intro e
    have h1 := (h.lt k hv).1
    have h2 := (h5.lt k e.symm).2
    omega
theorem grownBy_trans {a b c : World} {r : Option Nat} (h : a.grownBy b r) (k : b.grownBy c r) : a.grownBy c r :=
  ⟨k.os.trans h.os, k.tape.trans h.tape, k.output.trans h.output, Nat.le_trans h.size k.size, fun i hi hr => (k.block i (Nat.lt_of_lt_of_le hi h.size) hr).trans (h.block i hi hr)⟩

end Go.Proofs.YtbbnkmhlgfoacaaDoor.S9

namespace Go.Proofs.YtbbnkmhlgfoacaaDoor.S9

section
variable {P : Program} {l : List Oper} {Q : Exit → Act → World → Prop} {S : World → Prop}

theorem held_start (n : Nat) {id : Nat} {a : Act} {w : World} (hm : P.follows .mixedOrders = true) (hn : l.length = n) (h : wpAnyH P .any l.toArray Q S n (Array.replicate n false) a w.drew) : (Code.region id l.toArray true).wp P Q a w := by
  subst hn
  exact wp_region_held hm (by simpa using h)

/-- An operation that is wanted, and yields v in every world that meets S, is taken first. -/
theorem held_take (i : Nat) {oi : Oper} {v : Value} {fuel : Nat} {listed : Array Bool} {a : Act} {w : World} (hi : l[i]? = some oi) (hs : Region.noSelect l.toArray = true) (hf : Region.free .any l.toArray listed i = true)
    (hr : (Region.ready .any l.toArray listed).contains i = true) (hQ : ∀ c a w, Q (.panic c) (a.put oi.dst v) w → Q (.panic c) a w) (hS : S w)
    (hw : Region.wanted oi (yielded l.toArray a.tmps) = true) (hy : ∀ w, S w → (execOp a.eval oi).run P w = .ok (.value v) w)
    (h : wpAnyH P .any l.toArray Q S fuel (listed.setIfInBounds i true) (a.put oi.dst v) w) : wpAnyH P .any l.toArray Q S (fuel + 1) listed a w :=
  wpAnyH_take (by simpa using hi) hs hf hr hQ (Or.inl ⟨hw, hy⟩) hS h

/-- An operation that isn't wanted is taken first. -/
theorem held_skip (i : Nat) {oi : Oper} {fuel : Nat} {listed : Array Bool} {a : Act} {w : World} (hi : l[i]? = some oi) (hs : Region.noSelect l.toArray = true) (hf : Region.free .any l.toArray listed i = true)
    (hr : (Region.ready .any l.toArray listed).contains i = true) (hQ : ∀ c a w, Q (.panic c) (a.put oi.dst undef) w → Q (.panic c) a w) (hS : S w)
    (hw : Region.wanted oi (yielded l.toArray a.tmps) = false)
    (h : wpAnyH P .any l.toArray Q S fuel (listed.setIfInBounds i true) (a.put oi.dst undef) w) : wpAnyH P .any l.toArray Q S (fuel + 1) listed a w :=
  wpAnyH_take (by simpa using hi) hs hf hr hQ (Or.inr ⟨hw, rfl⟩) hS h

/-- A call that alone may come up is met by its contract. -/
theorem held_call (i : Nat) {oi : Oper} {f : FuncId} {args : Array Value} {fuel : Nat} {listed : Array Bool} {a : Act} {w : World} (hi : l[i]? = some oi) (hr : Region.ready .any l.toArray listed = [i])
    (hw : Region.wanted oi (yielded l.toArray a.tmps) = true) (he : (execOp a.eval oi).run P w = .ok (.enter f args) w)
    (h : Calls P f args w fun e w' => ∃ v, e = .returned v ∧ S w' ∧ wpAnyH P .any l.toArray Q S fuel (listed.setIfInBounds i true) (a.put oi.dst v) w') : wpAnyH P .any l.toArray Q S (fuel + 1) listed a w := by
  refine ⟨(fun h0 => by rw [hr] at h0; cases h0), fun j hj => ?_⟩
  rw [hr] at hj
  obtain rfl : j = i := by simpa using hj
  unfold wpOp
  have ho : l.toArray[j]? = some oi := by simpa using hi
  simp only [ho, hw, if_true]
  refine .inl ?_
  unfold Oper.wp
  rw [he]
  simp only [Oper.upon]
  refine h.mono ?_
  rintro e w' ⟨v, rfl, h1, h2⟩
  exact ⟨h1, h2⟩

/-- An operation that alone may come up, and turns the world. -/
theorem held_alone (i : Nat) {oi : Oper} {fuel : Nat} {listed : Array Bool} {a : Act} {w w' : World} (hi : l[i]? = some oi) (hr : Region.ready .any l.toArray listed = [i])
    (hw : Region.wanted oi (yielded l.toArray a.tmps) = true) (he : (execOp a.eval oi).run P w = .ok .skip w') (hS : S w')
    (h : wpAnyH P .any l.toArray Q S fuel (listed.setIfInBounds i true) (a.put oi.dst undef) w') : wpAnyH P .any l.toArray Q S (fuel + 1) listed a w := by
  refine ⟨(fun h0 => by rw [hr] at h0; cases h0), fun j hj => ?_⟩
  rw [hr] at hj
  obtain rfl : j = i := by simpa using hj
  unfold wpOp
  have ho : l.toArray[j]? = some oi := by simpa using hi
  simp only [ho, hw, if_true]
  refine .inl ?_
  unfold Oper.wp
  rw [he]
  exact ⟨hS, h⟩
/-- An operation that alone may come up, yields a value and makes memory. -/
theorem held_makes (i : Nat) {oi : Oper} {v : Value} {fuel : Nat} {listed : Array Bool} {a : Act} {w w' : World} (hi : l[i]? = some oi) (hr : Region.ready .any l.toArray listed = [i])
    (hw : Region.wanted oi (yielded l.toArray a.tmps) = true) (he : (execOp a.eval oi).run P w = .ok (.value v) w') (hS : S w')
    (h : wpAnyH P .any l.toArray Q S fuel (listed.setIfInBounds i true) (a.put oi.dst v) w') : wpAnyH P .any l.toArray Q S (fuel + 1) listed a w := by
  refine ⟨(fun h0 => by rw [hr] at h0; cases h0), fun j hj => ?_⟩
  rw [hr] at hj
  obtain rfl : j = i := by simpa using hj
  unfold wpOp
  have ho : l.toArray[j]? = some oi := by simpa using hi
  simp only [ho, hw, if_true]
  refine .inl ?_
  unfold Oper.wp
  rw [he]
  exact ⟨hS, h⟩

/-- An operation that yields a value, and a call: either may come up first. -/
theorem held_two (i j : Nat) {oi oj : Oper} {v : Value} {f : FuncId} {args : Array Value} {fuel : Nat} {listed : Array Bool} {a : Act} {w : World} (hi : l[i]? = some oi) (hj : l[j]? = some oj) (hr : Region.ready .any l.toArray listed = [i, j])
    (hwi : Region.wanted oi (yielded l.toArray a.tmps) = true) (hwj : Region.wanted oj (yielded l.toArray a.tmps) = true) (hei : (execOp a.eval oi).run P w = .ok (.value v) w) (hej : (execOp a.eval oj).run P w = .ok (.enter f args) w) (hS : S w)
    (h1 : wpAnyH P .any l.toArray Q S fuel (listed.setIfInBounds i true) (a.put oi.dst v) w)
    (h2 : Calls P f args w fun e w' => ∃ u, e = .returned u ∧ S w' ∧ wpAnyH P .any l.toArray Q S fuel (listed.setIfInBounds j true) (a.put oj.dst u) w') : wpAnyH P .any l.toArray Q S (fuel + 1) listed a w := by
  refine ⟨(fun h0 => by rw [hr] at h0; cases h0), fun k hk => ?_⟩
  rw [hr] at hk
  have hk' : k = i ∨ k = j := by simpa using hk
  rcases hk' with rfl | rfl
  · unfold wpOp
    have ho : l.toArray[k]? = some oi := by simpa using hi
    simp only [ho, hwi, if_true]
    refine .inl ?_
    unfold Oper.wp
    rw [hei]
    exact ⟨hS, h1⟩
  · unfold wpOp
    have ho : l.toArray[k]? = some oj := by simpa using hj
    simp only [ho, hwj, if_true]
    refine .inl ?_
    unfold Oper.wp
    rw [hej]
    simp only [Oper.upon]
    refine h2.mono ?_
    rintro e w' ⟨u, rfl, h3, h4⟩
    exact ⟨h3, h4⟩

/-- Two operations that make memory: either may come up first. -/
theorem held_two_mm (i j : Nat) {oi oj : Oper} {v u : Value} {fuel : Nat} {listed : Array Bool} {a : Act} {w w1 w2 : World} (hi : l[i]? = some oi) (hj : l[j]? = some oj) (hr : Region.ready .any l.toArray listed = [i, j])
    (hwi : Region.wanted oi (yielded l.toArray a.tmps) = true) (hwj : Region.wanted oj (yielded l.toArray a.tmps) = true) (hei : (execOp a.eval oi).run P w = .ok (.value v) w1) (hej : (execOp a.eval oj).run P w = .ok (.value u) w2) (hS1 : S w1) (hS2 : S w2)
    (h1 : wpAnyH P .any l.toArray Q S fuel (listed.setIfInBounds i true) (a.put oi.dst v) w1)
    (h2 : wpAnyH P .any l.toArray Q S fuel (listed.setIfInBounds j true) (a.put oj.dst u) w2) : wpAnyH P .any l.toArray Q S (fuel + 1) listed a w := by
  refine ⟨(fun h0 => by rw [hr] at h0; cases h0), fun k hk => ?_⟩
  rw [hr] at hk
  have hk' : k = i ∨ k = j := by simpa using hk
  rcases hk' with rfl | rfl
  · unfold wpOp
    have ho : l.toArray[k]? = some oi := by simpa using hi
    simp only [ho, hwi, if_true]
    refine .inl ?_
    unfold Oper.wp
    rw [hei]
    exact ⟨hS1, h1⟩
  · unfold wpOp
    have ho : l.toArray[k]? = some oj := by simpa using hj
    simp only [ho, hwj, if_true]
    refine .inl ?_
    unfold Oper.wp
    rw [hej]
    exact ⟨hS2, h2⟩
/-- A call, and an operation that makes memory: either may come up first. -/
theorem held_two_cm (j i : Nat) {oi oj : Oper} {v : Value} {f : FuncId} {args : Array Value} {fuel : Nat} {listed : Array Bool} {a : Act} {w w1 : World} (hj : l[j]? = some oj) (hi : l[i]? = some oi) (hr : Region.ready .any l.toArray listed = [j, i])
    (hwj : Region.wanted oj (yielded l.toArray a.tmps) = true) (hwi : Region.wanted oi (yielded l.toArray a.tmps) = true) (hej : (execOp a.eval oj).run P w = .ok (.enter f args) w) (hei : (execOp a.eval oi).run P w = .ok (.value v) w1) (hS : S w1)
    (h2 : Calls P f args w fun e w' => ∃ u, e = .returned u ∧ S w' ∧ wpAnyH P .any l.toArray Q S fuel (listed.setIfInBounds j true) (a.put oj.dst u) w')
    (h1 : wpAnyH P .any l.toArray Q S fuel (listed.setIfInBounds i true) (a.put oi.dst v) w1) : wpAnyH P .any l.toArray Q S (fuel + 1) listed a w := by
  refine ⟨(fun h0 => by rw [hr] at h0; cases h0), fun k hk => ?_⟩
  rw [hr] at hk
  have hk' : k = j ∨ k = i := by simpa using hk
  rcases hk' with rfl | rfl
  · unfold wpOp
    have ho : l.toArray[k]? = some oj := by simpa using hj
    simp only [ho, hwj, if_true]
    refine .inl ?_
    unfold Oper.wp
    rw [hej]
    simp only [Oper.upon]
    refine h2.mono ?_
    rintro e w' ⟨u, rfl, h3, h4⟩
    exact ⟨h3, h4⟩
  · unfold wpOp
    have ho : l.toArray[k]? = some oi := by simpa using hi
    simp only [ho, hwi, if_true]
    refine .inl ?_
    unfold Oper.wp
    rw [hei]
    exact ⟨hS, h1⟩

/-- All have come up. -/
theorem held_done {listed : Array Bool} {a : Act} {w : World} {fuel : Nat} (hr : Region.ready .any l.toArray listed = []) (h : Q .normal a w) : wpAnyH P .any l.toArray Q S fuel listed a w := wpAnyH_done hr h fuel

/-- More may be asked of the worlds from here on. -/
theorem held_more {S' : World → Prop} (hS : ∀ w, S' w → S w) : ∀ (fuel : Nat) (listed : Array Bool) (a : Act) (w : World), wpAnyH P .any l.toArray Q S' fuel listed a w → wpAnyH P .any l.toArray Q S fuel listed a w
  | 0, _, _, _, h => h
  | fuel + 1, _, _, _, h => ⟨h.1, fun i hi => wpOp_mono (fun a' w' h' => ⟨hS w' h'.1, held_more hS fuel _ a' w' h'.2⟩) (h.2 i hi)⟩
end
end Go.Proofs.YtbbnkmhlgfoacaaDoor.S9

namespace Go.Proofs.YtbbnkmhlgfoacaaDoor.S9
namespace Pc

/-- A header. -/
structure Hdr where
  big : Bool
  nano : Bool
  snap : Nat
  link : Nat
/-- A record. -/
structure Rcd where
  sec : Nat
  frac : Nat
  len : Nat
  data : List UInt8
def hz : Hdr := ⟨false, false, 0, 0⟩
def rz : Rcd := ⟨0, 0, 0, []⟩
structure Hdr.Ok (m : Hdr) : Prop where
  snap : m.snap < 4294967296
  link : m.link < 4294967296
structure Rcd.Ok (r : Rcd) : Prop where
  sec : r.sec < 4294967296
  frac : r.frac < 4294967296
  len : r.len < 4294967296

def mark (nano : Bool) : Nat := if nano then 2712812621 else 2712847316
theorem mark_lt (nano : Bool) : mark nano < 4294967296 := by cases nano <;> decide

/-- Numbers, each by so many bytes. -/
def nums (big : Bool) (s : Nat) (ws : List Nat) : List UInt8 := (ws.map fun n => Oc.put n s big).flatten
theorem nums_length (big : Bool) (s : Nat) : ∀ ws : List Nat, (nums big s ws).length = ws.length * s
  | [] => by simp [nums]
  | x :: l => by
    have h := nums_length big s l
    have e : nums big s (x :: l) = Oc.put x s big ++ nums big s l := rfl
    rw [e, List.length_append, h, Oc.put_length, List.length_cons, Nat.add_mul]
    omega
theorem nums_snoc (big : Bool) (s : Nat) (ws : List Nat) (x : Nat) : nums big s (ws ++ [x]) = nums big s ws ++ Oc.put x s big := by simp [nums]

def hparts (m : Hdr) : List (List UInt8) := [nums m.big 4 [mark m.nano], nums m.big 2 [2, 4], nums m.big 4 [0, 0, m.snap, m.link]]
def hbytes (m : Hdr) : List UInt8 := (hparts m).flatten
theorem hbytes_length (m : Hdr) : (hbytes m).length = 24 := by simp [hbytes, hparts, nums_length]
def rnums (big : Bool) (r : Rcd) : List UInt8 := nums big 4 [r.sec, r.frac, r.data.length, r.len]
theorem rnums_length (big : Bool) (r : Rcd) : (rnums big r).length = 16 := by simp [rnums, nums_length]
def rbytes (big : Bool) (r : Rcd) : List UInt8 := rnums big r ++ r.data
theorem rbytes_length (big : Bool) (r : Rcd) : (rbytes big r).length = 16 + r.data.length := by simp [rbytes, rnums_length]

/-- A capture's parts, up to some of its records. -/
def parts (m : Hdr) (l : List Rcd) : List (List UInt8) := hbytes m :: (l.map fun r => [rnums m.big r, r.data]).flatten
def put (m : Hdr) (l : List Rcd) : List UInt8 := hbytes m ++ (l.map (rbytes m.big)).flatten
theorem parts_snoc (m : Hdr) (l : List Rcd) (r : Rcd) : parts m (l ++ [r]) = parts m l ++ [rnums m.big r, r.data] := by simp [parts]
theorem parts_flat (m : Hdr) (l : List Rcd) : (parts m l).flatten = put m l := by
  unfold parts put
  rw [List.flatten_cons]
  congr 1
  induction l with
  | nil => rfl
  | cons r l ih => simp only [List.map_cons, List.flatten_cons, List.flatten_append, ih]; simp [rbytes]
theorem parts_length (m : Hdr) (l : List Rcd) : (parts m l).length = 1 + 2 * l.length := by
  unfold parts
  rw [List.length_cons]
  induction l with
  | nil => rfl
  | cons r l ih => simp only [List.map_cons, List.flatten_cons, List.length_append, List.length_cons, List.length_nil] at ih ⊢; omega
theorem put_snoc (m : Hdr) (l : List Rcd) (r : Rcd) : put m (l ++ [r]) = put m l ++ rbytes m.big r := by simp [put]
theorem put_nil (m : Hdr) : put m [] = hbytes m := by simp [put]

/-- How many bytes the Data of records have. -/
def size (l : List Rcd) : Nat := (l.map fun r => r.data.length).sum
theorem size_nil : size [] = 0 := rfl
theorem size_cons (r : Rcd) (l : List Rcd) : size (r :: l) = r.data.length + size l := by simp [size]
theorem size_append (l k : List Rcd) : size (l ++ k) = size l + size k := by simp [size]
theorem size_one (r : Rcd) : size [r] = r.data.length := by simp [size]
theorem size_take (l : List Rcd) (k : Nat) : size (l.take k) ≤ size l := by
  have h := size_append (l.take k) (l.drop k)
  rw [List.take_append_drop] at h
  omega
theorem size_next (l : List Rcd) (k : Nat) (h : k < l.length) : size (l.take (k + 1)) = size (l.take k) + l[k].data.length := by
  rw [List.take_succ_eq_append_getElem h, size_append, size_one]
theorem recs_length (big : Bool) : ∀ l : List Rcd, (l.map (rbytes big)).flatten.length = 16 * l.length + size l
  | [] => by simp [size]
  | r :: l => by
    have h := recs_length big l
    rw [List.map_cons, List.flatten_cons, List.length_append, h, rbytes_length, size_cons, List.length_cons]
    omega
theorem put_length (m : Hdr) (l : List Rcd) : (put m l).length = 24 + 16 * l.length + size l := by
  rw [put, List.length_append, hbytes_length, recs_length]; omega

/-- Four bytes at a place, as a number. -/
def num (b : List UInt8) (k : Nat) (big : Bool) : Nat := Oc.get ((b.drop k).take 4) big
theorem get4_lt (b : List UInt8) (k s : Nat) (big : Bool) (hs : s ≤ 4) : Oc.get ((b.drop k).take s) big < 4294967296 := by
  have h := Oc.get_lt ((b.drop k).take s) big
  have h2 : ((b.drop k).take s).length ≤ 4 := by simp; omega
  have h3 := Nat.pow_le_pow_right (n := 256) (by omega) h2
  have h4 : 256 ^ 4 = 4294967296 := rfl
  omega
theorem num_lt (b : List UInt8) (k : Nat) (big : Bool) : num b k big < 4294967296 := get4_lt b k 4 big (by omega)

/-- Which order, and what times are of. -/
def who (b : List UInt8) : Option (Bool × Bool) :=
  if Oc.get (b.take 4) true = mark false then some (true, false)
  else if Oc.get (b.take 4) true = mark true then some (true, true)
  else if Oc.get (b.take 4) false = mark false then some (false, false)
  else if Oc.get (b.take 4) false = mark true then some (false, true)
  else none
def head (b : List UInt8) : Hdr × Nat :=
  if b.length < 4 then (hz, 2) else
  match who b with
  | none => (hz, 3)
  | some (big, nano) => if b.length < 24 then (hz, 2) else if Oc.get ((b.drop 4).take 2) big = 2 then (⟨big, nano, num b 16 big, num b 20 big⟩, 0) else (hz, 3)
def next (b : List UInt8) (big : Bool) : Rcd × Nat × Nat :=
  if b.length < 16 then (rz, 0, 2) else
  if 131072 < num b 8 big then (rz, 0, 4) else
  if b.length < 16 + num b 8 big then (rz, 0, 2) else
  (⟨num b 0 big, num b 4 big, num b 12 big, (b.drop 16).take (num b 8 big)⟩, 16 + num b 8 big, 0)
def rd : Nat → List UInt8 → Bool → Nat → List Rcd × Nat × Nat
  | 0, _, _, _ => ([], 0, 0)
  | f + 1, b, big, k => if b = [] then ([], 0, 0) else
    match next b big with
    | (r, n, 0) => (r :: (rd f (b.drop n) big (k + n)).1, (rd f (b.drop n) big (k + n)).2)
    | (_, _, e + 1) => ([], k, e + 1)
def read (b : List UInt8) : Hdr × List Rcd × Nat × Nat :=
  match head b with
  | (m, 0) => (m, rd b.length (b.drop 24) m.big 24)
  | (_, e + 1) => (hz, [], 0, e + 1)

theorem head_end (b : List UInt8) (h : b.length < 4) : head b = (hz, 2) := by unfold head; rw [if_pos h]
theorem head_form (b : List UInt8) (h : ¬ b.length < 4) (hw : who b = none) : head b = (hz, 3) := by unfold head; rw [if_neg h, hw]
theorem head_short (b : List UInt8) (h : ¬ b.length < 4) {big nano : Bool} (hw : who b = some (big, nano)) (h2 : b.length < 24) : head b = (hz, 2) := by
  unfold head; rw [if_neg h, hw]; simp only; rw [if_pos h2]
theorem head_two (b : List UInt8) (h : ¬ b.length < 4) {big nano : Bool} (hw : who b = some (big, nano)) (h2 : ¬ b.length < 24) (h3 : ¬ Oc.get ((b.drop 4).take 2) big = 2) : head b = (hz, 3) := by
  unfold head; rw [if_neg h, hw]; simp only; rw [if_neg h2, if_neg h3]
theorem head_good (b : List UInt8) (h : ¬ b.length < 4) {big nano : Bool} (hw : who b = some (big, nano)) (h2 : ¬ b.length < 24) (h3 : Oc.get ((b.drop 4).take 2) big = 2) : head b = (⟨big, nano, num b 16 big, num b 20 big⟩, 0) := by
  unfold head; rw [if_neg h, hw]; simp only; rw [if_neg h2, if_pos h3]

theorem who_bf (b : List UInt8) (h : Oc.get (b.take 4) true = mark false) : who b = some (true, false) := by unfold who; rw [if_pos h]
theorem who_bn (b : List UInt8) (h1 : ¬ Oc.get (b.take 4) true = mark false) (h : Oc.get (b.take 4) true = mark true) : who b = some (true, true) := by unfold who; rw [if_neg h1, if_pos h]
theorem who_lf (b : List UInt8) (h1 : ¬ Oc.get (b.take 4) true = mark false) (h2 : ¬ Oc.get (b.take 4) true = mark true) (h : Oc.get (b.take 4) false = mark false) : who b = some (false, false) := by unfold who; rw [if_neg h1, if_neg h2, if_pos h]
theorem who_ln (b : List UInt8) (h1 : ¬ Oc.get (b.take 4) true = mark false) (h2 : ¬ Oc.get (b.take 4) true = mark true) (h3 : ¬ Oc.get (b.take 4) false = mark false) (h : Oc.get (b.take 4) false = mark true) : who b = some (false, true) := by unfold who; rw [if_neg h1, if_neg h2, if_neg h3, if_pos h]
theorem who_none (b : List UInt8) (h1 : ¬ Oc.get (b.take 4) true = mark false) (h2 : ¬ Oc.get (b.take 4) true = mark true) (h3 : ¬ Oc.get (b.take 4) false = mark false) (h : ¬ Oc.get (b.take 4) false = mark true) : who b = none := by unfold who; rw [if_neg h1, if_neg h2, if_neg h3, if_neg h]

/-- Four bytes that are a number's, by an order. -/
theorem take_put (b : List UInt8) (n : Nat) (big : Bool) (h : 4 ≤ b.length) (hn : n < 4294967296) : Oc.put n 4 big = b.take 4 ↔ Oc.get (b.take 4) big = n := by
  constructor
  · intro e; rw [← e, Oc.get_put n 4 big hn]
  · intro e
    have h2 := Oc.put_get (b.take 4) big
    rw [List.length_take, Nat.min_eq_left h, e] at h2
    exact h2
/-- Two marks by two orders are never the same. -/
theorem marks (x y : Bool) (p q : Bool) (h : Oc.put (mark x) 4 p = Oc.put (mark y) 4 q) : x = y ∧ p = q := by
  revert h
  cases x <;> cases y <;> cases p <;> cases q <;> decide +kernel
theorem who_iff (b : List UInt8) (h : 4 ≤ b.length) (big nano : Bool) : who b = some (big, nano) ↔ Oc.put (mark nano) 4 big = b.take 4 := by
  have k := fun n p => take_put b n p h
  have m1 := fun (x y p q : Bool) (e1 : Oc.put (mark x) 4 p = b.take 4) (e2 : Oc.put (mark y) 4 q = b.take 4) => marks x y p q (e1.trans e2.symm)
  constructor
  · intro hw
    rw [k _ _ (mark_lt _)]
    unfold who at hw
    split at hw
    · next e => simp at hw; obtain ⟨rfl, rfl⟩ := hw; exact e
    · split at hw
      · next e => simp at hw; obtain ⟨rfl, rfl⟩ := hw; exact e
      · split at hw
        · next e => simp at hw; obtain ⟨rfl, rfl⟩ := hw; exact e
        · split at hw
          · next e => simp at hw; obtain ⟨rfl, rfl⟩ := hw; exact e
          · simp at hw
  · intro he
    unfold who
    split
    · next e =>
      obtain ⟨rfl, rfl⟩ := m1 _ _ _ _ he ((k _ _ (mark_lt _)).2 e)
      rfl
    · next e1 =>
      split
      · next e =>
        obtain ⟨rfl, rfl⟩ := m1 _ _ _ _ he ((k _ _ (mark_lt _)).2 e)
        rfl
      · next e2 =>
        split
        · next e =>
          obtain ⟨rfl, rfl⟩ := m1 _ _ _ _ he ((k _ _ (mark_lt _)).2 e)
          rfl
        · next e3 =>
          split
          · next e =>
            obtain ⟨rfl, rfl⟩ := m1 _ _ _ _ he ((k _ _ (mark_lt _)).2 e)
            rfl
          · next e4 =>
            exfalso
            rw [k _ _ (mark_lt _)] at he
            cases big <;> cases nano <;> simp_all

theorem next_end (b : List UInt8) (big : Bool) (h : b.length < 16) : next b big = (rz, 0, 2) := by unfold next; rw [if_pos h]
theorem next_long (b : List UInt8) (big : Bool) (h : ¬ b.length < 16) (h2 : 131072 < num b 8 big) : next b big = (rz, 0, 4) := by unfold next; rw [if_neg h, if_pos h2]
theorem next_short (b : List UInt8) (big : Bool) (h : ¬ b.length < 16) (h2 : ¬ 131072 < num b 8 big) (h3 : b.length < 16 + num b 8 big) : next b big = (rz, 0, 2) := by unfold next; rw [if_neg h, if_neg h2, if_pos h3]
theorem next_good (b : List UInt8) (big : Bool) (h : ¬ b.length < 16) (h2 : ¬ 131072 < num b 8 big) (h3 : ¬ b.length < 16 + num b 8 big) : next b big = (⟨num b 0 big, num b 4 big, num b 12 big, (b.drop 16).take (num b 8 big)⟩, 16 + num b 8 big, 0) := by unfold next; rw [if_neg h, if_neg h2, if_neg h3]

/-- What Next tells. -/
structure Next (b : List UInt8) (A : Rcd × Nat × Nat) : Prop where
  err : A.2.2 = 0 ∨ A.2.2 = 2 ∨ A.2.2 = 4
  ok : A.1.Ok
  le : A.1.data.length ≤ b.length
  size : A.2.1 ≤ b.length
  many : A.2.1 = 0 ∨ 16 ≤ A.2.1
  good : A.2.2 = 0 → A.2.1 = 16 + A.1.data.length ∧ A.1.data.length ≤ 131072
theorem rz_ok : rz.Ok := ⟨by decide, by decide, by decide⟩
theorem next_known (b : List UInt8) (big : Bool) : Next b (next b big) := by
  by_cases h : b.length < 16
  · rw [next_end b big h]; exact ⟨.inr (.inl rfl), rz_ok, Nat.zero_le _, Nat.zero_le _, .inl rfl, (fun h => by cases h)⟩
  · by_cases h2 : 131072 < num b 8 big
    · rw [next_long b big h h2]; exact ⟨.inr (.inr rfl), rz_ok, Nat.zero_le _, Nat.zero_le _, .inl rfl, (fun h => by cases h)⟩
    · by_cases h3 : b.length < 16 + num b 8 big
      · rw [next_short b big h h2 h3]; exact ⟨.inr (.inl rfl), rz_ok, Nat.zero_le _, Nat.zero_le _, .inl rfl, (fun h => by cases h)⟩
      · rw [next_good b big h h2 h3]
        have e : ((b.drop 16).take (num b 8 big)).length = num b 8 big := by simp; omega
        exact ⟨.inl rfl, ⟨num_lt _ _ _, num_lt _ _ _, num_lt _ _ _⟩, by simp only [e]; omega, by simp only; omega, .inr (by simp only; omega), fun _ => ⟨by simp only [e], by simp only [e]; omega⟩⟩
/-- What Head tells. -/
structure Head (A : Hdr × Nat) : Prop where
  err : A.2 = 0 ∨ A.2 = 2 ∨ A.2 = 3
  ok : A.1.Ok
  bad : A.2 ≠ 0 → A.1 = hz
theorem hz_ok : hz.Ok := ⟨by decide, by decide⟩
theorem head_known (b : List UInt8) : Head (head b) := by
  by_cases h : b.length < 4
  · rw [head_end b h]; exact ⟨.inr (.inl rfl), hz_ok, fun _ => rfl⟩
  · cases hw : who b with
    | none => rw [head_form b h hw]; exact ⟨.inr (.inr rfl), hz_ok, fun _ => rfl⟩
    | some p =>
      obtain ⟨big, nano⟩ := p
      by_cases h2 : b.length < 24
      · rw [head_short b h hw h2]; exact ⟨.inr (.inl rfl), hz_ok, fun _ => rfl⟩
      · by_cases h3 : Oc.get ((b.drop 4).take 2) big = 2
        · rw [head_good b h hw h2 h3]; exact ⟨.inl rfl, ⟨num_lt _ _ _, num_lt _ _ _⟩, (fun h => absurd rfl h)⟩
        · rw [head_two b h hw h2 h3]; exact ⟨.inr (.inr rfl), hz_ok, fun _ => rfl⟩

/-- The rounds of Read: enough is enough. -/
theorem rd_more (big : Bool) : ∀ (f g : Nat) (b : List UInt8) (k : Nat), b.length ≤ f → f ≤ g → rd g b big k = rd f b big k
  | 0, g, b, k, h, _ => by
    have : b = [] := List.eq_nil_of_length_eq_zero (by omega)
    subst this
    cases g <;> simp [rd]
  | f + 1, 0, b, k, _, h => by omega
  | f + 1, g + 1, b, k, h, hg => by
    by_cases hb : b = []
    · simp [rd, hb]
    · have hn := next_known b big
      have hpos : 0 < b.length := List.length_pos_iff.2 hb
      simp only [rd, hb, if_false]
      rcases hx : next b big with ⟨r, n, e⟩
      rw [hx] at hn
      cases e with
      | zero =>
        have hg := (hn.good rfl).1
        simp only at hg
        simp only
        rw [rd_more big f g (b.drop n) (k + n) (by simp; omega) (by omega)]
      | succ e => rfl
def rdr (b : List UInt8) (big : Bool) (k : Nat) : List Rcd × Nat × Nat := rd b.length b big k
theorem rdr_nil (big : Bool) (k : Nat) : rdr [] big k = ([], 0, 0) := rfl
theorem rdr_bad (b : List UInt8) (big : Bool) (k : Nat) (hb : 0 < b.length) (r : Rcd) (n e : Nat) (hx : next b big = (r, n, e)) (he : e ≠ 0) : rdr b big k = ([], k, e) := by
  unfold rdr
  obtain ⟨f, hf⟩ : ∃ f, b.length = f + 1 := ⟨b.length - 1, by omega⟩
  obtain ⟨e', rfl⟩ : ∃ e', e = e' + 1 := ⟨e - 1, by omega⟩
  have hb' : b ≠ [] := List.length_pos_iff.1 hb
  rw [hf, rd, if_neg hb', hx]
theorem rdr_good (b : List UInt8) (big : Bool) (k : Nat) (hb : 0 < b.length) (r : Rcd) (n : Nat) (hx : next b big = (r, n, 0)) : rdr b big k = (r :: (rdr (b.drop n) big (k + n)).1, (rdr (b.drop n) big (k + n)).2) := by
  unfold rdr
  obtain ⟨f, hf⟩ : ∃ f, b.length = f + 1 := ⟨b.length - 1, by omega⟩
  have hb' : b ≠ [] := List.length_pos_iff.1 hb
  have hn := next_known b big
  rw [hx] at hn
  have hg := (hn.good rfl).1
  simp only at hg
  rw [hf, rd, if_neg hb', hx]
  simp only
  rw [rd_more big (b.drop n).length f (b.drop n) (k + n) (Nat.le_refl _) (by simp; omega)]
theorem read_bad (b : List UInt8) (e : Nat) (m : Hdr) (h : head b = (m, e)) (he : e ≠ 0) : read b = (hz, [], 0, e) := by
  obtain ⟨e', rfl⟩ : ∃ e', e = e' + 1 := ⟨e - 1, by omega⟩
  unfold read; rw [h]
theorem read_good (b : List UInt8) (m : Hdr) (h : head b = (m, 0)) : read b = (m, rdr (b.drop 24) m.big 24) := by
  unfold read rdr; rw [h]; simp only
  rw [rd_more m.big (b.drop 24).length b.length (b.drop 24) 24 (Nat.le_refl _) (by simp)]
end Pc
end Go.Proofs.YtbbnkmhlgfoacaaDoor.S9

namespace Go.Proofs.YtbbnkmhlgfoacaaDoor.S9
open Go.RowKit

theorem lt_of_block {w : World} {k : Nat} {o : Obj} (h : w.heap[k]? = some o) : k < w.heap.size := by
  rcases Nat.lt_or_ge k w.heap.size with h1 | h1
  · exact h1
  · rw [Array.getElem?_eq_none h1] at h; cases h
theorem grown_kept {w w' : World} {q T : Nat} {o : Obj} (h : w.grownBy w' (some q)) (hT : w.heap[T]? = some o) (hne : T ≠ q) : w'.heap[T]? = some o := by
  rw [h.block T (lt_of_block hT) (fun e => hne (by simpa using e))]; exact hT
theorem grown_set {w w1 : World} {q : Nat} (b : Below w.heap.size w w1) (v : Value) (i : Nat) : w.grownBy (w1.setCell ⟨q, i, none⟩ v) (some q) := by
  have hb : Below 0 w (w1.setCell ⟨q, i, none⟩ v) := (b.mono (Nat.zero_le _)).setCell (Nat.zero_le _) v
  exact ⟨hb.os, hb.tape, hb.output, hb.size, fun k hk hne => by rw [Below.heap_setCell _ _ _ _ (fun e => hne (by rw [e])), b.block k hk]⟩
theorem rowAt_alloc {w : World} {a : Option Addr} {c : Nat} {xs : List UInt8} (h : RowAt w a c xs) (o : Obj) : RowAt (w.alloc o) a c xs := h.next ((Below.refl _ _).alloc (Nat.le_refl _) _)
theorem first_kept {w w' : World} {o : Obj} (b : Below (w.alloc o).heap.size (w.alloc o) w') : w'.heap[w.heap.size]? = some o := by
  rw [b.block _ (by simp)]; exact heap_alloc_new w o
theorem block_next {w w' : World} {T : Nat} {o : Obj} (h : w.heap[T]? = some o) (b : Below w.heap.size w w') : w'.heap[T]? = some o := by rw [b.block T (lt_of_block h)]; exact h

/-- Of what numbers are read, by which order, and how far. -/
structure NumAt (w : World) (g : Nat) (a : Option Addr) (n cap : Nat) (big : Bool) (k : Nat) : Prop where
  src : w.heap[g]? = some (.cells #[.slice a n cap] 28 (0, 0))
  ord : w.heap[g + 1]? = some (.cells #[.bool big] 4 (0, 0))
  place : w.heap[g + 2]? = some (.cells #[.int .i64 (k : Int)] 3 (0, 0))
/-- What reads the next number. -/
def numV (g : Nat) : Value := .func (.func 82) #[] #[.pointer (some ⟨g, 0, none⟩), .pointer (some ⟨g + 2, 0, none⟩), .pointer (some ⟨g + 1, 0, none⟩)]

theorem numbers_any (a : Option Addr) (n cap : Nat) (big : Bool) (w : World) :
    Calls Tryd.prog 71 #[.slice a n cap, .bool big] w fun e w' => e = .returned (numV w.heap.size) ∧ NumAt w' w.heap.size a n cap big 0 ∧ Below w.heap.size w w' ∧ w'.heap.size = w.heap.size + 3 := by
  have hmf : ∀ (fn : Fn) (first cap : Array Value) (w : World), (Instr.makeFunc fn first cap).run Tryd.prog w = .ok (.func fn first cap) w := fun _ _ _ _ => rfl
  go_enter Tryd.func71, Tryd.ntmps71
  go_wp2
  go_ret
  refine ⟨rfl, ⟨?_, ?_, ?_⟩, (((Below.refl _ _).alloc (Nat.le_refl _) _).alloc (by simp) _).alloc (by simp; omega) _, by simp⟩
  · rw [Below.heap_alloc _ _ _ (by simp; omega), Below.heap_alloc _ _ _ (by simp)]
    exact heap_alloc_new w _
  · rw [Below.heap_alloc _ _ _ (by simp)]
    have h2 := heap_alloc_new (w.alloc (Obj.cells #[Value.slice a n cap] 28)) (Obj.cells #[Value.bool big] 4)
    simpa using h2
  · have h2 := heap_alloc_new ((w.alloc (Obj.cells #[Value.slice a n cap] 28)).alloc (Obj.cells #[Value.bool big] 4)) (Obj.cells #[Value.int IntKind.i64 0] 3)
    simpa using h2

theorem ret_u32 {a b : Int} (h : a = b) : Ending.returned (.int .u32 a) = .returned (.int .u32 b) := by rw [h]

set_option maxHeartbeats 1000000 in
theorem number_any (a : Option Addr) (n cap : Nat) (xs : List UInt8) (big : Bool) (k s g : Nat) (w0 w : World) (hn : xs.length = n) (hm : n ≤ 300000) (h1 : 1 ≤ s) (h4 : s ≤ 4) (hk : k + s ≤ n)
    (H : RowAt w0 a cap xs) (B : Below w0.heap.size w0 w) (hg : w0.heap.size ≤ g) (h : NumAt w g a n cap big k) :
    Calls Tryd.prog 82 #[.int .i64 (s : Int), .pointer (some ⟨g, 0, none⟩), .pointer (some ⟨g + 2, 0, none⟩), .pointer (some ⟨g + 1, 0, none⟩)] w fun e w' =>
      e = .returned (.int .u32 (Oc.get ((xs.drop k).take s) big : Nat)) ∧ NumAt w' g a n cap big (k + s) ∧ Below w0.heap.size w0 w' ∧ w.grownBy w' (some (g + 2)) := by
  have c29 := fun W h => cut_good a cap xs k s W (by omega) (by omega) h
  rw [hn] at c29
  have hlt := Pc.get4_lt xs k s big h4
  have hl : ((xs.drop k).take s).length = s := by simp; omega
  generalize (xs.drop k).take s = ys at *
  have c34 := fun A C W h => get_at A C ys big W (by omega) (by omega) h
  rw [hl] at c34
  generalize Oc.get ys big = v at *
  have C1 := Lib.hid c29
  have C2 := Lib.hid c34
  have HR := Lib.hid (H.next B)
  have HB := Lib.hid B
  have HN := Lib.hid h
  have c1 := cell_of_one h.src
  have c2 := cell_of_one h.place
  have Hl := Lib.hid hl
  clear c29 c34 H B h hl hn
  go_enter Tryd.func82, Tryd.ntmps82
  go_wp2_with fail
  refine (C1.out _ HR.out).mono ?_
  rintro e w1 ⟨v1, rfl, o1, b1⟩
  obtain ⟨a1, cap1, rfl, r1⟩ := rowAt_own Hl.out o1
  have n1 : w1.heap[g + 1]? = _ := block_next HN.out.ord b1
  have n2 : w1.heap[g + 2]? = _ := block_next HN.out.place b1
  have n0 : w1.heap[g]? = _ := block_next HN.out.src b1
  have c3 := cell_of_one n1
  have c4 := cell_of_one n2
  have f4 := free_of_one n2
  have R1 := Lib.hid r1.bytes
  have B1 := Lib.hid b1
  have hw : IntKind.u32.wrap (v : Int) = (v : Int) := by rw [IntKind.wrap_u32]; omega
  have N0 := Lib.hid n0
  have N1 := Lib.hid n1
  have N2 := Lib.hid n2
  clear o1 r1 b1 n0 n1 n2 c1 c2
  go_wp2_with fail
  refine (C2.out _ _ _ R1.out).mono ?_
  rintro e w2 ⟨rfl, hw2⟩
  rw [hw2]
  clear hw2
  go_wp2
  go_ret
  refine ⟨ret_u32 (by first | rfl | omega), ⟨?_, ?_, ?_⟩, ?_, grown_set B1.out _ _⟩
  · rw [Below.heap_setCell _ _ _ _ (by simp)]; exact N0.out
  · rw [Below.heap_setCell _ _ _ _ (by simp)]; exact N1.out
  · have := one_setCell (u := .int .i64 ((k + s : Nat) : Int)) N2.out
    simpa using this
  · exact (Below.trans HB.out (B1.out.mono HB.out.size)).setCell (by simp; omega) _
end Go.Proofs.YtbbnkmhlgfoacaaDoor.S9

namespace Go.Proofs.YtbbnkmhlgfoacaaDoor.S9
open Go.RowKit

/-- A header's cells. -/
def hcells (m : Pc.Hdr) : List Value := [.bool m.big, .bool m.nano, .int .u32 (m.snap : Int), .int .u32 (m.link : Int)]
theorem info24 : (Tryd.prog.info? 39).map (·.size) = some 4 := by kernel_rfl
theorem hcells_one (m : Pc.Hdr) : (hcells m).toArray.all (·.oneCell') = true := by rw [List.all_toArray]; simp [hcells, Value.oneCell']

/-- Two results, the first one in a cell. -/
theorem results_cell_tmp_row {P : Program} {fn : Func} {q p : Tmp} {ty : TypeId} (h : fn.results = #[.cell p ty, .tmp q]) (tmps : Array Value) (w : World) (g : Nat) (t : TypeId) (cs : Array Value) (fr : Nat × Nat) (d : TypeDesc)
    (hp : tmps.getD p undef = .pointer (some ⟨g, 0, none⟩)) (hg : w.heap[g]? = some (.cells cs t fr))
    (hu : P.underlying ty = some d) (hd : (match d with | .struct _ | .array _ _ => true | _ => false) = true) (hi : (P.info? ty).map (·.size) = some cs.size) :
    (results fn tmps).run P w = .ok (.tuple #[.agg cs, tmps.getD q undef]) w := by
  have hp' : tmps[p]?.getD undef = .pointer (some ⟨g, 0, none⟩) := by simpa using hp
  simp [results, h, hp', asAddr, run_loadVar_row w g t ty cs fr d hg hu hd hi]

theorem wpList_store_head {w : World} {ops : Array Oper} {rest : List Oper} {o : Oper} {a : Act} {Q : Exit → Act → World → Prop} (hgd : o.guard = none) (x y : Operand) (ho : o.op = .store 39 x y) (R : Nat) (m : Pc.Hdr) (cur : Array Value)
    (hx : a.eval x = .pointer (some ⟨R, 0, none⟩)) (hy : a.eval y = .agg (hcells m).toArray) (hR : w.heap[R]? = some (.cells cur 39 (0, 0))) (hcur : cur.size = 4)
    (h : wpList Tryd.prog ops Q rest (a.put o.dst undef) (w.setRow R (hcells m).toArray)) : wpList Tryd.prog ops Q (o :: rest) a w :=
  wpList_store_row hgd 39 x y ho R _ hx hy 39 cur hR info24 hcur (hcells_one m) h

/-- A header and an error that are answered. -/
def HeadRes (w w' : World) (e : Ending) (m : Pc.Hdr) (r : Nat) : Prop := e = .returned (.tuple #[.agg (hcells m).toArray, .int .i64 (r : Int)]) ∧ Below w.heap.size w w'
theorem head_ret {w' : World} {fn : Func} {q p : Tmp} {r R : Nat} {m : Pc.Hdr} {tmps : Array Value} {cs : Array Value} (h : fn.results = #[.cell p 39, .tmp q]) (hp : tmps.getD p undef = .pointer (some ⟨R, 0, none⟩)) (hq : tmps.getD q undef = .int .i64 (r : Int)) (hR : w'.heap[R]? = some (.cells cs 39 (0, 0))) :
    (results fn tmps).run Tryd.prog (w'.setRow R (hcells m).toArray) = .ok (.tuple #[.agg (hcells m).toArray, .int .i64 (r : Int)]) (w'.setRow R (hcells m).toArray) := by
  have := results_cell_tmp_row (P := Tryd.prog) h tmps (w'.setRow R (hcells m).toArray) R 39 _ _ _ hp (setRow_heap _ _ _ _ _ _ hR) Tryd.underlying39 rfl info24
  rw [hq] at this
  exact this
/-- The same, where nothing was called. -/
theorem head_ret0 {w : World} {fn : Func} {q p : Tmp} {r : Nat} {m : Pc.Hdr} {tmps : Array Value} (h : fn.results = #[.cell p 39, .tmp q]) (hp : tmps.getD p undef = .pointer (some ⟨w.heap.size, 0, none⟩)) (hq : tmps.getD q undef = .int .i64 (r : Int)) :
    (results fn tmps).run Tryd.prog (w.alloc (.cells (hcells m).toArray 39)) = .ok (.tuple #[.agg (hcells m).toArray, .int .i64 (r : Int)]) (w.alloc (.cells (hcells m).toArray 39)) := by
  have := results_cell_tmp_row (P := Tryd.prog) h tmps (w.alloc (.cells (hcells m).toArray 39)) w.heap.size 39 _ _ _ hp (heap_alloc_new w _) Tryd.underlying39 rfl info24
  rw [hq] at this
  exact this
theorem below_setRow {w w' : World} {B g : Nat} (h : Below B w w') (hg : B ≤ g) (cs : Array Value) : Below B w (w'.setRow g cs) :=
  ⟨h.os, h.tape, h.output, by rw [setRow_size]; exact h.size, fun k hk => by rw [setRow_other _ _ _ _ (by omega)]; exact h.block k hk⟩
theorem two_blocks (w : World) (o1 o2 : Obj) : ((w.alloc o1).alloc o2).heap[w.heap.size]? = some o1 ∧ ((w.alloc o1).alloc o2).heap[w.heap.size + 1]? = some o2 ∧ Below w.heap.size w ((w.alloc o1).alloc o2) := by
  refine ⟨?_, ?_, ((Below.refl _ _).alloc (Nat.le_refl _) _).alloc (by simp) _⟩
  · rw [Below.heap_alloc _ _ _ (by simp)]; exact heap_alloc_new w _
  · have h2 := heap_alloc_new (w.alloc o1) o2
    simpa using h2

/-- What readMark tells. -/
def Pc.rmark (xs : List UInt8) : Pc.Hdr × Nat := if xs.length < 4 then (Pc.hz, 2) else match Pc.who xs with | none => (Pc.hz, 3) | some (big, nano) => (⟨big, nano, 0, 0⟩, 0)

set_option maxHeartbeats 1000000 in
theorem mark_any (a : Option Addr) (n cap : Nat) (xs : List UInt8) (w : World) (hn : xs.length = n) (hm : n ≤ 300000) (h : RowAt w a cap xs) :
    Calls Tryd.prog 70 #[.slice a n cap] w fun e w' => HeadRes w w' e (Pc.rmark xs).1 (Pc.rmark xs).2 := by
  by_cases h4 : n < 4
  · have e1 : Pc.rmark xs = (Pc.hz, 2) := by unfold Pc.rmark; rw [if_pos (by omega)]
    rw [e1]
    have i4 : (n : Int) < 4 := by omega
    go_enter Tryd.func70, Tryd.ntmps70
    go_wp2
    exact bodyPost_ret (head_ret0 (m := Pc.hz) Tryd.results70 rfl rfl) rfl ⟨rfl, (Below.refl _ _).alloc (Nat.le_refl _) _⟩
  · have c33 := fun (big : Bool) (g : Nat) (W : World) B hg hN => number_any a n cap xs big 0 4 g w W hn hm (by omega) (by omega) (by omega) h B hg hN
    rw [List.drop_zero] at c33
    have i4 : ¬ (n : Int) < 4 := by omega
    obtain ⟨A, hA⟩ : ∃ A, Pc.rmark xs = A := ⟨_, rfl⟩
    rw [hA]
    have HA := Lib.hid hA
    have Hn4 := Lib.hid (show ¬ xs.length < 4 by omega)
    clear hA
    go_enter Tryd.func70, Tryd.ntmps70
    go_wp2
    obtain ⟨hR0, hS0, B0⟩ := two_blocks w (.cells #[.bool false, .bool false, .int .u32 0, .int .u32 0] 39) (.cells #[.bool true, .bool false] 4)
    generalize ((w.alloc (.cells #[.bool false, .bool false, .int .u32 0, .int .u32 0] 39)).alloc (.cells #[.bool true, .bool false] 4)) = W at *
    have s0 : W.cell? ⟨w.heap.size + 1, 0, none⟩ = some (.bool true) := cell_of_row _ _ _ _ _ _ hS0
    have hlt := lt_of_block hS0
    have C33 := Lib.hid c33
    have HR0 := Lib.hid hR0
    have HS0 := Lib.hid hS0
    have HB0 := Lib.hid B0
    clear c33 hR0 hS0 B0 hn h
    refine wp_loop_rounds 3 ?_
    rw [rounds_succ]
    go_wp2_with fail
    refine (numbers_any a n cap true _).mono ?_
    rintro e w1 ⟨rfl, n1, b1, _⟩
    unfold numV
    have B1 := Lib.hid (Below.trans HB0.out (b1.mono HB0.out.size))
    have HR1 := Lib.hid (block_next HR0.out b1)
    have HS1 := Lib.hid (block_next HS0.out b1)
    have N1 := Lib.hid n1
    clear b1 n1 HR0 HS0 s0
    generalize W.heap.size = G at *
    have hle := HB0.out.size
    go_wp2_with fail
    refine (C33.out true _ _ B1.out (by omega) N1.out).mono ?_
    rintro e w2 ⟨rfl, _, b2, g2⟩
    have B2 := Lib.hid b2
    have hR2 := grown_kept g2 HR1.out (by omega)
    have hS2 := grown_kept g2 HS1.out (by omega)
    have HR2 := Lib.hid hR2
    have s2 : w2.cell? ⟨w.heap.size + 1, 1, none⟩ = some (.bool false) := cell_of_row _ _ _ _ _ _ hS2
    have HS2 := Lib.hid hS2
    clear b2 g2 hR2 hS2 HR1 HS1 N1 B1
    by_cases t1 : Oc.get (xs.take 4) true = Pc.mark false
    · have e1 : A = (⟨true, false, 0, 0⟩, 0) := by rw [← HA.out]; unfold Pc.rmark; rw [if_neg Hn4.out, Pc.who_bf xs t1]
      subst e1
      clear HA
      have u1 : (((Oc.get (xs.take 4) true : Nat) : Int) == 2712847316) = true := by rw [t1]; rfl
      clear t1 C33
      generalize Oc.get (xs.take 4) true = v1 at *
      go_wp2_with (refine wpList_store_head rfl (.tmp 2) (.tmp 23) rfl w.heap.size ⟨true, false, 0, 0⟩ _ rfl rfl HR2.out rfl ?_)
      exact bodyPost_ret (head_ret Tryd.results70 rfl rfl HR2.out) rfl ⟨rfl, below_setRow B2.out (Nat.le_refl _) _⟩
    by_cases t2 : Oc.get (xs.take 4) true = Pc.mark true
    · have e1 : A = (⟨true, true, 0, 0⟩, 0) := by rw [← HA.out]; unfold Pc.rmark; rw [if_neg Hn4.out, Pc.who_bn xs t1 t2]
      subst e1
      clear HA
      have u1 : (((Oc.get (xs.take 4) true : Nat) : Int) == 2712847316) = false := by rw [t2]; rfl
      have u2 : (((Oc.get (xs.take 4) true : Nat) : Int) == 2712812621) = true := by rw [t2]; rfl
      clear t1 t2 C33
      generalize Oc.get (xs.take 4) true = v1 at *
      go_wp2_with (refine wpList_store_head rfl (.tmp 2) (.tmp 27) rfl w.heap.size ⟨true, true, 0, 0⟩ _ rfl rfl HR2.out rfl ?_)
      exact bodyPost_ret (head_ret Tryd.results70 rfl rfl HR2.out) rfl ⟨rfl, below_setRow B2.out (Nat.le_refl _) _⟩
    have u1 : (((Oc.get (xs.take 4) true : Nat) : Int) == 2712847316) = false := by
      simp only [beq_eq_false_iff_ne, ne_eq]; intro e; apply t1; show _ = 2712847316; omega
    have u2 : (((Oc.get (xs.take 4) true : Nat) : Int) == 2712812621) = false := by
      simp only [beq_eq_false_iff_ne, ne_eq]; intro e; apply t2; show _ = 2712812621; omega
    have q1 := Pc.who_lf xs t1 t2
    have q2 := Pc.who_ln xs t1 t2
    have q3 := Pc.who_none xs t1 t2
    clear t1 t2
    generalize Oc.get (xs.take 4) true = v1 at *
    go_wp2
    rw [rounds_succ]
    go_wp2_with fail
    refine (numbers_any a n cap false _).mono ?_
    rintro e w3 ⟨rfl, n3, b3, _⟩
    unfold numV
    have B3 := Lib.hid (Below.trans B2.out (b3.mono B2.out.size))
    have HR3 := Lib.hid (block_next HR2.out b3)
    have N3 := Lib.hid n3
    have hlt2 := lt_of_block HS2.out
    have hle2 := B2.out.size
    clear b3 n3 HR2 HS2 s2 u1 u2
    generalize w2.heap.size = G2 at *
    go_wp2_with fail
    refine (C33.out false _ _ B3.out (by omega) N3.out).mono ?_
    rintro e w4 ⟨rfl, _, b4, g4⟩
    have B4 := Lib.hid b4
    have HR4 := Lib.hid (grown_kept g4 HR3.out (by omega))
    clear b4 g4 HR3 N3 B3 C33
    by_cases t3 : Oc.get (xs.take 4) false = Pc.mark false
    · have e1 : A = (⟨false, false, 0, 0⟩, 0) := by rw [← HA.out]; unfold Pc.rmark; rw [if_neg Hn4.out, q1 t3]
      subst e1
      clear HA
      have u1 : (((Oc.get (xs.take 4) false : Nat) : Int) == 2712847316) = true := by rw [t3]; rfl
      clear t3 q1 q2 q3
      generalize Oc.get (xs.take 4) false = v2 at *
      go_wp2_with (refine wpList_store_head rfl (.tmp 2) (.tmp 23) rfl w.heap.size ⟨false, false, 0, 0⟩ _ rfl rfl HR4.out rfl ?_)
      exact bodyPost_ret (head_ret Tryd.results70 rfl rfl HR4.out) rfl ⟨rfl, below_setRow B4.out (Nat.le_refl _) _⟩
    by_cases t4 : Oc.get (xs.take 4) false = Pc.mark true
    · have e1 : A = (⟨false, true, 0, 0⟩, 0) := by rw [← HA.out]; unfold Pc.rmark; rw [if_neg Hn4.out, q2 t3 t4]
      subst e1
      clear HA
      have u1 : (((Oc.get (xs.take 4) false : Nat) : Int) == 2712847316) = false := by rw [t4]; rfl
      have u2 : (((Oc.get (xs.take 4) false : Nat) : Int) == 2712812621) = true := by rw [t4]; rfl
      clear t3 t4 q1 q2 q3
      generalize Oc.get (xs.take 4) false = v2 at *
      go_wp2_with (refine wpList_store_head rfl (.tmp 2) (.tmp 27) rfl w.heap.size ⟨false, true, 0, 0⟩ _ rfl rfl HR4.out rfl ?_)
      exact bodyPost_ret (head_ret Tryd.results70 rfl rfl HR4.out) rfl ⟨rfl, below_setRow B4.out (Nat.le_refl _) _⟩
    have e1 : A = (Pc.hz, 3) := by rw [← HA.out]; unfold Pc.rmark; rw [if_neg Hn4.out, q3 t3 t4]
    subst e1
    clear HA
    have u1 : (((Oc.get (xs.take 4) false : Nat) : Int) == 2712847316) = false := by
      simp only [beq_eq_false_iff_ne, ne_eq]; intro e; apply t3; show _ = 2712847316; omega
    have u2 : (((Oc.get (xs.take 4) false : Nat) : Int) == 2712812621) = false := by
      simp only [beq_eq_false_iff_ne, ne_eq]; intro e; apply t4; show _ = 2712812621; omega
    clear t3 t4 q1 q2 q3
    generalize Oc.get (xs.take 4) false = v2 at *
    go_wp2
    rw [rounds_succ]
    go_wp2_with (refine wpList_store_head rfl (.tmp 2) (.tmp 29) rfl w.heap.size Pc.hz _ rfl rfl HR4.out rfl ?_)
    exact bodyPost_ret (head_ret Tryd.results70 rfl rfl HR4.out) rfl ⟨rfl, below_setRow B4.out (Nat.le_refl _) _⟩
end Go.Proofs.YtbbnkmhlgfoacaaDoor.S9

namespace Go.Proofs.YtbbnkmhlgfoacaaDoor.S9
open Go.RowKit

/-- What stands in memory while numbers are read: the result's cells, what is built, and how far one is. -/
structure St (w0 w : World) (g R T : Nat) (oR : Obj) (cs : Array Value) (ty : TypeId) (a : Option Addr) (n cap : Nat) (big : Bool) (k : Nat) : Prop where
  num : NumAt w g a n cap big k
  bel : Below w0.heap.size w0 w
  r : w.heap[R]? = some oR
  t : w.heap[T]? = some (.cells cs ty (0, 0))
/-- Where the blocks lie. -/
structure Lies (w0 : World) (g R T : Nat) : Prop where
  gg : w0.heap.size ≤ g
  tt : w0.heap.size ≤ T
  rg : R < g
  rt : R ≠ T
  tg : T < g ∨ g + 2 < T
theorem number_st (a : Option Addr) (n cap : Nat) (xs : List UInt8) (big : Bool) (w0 : World) (hn : xs.length = n) (hm : n ≤ 300000) (H : RowAt w0 a cap xs) (g R T : Nat) (L : Lies w0 g R T)
    (k s : Nat) (h1 : 1 ≤ s) (h4 : s ≤ 4) (hk : k + s ≤ n) (w : World) (oR : Obj) (cs : Array Value) (ty : TypeId) (h : St w0 w g R T oR cs ty a n cap big k) :
    Calls Tryd.prog 82 #[.int .i64 (s : Int), .pointer (some ⟨g, 0, none⟩), .pointer (some ⟨g + 2, 0, none⟩), .pointer (some ⟨g + 1, 0, none⟩)] w fun e w' =>
      e = .returned (.int .u32 (Oc.get ((xs.drop k).take s) big : Nat)) ∧ St w0 w' g R T oR cs ty a n cap big (k + s) := by
  refine (number_any a n cap xs big k s g w0 w hn hm h1 h4 hk H h.bel L.gg h.num).mono ?_
  rintro e w' ⟨rfl, h2, h3, h4⟩
  have := L.rg
  have := L.tg
  exact ⟨rfl, h2, h3, grown_kept h4 h.r (by omega), grown_kept h4 h.t (by omega)⟩
theorem St.set {w0 w : World} {g R T : Nat} {oR : Obj} {cs : Array Value} {ty : TypeId} {a : Option Addr} {n cap : Nat} {big : Bool} {k : Nat} (h : St w0 w g R T oR cs ty a n cap big k) (L : Lies w0 g R T) (i : Nat) (v : Value) :
    St w0 (w.setCell ⟨T, i, none⟩ v) g R T oR (cs.setIfInBounds i v) ty a n cap big k := by
  have := L.rt
  have := L.tg
  have e : ∀ j, j ≠ T → (w.setCell ⟨T, i, none⟩ v).heap[j]? = w.heap[j]? := fun j hj => heap_setCell_other w _ j v hj
  exact ⟨⟨by rw [e _ (by omega)]; exact h.num.src, by rw [e _ (by omega)]; exact h.num.ord, by rw [e _ (by omega)]; exact h.num.place⟩, h.bel.setCell L.tt v, by rw [e _ (by omega)]; exact h.r, heap_setCell_same w T i cs ty v h.t⟩

set_option maxHeartbeats 2000000 in
theorem head_any (a : Option Addr) (n cap : Nat) (xs : List UInt8) (w : World) (hn : xs.length = n) (hm : n ≤ 300000) (h : RowAt w a cap xs) :
    Calls Tryd.prog 59 #[.slice a n cap] w fun e w' => HeadRes w w' e (Pc.head xs).1 (Pc.head xs).2 := by
  have c25 := fun W h => mark_any a n cap xs W hn hm h
  have hcase : ((Pc.rmark xs).2 ≠ 0 ∧ Pc.head xs = (Pc.hz, (Pc.rmark xs).2)) ∨ (¬ xs.length < 4 ∧ ∃ big nano, Pc.who xs = some (big, nano) ∧ Pc.rmark xs = (⟨big, nano, 0, 0⟩, 0)) := by
    unfold Pc.rmark
    by_cases h4 : xs.length < 4
    · left; rw [if_pos h4, Pc.head_end xs h4]; exact ⟨by simp, rfl⟩
    · rw [if_neg h4]
      cases hw : Pc.who xs with
      | none => left; rw [Pc.head_form xs h4 hw]; exact ⟨by simp, rfl⟩
      | some p => right; exact ⟨h4, p.1, p.2, rfl, rfl⟩
  have H := Lib.hid h
  clear h
  rcases hcase with ⟨h0, h1⟩ | ⟨h4, big, nano, hw, hr⟩
  · rw [h1]
    clear h1
    have hr3 : (Pc.rmark xs).2 ≤ 3 := by unfold Pc.rmark; split; simp; split <;> simp
    generalize Pc.rmark xs = A at *
    obtain ⟨m, r⟩ := A
    simp only at h0 hr3 c25 ⊢
    have i1 : ((r : Int) != 0) = true := by simp; omega
    have C25 := Lib.hid c25
    clear c25 hn hm
    go_enter Tryd.func59, Tryd.ntmps59
    go_wp2_with fail
    refine (C25.out _ (rowAt_alloc H.out _)).mono ?_
    rintro e w1 ⟨rfl, b1⟩
    have hR := first_kept b1
    have hRo : ∀ o, (w1.alloc o).heap[w.heap.size]? = _ := fun o => block_next hR ((Below.refl _ _).alloc (Nat.le_refl _) o)
    have HRo := Lib.hid hRo
    have hB := below_alloc b1
    have HB := Lib.hid (fun o => hB.alloc hB.size o)
    simp only [hcells]
    clear C25 H b1 hR hRo hB h0
    go_wp2_with (refine wpList_store_head rfl (.tmp 2) (.tmp 15) rfl w.heap.size Pc.hz _ rfl rfl (HRo.out _) rfl ?_)
    exact bodyPost_ret (head_ret Tryd.results59 rfl rfl (HRo.out _)) rfl ⟨rfl, below_setRow (HB.out _) (Nat.le_refl _) _⟩
  · rw [hr] at c25
    have q1 := Pc.head_short xs h4 hw
    have q2 := Pc.head_two xs h4 hw
    have q3 := Pc.head_good xs h4 hw
    have C25 := Lib.hid c25
    by_cases h24 : n < 24
    · rw [q1 (by omega)]
      have i1 : (n : Int) < 24 := by omega
      clear c25 hn hm q1 q2 q3
      go_enter Tryd.func59, Tryd.ntmps59
      go_wp2_with fail
      refine (C25.out _ (rowAt_alloc H.out _)).mono ?_
      rintro e w1 ⟨rfl, b1⟩
      have hR := first_kept b1
      have hRo : ∀ o, (w1.alloc o).heap[w.heap.size]? = _ := fun o => block_next hR ((Below.refl _ _).alloc (Nat.le_refl _) o)
      have HRo := Lib.hid hRo
      have hB := below_alloc b1
      have HB := Lib.hid (fun o => hB.alloc hB.size o)
      simp only [hcells]
      clear C25 H b1 hR hRo hB
      go_wp2_with (refine wpList_store_head rfl (.tmp 2) (.tmp 21) rfl w.heap.size Pc.hz _ rfl rfl (HRo.out _) rfl ?_)
      exact bodyPost_ret (head_ret Tryd.results59 rfl rfl (HRo.out _)) rfl ⟨rfl, below_setRow (HB.out _) (Nat.le_refl _) _⟩
    · have i1 : ¬ (n : Int) < 24 := by omega
      have c33 := fun g R T L => number_st a n cap xs big w hn hm H.out g R T L
      have C33 := Lib.hid c33
      obtain ⟨A, hA⟩ : ∃ A, Pc.head xs = A := ⟨_, rfl⟩
      rw [hA] at q2 q3 ⊢
      have q2' := q2 (by omega)
      have q3' := q3 (by omega)
      have l16 := Pc.num_lt xs 16 big
      have l20 := Pc.num_lt xs 20 big
      obtain ⟨v16, h16⟩ : ∃ v, Pc.num xs 16 big = v := ⟨_, rfl⟩
      obtain ⟨v20, h20⟩ : ∃ v, Pc.num xs 20 big = v := ⟨_, rfl⟩
      rw [h16] at q3' l16
      rw [h20] at q3' l20
      have H16 := Lib.hid h16
      have H20 := Lib.hid h20
      clear h16 h20
      clear c25 c33 hn q1 q2 q3 hA hr hw
      go_enter Tryd.func59, Tryd.ntmps59
      go_wp2_with fail
      refine (C25.out _ (rowAt_alloc H.out _)).mono ?_
      rintro e w1 ⟨rfl, b1⟩
      have hR := first_kept b1
      have hB := below_alloc b1
      have hRl := lt_of_block hR
      simp only [hcells]
      go_wp2_with fail
      have hT : (w1.alloc (.cells #[.bool big, .bool nano, .int .u32 0, .int .u32 0] 39)).heap[w1.heap.size]? = _ := heap_alloc_new w1 _
      have hR1 : (w1.alloc (.cells #[.bool big, .bool nano, .int .u32 0, .int .u32 0] 39)).heap[w.heap.size]? = _ := block_next hR ((Below.refl _ _).alloc (Nat.le_refl _) _)
      have hB1 : Below w.heap.size w (w1.alloc (.cells #[.bool big, .bool nano, .int .u32 0, .int .u32 0] 39)) := hB.alloc hB.size _
      have hs1 : (w1.alloc (.cells #[.bool big, .bool nano, .int .u32 0, .int .u32 0] 39)).heap.size = w1.heap.size + 1 := by simp
      refine (numbers_any a n cap big _).mono ?_
      rintro e w2 ⟨rfl, n2, b2, _⟩
      unfold numV
      have L : Lies w (w1.alloc (.cells #[.bool big, .bool nano, .int .u32 0, .int .u32 0] 39)).heap.size w.heap.size w1.heap.size := ⟨by have := hB.size; omega, hB.size, by omega, by omega, .inl (by omega)⟩
      have st0 := (⟨n2, Below.trans hB1 (b2.mono (by have := hB.size; omega)), block_next hR1 b2, block_next hT b2⟩ : St w w2 _ w.heap.size w1.heap.size _ _ _ a n cap big 0)
      generalize (w1.alloc (.cells #[.bool big, .bool nano, .int .u32 0, .int .u32 0] 39)).heap.size = G at L st0 ⊢
      have C := Lib.hid (C33.out _ _ _ L)
      have HL := Lib.hid L
      have S0 := Lib.hid st0
      clear hT hR1 hB1 hs1 b2 n2 hR hB hRl b1 C33 C25 H st0 L
      generalize w1.heap.size = T at C HL S0 ⊢
      go_wp2_with fail
      refine (C.out 0 4 (by omega) (by omega) (by omega) _ _ _ _ S0.out).mono ?_
      rintro e w3 ⟨rfl, st3⟩
      have S3 := Lib.hid st3
      clear st3 S0
      go_wp2_with fail
      refine (C.out 4 2 (by omega) (by omega) (by omega) _ _ _ _ S3.out).mono ?_
      rintro e w4 ⟨rfl, st4⟩
      have S4 := Lib.hid st4
      clear st4 S3
      by_cases t2 : Oc.get ((xs.drop 4).take 2) big = 2
      · obtain rfl := q3' t2
        clear q2' q3'
        have u2 : (((Oc.get ((xs.drop 4).take 2) big : Nat) : Int) != 2) = false := by rw [t2]; rfl
        clear t2
        generalize Oc.get ((xs.drop 4).take 2) big = v2 at *
        go_wp2_with fail
        refine (C.out 6 2 (by omega) (by omega) (by omega) _ _ _ _ S4.out).mono ?_
        rintro e w5 ⟨rfl, st5⟩
        have S5 := Lib.hid st5
        clear st5 S4 u2
        go_wp2_with fail
        refine (C.out 8 4 (by omega) (by omega) (by omega) _ _ _ _ S5.out).mono ?_
        rintro e w6 ⟨rfl, st6⟩
        have S6 := Lib.hid st6
        clear st6 S5
        go_wp2_with fail
        refine (C.out 12 4 (by omega) (by omega) (by omega) _ _ _ _ S6.out).mono ?_
        rintro e w7 ⟨rfl, st7⟩
        have S7 := Lib.hid st7
        clear st7 S6
        go_wp2_with fail
        refine (C.out 16 4 (by omega) (by omega) (by omega) _ _ _ _ S7.out).mono ?_
        rintro e w8 ⟨rfl, st8⟩
        have d8 : w8.cell? ⟨T, 2, none⟩ = some (.int .u32 0) := cell_of_row _ _ _ _ _ _ st8.t
        have f8 := frozen_of_row _ _ 2 _ _ st8.t
        have S8 := Lib.hid (st8.set HL.out 2 (.int .u32 (v16 : Nat)))
        clear st8 S7
        rw [show Oc.get ((xs.drop 16).take 4) big = v16 from H16.out]
        go_wp2_with fail
        refine (C.out 20 4 (by omega) (by omega) (by omega) _ _ _ _ S8.out).mono ?_
        rintro e w9 ⟨rfl, st9⟩
        have d9 : w9.cell? ⟨T, 3, none⟩ = some (.int .u32 0) := cell_of_row _ _ _ _ _ _ st9.t
        have f9 := frozen_of_row _ _ 3 _ _ st9.t
        rw [show Oc.get ((xs.drop 20).take 4) big = v20 from H20.out]
        have S9 := Lib.hid (st9.set HL.out 3 (.int .u32 (v20 : Nat)))
        clear st9 S8 d8 f8 C
        go_wp2_with (first | (refine wpList_load_row rfl 39 (.tmp 4) rfl T rfl 39 (hcells ⟨big, nano, v16, v20⟩).toArray (0, 0) _ S9.out.t Tryd.underlying39 rfl info24 ?_) | (refine wpList_store_head rfl (.tmp 2) (.tmp 44) rfl w.heap.size ⟨big, nano, v16, v20⟩ _ rfl rfl S9.out.r rfl ?_))
        exact bodyPost_ret (head_ret Tryd.results59 rfl rfl S9.out.r) rfl ⟨rfl, below_setRow S9.out.bel (Nat.le_refl _) _⟩
      · obtain rfl := q2' t2
        clear q2' q3'
        have u2 : (((Oc.get ((xs.drop 4).take 2) big : Nat) : Int) != 2) = true := by simp; omega
        clear t2
        generalize Oc.get ((xs.drop 4).take 2) big = v2 at *
        go_wp2_with (refine wpList_store_head rfl (.tmp 2) (.tmp 31) rfl w.heap.size Pc.hz _ rfl rfl S4.out.r rfl ?_)
        exact bodyPost_ret (head_ret Tryd.results59 rfl rfl S4.out.r) rfl ⟨rfl, below_setRow S4.out.bel (Nat.le_refl _) _⟩
end Go.Proofs.YtbbnkmhlgfoacaaDoor.S9

namespace Go.Proofs.YtbbnkmhlgfoacaaDoor.S9
open Go.RowKit

/-- A record's cells. -/
def rcells (r : Pc.Rcd) (v : Value) : List Value := [.int .u32 (r.sec : Int), .int .u32 (r.frac : Int), .int .u32 (r.len : Int), v]
theorem info46 : (Tryd.prog.info? 44).map (·.size) = some 4 := by kernel_rfl
theorem rcells_one (r : Pc.Rcd) (p : Option Addr) (n c : Nat) : (rcells r (.slice p n c)).toArray.all (·.oneCell') = true := by rw [List.all_toArray]; simp [rcells, Value.oneCell']

/-- Three results, the first one in a cell. -/
theorem results_cell_tmps_row {P : Program} {fn : Func} {q q2 p : Tmp} {ty : TypeId} (h : fn.results = #[.cell p ty, .tmp q, .tmp q2]) (tmps : Array Value) (w : World) (g : Nat) (t : TypeId) (cs : Array Value) (fr : Nat × Nat) (d : TypeDesc)
    (hp : tmps.getD p undef = .pointer (some ⟨g, 0, none⟩)) (hg : w.heap[g]? = some (.cells cs t fr))
    (hu : P.underlying ty = some d) (hd : (match d with | .struct _ | .array _ _ => true | _ => false) = true) (hi : (P.info? ty).map (·.size) = some cs.size) :
    (results fn tmps).run P w = .ok (.tuple #[.agg cs, tmps.getD q undef, tmps.getD q2 undef]) w := by
  have hp' : tmps[p]?.getD undef = .pointer (some ⟨g, 0, none⟩) := by simpa using hp
  simp [results, h, hp', asAddr, run_loadVar_row w g t ty cs fr d hg hu hd hi]

theorem wpList_store_rec {w : World} {ops : Array Oper} {rest : List Oper} {o : Oper} {a : Act} {Q : Exit → Act → World → Prop} (hgd : o.guard = none) (x y : Operand) (ho : o.op = .store 44 x y) (R : Nat) (r : Pc.Rcd) (p : Option Addr) (n c : Nat) (cur : Array Value)
    (hx : a.eval x = .pointer (some ⟨R, 0, none⟩)) (hy : a.eval y = .agg (rcells r (.slice p n c)).toArray) (hR : w.heap[R]? = some (.cells cur 44 (0, 0))) (hcur : cur.size = 4)
    (h : wpList Tryd.prog ops Q rest (a.put o.dst undef) (w.setRow R (rcells r (.slice p n c)).toArray)) : wpList Tryd.prog ops Q (o :: rest) a w :=
  wpList_store_row hgd 44 x y ho R _ hx hy 44 cur hR info46 hcur (rcells_one r p n c) h

/-- A record that is answered, its size and the error. -/
def NextRes (w w' : World) (e : Ending) (A : Pc.Rcd × Nat × Nat) : Prop :=
  ∃ v, e = .returned (.tuple #[.agg (rcells A.1 v).toArray, .int .i64 (A.2.1 : Int), .int .i64 (A.2.2 : Int)]) ∧ w'.ownsRow w.heap.size 5 1 v A.1.data.length (Lib.byteCells A.1.data) ∧ Below w.heap.size w w'
theorem rec_ret {w' : World} {fn : Func} {q q2 p : Tmp} {R : Nat} {r : Pc.Rcd} {k e : Nat} {v : Value} {tmps : Array Value} {cs : Array Value} (h : fn.results = #[.cell p 44, .tmp q, .tmp q2]) (hp : tmps.getD p undef = .pointer (some ⟨R, 0, none⟩)) (hq : tmps.getD q undef = .int .i64 (k : Int)) (hq2 : tmps.getD q2 undef = .int .i64 (e : Int)) (hR : w'.heap[R]? = some (.cells cs 44 (0, 0))) :
    (results fn tmps).run Tryd.prog (w'.setRow R (rcells r v).toArray) = .ok (.tuple #[.agg (rcells r v).toArray, .int .i64 (k : Int), .int .i64 (e : Int)]) (w'.setRow R (rcells r v).toArray) := by
  have := results_cell_tmps_row (P := Tryd.prog) h tmps (w'.setRow R (rcells r v).toArray) R 44 _ _ _ hp (setRow_heap _ _ _ _ _ _ hR) Tryd.underlying44 rfl info46
  rw [hq, hq2] at this
  exact this
theorem rec_ret0 {w : World} {fn : Func} {q q2 p : Tmp} {r : Pc.Rcd} {k e : Nat} {v : Value} {tmps : Array Value} (h : fn.results = #[.cell p 44, .tmp q, .tmp q2]) (hp : tmps.getD p undef = .pointer (some ⟨w.heap.size, 0, none⟩)) (hq : tmps.getD q undef = .int .i64 (k : Int)) (hq2 : tmps.getD q2 undef = .int .i64 (e : Int)) :
    (results fn tmps).run Tryd.prog (w.alloc (.cells (rcells r v).toArray 44)) = .ok (.tuple #[.agg (rcells r v).toArray, .int .i64 (k : Int), .int .i64 (e : Int)]) (w.alloc (.cells (rcells r v).toArray 44)) := by
  have := results_cell_tmps_row (P := Tryd.prog) h tmps (w.alloc (.cells (rcells r v).toArray 44)) w.heap.size 44 _ _ _ hp (heap_alloc_new w _) Tryd.underlying44 rfl info46
  rw [hq, hq2] at this
  exact this
theorem next_none {w w' : World} {k e : Nat} (b : Below w.heap.size w w') : NextRes w w' (.returned (.tuple #[.agg (rcells Pc.rz (.slice none 0 0)).toArray, .int .i64 (k : Int), .int .i64 (e : Int)])) (Pc.rz, k, e) := ⟨_, rfl, World.ownsRow_nil _ _ _ _, b⟩
theorem ownsRow_setRow {w : World} {B n g : Nat} {v : Value} {xs : List Value} (h : w.ownsRow B 5 1 v n xs) (hg : g < B) (cs : Array Value) : (w.setRow g cs).ownsRow B 5 1 v n xs := by
  refine ⟨h.1, ?_⟩
  rcases h.2 with h2 | ⟨q, cap, cur, e, hB, hq, hr⟩
  · exact .inl h2
  · exact .inr ⟨q, cap, cur, e, hB, by rw [setRow_other _ _ _ _ (by omega)]; exact hq, hr⟩
theorem ownsRow_set {w : World} {B n g i : Nat} {v u : Value} {xs : List Value} (h : w.ownsRow B 5 1 v n xs) (hg : g < B) : (w.setCell ⟨g, i, none⟩ u).ownsRow B 5 1 v n xs := by
  refine ⟨h.1, ?_⟩
  rcases h.2 with h2 | ⟨q, cap, cur, e, hB, hq, hr⟩
  · exact .inl h2
  · exact .inr ⟨q, cap, cur, e, hB, by rw [heap_setCell_other _ _ _ _ (by simp; omega)]; exact hq, hr⟩

set_option maxHeartbeats 2000000 in
theorem next_any (a : Option Addr) (n cap : Nat) (xs : List UInt8) (big : Bool) (w : World) (hn : xs.length = n) (hm : n ≤ 300000) (h : RowAt w a cap xs) :
    Calls Tryd.prog 60 #[.slice a n cap, .bool big] w fun e w' => NextRes w w' e (Pc.next xs big) := by
  by_cases h16 : n < 16
  · rw [Pc.next_end xs big (by omega)]
    have i1 : (n : Int) < 16 := by omega
    go_enter Tryd.func60, Tryd.ntmps60
    go_wp2
    exact bodyPost_ret (rec_ret0 (r := Pc.rz) (v := .slice none 0 0) Tryd.results60 rfl rfl rfl) rfl (next_none ((Below.refl _ _).alloc (Nat.le_refl _) _))
  · have i1 : ¬ (n : Int) < 16 := by omega
    have q1 := Pc.next_long xs big (by omega)
    have q2 := Pc.next_short xs big (by omega)
    have q3 := Pc.next_good xs big (by omega)
    have l0 := Pc.num_lt xs 0 big
    have l4 := Pc.num_lt xs 4 big
    have l8 := Pc.num_lt xs 8 big
    have l12 := Pc.num_lt xs 12 big
    obtain ⟨A, hA⟩ : ∃ A, Pc.next xs big = A := ⟨_, rfl⟩
    obtain ⟨v0, h0⟩ : ∃ v, Pc.num xs 0 big = v := ⟨_, rfl⟩
    obtain ⟨v4, h4⟩ : ∃ v, Pc.num xs 4 big = v := ⟨_, rfl⟩
    obtain ⟨v8, h8⟩ : ∃ v, Pc.num xs 8 big = v := ⟨_, rfl⟩
    obtain ⟨v12, h12⟩ : ∃ v, Pc.num xs 12 big = v := ⟨_, rfl⟩
    rw [hA] at q1 q2 q3 ⊢
    rw [h8] at q1 q2
    rw [h0, h4, h8, h12] at q3
    rw [h0] at l0
    rw [h4] at l4
    rw [h8] at l8
    rw [h12] at l12
    rw [hn] at q2 q3
    have E0 := Lib.hid h0
    have E4 := Lib.hid h4
    have E8 := Lib.hid h8
    have E12 := Lib.hid h12
    have H := Lib.hid h
    have C33 := Lib.hid (fun g R T L => number_st a n cap xs big w hn hm H.out g R T L)
    have c29 : ¬ n < 16 + v8 → ∀ W, RowAt W a cap xs → _ := fun hle W h => cut_good a cap xs 16 v8 W (by omega) (by omega) h
    have c29b : n < 16 + v8 → ∀ W, _ := fun hle W => cut_bad a n cap 16 (v8 : Int) W (by omega) (by omega) (by omega) (.inr (.inr (by omega)))
    have hys : ¬ n < 16 + v8 → ((xs.drop 16).take v8).length = v8 := fun hle => by simp; omega
    rw [hn] at c29
    generalize (xs.drop 16).take v8 = ys at *
    have Q1 := Lib.hid q1
    have Q2 := Lib.hid q2
    have Q3 := Lib.hid q3
    have C29 := Lib.hid c29
    have C29b := Lib.hid c29b
    have Hys := Lib.hid hys
    clear h0 h4 h8 h12 h hA hn q1 q2 q3 c29 c29b hys
    go_enter Tryd.func60, Tryd.ntmps60
    go_wp2_with fail
    refine (numbers_any a n cap big _).mono ?_
    rintro e w2 ⟨rfl, n2, b2, s2⟩
    unfold numV
    have hR2 := first_kept b2
    have hB2 := below_alloc b2
    have hs1 : (w.alloc (.cells #[.int .u32 0, .int .u32 0, .int .u32 0, .slice none 0 0] 44)).heap.size = w.heap.size + 1 := by simp
    rw [hs1] at n2 s2 ⊢
    have hT : (w2.alloc (.cells #[.int .u32 0, .int .u32 0, .int .u32 0, .slice none 0 0] 44)).heap[w2.heap.size]? = _ := heap_alloc_new w2 _
    have b3 : Below w2.heap.size w2 (w2.alloc (.cells #[.int .u32 0, .int .u32 0, .int .u32 0, .slice none 0 0] 44)) := (Below.refl _ _).alloc (Nat.le_refl _) _
    have L : Lies w (w.heap.size + 1) w.heap.size w2.heap.size := ⟨by omega, hB2.size, by omega, by omega, .inr (by omega)⟩
    have st0 := (⟨⟨block_next n2.src b3, block_next n2.ord b3, block_next n2.place b3⟩, Below.chain hB2 b3, block_next hR2 b3, hT⟩ : St w _ (w.heap.size + 1) w.heap.size w2.heap.size _ _ _ a n cap big 0)
    have C := Lib.hid (C33.out _ _ _ L)
    have HL := Lib.hid L
    have S0 := Lib.hid st0
    clear hT b3 L st0 hB2 hR2 n2 b2 s2 hs1 C33
    go_wp2_with fail
    generalize w2.alloc (.cells #[.int .u32 0, .int .u32 0, .int .u32 0, .slice none 0 0] 44) = W at S0 ⊢
    generalize w2.heap.size = T at C HL S0 ⊢
    refine (C.out 0 4 (by omega) (by omega) (by omega) _ _ _ _ S0.out).mono ?_
    rintro e w3 ⟨rfl, st3⟩
    rw [show Oc.get ((xs.drop 0).take 4) big = v0 from E0.out]
    have d3 : w3.cell? ⟨T, 0, none⟩ = some (.int .u32 0) := cell_of_row _ _ _ _ _ _ st3.t
    have f3 := frozen_of_row _ _ 0 _ _ st3.t
    have S3 := Lib.hid (st3.set HL.out 0 (.int .u32 (v0 : Nat)))
    clear st3 S0
    go_wp2_with fail
    refine (C.out 4 4 (by omega) (by omega) (by omega) _ _ _ _ S3.out).mono ?_
    rintro e w4 ⟨rfl, st4⟩
    rw [show Oc.get ((xs.drop 4).take 4) big = v4 from E4.out]
    have d4 : w4.cell? ⟨T, 1, none⟩ = some (.int .u32 0) := cell_of_row _ _ _ _ _ _ st4.t
    have f4 := frozen_of_row _ _ 1 _ _ st4.t
    have S4 := Lib.hid (st4.set HL.out 1 (.int .u32 (v4 : Nat)))
    clear st4 S3 d3 f3
    go_wp2_with fail
    refine (C.out 8 4 (by omega) (by omega) (by omega) _ _ _ _ S4.out).mono ?_
    rintro e w5 ⟨rfl, st5⟩
    rw [show Oc.get ((xs.drop 8).take 4) big = v8 from E8.out]
    have S5 := Lib.hid st5
    clear st5 S4 d4 f4
    go_wp2_with fail
    refine (C.out 12 4 (by omega) (by omega) (by omega) _ _ _ _ S5.out).mono ?_
    rintro e w6 ⟨rfl, st6⟩
    rw [show Oc.get ((xs.drop 12).take 4) big = v12 from E12.out]
    have d6 : w6.cell? ⟨T, 2, none⟩ = some (.int .u32 0) := cell_of_row _ _ _ _ _ _ st6.t
    have f6 := frozen_of_row _ _ 2 _ _ st6.t
    have S6 := Lib.hid (st6.set HL.out 2 (.int .u32 (v12 : Nat)))
    clear st6 S5 C
    by_cases u1 : 131072 < v8
    · obtain rfl := Q1.out u1
      clear Q1 Q2 Q3 C29 C29b Hys
      have j1 : 131072 < (v8 : Int) := by omega
      go_wp2_with (refine wpList_store_rec rfl (.tmp 4) (.tmp 33) rfl w.heap.size Pc.rz none 0 0 _ rfl rfl S6.out.r rfl ?_)
      exact bodyPost_ret (rec_ret (r := Pc.rz) (v := .slice none 0 0) Tryd.results60 rfl rfl rfl S6.out.r) rfl (next_none (below_setRow S6.out.bel (Nat.le_refl _) _))
    · have j1 : ¬ 131072 < (v8 : Int) := by omega
      have hw8 : IntKind.i64.wrap (v8 : Int) = (v8 : Int) := by rw [IntKind.wrap_i64]; omega
      by_cases u2 : n < 16 + v8
      · obtain rfl := Q2.out u1 u2
        clear Q1 Q2 Q3 C29 Hys
        go_wp2_with fail
        refine (C29b.out u2 _).mono ?_
        rintro e w7 ⟨rfl, h7⟩
        rw [h7]
        clear h7 C29b
        go_wp2_with (refine wpList_store_rec rfl (.tmp 4) (.tmp 43) rfl w.heap.size Pc.rz none 0 0 _ rfl rfl S6.out.r rfl ?_)
        exact bodyPost_ret (rec_ret (r := Pc.rz) (v := .slice none 0 0) Tryd.results60 rfl rfl rfl S6.out.r) rfl (next_none (below_setRow S6.out.bel (Nat.le_refl _) _))
      · obtain rfl := Q3.out u1 u2
        have hy := Hys.out u2
        clear Q1 Q2 Q3 C29b Hys
        go_wp2_with fail
        refine (C29.out u2 _ (H.out.next S6.out.bel)).mono ?_
        rintro e w7 ⟨v, rfl, o7, b7⟩
        have st7 := S6.out
        have hlt := lt_of_block st7.t
        have hge := st7.bel.size
        have hT7 := block_next st7.t b7
        have hR7 := block_next st7.r b7
        have B7 := Lib.hid (Below.chain st7.bel b7)
        have hrl := lt_of_block st7.r
        have o8 := ownsRow_set (i := 3) (u := v) o7 hlt
        have d7 : w7.cell? ⟨T, 3, none⟩ = some (.slice none 0 0) := cell_of_row _ _ _ _ _ _ hT7
        have f7 := frozen_of_row _ _ 3 _ _ hT7
        have hT8 := heap_setCell_same w7 T 3 _ _ v hT7
        have hR8 : (w7.setCell ⟨T, 3, none⟩ v).heap[w.heap.size]? = _ := (heap_setCell_other w7 _ _ v HL.out.rt).trans hR7
        have B8 := Lib.hid (B7.out.setCell (p := ⟨T, 3, none⟩) HL.out.tt v)
        have HT8 := Lib.hid hT8
        have HR8 := Lib.hid hR8
        have O8 := Lib.hid (ownsRow_lower (ownsRow_setRow o8 hrl (rcells ⟨v0, v4, v12, ys⟩ v).toArray) hge)
        obtain ⟨p, c, rfl, _⟩ := rowAt_own hy o7
        clear st7 hT7 hR7 o7 o8 b7 S6 B7 hT8 hR8 C29
        go_wp2_with (first | (refine wpList_load_row rfl 44 (.tmp 8) rfl T rfl 44 (rcells ⟨v0, v4, v12, ys⟩ (.slice p v8 c)).toArray (0, 0) _ HT8.out Tryd.underlying44 rfl info46 ?_) | (refine wpList_store_rec rfl (.tmp 4) (.tmp 46) rfl w.heap.size ⟨v0, v4, v12, ys⟩ p v8 c _ rfl rfl HR8.out rfl ?_))
        refine bodyPost_ret (rec_ret (k := 16 + v8) (e := 0) (r := ⟨v0, v4, v12, ys⟩) (v := .slice p v8 c) Tryd.results60 rfl ?_ rfl HR8.out) rfl ⟨_, rfl, by rw [← hy] at O8 ⊢; exact O8.out, below_setRow B8.out (Nat.le_refl _) _⟩
        show Value.int .i64 _ = _
        first | rfl | (congr 1; omega)
end Go.Proofs.YtbbnkmhlgfoacaaDoor.S9

namespace Go.Proofs.YtbbnkmhlgfoacaaDoor.S9
open Go.RowKit

theorem own_apart {w : World} {B B' e e' s s' n m : Nat} {v d : Value} {xs ys : List Value} (h : w.ownsRow B e s v n xs) (h' : w.ownsRow B' e' s' d m ys) (hne : e ≠ e') : d.ownBlock = none ∨ d.ownBlock ≠ v.ownBlock := by
  rcases h'.2 with ⟨rfl, _⟩ | ⟨g, cap, cur, rfl, _, hg, _⟩
  · exact .inl rfl
  · right
    intro e1
    rcases h.2 with ⟨rfl, _⟩ | ⟨g2, cap2, cur2, rfl, _, hg2, _⟩
    · simp [Value.ownBlock] at e1
    · simp [Value.ownBlock] at e1
      subst e1
      rw [hg] at hg2
      simp at hg2
      first
      | exact hne hg2.2
      | exact hne hg2.2.symm
theorem own_kept {w w' : World} {B e s n q : Nat} {v : Value} {xs : List Value} (h : w.ownsRow B e s v n xs) (hg : w.grownBy w' (some q)) (hq : q < B) : w'.ownsRow B e s v n xs := by
  refine h.kept hg ?_
  cases hv : v.ownBlock with
  | none => exact .inl rfl
  | some k => right; intro e1; have := (h.lt k hv).1; simp at e1; omega
theorem own_slice {w : World} {B e s n : Nat} {v : Value} {xs : List Value} (h : w.ownsRow B e s v n xs) : ∃ a c, v = .slice a n c := by
  rcases h.2 with ⟨rfl, rfl⟩ | ⟨g, cap, cur, rfl, _⟩
  · exact ⟨none, 0, rfl⟩
  · exact ⟨_, cap, rfl⟩

/-- The cells of a record, in a row of them. -/
structure CellsAt (xs : List Value) (j : Nat) (r : Pc.Rcd) (d : Value) : Prop where
  sec : xs[j * 4]? = some (.int .u32 (r.sec : Int))
  frac : xs[j * 4 + 1]? = some (.int .u32 (r.frac : Int))
  len : xs[j * 4 + 2]? = some (.int .u32 (r.len : Int))
  data : xs[j * 4 + 3]? = some d
/-- A list of records that was made, all of it from B on. -/
def Recs (w : World) (B : Nat) (v : Value) (L : List Pc.Rcd) : Prop :=
  ∃ xs : List Value, w.ownsRow B 44 4 v L.length xs ∧ ∀ j (h : j < L.length), ∃ d, CellsAt xs j L[j] d ∧ w.ownsRow B 5 1 d L[j].data.length (Lib.byteCells L[j].data)
theorem recs_none (w : World) (B : Nat) : Recs w B (.slice none 0 0) [] := ⟨[], World.ownsRow_nil _ _ _ _, (fun _ h => by simp at h)⟩
theorem Recs.next {w w' : World} {B : Nat} {v : Value} {L : List Pc.Rcd} (h : Recs w B v L) (hb : Below w.heap.size w w') : Recs w' B v L := by
  obtain ⟨xs, ho, he⟩ := h
  refine ⟨xs, ownsRow_next ho hb, fun j hj => ?_⟩
  obtain ⟨d, h1, h2⟩ := he j hj
  exact ⟨d, h1, ownsRow_next h2 hb⟩
theorem Recs.kept {w w' : World} {B q : Nat} {v : Value} {L : List Pc.Rcd} (h : Recs w B v L) (hg : w.grownBy w' (some q)) (hq : q < B) : Recs w' B v L := by
  obtain ⟨xs, ho, he⟩ := h
  refine ⟨xs, own_kept ho hg hq, fun j hj => ?_⟩
  obtain ⟨d, h1, h2⟩ := he j hj
  exact ⟨d, h1, own_kept h2 hg hq⟩
theorem Recs.lower {w : World} {B B' : Nat} {v : Value} {L : List Pc.Rcd} (h : Recs w B v L) (hb : B' ≤ B) : Recs w B' v L := by
  obtain ⟨xs, ho, he⟩ := h
  refine ⟨xs, ownsRow_lower ho hb, fun j hj => ?_⟩
  obtain ⟨d, h1, h2⟩ := he j hj
  exact ⟨d, h1, ownsRow_lower h2 hb⟩
theorem recs_slice {w : World} {B : Nat} {v : Value} {L : List Pc.Rcd} (h : Recs w B v L) : ∃ a c, v = .slice a L.length c := by
  obtain ⟨xs, ho, _⟩ := h
  exact own_slice ho

theorem info46z : (Tryd.prog.info? 44).map (fun i => (i.zero, i.size, i.bytes)) = some (some (.agg #[.int .u32 0, .int .u32 0, .int .u32 0, .slice none 0 0]), 4, 40) := by kernel_rfl
theorem wpList_append_recs {w : World} {ops : Array Oper} {rest : List Oper} {o : Oper} {a : Act} {Q : Exit → Act → World → Prop} (hgd : o.guard = none) (s x : Operand)
    (ho : o.op = .call { callee := .builtin .append, args := #[s, x], argTypes := #[40, 40] })
    (B : Nat) (v : Value) (L : List Pc.Rcd) (r : Pc.Rcd) (d : Value) (g : Nat) (hs : a.eval s = v) (hx : a.eval x = .slice (some ⟨g, 0, none⟩) 1 1) (hL : Recs w B v L)
    (hd : w.ownsRow B 5 1 d r.data.length (Lib.byteCells r.data)) (hg : w.heap[g]? = some (.cells (rcells r d).toArray 44 (0, 0))) (hB : B ≤ w.heap.size) (hlen : L.length ≤ 1000000)
    (h : ∀ v' w', Recs w' B v' (L ++ [r]) → w.grownBy w' v.ownBlock → (∀ k, v.ownBlock = some k → B ≤ k) → wpList Tryd.prog ops Q rest (a.put o.dst v') w') : wpList Tryd.prog ops Q (o :: rest) a w := by
  obtain ⟨i0, hi, hz0, hz1, hz2⟩ := info_parts info46z
  obtain ⟨xs, hown, he⟩ := hL
  obtain ⟨p, c, rfl⟩ := own_slice hd
  refine wpList_append_own w hgd s x 40 ho B 44 i0 _ 4 40 Tryd.underlying40 hi hz0 hz1 hz2 rfl (by decide) v L.length xs hs hown ⟨g, 0, none⟩ 1 1 (rcells r (.slice p r.data.length c)) hx rfl (fun j u hu => ?_) (fun u hu => ?_) (by unfold maxLen; omega) (by omega) hB ?_
  · rw [Go.WideShapes.add_plain, cell_of_row _ _ _ _ _ _ hg]; simpa using hu
  · simp only [rcells, List.mem_cons, List.not_mem_nil, or_false] at hu
    rcases hu with rfl | rfl | rfl | rfl <;> rfl
  · intro v' w' o2 g2 _
    have hl : xs.length = L.length * 4 := hown.1
    refine h v' w' ⟨xs ++ rcells r (.slice p r.data.length c), by rw [List.length_append]; exact o2, fun j hj => ?_⟩ g2 (fun k hk => (hown.lt k hk).1)
    by_cases hjl : j < L.length
    · obtain ⟨d', h1, h2⟩ := he j hjl
      rw [List.getElem_append_left hjl]
      refine ⟨d', ⟨?_, ?_, ?_, ?_⟩, h2.kept g2 (own_apart hown h2 (by decide))⟩
      · rw [List.getElem?_append_left (by omega)]; exact h1.sec
      · rw [List.getElem?_append_left (by omega)]; exact h1.frac
      · rw [List.getElem?_append_left (by omega)]; exact h1.len
      · rw [List.getElem?_append_left (by omega)]; exact h1.data
    · have hj2 : j = L.length := by simp at hj; omega
      subst hj2
      rw [List.getElem_append_right (Nat.le_refl _)]
      simp only [Nat.sub_self, List.getElem_cons_zero]
      refine ⟨.slice p r.data.length c, ⟨?_, ?_, ?_, ?_⟩, hd.kept g2 (own_apart hown hd (by decide))⟩
      · rw [List.getElem?_append_right (by omega), hl]; simp [rcells]
      · rw [List.getElem?_append_right (by omega), hl]; simp [rcells]
      · rw [List.getElem?_append_right (by omega), hl]; simp [rcells]
      · rw [List.getElem?_append_right (by omega), hl]; simp [rcells]

/-- Records in memory, wherever they lie. -/
structure RecAt (w : World) (b k : Nat) (r : Pc.Rcd) (p : Option Addr) (c : Nat) : Prop where
  sec : w.cell? ⟨b, k, none⟩ = some (.int .u32 (r.sec : Int))
  frac : w.cell? ⟨b, k + 1, none⟩ = some (.int .u32 (r.frac : Int))
  len : w.cell? ⟨b, k + 2, none⟩ = some (.int .u32 (r.len : Int))
  data : w.cell? ⟨b, k + 3, none⟩ = some (.slice p r.data.length c)
  row : RowAt w p c r.data
  ok : r.Ok
def RecsAt (w : World) (a : Option Addr) (L : List Pc.Rcd) : Prop :=
  L = [] ∨ ∃ b off, a = some ⟨b, off, none⟩ ∧ b < w.heap.size ∧ ∀ j (h : j < L.length), ∃ p c, RecAt w b (off + j * 4) L[j] p c
theorem RecAt.next {w w' : World} {b k : Nat} {r : Pc.Rcd} {p : Option Addr} {c : Nat} (h : RecAt w b k r p c) (hl : b < w.heap.size) (hb : Below w.heap.size w w') : RecAt w' b k r p c := by
  have e : ∀ i, w'.cell? ⟨b, i, none⟩ = w.cell? ⟨b, i, none⟩ := fun i => hb.cell (p := ⟨b, i, none⟩) hl
  exact ⟨by rw [e]; exact h.sec, by rw [e]; exact h.frac, by rw [e]; exact h.len, by rw [e]; exact h.data, h.row.next hb, h.ok⟩
theorem RecsAt.next {w w' : World} {a : Option Addr} {L : List Pc.Rcd} (h : RecsAt w a L) (hb : Below w.heap.size w w') : RecsAt w' a L := by
  rcases h with rfl | ⟨b, off, rfl, h1, h2⟩
  · exact .inl rfl
  · refine .inr ⟨b, off, rfl, Nat.lt_of_lt_of_le h1 hb.size, fun j hj => ?_⟩
    obtain ⟨p, c, h3⟩ := h2 j hj
    exact ⟨p, c, h3.next h1 hb⟩
theorem Recs.at {w : World} {B : Nat} {v : Value} {L : List Pc.Rcd} (h : Recs w B v L) (hok : ∀ r ∈ L, r.Ok) : ∃ a c, v = .slice a L.length c ∧ RecsAt w a L := by
  obtain ⟨xs, ho, he⟩ := h
  rcases ho.2 with ⟨rfl, h0⟩ | ⟨g, cap, cur, rfl, hb, hg, _⟩
  · exact ⟨none, 0, by rw [h0], .inl (List.eq_nil_of_length_eq_zero h0)⟩
  · refine ⟨_, cap, rfl, .inr ⟨g, 0, rfl, lt_of_block hg, fun j hj => ?_⟩⟩
    obtain ⟨d, h1, h2⟩ := he j hj
    obtain ⟨p, c, rfl, hr⟩ := rowAt_own rfl h2
    have e := ho.cells (g := g) rfl
    simp only [Go.WideShapes.add_plain] at e
    exact ⟨p, c, e _ _ h1.sec, by rw [Nat.add_assoc]; exact e _ _ h1.frac, by rw [Nat.add_assoc]; exact e _ _ h1.len, by rw [Nat.add_assoc]; exact e _ _ h1.data, hr, hok _ (List.getElem_mem hj)⟩

/-- A place and an error. -/
def scells (k e : Nat) : List Value := [.int .i64 (k : Int), .int .i64 (e : Int)]
theorem info36 : (Tryd.prog.info? 33).map (·.size) = some 2 := by kernel_rfl
theorem scells_one (k e : Nat) : (scells k e).toArray.all (·.oneCell') = true := by rw [List.all_toArray]; simp [scells, Value.oneCell']
theorem wpList_store_spot {w : World} {ops : Array Oper} {rest : List Oper} {o : Oper} {a : Act} {Q : Exit → Act → World → Prop} (hgd : o.guard = none) (x y : Operand) (ho : o.op = .store 33 x y) (R k e : Nat) (cur : Array Value)
    (hx : a.eval x = .pointer (some ⟨R, 0, none⟩)) (hy : a.eval y = .agg (scells k e).toArray) (hR : w.heap[R]? = some (.cells cur 33 (0, 0))) (hcur : cur.size = 2)
    (h : wpList Tryd.prog ops Q rest (a.put o.dst undef) (w.setRow R (scells k e).toArray)) : wpList Tryd.prog ops Q (o :: rest) a w :=
  wpList_store_row hgd 33 x y ho R _ hx hy 33 cur hR info36 hcur (scells_one k e) h
/-- Three results, the first and the third in cells. -/
theorem results_cell_tmp_cell {P : Program} {fn : Func} {q p p2 : Tmp} {ty ty2 : TypeId} (h : fn.results = #[.cell p ty, .tmp q, .cell p2 ty2]) (tmps : Array Value) (w : World) (g g2 : Nat) (t t2 : TypeId) (cs cs2 : Array Value) (fr fr2 : Nat × Nat) (d d2 : TypeDesc)
    (hp : tmps.getD p undef = .pointer (some ⟨g, 0, none⟩)) (hg : w.heap[g]? = some (.cells cs t fr))
    (hu : P.underlying ty = some d) (hd : (match d with | .struct _ | .array _ _ => true | _ => false) = true) (hi : (P.info? ty).map (·.size) = some cs.size)
    (hp2 : tmps.getD p2 undef = .pointer (some ⟨g2, 0, none⟩)) (hg2 : w.heap[g2]? = some (.cells cs2 t2 fr2))
    (hu2 : P.underlying ty2 = some d2) (hd2 : (match d2 with | .struct _ | .array _ _ => true | _ => false) = true) (hi2 : (P.info? ty2).map (·.size) = some cs2.size) :
    (results fn tmps).run P w = .ok (.tuple #[.agg cs, tmps.getD q undef, .agg cs2]) w := by
  have hp' : tmps[p]?.getD undef = .pointer (some ⟨g, 0, none⟩) := by simpa using hp
  have hp2' : tmps[p2]?.getD undef = .pointer (some ⟨g2, 0, none⟩) := by simpa using hp2
  simp [results, h, hp', hp2', asAddr, run_loadVar_row w g t ty cs fr d hg hu hd hi, run_loadVar_row w g2 t2 ty2 cs2 fr2 d2 hg2 hu2 hd2 hi2]
/-- What Read tells. -/
def ReadRes (w w' : World) (e : Ending) (A : Pc.Hdr × List Pc.Rcd × Nat × Nat) : Prop :=
  ∃ v, e = .returned (.tuple #[.agg (hcells A.1).toArray, v, .agg (scells A.2.2.1 A.2.2.2).toArray]) ∧ Recs w' w.heap.size v A.2.1 ∧ Below w.heap.size w w'
theorem grown_row (w : World) (q : Nat) (cs : Array Value) : w.grownBy (w.setRow q cs) (some q) :=
  ⟨rfl, rfl, rfl, by rw [setRow_size]; exact Nat.le_refl _, fun k _ hne => setRow_other _ _ _ _ (fun e => hne (by rw [e]))⟩
theorem run_store_rec {w : World} {o : Oper} {a : Act} (x y : Operand) (ho : o.op = .store 44 x y) (R : Nat) (r : Pc.Rcd) (p : Option Addr) (n c : Nat) (cur : Array Value)
    (hx : a.eval x = .pointer (some ⟨R, 0, none⟩)) (hy : a.eval y = .agg (rcells r (.slice p n c)).toArray) (hR : w.heap[R]? = some (.cells cur 44 (0, 0))) (hcur : cur.size = 4) :
    (execOp a.eval o).run Tryd.prog w = .ok .skip (w.setRow R (rcells r (.slice p n c)).toArray) := by
  have h := run_storeVar_row (P := Tryd.prog) w R 44 44 cur (rcells r (.slice p n c)).toArray hR info46 hcur (rcells_one r p n c)
  unfold execOp
  simp only [ho, hx, hy, Instr.storeAt, Instr.sureAddr, Sem.run_bind, Sem.run_pure, Result.andThen_ok, h]
end Go.Proofs.YtbbnkmhlgfoacaaDoor.S9

namespace Go.Proofs.YtbbnkmhlgfoacaaDoor.S9
open Go.RowKit

set_option maxRecDepth 100000 in
set_option maxHeartbeats 4000000 in
theorem read_any (a : Option Addr) (n cap : Nat) (xs : List UInt8) (w : World) (hn : xs.length = n) (hm : n ≤ 300000) (h : RowAt w a cap xs) :
    Calls Tryd.prog 38 #[.slice a n cap] w fun e w' => ReadRes w w' e (Pc.read xs) := by
  have c15 := fun W h => head_any a n cap xs W hn hm h
  have hk := Pc.head_known xs
  obtain ⟨A, hA⟩ : ∃ A, Pc.read xs = A := ⟨_, rfl⟩
  rw [hA]
  have q1 := Pc.read_bad xs (Pc.head xs).2 (Pc.head xs).1 rfl
  have q2 := Pc.read_good xs (Pc.head xs).1
  rw [hA] at q1 q2
  clear hA
  have H := Lib.hid h
  clear h
  by_cases he : (Pc.head xs).2 = 0
  · have hA := q2 (by rw [← he])
    clear q1 q2
    generalize Pc.head xs = M at *
    obtain ⟨m, r⟩ := M
    simp only at he hA c15
    subst he
    have C15 := Lib.hid c15
    have HA := Lib.hid hA
    have Hn := Lib.hid hn
    clear c15 hA hk hn
    go_enter Tryd.func38, Tryd.ntmps38
    go_wp2_with fail
    have h0 := two_blocks w (.cells #[.bool false, .bool false, .int .u32 0, .int .u32 0] 39) (.cells #[.int .i64 0, .int .i64 0] 33)
    refine (C15.out _ (H.out.next h0.2.2)).mono ?_
    rintro e w1 ⟨rfl, b1⟩
    have hR := block_next h0.1 b1
    have hR2 := block_next h0.2.1 b1
    have hB := Below.chain h0.2.2 b1
    clear h0 b1 C15
    simp only [hcells]
    go_wp2_with fail
    have hT : (w1.alloc (.cells #[.bool m.big, .bool m.nano, .int .u32 (m.snap : Int), .int .u32 (m.link : Int)] 39)).heap[w1.heap.size]? = some (.cells (hcells m).toArray 39 (0, 0)) := heap_alloc_new w1 _
    have b1 : Below w1.heap.size w1 (w1.alloc (.cells #[.bool m.big, .bool m.nano, .int .u32 (m.snap : Int), .int .u32 (m.link : Int)] 39)) := (Below.refl _ _).alloc (Nat.le_refl _) _
    have hR' := block_next hR b1
    have hR2' := block_next hR2 b1
    have hB' := Below.chain hB b1
    have hTR : w.heap.size + 1 < w1.heap.size := lt_of_block hR2
    clear hR hR2 hB b1
    generalize w1.alloc (.cells #[.bool m.big, .bool m.nano, .int .u32 (m.snap : Int), .int .u32 (m.link : Int)] 39) = W at *
    generalize w1.heap.size = T at *
    have hTW := lt_of_block hT
    go_loopw [7, 8] (fun v i wr => ∃ (k : Nat) (pre : List Pc.Rcd), 24 ≤ k ∧ i = .int .i64 (k : Int) ∧ k ≤ 300000 ∧ pre.length ≤ k ∧ Hid (A = (m, pre ++ (Pc.rdr (xs.drop k) m.big k).1, (Pc.rdr (xs.drop k) m.big k).2)) ∧ Recs wr W.heap.size v pre ∧ Below W.heap.size W wr) (fun _ i _ => n - (intOf i).toNat)
    case atStart => exact ⟨24, [], Nat.le_refl _, rfl, by omega, by simp, HA.out, recs_none _ _, Below.refl _ _⟩
    case round =>
      obtain ⟨k, pre, h24, rfl, hk3, hpl, HI, hrec, hbw⟩ := hrel
      obtain ⟨av, cv, rfl⟩ := recs_slice hrec
      have HR := Lib.hid (block_next hR' hbw)
      have HR2 := Lib.hid (block_next hR2' hbw)
      have HTb := Lib.hid (block_next hT hbw)
      have HB := Lib.hid (Below.chain hB' hbw)
      have HBW := Lib.hid hbw
      have HREC := Lib.hid hrec
      have hsz := hbw.size
      clear hrec hbw hT
      by_cases hlt : (k : Int) < (n : Int)
      · have hkn : k < n := by omega
        have hrow := (HB.out |> H.out.next).cut k n (by omega) (by rw [Hn.out]; exact Nat.le_refl _)
        rw [List.take_of_length_le (by rw [Hn.out]; exact Nat.le_refl _)] at hrow
        have hle := (H.out).le
        rw [Hn.out] at hle
        have hdl : (xs.drop k).length = n - k := by rw [List.length_drop, Hn.out]
        have c18 := fun W h => next_any (if cap = k then a else a.map (·.add k)) (n - k) (cap - k) (xs.drop k) m.big W hdl (by omega) h
        have nk := Pc.next_known (xs.drop k) m.big
        have qb := Pc.rdr_bad (xs.drop k) m.big k (by omega) (Pc.next (xs.drop k) m.big).1 (Pc.next (xs.drop k) m.big).2.1 (Pc.next (xs.drop k) m.big).2.2 rfl
        have qg := Pc.rdr_good (xs.drop k) m.big k (by omega) (Pc.next (xs.drop k) m.big).1 (Pc.next (xs.drop k) m.big).2.1
        generalize Pc.next (xs.drop k) m.big = X at *
        obtain ⟨r, sz, e⟩ := X
        simp only at qb qg
        have NK := Lib.hid nk
        have QB := Lib.hid qb
        have QG := Lib.hid qg
        have C18 := Lib.hid c18
        have HROW := Lib.hid hrow
        clear nk qb qg c18 hrow
        have j2 : ¬ n < k := by omega
        have j3 : k ≤ n := by omega
        have j4 : n - k ≤ 300000 := by omega
        go_wp2_with fail
        have hS : wr.drew.heap[T]? = some (.cells (hcells m).toArray 39 (0, 0)) := HTb.out
        have bd : Below wr.heap.size wr wr.drew := (Below.refl _ _).drew
        refine held_start (S := fun W => W.heap[T]? = some (.cells (hcells m).toArray 39 (0, 0))) 14 (by kernel_rfl) rfl ?_
        refine held_take 0 (v := ?_) rfl (by kernel_rfl) (by kernel_rfl) (by kernel_rfl) (fun _ _ _ h => h) (by assumption) (by rfl) ?_ ?_
        rotate_left
        · (intro W hW; go_simp; try with_reducible rfl)
        simp only [Act.put, List.setIfInBounds_toArray, List.set_cons_zero, List.set_cons_succ]
        refine held_take 1 (v := ?_) rfl (by kernel_rfl) (by kernel_rfl) (by kernel_rfl) (fun _ _ _ h => h) (by assumption) (by rfl) ?_ ?_
        rotate_left
        · (intro W hW; go_simp; try with_reducible rfl)
        simp only [Act.put, List.setIfInBounds_toArray, List.set_cons_zero, List.set_cons_succ]
        refine held_take 2 (v := .slice (if cap = k then a else a.map (·.add k)) (n - k) (cap - k)) rfl (by kernel_rfl) (by kernel_rfl) (by kernel_rfl) (fun _ _ _ h => h) (by assumption) (by rfl) ?_ ?_
        · intro W hW
          clear hW
          by_cases hca : cap = k
          · have j1 : (cap : Int) = (k : Int) := by omega
            rw [if_pos hca]
            go_simp
          · have j1 : ¬ (cap : Int) = (k : Int) := by omega
            rw [if_neg hca]
            go_simp
        simp only [Act.put, List.setIfInBounds_toArray, List.set_cons_zero, List.set_cons_succ]
        refine held_take 3 (v := ?_) rfl (by kernel_rfl) (by kernel_rfl) (by kernel_rfl) (fun _ _ _ h => h) (by assumption) (by rfl) ?_ ?_
        rotate_left
        · (intro W hW; go_simp; try with_reducible rfl)
        simp only [Act.put, List.setIfInBounds_toArray, List.set_cons_zero, List.set_cons_succ]
        refine held_take 4 (v := ?_) rfl (by kernel_rfl) (by kernel_rfl) (by kernel_rfl) (fun _ _ _ h => h) (by assumption) (by rfl) ?_ ?_
        rotate_left
        · (intro W hW; (have t0 : W.cell? ⟨T, 0, none⟩ = some (.bool m.big) := cell_of_row _ _ _ _ _ _ hW); clear hW; go_simp; try with_reducible rfl)
        simp only [Act.put, List.setIfInBounds_toArray, List.set_cons_zero, List.set_cons_succ]
        refine held_two_cm 5 10 (f := 60) (args := #[.slice (if cap = k then a else a.map (·.add k)) (n - k) (cap - k), .bool m.big]) (v := .pointer (some ⟨wr.drew.heap.size, 0, none⟩)) (w1 := wr.drew.alloc (.cells #[.int .u32 0, .int .u32 0, .int .u32 0, .slice none 0 0] 44)) rfl rfl (by kernel_rfl) (by rfl) (by rfl) (by go_simp) (by go_simp) (block_next hS ((Below.refl _ _).alloc (Nat.le_refl _) _)) ?_ ?_
        · refine (C18.out _ (HROW.out.next bd)).mono ?_
          rintro e3 w3 ⟨d, rfl, o3, b3⟩
          obtain ⟨pd, cd, rfl⟩ := own_slice o3
          have b4 := Below.chain bd b3
          have hS3 : w3.heap[T]? = some (.cells (hcells m).toArray 39 (0, 0)) := block_next HTb.out b4
          refine ⟨_, rfl, hS3, ?_⟩
          simp only [Act.put, List.setIfInBounds_toArray, List.set_cons_zero, List.set_cons_succ]
          refine held_take 6 (v := ?_) rfl (by kernel_rfl) (by kernel_rfl) (by kernel_rfl) (fun _ _ _ h => h) (by assumption) (by rfl) ?_ ?_
          rotate_left
          · (intro W hW; go_simp; try with_reducible rfl)
          simp only [Act.put, List.setIfInBounds_toArray, List.set_cons_zero, List.set_cons_succ]
          refine held_take 7 (v := ?_) rfl (by kernel_rfl) (by kernel_rfl) (by kernel_rfl) (fun _ _ _ h => h) (by assumption) (by rfl) ?_ ?_
          rotate_left
          · (intro W hW; go_simp; try with_reducible rfl)
          simp only [Act.put, List.setIfInBounds_toArray, List.set_cons_zero, List.set_cons_succ]
          refine held_take 8 (v := ?_) rfl (by kernel_rfl) (by kernel_rfl) (by kernel_rfl) (fun _ _ _ h => h) (by assumption) (by rfl) ?_ ?_
          rotate_left
          · (intro W hW; go_simp; try with_reducible rfl)
          simp only [Act.put, List.setIfInBounds_toArray, List.set_cons_zero, List.set_cons_succ]
          refine held_take 9 (v := ?_) rfl (by kernel_rfl) (by kernel_rfl) (by kernel_rfl) (fun _ _ _ h => h) (by assumption) (by rfl) ?_ ?_
          rotate_left
          · (intro W hW; go_simp; try with_reducible rfl)
          simp only [Act.put, List.setIfInBounds_toArray, List.set_cons_zero, List.set_cons_succ]
          refine held_makes 10 (v := .pointer (some ⟨w3.heap.size, 0, none⟩)) (w' := w3.alloc (.cells #[.int .u32 0, .int .u32 0, .int .u32 0, .slice none 0 0] 44)) rfl (by kernel_rfl) (by rfl) (by go_simp) (block_next hS3 ((Below.refl _ _).alloc (Nat.le_refl _) _)) ?_
          simp only [Act.put, List.setIfInBounds_toArray, List.set_cons_zero, List.set_cons_succ]
          have b4' : Below wr.heap.size wr (w3.alloc (.cells #[.int .u32 0, .int .u32 0, .int .u32 0, .slice none 0 0] 44)) := b4.alloc b4.size _
          have hg0 := heap_alloc_new w3 (.cells #[.int .u32 0, .int .u32 0, .int .u32 0, .slice none 0 0] 44)
          have o4 := o3.alloc (.cells #[.int .u32 0, .int .u32 0, .int .u32 0, .slice none 0 0] 44)
          have hge := b4.size
          have hS4 := block_next hS3 ((Below.refl w3.heap.size w3).alloc (Nat.le_refl _) (.cells #[.int .u32 0, .int .u32 0, .int .u32 0, .slice none 0 0] 44))
          generalize w3.alloc (.cells #[.int .u32 0, .int .u32 0, .int .u32 0, .slice none 0 0] 44) = w4 at *
          generalize w3.heap.size = g3 at *
          generalize (if cap = k then a else a.map (·.add k)) = pt at *
          have hg4 : w4.heap[g3]? = some (.cells #[.int .u32 0, .int .u32 0, .int .u32 0, .slice none 0 0] 44 (0, 0)) := hg0
          have b5 : Below wr.heap.size wr (w4.setRow g3 (rcells r (.slice pd r.data.length cd)).toArray) := below_setRow b4' (hge) _
          have g5 := setRow_heap w4 g3 _ (rcells r (.slice pd r.data.length cd)).toArray _ _ hg4
          have o5 : (w4.setRow g3 (rcells r (.slice pd r.data.length cd)).toArray).ownsRow wr.heap.size 5 1 (.slice pd r.data.length cd) r.data.length (Lib.byteCells r.data) := by
            refine World.ownsRow.kept (ownsRow_lower o4 (Nat.le_refl _)) (grown_row w4 g3 _) ?_
            rcases o4.2 with ⟨ee, _⟩ | ⟨q, _, cur, ee, _, hq, _⟩
            · rw [ee]; exact .inl rfl
            · right
              rw [ee]
              intro e1
              simp [Value.ownBlock] at e1
              subst e1
              rw [hg4] at hq
              simp at hq
          have hS5 : (w4.setRow g3 (rcells r (.slice pd r.data.length cd)).toArray).heap[T]? = some (.cells (hcells m).toArray 39 (0, 0)) := block_next HTb.out b5
          refine held_alone 11 (w' := w4.setRow g3 (rcells r (.slice pd r.data.length cd)).toArray) rfl (by kernel_rfl) (by rfl) (run_store_rec (.tmp 9) (.tmp 33) rfl g3 r pd r.data.length cd _ rfl rfl hg4 rfl) hS5 ?_
          simp only [Act.put]
          refine held_take 12 (v := ?_) rfl (by kernel_rfl) (by kernel_rfl) (by kernel_rfl) (fun _ _ _ h => h) (by assumption) (by rfl) ?_ ?_
          rotate_left
          · (intro W hW; go_simp; try with_reducible rfl)
          simp only [Act.put, List.setIfInBounds_toArray, List.set_cons_zero, List.set_cons_succ]
          refine held_take 13 (v := ?_) rfl (by kernel_rfl) (by kernel_rfl) (by kernel_rfl) (fun _ _ _ h => h) (by assumption) (by rfl) ?_ ?_
          rotate_left
          · (intro W hW; go_simp; try with_reducible rfl)
          simp only [Act.put, List.setIfInBounds_toArray, List.set_cons_zero, List.set_cons_succ]
          refine held_done (by kernel_rfl) ?_
          have G5 := Lib.hid g5
          have O5 := Lib.hid o5
          have B5 := Lib.hid (Below.chain HB.out b5)
          have B5w := Lib.hid (Below.trans HBW.out (b5.mono hsz))
          have R5 := Lib.hid (block_next HR.out b5)
          have R25 := Lib.hid (block_next HR2.out b5)
          have T5 := Lib.hid hS5
          have REC5 := Lib.hid (HREC.out.next b5)
          have hs5 := b5.size
          clear g5 o5 b5 hS5 hg4 hS4
          generalize w4.setRow g3 (rcells r (.slice pd r.data.length cd)).toArray = W5 at *
          generalize g3 = g at *
          by_cases he : e = 0
          · subst he
            have hq := QG.out rfl
            have hnk := (NK.out.good rfl)
            have hns := NK.out.size
            rw [hdl] at hns
            simp only at hnk hns
            have hsz1 : 16 ≤ sz := by omega
            have hsz2 : k + sz ≤ n := by omega
            clear hnk hns
            have HI2 : Hid (A = (m, (pre ++ [r]) ++ (Pc.rdr (xs.drop (k + sz)) m.big (k + sz)).1, (Pc.rdr (xs.drop (k + sz)) m.big (k + sz)).2)) := by
              show A = _
              rw [HI.out, hq, List.drop_drop]
              simp
            have hok := NK.out.ok
            clear HI hq QB QG NK
            go_wp2_with (first | (refine wpList_load_row rfl 44 (.tmp 9) rfl g rfl 44 (rcells r (.slice pd r.data.length cd)).toArray (0, 0) _ G5.out Tryd.underlying44 rfl info46 ?_; simp only [rcells]) | (at_builtin; refine wpList_append_recs rfl (.tmp 43) (.tmp 45) rfl W.heap.size (.slice av pre.length cv) pre r (.slice pd r.data.length cd) W5.heap.size rfl rfl (REC5.out.next ((Below.refl _ _).alloc (Nat.le_refl _) _)) (ownsRow_lower (O5.out.alloc _) hsz) (heap_alloc_new W5 _) (by have := B5w.out.size; simp; omega) (by omega) ?_; intro v6 w6 rec6 gr6 blk6))
            have b6 : Below W.heap.size W w6 := Below.grown (B5w.out.alloc B5w.out.size _) gr6 (by have := B5w.out.size; simp; omega) blk6
            go_roundw
            case rel => exact ⟨_, _, _, ⟨k + sz, by omega, rfl, by omega, pre ++ [r], by rw [List.length_append]; simp; omega, HI2, rec6, b6⟩, rfl, rfl, by simp⟩
            case measure => simp [intOf]; omega
          · have hq := QB.out he
            have HI2 : A = (m, pre, k, e) := by rw [HI.out, hq]; simp
            subst HI2
            have i1 : ((e : Int) != 0) = true := by simp; omega
            clear hq QB QG HI
            have hR6 := setRow_heap W5 w.heap.size _ (hcells m).toArray _ _ R5.out
            have hR62 : (W5.setRow w.heap.size (hcells m).toArray).heap[w.heap.size + 1]? = _ := (setRow_other _ _ _ _ (by omega)).trans (R25.out)
            have HR62 := Lib.hid hR62
            have HR6 := Lib.hid hR6
            clear hR6 hR62
            go_wp2_with (first | (refine wpList_load_row rfl 39 (.tmp 5) rfl T rfl 39 (hcells m).toArray (0, 0) _ T5.out Tryd.underlying39 rfl info24 ?_) | (refine wpList_store_head rfl (.tmp 2) (.tmp 38) rfl w.heap.size m _ rfl rfl R5.out rfl ?_) | (refine wpList_store_spot rfl (.tmp 4) (.tmp 42) rfl (w.heap.size + 1) k e _ rfl rfl HR62.out rfl ?_))
            refine bodyPost_ret (v := .tuple #[.agg (hcells m).toArray, .slice av pre.length cv, .agg (scells k e).toArray]) ?_ rfl ⟨_, rfl, ((REC5.out.kept (grown_row _ _ _) (by omega)).kept (grown_row _ _ _) (by omega)).lower (by have := hB'.size; omega), below_setRow (below_setRow B5.out (Nat.le_refl _) _) (by omega) _⟩
            exact results_cell_tmp_cell Tryd.results38 _ _ w.heap.size (w.heap.size + 1) 39 33 _ _ _ _ _ _ rfl ((setRow_other _ _ _ _ (by omega)).trans HR6.out) Tryd.underlying39 rfl info24 rfl (setRow_heap _ _ _ _ _ _ HR62.out) Tryd.underlying33 rfl info36
        · have b4 : Below wr.heap.size wr (wr.drew.alloc (.cells #[.int .u32 0, .int .u32 0, .int .u32 0, .slice none 0 0] 44)) := bd.alloc bd.size _
          have hg0 := heap_alloc_new wr.drew (.cells #[.int .u32 0, .int .u32 0, .int .u32 0, .slice none 0 0] 44)
          have hs4 : (wr.drew.alloc (.cells #[.int .u32 0, .int .u32 0, .int .u32 0, .slice none 0 0] 44)).heap.size = wr.heap.size + 1 := by simp
          rw [show wr.drew.heap.size = wr.heap.size from rfl] at hg0 ⊢
          obtain ⟨g0, hge0⟩ : ∃ g0, g0 = wr.heap.size := ⟨_, rfl⟩
          rw [← hge0] at hg0 ⊢
          have hge1 := Nat.le_of_eq hge0.symm
          clear hge0
          simp only [Act.put, List.setIfInBounds_toArray, List.set_cons_zero, List.set_cons_succ]
          generalize wr.drew.alloc (.cells #[.int .u32 0, .int .u32 0, .int .u32 0, .slice none 0 0] 44) = w2 at *
          refine held_call 5 (f := 60) (args := #[.slice (if cap = k then a else a.map (·.add k)) (n - k) (cap - k), .bool m.big]) rfl (by kernel_rfl) (by rfl) (by go_simp) ?_
          refine (C18.out _ (HROW.out.next b4)).mono ?_
          rintro e3 w3 ⟨d, rfl, o3, b3⟩
          obtain ⟨pd, cd, rfl⟩ := own_slice o3
          have b4' := Below.chain b4 b3
          have hg1 := block_next hg0 b3
          have hS3 : w3.heap[T]? = some (.cells (hcells m).toArray 39 (0, 0)) := block_next HTb.out b4'
          refine ⟨_, rfl, hS3, ?_⟩
          simp only [Act.put, List.setIfInBounds_toArray, List.set_cons_zero, List.set_cons_succ]
          refine held_take 6 (v := ?_) rfl (by kernel_rfl) (by kernel_rfl) (by kernel_rfl) (fun _ _ _ h => h) (by assumption) (by rfl) ?_ ?_
          rotate_left
          · (intro W hW; go_simp; try with_reducible rfl)
          simp only [Act.put, List.setIfInBounds_toArray, List.set_cons_zero, List.set_cons_succ]
          refine held_take 7 (v := ?_) rfl (by kernel_rfl) (by kernel_rfl) (by kernel_rfl) (fun _ _ _ h => h) (by assumption) (by rfl) ?_ ?_
          rotate_left
          · (intro W hW; go_simp; try with_reducible rfl)
          simp only [Act.put, List.setIfInBounds_toArray, List.set_cons_zero, List.set_cons_succ]
          refine held_take 8 (v := ?_) rfl (by kernel_rfl) (by kernel_rfl) (by kernel_rfl) (fun _ _ _ h => h) (by assumption) (by rfl) ?_ ?_
          rotate_left
          · (intro W hW; go_simp; try with_reducible rfl)
          simp only [Act.put, List.setIfInBounds_toArray, List.set_cons_zero, List.set_cons_succ]
          refine held_take 9 (v := ?_) rfl (by kernel_rfl) (by kernel_rfl) (by kernel_rfl) (fun _ _ _ h => h) (by assumption) (by rfl) ?_ ?_
          rotate_left
          · (intro W hW; go_simp; try with_reducible rfl)
          simp only [Act.put, List.setIfInBounds_toArray, List.set_cons_zero, List.set_cons_succ]
          have hle4 : wr.heap.size ≤ w2.heap.size := by omega
          generalize (if cap = k then a else a.map (·.add k)) = pt at *
          have hg4 : w3.heap[g0]? = some (.cells #[.int .u32 0, .int .u32 0, .int .u32 0, .slice none 0 0] 44 (0, 0)) := hg1
          have b5 : Below wr.heap.size wr (w3.setRow g0 (rcells r (.slice pd r.data.length cd)).toArray) := below_setRow b4' (hge1) _
          have g5 := setRow_heap w3 g0 _ (rcells r (.slice pd r.data.length cd)).toArray _ _ hg4
          have o5 : (w3.setRow g0 (rcells r (.slice pd r.data.length cd)).toArray).ownsRow wr.heap.size 5 1 (.slice pd r.data.length cd) r.data.length (Lib.byteCells r.data) := by
            refine World.ownsRow.kept (ownsRow_lower o3 (hle4)) (grown_row w3 g0 _) ?_
            rcases o3.2 with ⟨ee, _⟩ | ⟨q, _, cur, ee, _, hq, _⟩
            · rw [ee]; exact .inl rfl
            · right
              rw [ee]
              intro e1
              simp [Value.ownBlock] at e1
              subst e1
              rw [hg4] at hq
              simp at hq
          have hS5 : (w3.setRow g0 (rcells r (.slice pd r.data.length cd)).toArray).heap[T]? = some (.cells (hcells m).toArray 39 (0, 0)) := block_next HTb.out b5
          refine held_alone 11 (w' := w3.setRow g0 (rcells r (.slice pd r.data.length cd)).toArray) rfl (by kernel_rfl) (by rfl) (run_store_rec (.tmp 9) (.tmp 33) rfl g0 r pd r.data.length cd _ rfl rfl hg4 rfl) hS5 ?_
          simp only [Act.put]
          refine held_take 12 (v := ?_) rfl (by kernel_rfl) (by kernel_rfl) (by kernel_rfl) (fun _ _ _ h => h) (by assumption) (by rfl) ?_ ?_
          rotate_left
          · (intro W hW; go_simp; try with_reducible rfl)
          simp only [Act.put, List.setIfInBounds_toArray, List.set_cons_zero, List.set_cons_succ]
          refine held_take 13 (v := ?_) rfl (by kernel_rfl) (by kernel_rfl) (by kernel_rfl) (fun _ _ _ h => h) (by assumption) (by rfl) ?_ ?_
          rotate_left
          · (intro W hW; go_simp; try with_reducible rfl)
          simp only [Act.put, List.setIfInBounds_toArray, List.set_cons_zero, List.set_cons_succ]
          refine held_done (by kernel_rfl) ?_
          have G5 := Lib.hid g5
          have O5 := Lib.hid o5
          have B5 := Lib.hid (Below.chain HB.out b5)
          have B5w := Lib.hid (Below.trans HBW.out (b5.mono hsz))
          have R5 := Lib.hid (block_next HR.out b5)
          have R25 := Lib.hid (block_next HR2.out b5)
          have T5 := Lib.hid hS5
          have REC5 := Lib.hid (HREC.out.next b5)
          have hs5 := b5.size
          clear g5 o5 b5 hS5 hg4 hS3
          generalize w3.setRow g0 (rcells r (.slice pd r.data.length cd)).toArray = W5 at *
          generalize g0 = g at *
          by_cases he : e = 0
          · subst he
            have hq := QG.out rfl
            have hnk := (NK.out.good rfl)
            have hns := NK.out.size
            rw [hdl] at hns
            simp only at hnk hns
            have hsz1 : 16 ≤ sz := by omega
            have hsz2 : k + sz ≤ n := by omega
            clear hnk hns
            have HI2 : Hid (A = (m, (pre ++ [r]) ++ (Pc.rdr (xs.drop (k + sz)) m.big (k + sz)).1, (Pc.rdr (xs.drop (k + sz)) m.big (k + sz)).2)) := by
              show A = _
              rw [HI.out, hq, List.drop_drop]
              simp
            have hok := NK.out.ok
            clear HI hq QB QG NK
            go_wp2_with (first | (refine wpList_load_row rfl 44 (.tmp 9) rfl g rfl 44 (rcells r (.slice pd r.data.length cd)).toArray (0, 0) _ G5.out Tryd.underlying44 rfl info46 ?_; simp only [rcells]) | (at_builtin; refine wpList_append_recs rfl (.tmp 43) (.tmp 45) rfl W.heap.size (.slice av pre.length cv) pre r (.slice pd r.data.length cd) W5.heap.size rfl rfl (REC5.out.next ((Below.refl _ _).alloc (Nat.le_refl _) _)) (ownsRow_lower (O5.out.alloc _) hsz) (heap_alloc_new W5 _) (by have := B5w.out.size; simp; omega) (by omega) ?_; intro v6 w6 rec6 gr6 blk6))
            have b6 : Below W.heap.size W w6 := Below.grown (B5w.out.alloc B5w.out.size _) gr6 (by have := B5w.out.size; simp; omega) blk6
            go_roundw
            case rel => exact ⟨_, _, _, ⟨k + sz, by omega, rfl, by omega, pre ++ [r], by rw [List.length_append]; simp; omega, HI2, rec6, b6⟩, rfl, rfl, by simp⟩
            case measure => simp [intOf]; omega
          · have hq := QB.out he
            have HI2 : A = (m, pre, k, e) := by rw [HI.out, hq]; simp
            subst HI2
            have i1 : ((e : Int) != 0) = true := by simp; omega
            clear hq QB QG HI
            have hR6 := setRow_heap W5 w.heap.size _ (hcells m).toArray _ _ R5.out
            have hR62 : (W5.setRow w.heap.size (hcells m).toArray).heap[w.heap.size + 1]? = _ := (setRow_other _ _ _ _ (by omega)).trans (R25.out)
            have HR62 := Lib.hid hR62
            have HR6 := Lib.hid hR6
            clear hR6 hR62
            go_wp2_with (first | (refine wpList_load_row rfl 39 (.tmp 5) rfl T rfl 39 (hcells m).toArray (0, 0) _ T5.out Tryd.underlying39 rfl info24 ?_) | (refine wpList_store_head rfl (.tmp 2) (.tmp 38) rfl w.heap.size m _ rfl rfl R5.out rfl ?_) | (refine wpList_store_spot rfl (.tmp 4) (.tmp 42) rfl (w.heap.size + 1) k e _ rfl rfl HR62.out rfl ?_))
            refine bodyPost_ret (v := .tuple #[.agg (hcells m).toArray, .slice av pre.length cv, .agg (scells k e).toArray]) ?_ rfl ⟨_, rfl, ((REC5.out.kept (grown_row _ _ _) (by omega)).kept (grown_row _ _ _) (by omega)).lower (by have := hB'.size; omega), below_setRow (below_setRow B5.out (Nat.le_refl _) _) (by omega) _⟩
            exact results_cell_tmp_cell Tryd.results38 _ _ w.heap.size (w.heap.size + 1) 39 33 _ _ _ _ _ _ rfl ((setRow_other _ _ _ _ (by omega)).trans HR6.out) Tryd.underlying39 rfl info24 rfl (setRow_heap _ _ _ _ _ _ HR62.out) Tryd.underlying33 rfl info36
      · have hrn : xs.drop k = [] := List.drop_of_length_le (by rw [Hn.out]; omega)
        have HI2 : A = (m, pre, 0, 0) := by rw [HI.out, hrn, Pc.rdr_nil]; simp
        subst HI2
        clear hrn HI
        have hR6 := setRow_heap wr w.heap.size _ (hcells m).toArray _ _ HR.out
        have hR62 : (wr.setRow w.heap.size (hcells m).toArray).heap[w.heap.size + 1]? = _ := (setRow_other _ _ _ _ (by omega)).trans (HR2.out)
        have HR62 := Lib.hid hR62
        have HR6 := Lib.hid hR6
        clear hR6 hR62
        go_wp2_with (first | (refine wpList_load_row rfl 39 (.tmp 5) rfl T rfl 39 (hcells m).toArray (0, 0) _ HTb.out Tryd.underlying39 rfl info24 ?_) | (refine wpList_store_head rfl (.tmp 2) (.tmp 50) rfl w.heap.size m _ rfl rfl HR.out rfl ?_) | (refine wpList_store_spot rfl (.tmp 4) (.tmp 52) rfl (w.heap.size + 1) 0 0 _ rfl rfl HR62.out rfl ?_))
        refine bodyPost_ret (v := .tuple #[.agg (hcells m).toArray, .slice av pre.length cv, .agg (scells 0 0).toArray]) ?_ rfl ⟨_, rfl, ((HREC.out.kept (grown_row _ _ _) (by omega)).kept (grown_row _ _ _) (by omega)).lower (by have := hB'.size; omega), below_setRow (below_setRow HB.out (Nat.le_refl _) _) (by omega) _⟩
        exact results_cell_tmp_cell Tryd.results38 _ _ w.heap.size (w.heap.size + 1) 39 33 _ _ _ _ _ _ rfl ((setRow_other _ _ _ _ (by omega)).trans HR6.out) Tryd.underlying39 rfl info24 rfl (setRow_heap _ _ _ _ _ _ HR62.out) Tryd.underlying33 rfl info36
  · have hA := q1 he
    subst hA
    have hr3 := hk.err
    clear q1 q2 hk
    generalize Pc.head xs = M at *
    obtain ⟨m, r⟩ := M
    simp only at he c15 hr3
    have i1 : ((r : Int) != 0) = true := by simp; omega
    have C15 := Lib.hid c15
    clear c15 hn hm
    go_enter Tryd.func38, Tryd.ntmps38
    go_wp2_with fail
    have h0 := two_blocks w (.cells #[.bool false, .bool false, .int .u32 0, .int .u32 0] 39) (.cells #[.int .i64 0, .int .i64 0] 33)
    refine (C15.out _ (H.out.next h0.2.2)).mono ?_
    rintro e w1 ⟨rfl, b1⟩
    have hR := block_next h0.1 b1
    have hR2 := block_next h0.2.1 b1
    have hB := Below.chain h0.2.2 b1
    have ba : ∀ o, Below w1.heap.size w1 (w1.alloc o) := fun o => (Below.refl _ _).alloc (Nat.le_refl _) o
    have HR := Lib.hid (fun o => block_next hR (ba o))
    have HR62 := Lib.hid (fun o => (setRow_other (w1.alloc o) w.heap.size (w.heap.size + 1) (hcells Pc.hz).toArray (by omega)).trans (block_next hR2 (ba o)))
    have HB := Lib.hid (fun o => Below.chain hB (ba o))
    clear h0 b1 C15 hR hR2 hB ba he
    simp only [hcells]
    go_wp2_with (first | (refine wpList_store_head rfl (.tmp 2) (.tmp 19) rfl w.heap.size Pc.hz _ rfl rfl (HR.out _) rfl ?_) | (refine wpList_store_spot rfl (.tmp 4) (.tmp 21) rfl (w.heap.size + 1) 0 r _ rfl rfl (HR62.out _) rfl ?_))
    refine bodyPost_ret (v := .tuple #[.agg (hcells Pc.hz).toArray, .slice none 0 0, .agg (scells 0 r).toArray]) ?_ rfl ⟨_, rfl, recs_none _ _, below_setRow (below_setRow (HB.out _) (Nat.le_refl _) _) (by omega) _⟩
    exact results_cell_tmp_cell Tryd.results38 _ _ w.heap.size (w.heap.size + 1) 39 33 (hcells Pc.hz).toArray (scells 0 r).toArray _ _ _ _ rfl ((setRow_other _ _ _ _ (by omega)).trans (setRow_heap _ _ _ _ _ _ (HR.out _))) Tryd.underlying39 rfl info24 rfl (setRow_heap _ _ _ _ _ _ (HR62.out _)) Tryd.underlying33 rfl info36
end Go.Proofs.YtbbnkmhlgfoacaaDoor.S9

namespace Go.Proofs.YtbbnkmhlgfoacaaDoor.S9
open Go.RowKit

/-- One operation that yields a value. -/
theorem wp_value {P : Program} {o : Oper} {a : Act} {w w' : World} {v : Value} {K : Act → World → Prop} {Q : Exit → Act → World → Prop} (he : (execOp a.eval o).run P w = .ok (.value v) w') (h : K (a.put o.dst v) w') : Oper.wp P o a w K Q := by
  unfold Oper.wp
  rw [he]
  exact h
/-- One operation that is a call. -/
theorem wp_enter {P : Program} {o : Oper} {a : Act} {w : World} {f : FuncId} {args : Array Value} {K : Act → World → Prop} {Q : Exit → Act → World → Prop} (he : (execOp a.eval o).run P w = .ok (.enter f args) w) (h : Calls P f args w fun e w' => ∃ v, e = .returned v ∧ K (a.put o.dst v) w') : Oper.wp P o a w K Q := by
  unfold Oper.wp
  rw [he]
  simp only [Oper.upon]
  refine h.mono ?_
  rintro e w' ⟨v, rfl, h1⟩
  exact h1
theorem wp_append_row {o : Oper} {a : Act} {w : World} {K : Act → World → Prop} {Q : Exit → Act → World → Prop} (s x : Operand)
    (ho : o.op = .call { callee := .builtin .append, args := #[s, x], argTypes := #[28, 28] })
    (base : Nat) (v : Value) (n : Nat) (xs : List Value) (hs : a.eval s = v) (hown : w.ownsRow base 5 1 v n xs)
    (p : Option Addr) (m c : Nat) (ys : List UInt8) (hx : a.eval x = .slice p m c) (hm : ys.length = m) (hrow : RowAt w p c ys)
    (h63 : n + m ≤ 1000000) (hbase : base ≤ w.heap.size)
    (h : ∀ v' w', w'.ownsRow base 5 1 v' (n + m) (xs ++ Lib.byteCells ys) → w.grownBy w' v.ownBlock → K (a.put o.dst v') w') : Oper.wp Tryd.prog o a w K Q := by
  obtain ⟨i0, hi, hz0, hz1, hz2⟩ := info_parts info5
  cases p with
  | none =>
    have h0 := hrow.nil rfl
    have h1 := hrow.le
    have hy : ys = [] := List.eq_nil_of_length_eq_zero (by omega)
    subst hy
    subst h0
    simp at hm
    subst hm
    have hrun := run_append_owned_none (P := Tryd.prog) (w := w) base 28 o.type 5 i0 1 Tryd.underlying28 hi v n xs hown
    unfold Oper.wp
    simp [execOp, ho, resolve, invoke, builtin, hs, hx, hrun, Result.andThen]
    exact h v w (by simpa [Lib.byteCells] using hown) ⟨rfl, rfl, rfl, Nat.le_refl _, fun _ _ _ => rfl⟩
  | some ad =>
    obtain ⟨v', w', hrun, r1, r2, _⟩ := run_append_own (P := Tryd.prog) w base 28 o.type 5 i0 (.int .u8 0) 1 1 Tryd.underlying28 hi hz0 hz1 hz2 rfl (by decide) v n xs hown ad m c (Lib.byteCells ys) (by rw [Lib.byteCells_length, hm, Nat.mul_one]) (hrow.cell ad rfl) (cells_one ys) (by unfold maxLen; omega) (by omega) hbase
    unfold Oper.wp
    simp [execOp, ho, resolve, invoke, builtin, hs, hx, hrun, Result.andThen]
    exact h v' w' r1 r2

section
variable {P : Program} {l : List Oper} {Q : Exit → Act → World → Prop} {S : World → Prop}
/-- Operations, each of which may come up first. -/
theorem held_pair (i j : Nat) {oi oj : Oper} {fuel : Nat} {listed : Array Bool} {a : Act} {w : World} (hi : l[i]? = some oi) (hj : l[j]? = some oj) (hr : Region.ready .any l.toArray listed = [i, j])
    (hwi : Region.wanted oi (yielded l.toArray a.tmps) = true) (hwj : Region.wanted oj (yielded l.toArray a.tmps) = true)
    (h1 : Oper.wp P oi a w (fun a' w' => S w' ∧ wpAnyH P .any l.toArray Q S fuel (listed.setIfInBounds i true) a' w') Q)
    (h2 : Oper.wp P oj a w (fun a' w' => S w' ∧ wpAnyH P .any l.toArray Q S fuel (listed.setIfInBounds j true) a' w') Q) : wpAnyH P .any l.toArray Q S (fuel + 1) listed a w := by
  refine ⟨(fun h0 => by rw [hr] at h0; cases h0), fun k hk => ?_⟩
  rw [hr] at hk
  have hk' : k = i ∨ k = j := by simpa using hk
  rcases hk' with rfl | rfl
  · unfold wpOp
    have ho : l.toArray[k]? = some oi := by simpa using hi
    simp only [ho, hwi, if_true]
    exact .inl h1
  · unfold wpOp
    have ho : l.toArray[k]? = some oj := by simpa using hj
    simp only [ho, hwj, if_true]
    exact .inl h2
theorem held_three (i j q : Nat) {oi oj oq : Oper} {fuel : Nat} {listed : Array Bool} {a : Act} {w : World} (hi : l[i]? = some oi) (hj : l[j]? = some oj) (hq : l[q]? = some oq) (hr : Region.ready .any l.toArray listed = [i, j, q])
    (hwi : Region.wanted oi (yielded l.toArray a.tmps) = true) (hwj : Region.wanted oj (yielded l.toArray a.tmps) = true) (hwq : Region.wanted oq (yielded l.toArray a.tmps) = true)
    (h1 : Oper.wp P oi a w (fun a' w' => S w' ∧ wpAnyH P .any l.toArray Q S fuel (listed.setIfInBounds i true) a' w') Q)
    (h2 : Oper.wp P oj a w (fun a' w' => S w' ∧ wpAnyH P .any l.toArray Q S fuel (listed.setIfInBounds j true) a' w') Q)
    (h3 : Oper.wp P oq a w (fun a' w' => S w' ∧ wpAnyH P .any l.toArray Q S fuel (listed.setIfInBounds q true) a' w') Q) : wpAnyH P .any l.toArray Q S (fuel + 1) listed a w := by
  refine ⟨(fun h0 => by rw [hr] at h0; cases h0), fun k hk => ?_⟩
  rw [hr] at hk
  have hk' : k = i ∨ k = j ∨ k = q := by simpa using hk
  rcases hk' with rfl | rfl | rfl
  · unfold wpOp
    have ho : l.toArray[k]? = some oi := by simpa using hi
    simp only [ho, hwi, if_true]
    exact .inl h1
  · unfold wpOp
    have ho : l.toArray[k]? = some oj := by simpa using hj
    simp only [ho, hwj, if_true]
    exact .inl h2
  · unfold wpOp
    have ho : l.toArray[k]? = some oq := by simpa using hq
    simp only [ho, hwq, if_true]
    exact .inl h3
/-- One operation that alone may come up. -/
theorem held_one (i : Nat) {oi : Oper} {fuel : Nat} {listed : Array Bool} {a : Act} {w : World} (hi : l[i]? = some oi) (hr : Region.ready .any l.toArray listed = [i])
    (hwi : Region.wanted oi (yielded l.toArray a.tmps) = true)
    (h1 : Oper.wp P oi a w (fun a' w' => S w' ∧ wpAnyH P .any l.toArray Q S fuel (listed.setIfInBounds i true) a' w') Q) : wpAnyH P .any l.toArray Q S (fuel + 1) listed a w := by
  refine ⟨(fun h0 => by rw [hr] at h0; cases h0), fun k hk => ?_⟩
  rw [hr] at hk
  obtain rfl : k = i := by simpa using hk
  unfold wpOp
  have ho : l.toArray[k]? = some oi := by simpa using hi
  simp only [ho, hwi, if_true]
  exact .inl h1
end

/-- A part: of memory that was there at first, or made since. -/
def PartIs (w0 w : World) (B : Nat) (u : Value) (b : List UInt8) : Prop := ∃ p c, u = .slice p b.length c ∧ (RowAt w0 p c b ∨ w.ownsRow B 5 1 (.slice p b.length c) b.length (Lib.byteCells b))
theorem PartIs.next {w0 w w' : World} {B : Nat} {u : Value} {b : List UInt8} (h : PartIs w0 w B u b) (hb : Below w.heap.size w w') : PartIs w0 w' B u b := by
  obtain ⟨p, c, rfl, h | h⟩ := h
  · exact ⟨p, c, rfl, .inl h⟩
  · exact ⟨p, c, rfl, .inr (ownsRow_next h hb)⟩
theorem PartIs.row {w0 w : World} {B : Nat} {u : Value} {b : List UInt8} (h : PartIs w0 w B u b) (h0 : Below w0.heap.size w0 w) : ∃ p c, u = .slice p b.length c ∧ RowAt w p c b := by
  obtain ⟨p, c, rfl, h | h⟩ := h
  · exact ⟨p, c, rfl, h.next h0⟩
  · obtain ⟨p', c', e, hr⟩ := rowAt_own rfl h
    simp only [Value.slice.injEq, true_and] at e
    obtain ⟨rfl, rfl⟩ := e
    exact ⟨p, c, rfl, hr⟩
theorem part_own {w0 w : World} {B n : Nat} {u : Value} {b : List UInt8} (hn : b.length = n) (h : w.ownsRow B 5 1 u n (Lib.byteCells b)) : PartIs w0 w B u b := by
  subst hn
  obtain ⟨p, c, rfl⟩ := own_slice h
  exact ⟨p, c, rfl, .inr h⟩
/-- A list of parts that was made. -/
def Prts (w0 w : World) (B : Nat) (v : Value) (L : List (List UInt8)) : Prop :=
  ∃ vs : List Value, w.ownsRow B 28 1 v L.length vs ∧ ∀ j (h : j < L.length), ∃ u, vs[j]? = some u ∧ PartIs w0 w B u L[j]
theorem prts_none (w0 w : World) (B : Nat) : Prts w0 w B (.slice none 0 0) [] := ⟨[], World.ownsRow_nil _ _ _ _, (fun _ h => by simp at h)⟩
theorem Prts.next {w0 w w' : World} {B : Nat} {v : Value} {L : List (List UInt8)} (h : Prts w0 w B v L) (hb : Below w.heap.size w w') : Prts w0 w' B v L := by
  obtain ⟨vs, ho, he⟩ := h
  refine ⟨vs, ownsRow_next ho hb, fun j hj => ?_⟩
  obtain ⟨u, h1, h2⟩ := he j hj
  exact ⟨u, h1, h2.next hb⟩
theorem prts_slice {w0 w : World} {B : Nat} {v : Value} {L : List (List UInt8)} (h : Prts w0 w B v L) : ∃ a c, v = .slice a L.length c := by
  obtain ⟨vs, ho, _⟩ := h
  exact own_slice ho
theorem Prts.parts {w0 w : World} {B : Nat} {v : Value} {L : List (List UInt8)} (h : Prts w0 w B v L) (h0 : Below w0.heap.size w0 w) : ∃ a c, v = .slice a L.length c ∧ PartsAt w a L := by
  obtain ⟨vs, ho, he⟩ := h
  rcases ho.2 with ⟨rfl, h1⟩ | ⟨g, cap, cur, rfl, hb, hg, _⟩
  · exact ⟨none, 0, by rw [h1], .inl (List.eq_nil_of_length_eq_zero h1)⟩
  · refine ⟨_, cap, rfl, .inr ⟨g, 0, rfl, lt_of_block hg, fun j hj => ?_⟩⟩
    obtain ⟨u, h1, h2⟩ := he j hj
    obtain ⟨p, c, rfl, hr⟩ := h2.row h0
    refine ⟨p, c, ?_, hr⟩
    have h3 := ho.cells (g := g) rfl j _ h1
    rw [Go.WideShapes.add_plain] at h3
    exact h3
/-- What is appended. -/
def News (w0 w : World) (B g : Nat) (M : List (List UInt8)) : Prop :=
  ∃ ms : List Value, w.heap[g]? = some (.cells ms.toArray 28 (0, 0)) ∧ ms.length = M.length ∧ ∀ j (h : j < M.length), ∃ u, ms[j]? = some u ∧ PartIs w0 w B u M[j]
theorem news_one {w0 w : World} {B : Nat} {u : Value} {b : List UInt8} (h : PartIs w0 w B u b) : News w0 (w.alloc (.cells #[u] 28)) B w.heap.size [b] := by
  refine ⟨[u], heap_alloc_new w _, rfl, fun j hj => ?_⟩
  have : j = 0 := by simpa using hj
  subst this
  exact ⟨u, rfl, h.next ((Below.refl _ _).alloc (Nat.le_refl _) _)⟩
theorem news_two {w0 w : World} {B : Nat} {u u2 : Value} {b b2 : List UInt8} (h : PartIs w0 w B u b) (h2 : PartIs w0 w B u2 b2) : News w0 (w.alloc (.cells #[u, u2] 28)) B w.heap.size [b, b2] := by
  refine ⟨[u, u2], heap_alloc_new w _, rfl, fun j hj => ?_⟩
  have : j = 0 ∨ j = 1 := by simp at hj; omega
  rcases this with rfl | rfl
  · exact ⟨u, rfl, h.next ((Below.refl _ _).alloc (Nat.le_refl _) _)⟩
  · exact ⟨u2, rfl, h2.next ((Below.refl _ _).alloc (Nat.le_refl _) _)⟩
theorem part_slice {w0 w : World} {B : Nat} {u : Value} {b : List UInt8} (h : PartIs w0 w B u b) : u.oneCell' = true := by
  obtain ⟨p, c, rfl, _⟩ := h
  rfl
theorem PartIs.kept {w0 w w' : World} {B n : Nat} {u v : Value} {b : List UInt8} {vs : List Value} (h : PartIs w0 w B u b) (ho : w.ownsRow B 28 1 v n vs) (hg : w.grownBy w' v.ownBlock) : PartIs w0 w' B u b := by
  obtain ⟨p, c, rfl, h | h⟩ := h
  · exact ⟨p, c, rfl, .inl h⟩
  · exact ⟨p, c, rfl, .inr (h.kept hg (own_apart ho h (by decide)))⟩
theorem prts_append {w0 w w' : World} {B : Nat} {v v' : Value} {L M : List (List UInt8)} {vs ms : List Value} (ho : w.ownsRow B 28 1 v L.length vs) (he : ∀ j (h : j < L.length), ∃ u, vs[j]? = some u ∧ PartIs w0 w B u L[j])
    (_hml : ms.length = M.length) (hm : ∀ j (h : j < M.length), ∃ u, ms[j]? = some u ∧ PartIs w0 w B u M[j]) (o2 : w'.ownsRow B 28 1 v' (L.length + M.length) (vs ++ ms)) (g2 : w.grownBy w' v.ownBlock) : Prts w0 w' B v' (L ++ M) := by
  refine ⟨vs ++ ms, by rw [List.length_append]; exact o2, fun j hj => ?_⟩
  have hl : vs.length = L.length := by rw [ho.1, Nat.mul_one]
  by_cases hjl : j < L.length
  · obtain ⟨u, h1, h2⟩ := he j hjl
    exact ⟨u, by rw [List.getElem?_append_left (by omega), h1], by rw [List.getElem_append_left hjl]; exact h2.kept ho g2⟩
  · have hj2 : j - L.length < M.length := by rw [List.length_append] at hj; omega
    obtain ⟨u, h1, h2⟩ := hm (j - L.length) hj2
    exact ⟨u, by rw [List.getElem?_append_right (by omega), hl, h1], by rw [List.getElem_append_right (by omega)]; exact h2.kept ho g2⟩
theorem info28z : (Tryd.prog.info? 28).map (fun i => (i.zero, i.size, i.bytes)) = some (some (.slice none 0 0), 1, 24) := by kernel_rfl
theorem run_append_prts {w0 w : World} (ty : TypeId) (B g : Nat) (v : Value) (L M : List (List UInt8)) (hL : Prts w0 w B v L) (hM : News w0 w B g M) (hB : B ≤ w.heap.size) (hlen : L.length + M.length ≤ 1000000) :
    ∃ v' w', (Builtin.append_ #[95, 95] ty #[v, .slice (some ⟨g, 0, none⟩) M.length M.length]).run Tryd.prog w = .ok v' w' ∧ Prts w0 w' B v' (L ++ M) ∧ w.grownBy w' v.ownBlock ∧ (∀ k, v.ownBlock = some k → B ≤ k) := by
  obtain ⟨i0, hi, hz0, hz1, hz2⟩ := info_parts info28z
  obtain ⟨vs, ho, he⟩ := hL
  obtain ⟨ms, hg, hml, hm⟩ := hM
  obtain ⟨v', w', hrun, r1, r2, _⟩ := run_append_own (P := Tryd.prog) w B 95 ty 28 i0 (.slice none 0 0) 1 24 Tryd.underlying95 hi hz0 hz1 hz2 rfl (by decide) v L.length vs ho ⟨g, 0, none⟩ M.length M.length ms (by rw [hml, Nat.mul_one]) (fun j u hu => by rw [Go.WideShapes.add_plain, cell_of_row _ _ _ _ _ _ hg]; simpa using hu) (fun u hu => by
    obtain ⟨j, hj, rfl⟩ := List.getElem_of_mem hu
    obtain ⟨u', h1, h2⟩ := hm j (by omega)
    rw [List.getElem?_eq_getElem hj] at h1
    simp only [Option.some.injEq] at h1
    rw [h1]; exact part_slice h2) (by unfold maxLen; omega) (by omega) hB
  exact ⟨v', w', hrun, prts_append ho he hml hm r1 r2, r2, fun k hk => (ho.lt k hk).1⟩
theorem wp_append_prts {o : Oper} {a : Act} {w0 w : World} {K : Act → World → Prop} {Q : Exit → Act → World → Prop} (s x : Operand)
    (ho : o.op = .call { callee := .builtin .append, args := #[s, x], argTypes := #[95, 95] })
    (B g : Nat) (v : Value) (L M : List (List UInt8)) (hs : a.eval s = v) (hx : a.eval x = .slice (some ⟨g, 0, none⟩) M.length M.length) (hL : Prts w0 w B v L) (hM : News w0 w B g M) (hB : B ≤ w.heap.size) (hlen : L.length + M.length ≤ 1000000)
    (h : ∀ v' w', Prts w0 w' B v' (L ++ M) → w.grownBy w' v.ownBlock → (∀ k, v.ownBlock = some k → B ≤ k) → K (a.put o.dst v') w') : Oper.wp Tryd.prog o a w K Q := by
  obtain ⟨v', w', hrun, h1, h2, h3⟩ := run_append_prts o.type B g v L M hL hM hB hlen
  unfold Oper.wp
  simp [execOp, ho, resolve, invoke, builtin, hs, hx, hrun, Result.andThen]
  exact h v' w' h1 h2 h3
theorem wpList_append_prts {w0 w : World} {ops : Array Oper} {rest : List Oper} {o : Oper} {a : Act} {Q : Exit → Act → World → Prop} (hgd : o.guard = none) (s x : Operand)
    (ho : o.op = .call { callee := .builtin .append, args := #[s, x], argTypes := #[95, 95] })
    (B g : Nat) (v : Value) (L M : List (List UInt8)) (hs : a.eval s = v) (hx : a.eval x = .slice (some ⟨g, 0, none⟩) M.length M.length) (hL : Prts w0 w B v L) (hM : News w0 w B g M) (hB : B ≤ w.heap.size) (hlen : L.length + M.length ≤ 1000000)
    (h : ∀ v' w', Prts w0 w' B v' (L ++ M) → w.grownBy w' v.ownBlock → (∀ k, v.ownBlock = some k → B ≤ k) → wpList Tryd.prog ops Q rest (a.put o.dst v') w') : wpList Tryd.prog ops Q (o :: rest) a w :=
  wpList_plain hgd fun _ hK => wp_append_prts s x ho B g v L M hs hx hL hM hB hlen (fun v' w' h1 h2 h3 => hK _ _ (h v' w' h1 h2 h3))
end Go.Proofs.YtbbnkmhlgfoacaaDoor.S9

namespace Go.Proofs.YtbbnkmhlgfoacaaDoor.S9
open Go.RowKit

theorem Pc.puts_take (big : Bool) (s : Nat) (ws : List Nat) (k : Nat) (h : k < ws.length) : ((ws.take (k + 1)).map fun n => Oc.put n s big) = ((ws.take k).map fun n => Oc.put n s big) ++ [Oc.put ws[k] s big] := by
  rw [List.take_succ_eq_append_getElem h, List.map_append]; rfl
def wcells (ws : List Nat) : List Value := ws.map fun (x : Nat) => .int .u32 (x : Int)
theorem wcells_at (ws : List Nat) (k : Nat) (h : k < ws.length) : (wcells ws).toArray[k]? = some (.int .u32 (ws[k] : Int)) := by
  simp [wcells, h]

set_option maxHeartbeats 1000000 in
theorem numbers_put (ws : List Nat) (n s : Nat) (big : Bool) (g : Nat) (w : World) (hn : ws.length = n) (hm : n ≤ 1000) (h1 : 1 ≤ s) (h4 : s ≤ 4) (hw : ∀ x ∈ ws, x < 256 ^ s) (h : w.heap[g]? = some (.cells (wcells ws).toArray 23 (0, 0))) :
    Calls Tryd.prog 52 #[.bool big, .int .i64 (s : Int), .slice (some ⟨g, 0, none⟩) n n] w fun e w' => ∃ v, e = .returned v ∧ w'.ownsRow w.heap.size 5 1 v (Pc.nums big s ws).length (Lib.byteCells (Pc.nums big s ws)) ∧ Below w.heap.size w w' := by
  have H := Lib.hid h
  have Hn := Lib.hid hn
  have HW := Lib.hid hw
  obtain ⟨F, hF⟩ : ∃ F, Pc.nums big s ws = F := ⟨_, rfl⟩
  have hfl : F.length ≤ 300000 := by rw [← hF, Pc.nums_length, hn]; have := Nat.mul_le_mul hm h4; omega
  rw [hF]
  have HF := Lib.hid hF
  clear h hn hw hF
  go_enter Tryd.func52, Tryd.ntmps52
  go_wp2
  go_loopw [7, 14] (fun v i wr => ∃ k : Nat, i = .int .i64 (k : Int) ∧ k ≤ n ∧ Prts w wr w.heap.size v ((ws.take k).map fun x => Oc.put x s big) ∧ Below w.heap.size w wr) (fun _ i _ => n - (intOf i).toNat)
  case atStart => exact ⟨0, rfl, Nat.zero_le _, by simpa using prts_none w w w.heap.size, Below.refl _ _⟩
  case round =>
    obtain ⟨k, rfl, hk, hp, hb⟩ := hrel
    obtain ⟨av, cv, rfl⟩ := prts_slice hp
    by_cases hlt : (k : Int) < (n : Int)
    · have hkn : k < ws.length := by rw [Hn.out]; omega
      have hc : wr.cell? ⟨g, k, none⟩ = some (.int .u32 (ws[k] : Int)) := by
        rw [cell_of_row _ _ _ _ _ _ (block_next H.out hb)]; exact wcells_at ws k hkn
      have hx := HW.out ws[k] (List.getElem_mem hkn)
      have hx4 := Nat.lt_of_lt_of_le hx (Nat.pow_le_pow_right (n := 256) (by omega) h4)
      rw [show 256 ^ 4 = 4294967296 from rfl] at hx4
      have c30 := fun W => put_fits ws[k] s big W h1 (by omega) hx
      have hl := Oc.put_length ws[k] s big
      have ht := Pc.puts_take big s ws k hkn
      have hpl : ((ws.take k).map fun x => Oc.put x s big).length = k := by rw [List.length_map, List.length_take]; omega
      rw [hpl]
      generalize ((ws.take k).map fun x => Oc.put x s big) = L at *
      generalize Oc.put ws[k] s big = ys at *
      generalize ws[k] = x at *
      have C := Lib.hid c30
      have HP := Lib.hid hp
      have HB := Lib.hid hb
      have HT := Lib.hid ht
      have Hl := Lib.hid hl
      have HL := Lib.hid hpl
      clear c30 hp hb ht hl hpl hx
      have hu : IntKind.u64.wrap (x : Int) = (x : Int) := by rw [IntKind.wrap_u64]; omega
      go_wp2_with fail
      refine (C.out _).mono ?_
      rintro e w1 ⟨v1, rfl, o1, b1⟩
      have HB1 := Lib.hid (Below.chain HB.out b1)
      have HP1 := Lib.hid (HP.out.next b1)
      have hsz := HB.out.size
      have hsz1 := HB1.out.size
      have hpt := part_own (w0 := w) Hl.out (ownsRow_lower o1 hsz)
      have HPT := Lib.hid hpt
      obtain ⟨p1, c1, rfl⟩ := own_slice o1
      clear o1 b1 hpt C HB HP
      have hal : (w1.alloc (.cells #[.slice p1 s c1] 28)).heap.size = w1.heap.size + 1 := by simp
      go_wp2_with (at_builtin; refine wpList_append_prts rfl (.tmp 26) (.tmp 28) rfl w.heap.size w1.heap.size (.slice av k cv) L [ys] rfl rfl (by rw [HL.out] at HP1; exact HP1.out.next ((Below.refl _ _).alloc (Nat.le_refl _) _)) (news_one HPT.out) (by omega) (by rw [HL.out]; simp; omega) ?_; intro v6 w6 p6 g6 blk6)
      have b6 : Below w.heap.size w w6 := Below.grown (HB1.out.alloc HB1.out.size _) g6 (by omega) blk6
      go_roundw
      case rel => exact ⟨k + 1, by simp, by omega, by rw [HT.out]; exact p6, b6⟩
      case measure => simp [intOf]; omega
    · have hkn : k = n := by omega
      subst hkn
      rw [List.take_of_length_le (by rw [Hn.out]; exact Nat.le_refl _)] at hp ⊢
      obtain ⟨a1, c1, e1, hpa⟩ := hp.parts hb
      simp only [Value.slice.injEq, true_and] at e1
      obtain ⟨rfl, rfl⟩ := e1
      have c22 := join_at av k cv _ F wr (by simp [Hn.out]) HF.out (by simp [Hn.out]; omega) hfl hpa
      have hpl : (ws.map fun x => Oc.put x s big).length = k := by simp [Hn.out]
      rw [hpl] at *
      have C := Lib.hid c22
      have HB := Lib.hid hb
      clear c22 hpa hp hb
      go_wp2_with fail
      refine C.out.mono ?_
      rintro e w1 ⟨v1, rfl, o1, b1⟩
      have O1 := Lib.hid (ownsRow_lower o1 HB.out.size)
      have B1 := Lib.hid (Below.chain HB.out b1)
      clear o1 b1
      go_wp2
      go_ret
      exact ⟨_, rfl, O1.out, B1.out⟩
end Go.Proofs.YtbbnkmhlgfoacaaDoor.S9

namespace Go.Proofs.YtbbnkmhlgfoacaaDoor.S9
open Go.RowKit

theorem with_ops {P : Program} {l : List Oper} {Q : Exit → Act → World → Prop} {S : World → Prop} {n : Nat} {listed : Array Bool} {a : Act} {w : World} (h : ∀ l' Q', l' = l → Q' = Q → wpAnyH P .any l'.toArray Q' S n listed a w) : wpAnyH P .any l.toArray Q S n listed a w := h l Q rfl rfl

/-- What putHead has made so far: slices of numbers, and the bytes of numbers. -/
structure Ph (w W : World) (T : Nat) (ob : Obj) (big : Bool) (x snap link : Nat) (g3 g7 g15 : Option Nat) (v10 v14 v22 : Option Value) : Prop where
  bel : Below w.heap.size w W
  box : W.heap[T]? = some ob
  b3 : ∀ g, g3 = some g → W.heap[g]? = some (.cells (wcells [x]).toArray 23 (0, 0))
  b7 : ∀ g, g7 = some g → W.heap[g]? = some (.cells (wcells [2, 4]).toArray 23 (0, 0))
  b15 : ∀ g, g15 = some g → W.heap[g]? = some (.cells (wcells [0, 0, snap, link]).toArray 23 (0, 0))
  c10 : ∀ v, v10 = some v → W.ownsRow w.heap.size 5 1 v 4 (Lib.byteCells (Pc.nums big 4 [x]))
  c14 : ∀ v, v14 = some v → W.ownsRow w.heap.size 5 1 v 4 (Lib.byteCells (Pc.nums big 2 [2, 4]))
  c22 : ∀ v, v22 = some v → W.ownsRow w.heap.size 5 1 v 16 (Lib.byteCells (Pc.nums big 4 [0, 0, snap, link]))
section
variable {w W : World} {T : Nat} {ob : Obj} {big : Bool} {x snap link : Nat} {g3 g7 g15 : Option Nat} {v10 v14 v22 : Option Value}
theorem Ph.next (h : Ph w W T ob big x snap link g3 g7 g15 v10 v14 v22) {W' : World} (b : Below W.heap.size W W') : Ph w W' T ob big x snap link g3 g7 g15 v10 v14 v22 :=
  ⟨Below.chain h.bel b, block_next h.box b, fun g e => block_next (h.b3 g e) b, fun g e => block_next (h.b7 g e) b, fun g e => block_next (h.b15 g e) b, fun v e => ownsRow_next (h.c10 v e) b, fun v e => ownsRow_next (h.c14 v e) b, fun v e => ownsRow_next (h.c22 v e) b⟩
theorem Ph.al (h : Ph w W T ob big x snap link g3 g7 g15 v10 v14 v22) (o : Obj) : Ph w (W.alloc o) T ob big x snap link g3 g7 g15 v10 v14 v22 := h.next ((Below.refl _ _).alloc (Nat.le_refl _) _)
theorem Ph.mk3 (h : Ph w W T ob big x snap link none g7 g15 v10 v14 v22) : Ph w (W.alloc (.cells #[.int .u32 (x : Int)] 23)) T ob big x snap link (some W.heap.size) g7 g15 v10 v14 v22 := by
  have h2 := h.al (.cells #[.int .u32 (x : Int)] 23)
  exact ⟨h2.bel, h2.box, fun g e => by cases e; exact heap_alloc_new W _, h2.b7, h2.b15, h2.c10, h2.c14, h2.c22⟩
theorem Ph.mk7 (h : Ph w W T ob big x snap link g3 none g15 v10 v14 v22) : Ph w (W.alloc (.cells #[.int .u32 2, .int .u32 4] 23)) T ob big x snap link g3 (some W.heap.size) g15 v10 v14 v22 := by
  have h2 := h.al (.cells #[.int .u32 2, .int .u32 4] 23)
  exact ⟨h2.bel, h2.box, h2.b3, fun g e => by cases e; exact heap_alloc_new W _, h2.b15, h2.c10, h2.c14, h2.c22⟩
theorem Ph.mk15 (h : Ph w W T ob big x snap link g3 g7 none v10 v14 v22) : Ph w (W.alloc (.cells #[.int .u32 0, .int .u32 0, .int .u32 (snap : Int), .int .u32 (link : Int)] 23)) T ob big x snap link g3 g7 (some W.heap.size) v10 v14 v22 := by
  have h2 := h.al (.cells #[.int .u32 0, .int .u32 0, .int .u32 (snap : Int), .int .u32 (link : Int)] 23)
  exact ⟨h2.bel, h2.box, h2.b3, h2.b7, fun g e => by cases e; exact heap_alloc_new W _, h2.c10, h2.c14, h2.c22⟩
theorem Ph.call10 (h : Ph w W T ob big x snap link g3 g7 g15 none v14 v22) {W' : World} {v : Value} (o : W'.ownsRow W.heap.size 5 1 v (Pc.nums big 4 [x]).length (Lib.byteCells (Pc.nums big 4 [x]))) (b : Below W.heap.size W W') : Ph w W' T ob big x snap link g3 g7 g15 (some v) v14 v22 := by
  have h2 := h.next b
  exact ⟨h2.bel, h2.box, h2.b3, h2.b7, h2.b15, fun u e => by cases e; rw [Pc.nums_length] at o; exact ownsRow_lower o h.bel.size, h2.c14, h2.c22⟩
theorem Ph.call14 (h : Ph w W T ob big x snap link g3 g7 g15 v10 none v22) {W' : World} {v : Value} (o : W'.ownsRow W.heap.size 5 1 v (Pc.nums big 2 [2, 4]).length (Lib.byteCells (Pc.nums big 2 [2, 4]))) (b : Below W.heap.size W W') : Ph w W' T ob big x snap link g3 g7 g15 v10 (some v) v22 := by
  have h2 := h.next b
  exact ⟨h2.bel, h2.box, h2.b3, h2.b7, h2.b15, h2.c10, fun u e => by cases e; rw [Pc.nums_length] at o; exact ownsRow_lower o h.bel.size, h2.c22⟩
theorem Ph.call22 (h : Ph w W T ob big x snap link g3 g7 g15 v10 v14 none) {W' : World} {v : Value} (o : W'.ownsRow W.heap.size 5 1 v (Pc.nums big 4 [0, 0, snap, link]).length (Lib.byteCells (Pc.nums big 4 [0, 0, snap, link]))) (b : Below W.heap.size W W') : Ph w W' T ob big x snap link g3 g7 g15 v10 v14 (some v) := by
  have h2 := h.next b
  exact ⟨h2.bel, h2.box, h2.b3, h2.b7, h2.b15, h2.c10, h2.c14, fun u e => by cases e; rw [Pc.nums_length] at o; exact ownsRow_lower o h.bel.size⟩
theorem Ph.parts {p10 p14 p22 : Option Addr} {c10 c14 c22 : Nat} (h : Ph w W T ob big x snap link g3 g7 g15 v10 v14 v22) (e1 : v10 = some (.slice p10 4 c10)) (e2 : v14 = some (.slice p14 4 c14)) (e3 : v22 = some (.slice p22 16 c22)) :
    PartsAt (W.alloc (.cells #[.slice p10 4 c10, .slice p14 4 c14, .slice p22 16 c22] 28)) (some ⟨W.heap.size, 0, none⟩) [Pc.nums big 4 [x], Pc.nums big 2 [2, 4], Pc.nums big 4 [0, 0, snap, link]] := by
  have h2 := h.al (.cells #[.slice p10 4 c10, .slice p14 4 c14, .slice p22 16 c22] 28)
  have hg := heap_alloc_new W (.cells #[.slice p10 4 c10, .slice p14 4 c14, .slice p22 16 c22] 28)
  obtain ⟨a1, d1, q1, r1⟩ := rowAt_own (by rw [Pc.nums_length]; rfl) (h2.c10 _ e1)
  obtain ⟨a2, d2, q2, r2⟩ := rowAt_own (by rw [Pc.nums_length]; rfl) (h2.c14 _ e2)
  obtain ⟨a3, d3, q3, r3⟩ := rowAt_own (by rw [Pc.nums_length]; rfl) (h2.c22 _ e3)
  simp only [Value.slice.injEq, true_and] at q1 q2 q3
  obtain ⟨rfl, rfl⟩ := q1
  obtain ⟨rfl, rfl⟩ := q2
  obtain ⟨rfl, rfl⟩ := q3
  refine .inr ⟨W.heap.size, 0, rfl, lt_of_block hg, fun j hj => ?_⟩
  have hj3 : j = 0 ∨ j = 1 ∨ j = 2 := by simp at hj; omega
  rcases hj3 with rfl | rfl | rfl
  · exact ⟨_, _, by rw [cell_of_row _ _ _ _ _ _ hg]; simp [Pc.nums_length], r1⟩
  · exact ⟨_, _, by rw [cell_of_row _ _ _ _ _ _ hg]; simp [Pc.nums_length], r2⟩
  · exact ⟨_, _, by rw [cell_of_row _ _ _ _ _ _ hg]; simp [Pc.nums_length], r3⟩
end
set_option maxRecDepth 100000 in
set_option maxHeartbeats 4000000 in
theorem putHead_any (m : Pc.Hdr) (w : World) (hm : m.Ok) :
    Calls Tryd.prog 51 #[.agg (hcells m).toArray] w fun e w' => ∃ v, e = .returned v ∧ w'.ownsRow w.heap.size 5 1 v 24 (Lib.byteCells (Pc.hbytes m)) ∧ Below w.heap.size w w' := by
  have hlen := Pc.hbytes_length m
  obtain ⟨F, hF⟩ : ∃ F, Pc.hbytes m = F := ⟨_, rfl⟩
  rw [hF] at hlen ⊢
  obtain ⟨x, hx⟩ : ∃ x, Pc.mark m.nano = x := ⟨_, rfl⟩
  have hx4 := Pc.mark_lt m.nano
  rw [hx] at hx4
  have HX : Hid ((if m.nano then (2712812621 : Int) else 2712847316) = (x : Int)) := by show _ = _; rw [← hx]; cases m.nano <;> rfl
  have hsn := hm.snap
  have hln := hm.link
  have HF : Hid ([Pc.nums m.big 4 [x], Pc.nums m.big 2 [2, 4], Pc.nums m.big 4 [0, 0, m.snap, m.link]].flatten = F) := by show _ = _; rw [← hF, ← hx]; rfl
  obtain ⟨big, nano, snap, link⟩ := m
  simp only at hsn hln HX HF
  have Hl := Lib.hid hlen
  have N3 : ∀ y ∈ [x], y < 256 ^ 4 := fun y h => by simp at h; subst h; exact hx4
  have N7 : ∀ y ∈ [2, 4], y < 256 ^ 2 := fun y h => by simp at h; rcases h with rfl | rfl <;> decide
  have N15 : ∀ y ∈ [0, 0, snap, link], y < 256 ^ 4 := fun y h => by simp at h; rcases h with rfl | rfl | rfl <;> first | exact hsn | exact hln | decide
  have HB : Below w.heap.size w (w.alloc (.cells (hcells ⟨big, nano, snap, link⟩).toArray 39)) := (Below.refl _ _).alloc (Nat.le_refl _) _
  have HT := heap_alloc_new w (.cells (hcells ⟨big, nano, snap, link⟩).toArray 39)
  have hlen24 : F.length ≤ 300000 := by omega
  obtain ⟨ob, hob⟩ : ∃ ob, ob = Obj.cells (hcells ⟨big, nano, snap, link⟩).toArray 39 (0, 0) := ⟨_, rfl⟩
  clear hF hx hm hlen
  cases nano
  · skip
    have hxi : (2712847316 : Int) = (x : Int) := HX.out
    have HXI := Lib.hid hxi
    clear HX hxi
    go_enter Tryd.func51, Tryd.ntmps51
    simp only [hcells]
    go_wp2_with fail
    rw [HXI.out]
    have hW : (w.alloc (.cells #[.bool big, .bool false, .int .u32 (snap : Int), .int .u32 (link : Int)] 39)).drew.heap[w.heap.size]? = some ob := by rw [hob]; exact HT
    have hS : Below w.heap.size w (w.alloc (.cells #[.bool big, .bool false, .int .u32 (snap : Int), .int .u32 (link : Int)] 39)).drew := HB.drew
    clear HB HT
    refine held_start (S := fun W => W.heap[w.heap.size]? = some ob) 20 (by kernel_rfl) rfl ?_
    generalize (w.alloc (.cells #[.bool big, .bool false, .int .u32 (snap : Int), .int .u32 (link : Int)] 39)).drew = W0 at hW hS ⊢
    generalize w.heap.size = T at hW ⊢
    refine with_ops ?_
    intro l Q hl hQ
    obtain ⟨u0, hu0⟩ : ∃ u0, u0 = Value.agg #[Value.bool big, Value.bool false, Value.int IntKind.u32 ↑snap, Value.int IntKind.u32 ↑link] := ⟨_, rfl⟩
    obtain ⟨u5, hu5⟩ : ∃ u5, u5 = Value.bool false := ⟨_, rfl⟩
    rw [← hu0, ← hu5]
    clear hu0 hu5
    have s3111 : ∀ (W : World) (g3 g7 g15 : Nat) (v10 v14 v22 : Value), Ph w W T ob big x snap link (some g3) (some g7) (some g15) (some v10) (some v14) (some v22) → wpAnyH Tryd.prog .any l.toArray Q (fun W => W.heap[T]? = some ob) 3 #[true, true, true, true, true, true, true, true, true, true, true, true, true, true, true, true, true, false, false, false] { tmps := #[u0, .pointer (some ⟨T, 0, none⟩), .slice none 0 0, .int .u32 (x : Int), .pointer (some ⟨T, 1, none⟩), u5, .pointer (some ⟨T, 0, none⟩), .bool big, .int .u32 (x : Int), .slice (some ⟨g3, 0, none⟩) 1 1, v10, .pointer (some ⟨T, 0, none⟩), .bool big, .slice (some ⟨g7, 0, none⟩) 2 2, v14, .pointer (some ⟨T, 0, none⟩), .bool big, .pointer (some ⟨T, 2, none⟩), .int .u32 (snap : Int), .pointer (some ⟨T, 3, none⟩), .int .u32 (link : Int), .slice (some ⟨g15, 0, none⟩) 4 4, v22, undef, undef], defers := [] } W := by
      intro W g3 g7 g15 v10 v14 v22 h
      subst hl
      obtain ⟨p10, c10, rfl⟩ := own_slice (h.c10 _ rfl)
      obtain ⟨p14, c14, rfl⟩ := own_slice (h.c14 _ rfl)
      obtain ⟨p22, c22, rfl⟩ := own_slice (h.c22 _ rfl)
      have hps := h.parts rfl rfl rfl
      have hps2 := Ph.bel h
      refine held_makes 17 (v := .slice (some ⟨W.heap.size, 0, none⟩) 3 3) (w' := W.alloc (.cells #[.slice p10 4 c10, .slice p14 4 c14, .slice p22 16 c22] 28)) rfl (by kernel_rfl) (by rfl) (by go_simp) (block_next h.box ((Below.refl _ _).alloc (Nat.le_refl _) _)) ?_
      simp only [Act.put, List.setIfInBounds_toArray, List.set_cons_zero, List.set_cons_succ]
      refine held_call 18 (f := 53) (args := #[.slice (some ⟨W.heap.size, 0, none⟩) 3 3]) rfl (by kernel_rfl) (by rfl) (by go_simp) ?_
      refine (join_at _ 3 3 _ F _ (by rfl) HF.out (by simp) (by omega) hps).mono ?_
      rintro e W2 ⟨v, rfl, o2, b2⟩
      refine ⟨_, rfl, block_next (block_next h.box ((Below.refl _ _).alloc (Nat.le_refl _) _)) b2, ?_⟩
      simp only [Act.put, List.setIfInBounds_toArray, List.set_cons_zero, List.set_cons_succ]
      subst hQ
      have hS2 : W2.heap[T]? = some ob := block_next (block_next h.box ((Below.refl _ _).alloc (Nat.le_refl _) _)) b2
      refine held_take 19 (v := ?_) rfl (by kernel_rfl) (by kernel_rfl) (by kernel_rfl) (fun _ _ _ h => h) (by assumption) (by rfl) ?_ ?_
      rotate_left
      · (intro W hW; go_simp; try with_reducible rfl)
      simp only [Act.put, List.setIfInBounds_toArray, List.set_cons_zero, List.set_cons_succ]
      refine held_done (by kernel_rfl) ?_
      have O2 := Lib.hid (ownsRow_lower (base' := w.heap.size) o2 (by have := hps2.size; simp; omega))
      have B2 := Lib.hid (Below.trans (hps2.alloc hps2.size _) (b2.mono (by have := hps2.size; simp; omega)))
      clear hps hps2 o2 b2 h hS2
      go_wp2
      go_ret
      exact ⟨_, rfl, by rw [Hl.out] at O2; exact O2.out, B2.out⟩
    have s2111 : ∀ (W : World) (g3 g7 g15 : Nat) (v10 v14 : Value), Ph w W T ob big x snap link (some g3) (some g7) (some g15) (some v10) (some v14) none → wpAnyH Tryd.prog .any l.toArray Q (fun W => W.heap[T]? = some ob) 4 #[true, true, true, true, true, true, true, true, true, true, true, true, true, true, true, true, false, false, false, false] { tmps := #[u0, .pointer (some ⟨T, 0, none⟩), .slice none 0 0, .int .u32 (x : Int), .pointer (some ⟨T, 1, none⟩), u5, .pointer (some ⟨T, 0, none⟩), .bool big, .int .u32 (x : Int), .slice (some ⟨g3, 0, none⟩) 1 1, v10, .pointer (some ⟨T, 0, none⟩), .bool big, .slice (some ⟨g7, 0, none⟩) 2 2, v14, .pointer (some ⟨T, 0, none⟩), .bool big, .pointer (some ⟨T, 2, none⟩), .int .u32 (snap : Int), .pointer (some ⟨T, 3, none⟩), .int .u32 (link : Int), .slice (some ⟨g15, 0, none⟩) 4 4, undef, undef, undef], defers := [] } W := by
      intro W g3 g7 g15 v10 v14 h
      subst hl
      refine held_one 16 rfl (by kernel_rfl) (by rfl) ?_
      · refine wp_enter (f := 52) (args := #[.bool big, .int .i64 4, .slice (some ⟨g15, 0, none⟩) 4 4]) (by go_simp) ((numbers_put [0, 0, snap, link] 4 4 big g15 W rfl (by omega) (by omega) (by omega) N15 (h.b15 _ rfl)).mono ?_)
        rintro e W2 ⟨v, rfl, o2, b2⟩
        refine ⟨_, rfl, block_next h.box b2, ?_⟩
        simp only [Act.put, List.setIfInBounds_toArray, List.set_cons_zero, List.set_cons_succ]
        exact s3111 _ g3 g7 g15 v10 v14 _ (h.call22 o2 b2)
    have s1111 : ∀ (W : World) (g3 g7 g15 : Nat) (v10 : Value), Ph w W T ob big x snap link (some g3) (some g7) (some g15) (some v10) none none → wpAnyH Tryd.prog .any l.toArray Q (fun W => W.heap[T]? = some ob) 5 #[true, true, true, true, true, true, true, true, false, true, true, true, true, true, true, true, false, false, false, false] { tmps := #[u0, .pointer (some ⟨T, 0, none⟩), .slice none 0 0, .int .u32 (x : Int), .pointer (some ⟨T, 1, none⟩), u5, .pointer (some ⟨T, 0, none⟩), .bool big, .int .u32 (x : Int), .slice (some ⟨g3, 0, none⟩) 1 1, v10, .pointer (some ⟨T, 0, none⟩), .bool big, .slice (some ⟨g7, 0, none⟩) 2 2, undef, .pointer (some ⟨T, 0, none⟩), .bool big, .pointer (some ⟨T, 2, none⟩), .int .u32 (snap : Int), .pointer (some ⟨T, 3, none⟩), .int .u32 (link : Int), .slice (some ⟨g15, 0, none⟩) 4 4, undef, undef, undef], defers := [] } W := by
      intro W g3 g7 g15 v10 h
      subst hl
      refine held_one 8 rfl (by kernel_rfl) (by rfl) ?_
      · refine wp_enter (f := 52) (args := #[.bool big, .int .i64 2, .slice (some ⟨g7, 0, none⟩) 2 2]) (by go_simp) ((numbers_put [2, 4] 2 2 big g7 W rfl (by omega) (by omega) (by omega) N7 (h.b7 _ rfl)).mono ?_)
        rintro e W2 ⟨v, rfl, o2, b2⟩
        refine ⟨_, rfl, block_next h.box b2, ?_⟩
        simp only [Act.put, List.setIfInBounds_toArray, List.set_cons_zero, List.set_cons_succ]
        exact s2111 _ g3 g7 g15 v10 _ (h.call14 o2 b2)
    have s2110 : ∀ (W : World) (g3 g7 : Nat) (v10 v14 : Value), Ph w W T ob big x snap link (some g3) (some g7) none (some v10) (some v14) none → wpAnyH Tryd.prog .any l.toArray Q (fun W => W.heap[T]? = some ob) 5 #[true, true, true, true, true, true, true, true, true, true, true, true, true, true, true, false, false, false, false, false] { tmps := #[u0, .pointer (some ⟨T, 0, none⟩), .slice none 0 0, .int .u32 (x : Int), .pointer (some ⟨T, 1, none⟩), u5, .pointer (some ⟨T, 0, none⟩), .bool big, .int .u32 (x : Int), .slice (some ⟨g3, 0, none⟩) 1 1, v10, .pointer (some ⟨T, 0, none⟩), .bool big, .slice (some ⟨g7, 0, none⟩) 2 2, v14, .pointer (some ⟨T, 0, none⟩), .bool big, .pointer (some ⟨T, 2, none⟩), .int .u32 (snap : Int), .pointer (some ⟨T, 3, none⟩), .int .u32 (link : Int), undef, undef, undef, undef], defers := [] } W := by
      intro W g3 g7 v10 v14 h
      subst hl
      refine held_one 15 rfl (by kernel_rfl) (by rfl) ?_
      · refine wp_value (v := .slice (some ⟨W.heap.size, 0, none⟩) 4 4) (w' := W.alloc (.cells #[.int .u32 0, .int .u32 0, .int .u32 (snap : Int), .int .u32 (link : Int)] 23)) (by go_simp) ⟨block_next h.box ((Below.refl _ _).alloc (Nat.le_refl _) _), ?_⟩
        simp only [Act.put, List.setIfInBounds_toArray, List.set_cons_zero, List.set_cons_succ]
        exact s2111 _ g3 g7 _ v10 v14 h.mk15
    have s0111 : ∀ (W : World) (g3 g7 g15 : Nat), Ph w W T ob big x snap link (some g3) (some g7) (some g15) none none none → wpAnyH Tryd.prog .any l.toArray Q (fun W => W.heap[T]? = some ob) 6 #[true, true, true, true, false, true, true, true, false, true, true, true, true, true, true, true, false, false, false, false] { tmps := #[u0, .pointer (some ⟨T, 0, none⟩), .slice none 0 0, .int .u32 (x : Int), .pointer (some ⟨T, 1, none⟩), u5, .pointer (some ⟨T, 0, none⟩), .bool big, .int .u32 (x : Int), .slice (some ⟨g3, 0, none⟩) 1 1, undef, .pointer (some ⟨T, 0, none⟩), .bool big, .slice (some ⟨g7, 0, none⟩) 2 2, undef, .pointer (some ⟨T, 0, none⟩), .bool big, .pointer (some ⟨T, 2, none⟩), .int .u32 (snap : Int), .pointer (some ⟨T, 3, none⟩), .int .u32 (link : Int), .slice (some ⟨g15, 0, none⟩) 4 4, undef, undef, undef], defers := [] } W := by
      intro W g3 g7 g15 h
      subst hl
      refine held_one 4 rfl (by kernel_rfl) (by rfl) ?_
      · refine wp_enter (f := 52) (args := #[.bool big, .int .i64 4, .slice (some ⟨g3, 0, none⟩) 1 1]) (by go_simp) ((numbers_put [x] 1 4 big g3 W rfl (by omega) (by omega) (by omega) N3 (h.b3 _ rfl)).mono ?_)
        rintro e W2 ⟨v, rfl, o2, b2⟩
        refine ⟨_, rfl, block_next h.box b2, ?_⟩
        simp only [Act.put, List.setIfInBounds_toArray, List.set_cons_zero, List.set_cons_succ]
        exact s1111 _ g3 g7 g15 _ (h.call10 o2 b2)
    have s1110 : ∀ (W : World) (g3 g7 : Nat) (v10 : Value), Ph w W T ob big x snap link (some g3) (some g7) none (some v10) none none → wpAnyH Tryd.prog .any l.toArray Q (fun W => W.heap[T]? = some ob) 6 #[true, true, true, true, true, true, true, true, false, true, true, true, true, true, true, false, false, false, false, false] { tmps := #[u0, .pointer (some ⟨T, 0, none⟩), .slice none 0 0, .int .u32 (x : Int), .pointer (some ⟨T, 1, none⟩), u5, .pointer (some ⟨T, 0, none⟩), .bool big, .int .u32 (x : Int), .slice (some ⟨g3, 0, none⟩) 1 1, v10, .pointer (some ⟨T, 0, none⟩), .bool big, .slice (some ⟨g7, 0, none⟩) 2 2, undef, .pointer (some ⟨T, 0, none⟩), .bool big, .pointer (some ⟨T, 2, none⟩), .int .u32 (snap : Int), .pointer (some ⟨T, 3, none⟩), .int .u32 (link : Int), undef, undef, undef, undef], defers := [] } W := by
      intro W g3 g7 v10 h
      subst hl
      refine held_pair 8 15 rfl rfl (by kernel_rfl) (by rfl) (by rfl) ?_ ?_
      · refine wp_enter (f := 52) (args := #[.bool big, .int .i64 2, .slice (some ⟨g7, 0, none⟩) 2 2]) (by go_simp) ((numbers_put [2, 4] 2 2 big g7 W rfl (by omega) (by omega) (by omega) N7 (h.b7 _ rfl)).mono ?_)
        rintro e W2 ⟨v, rfl, o2, b2⟩
        refine ⟨_, rfl, block_next h.box b2, ?_⟩
        simp only [Act.put, List.setIfInBounds_toArray, List.set_cons_zero, List.set_cons_succ]
        exact s2110 _ g3 g7 v10 _ (h.call14 o2 b2)
      · refine wp_value (v := .slice (some ⟨W.heap.size, 0, none⟩) 4 4) (w' := W.alloc (.cells #[.int .u32 0, .int .u32 0, .int .u32 (snap : Int), .int .u32 (link : Int)] 23)) (by go_simp) ⟨block_next h.box ((Below.refl _ _).alloc (Nat.le_refl _) _), ?_⟩
        simp only [Act.put, List.setIfInBounds_toArray, List.set_cons_zero, List.set_cons_succ]
        exact s1111 _ g3 g7 _ v10 h.mk15
    have s1101 : ∀ (W : World) (g3 g15 : Nat) (v10 : Value), Ph w W T ob big x snap link (some g3) none (some g15) (some v10) none none → wpAnyH Tryd.prog .any l.toArray Q (fun W => W.heap[T]? = some ob) 6 #[true, true, true, true, true, true, true, false, false, true, true, true, true, true, true, true, false, false, false, false] { tmps := #[u0, .pointer (some ⟨T, 0, none⟩), .slice none 0 0, .int .u32 (x : Int), .pointer (some ⟨T, 1, none⟩), u5, .pointer (some ⟨T, 0, none⟩), .bool big, .int .u32 (x : Int), .slice (some ⟨g3, 0, none⟩) 1 1, v10, .pointer (some ⟨T, 0, none⟩), .bool big, undef, undef, .pointer (some ⟨T, 0, none⟩), .bool big, .pointer (some ⟨T, 2, none⟩), .int .u32 (snap : Int), .pointer (some ⟨T, 3, none⟩), .int .u32 (link : Int), .slice (some ⟨g15, 0, none⟩) 4 4, undef, undef, undef], defers := [] } W := by
      intro W g3 g15 v10 h
      subst hl
      refine held_one 7 rfl (by kernel_rfl) (by rfl) ?_
      · refine wp_value (v := .slice (some ⟨W.heap.size, 0, none⟩) 2 2) (w' := W.alloc (.cells #[.int .u32 2, .int .u32 4] 23)) (by go_simp) ⟨block_next h.box ((Below.refl _ _).alloc (Nat.le_refl _) _), ?_⟩
        simp only [Act.put, List.setIfInBounds_toArray, List.set_cons_zero, List.set_cons_succ]
        exact s1111 _ g3 _ g15 v10 h.mk7
    have s0110 : ∀ (W : World) (g3 g7 : Nat), Ph w W T ob big x snap link (some g3) (some g7) none none none none → wpAnyH Tryd.prog .any l.toArray Q (fun W => W.heap[T]? = some ob) 7 #[true, true, true, true, false, true, true, true, false, true, true, true, true, true, true, false, false, false, false, false] { tmps := #[u0, .pointer (some ⟨T, 0, none⟩), .slice none 0 0, .int .u32 (x : Int), .pointer (some ⟨T, 1, none⟩), u5, .pointer (some ⟨T, 0, none⟩), .bool big, .int .u32 (x : Int), .slice (some ⟨g3, 0, none⟩) 1 1, undef, .pointer (some ⟨T, 0, none⟩), .bool big, .slice (some ⟨g7, 0, none⟩) 2 2, undef, .pointer (some ⟨T, 0, none⟩), .bool big, .pointer (some ⟨T, 2, none⟩), .int .u32 (snap : Int), .pointer (some ⟨T, 3, none⟩), .int .u32 (link : Int), undef, undef, undef, undef], defers := [] } W := by
      intro W g3 g7 h
      subst hl
      refine held_pair 4 15 rfl rfl (by kernel_rfl) (by rfl) (by rfl) ?_ ?_
      · refine wp_enter (f := 52) (args := #[.bool big, .int .i64 4, .slice (some ⟨g3, 0, none⟩) 1 1]) (by go_simp) ((numbers_put [x] 1 4 big g3 W rfl (by omega) (by omega) (by omega) N3 (h.b3 _ rfl)).mono ?_)
        rintro e W2 ⟨v, rfl, o2, b2⟩
        refine ⟨_, rfl, block_next h.box b2, ?_⟩
        simp only [Act.put, List.setIfInBounds_toArray, List.set_cons_zero, List.set_cons_succ]
        exact s1110 _ g3 g7 _ (h.call10 o2 b2)
      · refine wp_value (v := .slice (some ⟨W.heap.size, 0, none⟩) 4 4) (w' := W.alloc (.cells #[.int .u32 0, .int .u32 0, .int .u32 (snap : Int), .int .u32 (link : Int)] 23)) (by go_simp) ⟨block_next h.box ((Below.refl _ _).alloc (Nat.le_refl _) _), ?_⟩
        simp only [Act.put, List.setIfInBounds_toArray, List.set_cons_zero, List.set_cons_succ]
        exact s0111 _ g3 g7 _ h.mk15
    have s0101 : ∀ (W : World) (g3 g15 : Nat), Ph w W T ob big x snap link (some g3) none (some g15) none none none → wpAnyH Tryd.prog .any l.toArray Q (fun W => W.heap[T]? = some ob) 7 #[true, true, true, true, false, true, true, false, false, true, true, true, true, true, true, true, false, false, false, false] { tmps := #[u0, .pointer (some ⟨T, 0, none⟩), .slice none 0 0, .int .u32 (x : Int), .pointer (some ⟨T, 1, none⟩), u5, .pointer (some ⟨T, 0, none⟩), .bool big, .int .u32 (x : Int), .slice (some ⟨g3, 0, none⟩) 1 1, undef, .pointer (some ⟨T, 0, none⟩), .bool big, undef, undef, .pointer (some ⟨T, 0, none⟩), .bool big, .pointer (some ⟨T, 2, none⟩), .int .u32 (snap : Int), .pointer (some ⟨T, 3, none⟩), .int .u32 (link : Int), .slice (some ⟨g15, 0, none⟩) 4 4, undef, undef, undef], defers := [] } W := by
      intro W g3 g15 h
      subst hl
      refine held_pair 4 7 rfl rfl (by kernel_rfl) (by rfl) (by rfl) ?_ ?_
      · refine wp_enter (f := 52) (args := #[.bool big, .int .i64 4, .slice (some ⟨g3, 0, none⟩) 1 1]) (by go_simp) ((numbers_put [x] 1 4 big g3 W rfl (by omega) (by omega) (by omega) N3 (h.b3 _ rfl)).mono ?_)
        rintro e W2 ⟨v, rfl, o2, b2⟩
        refine ⟨_, rfl, block_next h.box b2, ?_⟩
        simp only [Act.put, List.setIfInBounds_toArray, List.set_cons_zero, List.set_cons_succ]
        exact s1101 _ g3 g15 _ (h.call10 o2 b2)
      · refine wp_value (v := .slice (some ⟨W.heap.size, 0, none⟩) 2 2) (w' := W.alloc (.cells #[.int .u32 2, .int .u32 4] 23)) (by go_simp) ⟨block_next h.box ((Below.refl _ _).alloc (Nat.le_refl _) _), ?_⟩
        simp only [Act.put, List.setIfInBounds_toArray, List.set_cons_zero, List.set_cons_succ]
        exact s0111 _ g3 _ g15 h.mk7
    have s0011 : ∀ (W : World) (g7 g15 : Nat), Ph w W T ob big x snap link none (some g7) (some g15) none none none → wpAnyH Tryd.prog .any l.toArray Q (fun W => W.heap[T]? = some ob) 7 #[true, true, true, false, false, true, true, true, false, true, true, true, true, true, true, true, false, false, false, false] { tmps := #[u0, .pointer (some ⟨T, 0, none⟩), .slice none 0 0, .int .u32 (x : Int), .pointer (some ⟨T, 1, none⟩), u5, .pointer (some ⟨T, 0, none⟩), .bool big, .int .u32 (x : Int), undef, undef, .pointer (some ⟨T, 0, none⟩), .bool big, .slice (some ⟨g7, 0, none⟩) 2 2, undef, .pointer (some ⟨T, 0, none⟩), .bool big, .pointer (some ⟨T, 2, none⟩), .int .u32 (snap : Int), .pointer (some ⟨T, 3, none⟩), .int .u32 (link : Int), .slice (some ⟨g15, 0, none⟩) 4 4, undef, undef, undef], defers := [] } W := by
      intro W g7 g15 h
      subst hl
      refine held_one 3 rfl (by kernel_rfl) (by rfl) ?_
      · refine wp_value (v := .slice (some ⟨W.heap.size, 0, none⟩) 1 1) (w' := W.alloc (.cells #[.int .u32 (x : Int)] 23)) (by go_simp) ⟨block_next h.box ((Below.refl _ _).alloc (Nat.le_refl _) _), ?_⟩
        simp only [Act.put, List.setIfInBounds_toArray, List.set_cons_zero, List.set_cons_succ]
        exact s0111 _ _ g7 g15 h.mk3
    have s1100 : ∀ (W : World) (g3 : Nat) (v10 : Value), Ph w W T ob big x snap link (some g3) none none (some v10) none none → wpAnyH Tryd.prog .any l.toArray Q (fun W => W.heap[T]? = some ob) 7 #[true, true, true, true, true, true, true, false, false, true, true, true, true, true, true, false, false, false, false, false] { tmps := #[u0, .pointer (some ⟨T, 0, none⟩), .slice none 0 0, .int .u32 (x : Int), .pointer (some ⟨T, 1, none⟩), u5, .pointer (some ⟨T, 0, none⟩), .bool big, .int .u32 (x : Int), .slice (some ⟨g3, 0, none⟩) 1 1, v10, .pointer (some ⟨T, 0, none⟩), .bool big, undef, undef, .pointer (some ⟨T, 0, none⟩), .bool big, .pointer (some ⟨T, 2, none⟩), .int .u32 (snap : Int), .pointer (some ⟨T, 3, none⟩), .int .u32 (link : Int), undef, undef, undef, undef], defers := [] } W := by
      intro W g3 v10 h
      subst hl
      refine held_pair 7 15 rfl rfl (by kernel_rfl) (by rfl) (by rfl) ?_ ?_
      · refine wp_value (v := .slice (some ⟨W.heap.size, 0, none⟩) 2 2) (w' := W.alloc (.cells #[.int .u32 2, .int .u32 4] 23)) (by go_simp) ⟨block_next h.box ((Below.refl _ _).alloc (Nat.le_refl _) _), ?_⟩
        simp only [Act.put, List.setIfInBounds_toArray, List.set_cons_zero, List.set_cons_succ]
        exact s1110 _ g3 _ v10 h.mk7
      · refine wp_value (v := .slice (some ⟨W.heap.size, 0, none⟩) 4 4) (w' := W.alloc (.cells #[.int .u32 0, .int .u32 0, .int .u32 (snap : Int), .int .u32 (link : Int)] 23)) (by go_simp) ⟨block_next h.box ((Below.refl _ _).alloc (Nat.le_refl _) _), ?_⟩
        simp only [Act.put, List.setIfInBounds_toArray, List.set_cons_zero, List.set_cons_succ]
        exact s1101 _ g3 _ v10 h.mk15
    have s0100 : ∀ (W : World) (g3 : Nat), Ph w W T ob big x snap link (some g3) none none none none none → wpAnyH Tryd.prog .any l.toArray Q (fun W => W.heap[T]? = some ob) 8 #[true, true, true, true, false, true, true, false, false, true, true, true, true, true, true, false, false, false, false, false] { tmps := #[u0, .pointer (some ⟨T, 0, none⟩), .slice none 0 0, .int .u32 (x : Int), .pointer (some ⟨T, 1, none⟩), u5, .pointer (some ⟨T, 0, none⟩), .bool big, .int .u32 (x : Int), .slice (some ⟨g3, 0, none⟩) 1 1, undef, .pointer (some ⟨T, 0, none⟩), .bool big, undef, undef, .pointer (some ⟨T, 0, none⟩), .bool big, .pointer (some ⟨T, 2, none⟩), .int .u32 (snap : Int), .pointer (some ⟨T, 3, none⟩), .int .u32 (link : Int), undef, undef, undef, undef], defers := [] } W := by
      intro W g3 h
      subst hl
      refine held_three 4 7 15 rfl rfl rfl (by kernel_rfl) (by rfl) (by rfl) (by rfl) ?_ ?_ ?_
      · refine wp_enter (f := 52) (args := #[.bool big, .int .i64 4, .slice (some ⟨g3, 0, none⟩) 1 1]) (by go_simp) ((numbers_put [x] 1 4 big g3 W rfl (by omega) (by omega) (by omega) N3 (h.b3 _ rfl)).mono ?_)
        rintro e W2 ⟨v, rfl, o2, b2⟩
        refine ⟨_, rfl, block_next h.box b2, ?_⟩
        simp only [Act.put, List.setIfInBounds_toArray, List.set_cons_zero, List.set_cons_succ]
        exact s1100 _ g3 _ (h.call10 o2 b2)
      · refine wp_value (v := .slice (some ⟨W.heap.size, 0, none⟩) 2 2) (w' := W.alloc (.cells #[.int .u32 2, .int .u32 4] 23)) (by go_simp) ⟨block_next h.box ((Below.refl _ _).alloc (Nat.le_refl _) _), ?_⟩
        simp only [Act.put, List.setIfInBounds_toArray, List.set_cons_zero, List.set_cons_succ]
        exact s0110 _ g3 _ h.mk7
      · refine wp_value (v := .slice (some ⟨W.heap.size, 0, none⟩) 4 4) (w' := W.alloc (.cells #[.int .u32 0, .int .u32 0, .int .u32 (snap : Int), .int .u32 (link : Int)] 23)) (by go_simp) ⟨block_next h.box ((Below.refl _ _).alloc (Nat.le_refl _) _), ?_⟩
        simp only [Act.put, List.setIfInBounds_toArray, List.set_cons_zero, List.set_cons_succ]
        exact s0101 _ g3 _ h.mk15
    have s0010 : ∀ (W : World) (g7 : Nat), Ph w W T ob big x snap link none (some g7) none none none none → wpAnyH Tryd.prog .any l.toArray Q (fun W => W.heap[T]? = some ob) 8 #[true, true, true, false, false, true, true, true, false, true, true, true, true, true, true, false, false, false, false, false] { tmps := #[u0, .pointer (some ⟨T, 0, none⟩), .slice none 0 0, .int .u32 (x : Int), .pointer (some ⟨T, 1, none⟩), u5, .pointer (some ⟨T, 0, none⟩), .bool big, .int .u32 (x : Int), undef, undef, .pointer (some ⟨T, 0, none⟩), .bool big, .slice (some ⟨g7, 0, none⟩) 2 2, undef, .pointer (some ⟨T, 0, none⟩), .bool big, .pointer (some ⟨T, 2, none⟩), .int .u32 (snap : Int), .pointer (some ⟨T, 3, none⟩), .int .u32 (link : Int), undef, undef, undef, undef], defers := [] } W := by
      intro W g7 h
      subst hl
      refine held_pair 3 15 rfl rfl (by kernel_rfl) (by rfl) (by rfl) ?_ ?_
      · refine wp_value (v := .slice (some ⟨W.heap.size, 0, none⟩) 1 1) (w' := W.alloc (.cells #[.int .u32 (x : Int)] 23)) (by go_simp) ⟨block_next h.box ((Below.refl _ _).alloc (Nat.le_refl _) _), ?_⟩
        simp only [Act.put, List.setIfInBounds_toArray, List.set_cons_zero, List.set_cons_succ]
        exact s0110 _ _ g7 h.mk3
      · refine wp_value (v := .slice (some ⟨W.heap.size, 0, none⟩) 4 4) (w' := W.alloc (.cells #[.int .u32 0, .int .u32 0, .int .u32 (snap : Int), .int .u32 (link : Int)] 23)) (by go_simp) ⟨block_next h.box ((Below.refl _ _).alloc (Nat.le_refl _) _), ?_⟩
        simp only [Act.put, List.setIfInBounds_toArray, List.set_cons_zero, List.set_cons_succ]
        exact s0011 _ g7 _ h.mk15
    have s0001 : ∀ (W : World) (g15 : Nat), Ph w W T ob big x snap link none none (some g15) none none none → wpAnyH Tryd.prog .any l.toArray Q (fun W => W.heap[T]? = some ob) 8 #[true, true, true, false, false, true, true, false, false, true, true, true, true, true, true, true, false, false, false, false] { tmps := #[u0, .pointer (some ⟨T, 0, none⟩), .slice none 0 0, .int .u32 (x : Int), .pointer (some ⟨T, 1, none⟩), u5, .pointer (some ⟨T, 0, none⟩), .bool big, .int .u32 (x : Int), undef, undef, .pointer (some ⟨T, 0, none⟩), .bool big, undef, undef, .pointer (some ⟨T, 0, none⟩), .bool big, .pointer (some ⟨T, 2, none⟩), .int .u32 (snap : Int), .pointer (some ⟨T, 3, none⟩), .int .u32 (link : Int), .slice (some ⟨g15, 0, none⟩) 4 4, undef, undef, undef], defers := [] } W := by
      intro W g15 h
      subst hl
      refine held_pair 3 7 rfl rfl (by kernel_rfl) (by rfl) (by rfl) ?_ ?_
      · refine wp_value (v := .slice (some ⟨W.heap.size, 0, none⟩) 1 1) (w' := W.alloc (.cells #[.int .u32 (x : Int)] 23)) (by go_simp) ⟨block_next h.box ((Below.refl _ _).alloc (Nat.le_refl _) _), ?_⟩
        simp only [Act.put, List.setIfInBounds_toArray, List.set_cons_zero, List.set_cons_succ]
        exact s0101 _ _ g15 h.mk3
      · refine wp_value (v := .slice (some ⟨W.heap.size, 0, none⟩) 2 2) (w' := W.alloc (.cells #[.int .u32 2, .int .u32 4] 23)) (by go_simp) ⟨block_next h.box ((Below.refl _ _).alloc (Nat.le_refl _) _), ?_⟩
        simp only [Act.put, List.setIfInBounds_toArray, List.set_cons_zero, List.set_cons_succ]
        exact s0011 _ _ g15 h.mk7
    have s0000 : ∀ (W : World), Ph w W T ob big x snap link none none none none none none → wpAnyH Tryd.prog .any l.toArray Q (fun W => W.heap[T]? = some ob) 9 #[true, true, true, false, false, true, true, false, false, true, true, true, true, true, true, false, false, false, false, false] { tmps := #[u0, .pointer (some ⟨T, 0, none⟩), .slice none 0 0, .int .u32 (x : Int), .pointer (some ⟨T, 1, none⟩), u5, .pointer (some ⟨T, 0, none⟩), .bool big, .int .u32 (x : Int), undef, undef, .pointer (some ⟨T, 0, none⟩), .bool big, undef, undef, .pointer (some ⟨T, 0, none⟩), .bool big, .pointer (some ⟨T, 2, none⟩), .int .u32 (snap : Int), .pointer (some ⟨T, 3, none⟩), .int .u32 (link : Int), undef, undef, undef, undef], defers := [] } W := by
      intro W h
      subst hl
      refine held_three 3 7 15 rfl rfl rfl (by kernel_rfl) (by rfl) (by rfl) (by rfl) ?_ ?_ ?_
      · refine wp_value (v := .slice (some ⟨W.heap.size, 0, none⟩) 1 1) (w' := W.alloc (.cells #[.int .u32 (x : Int)] 23)) (by go_simp) ⟨block_next h.box ((Below.refl _ _).alloc (Nat.le_refl _) _), ?_⟩
        simp only [Act.put, List.setIfInBounds_toArray, List.set_cons_zero, List.set_cons_succ]
        exact s0100 _ _ h.mk3
      · refine wp_value (v := .slice (some ⟨W.heap.size, 0, none⟩) 2 2) (w' := W.alloc (.cells #[.int .u32 2, .int .u32 4] 23)) (by go_simp) ⟨block_next h.box ((Below.refl _ _).alloc (Nat.le_refl _) _), ?_⟩
        simp only [Act.put, List.setIfInBounds_toArray, List.set_cons_zero, List.set_cons_succ]
        exact s0010 _ _ h.mk7
      · refine wp_value (v := .slice (some ⟨W.heap.size, 0, none⟩) 4 4) (w' := W.alloc (.cells #[.int .u32 0, .int .u32 0, .int .u32 (snap : Int), .int .u32 (link : Int)] 23)) (by go_simp) ⟨block_next h.box ((Below.refl _ _).alloc (Nat.le_refl _) _), ?_⟩
        simp only [Act.put, List.setIfInBounds_toArray, List.set_cons_zero, List.set_cons_succ]
        exact s0001 _ _ h.mk15
    subst hl
    subst hQ
    refine held_take 0 (v := ?_) rfl (by kernel_rfl) (by kernel_rfl) (by kernel_rfl) (fun _ _ _ h => h) (by assumption) (by rfl) ?_ ?_
    rotate_left
    · (intro W hW; go_simp; try with_reducible rfl)
    simp only [Act.put, List.setIfInBounds_toArray, List.set_cons_zero, List.set_cons_succ]
    refine held_take 1 (v := ?_) rfl (by kernel_rfl) (by kernel_rfl) (by kernel_rfl) (fun _ _ _ h => h) (by assumption) (by rfl) ?_ ?_
    rotate_left
    · (intro W hW; (have t0 : W.cell? ⟨T, 0, none⟩ = some (.bool big) := by subst hob; exact cell_of_row _ _ _ _ _ _ hW); clear hW; go_simp; try with_reducible rfl)
    simp only [Act.put, List.setIfInBounds_toArray, List.set_cons_zero, List.set_cons_succ]
    refine held_take 2 (v := ?_) rfl (by kernel_rfl) (by kernel_rfl) (by kernel_rfl) (fun _ _ _ h => h) (by assumption) (by rfl) ?_ ?_
    rotate_left
    · (intro W hW; go_simp; try with_reducible rfl)
    simp only [Act.put, List.setIfInBounds_toArray, List.set_cons_zero, List.set_cons_succ]
    refine held_take 5 (v := ?_) rfl (by kernel_rfl) (by kernel_rfl) (by kernel_rfl) (fun _ _ _ h => h) (by assumption) (by rfl) ?_ ?_
    rotate_left
    · (intro W hW; go_simp; try with_reducible rfl)
    simp only [Act.put, List.setIfInBounds_toArray, List.set_cons_zero, List.set_cons_succ]
    refine held_take 6 (v := ?_) rfl (by kernel_rfl) (by kernel_rfl) (by kernel_rfl) (fun _ _ _ h => h) (by assumption) (by rfl) ?_ ?_
    rotate_left
    · (intro W hW; (have t0 : W.cell? ⟨T, 0, none⟩ = some (.bool big) := by subst hob; exact cell_of_row _ _ _ _ _ _ hW); clear hW; go_simp; try with_reducible rfl)
    simp only [Act.put, List.setIfInBounds_toArray, List.set_cons_zero, List.set_cons_succ]
    refine held_take 9 (v := ?_) rfl (by kernel_rfl) (by kernel_rfl) (by kernel_rfl) (fun _ _ _ h => h) (by assumption) (by rfl) ?_ ?_
    rotate_left
    · (intro W hW; go_simp; try with_reducible rfl)
    simp only [Act.put, List.setIfInBounds_toArray, List.set_cons_zero, List.set_cons_succ]
    refine held_take 10 (v := ?_) rfl (by kernel_rfl) (by kernel_rfl) (by kernel_rfl) (fun _ _ _ h => h) (by assumption) (by rfl) ?_ ?_
    rotate_left
    · (intro W hW; (have t0 : W.cell? ⟨T, 0, none⟩ = some (.bool big) := by subst hob; exact cell_of_row _ _ _ _ _ _ hW); clear hW; go_simp; try with_reducible rfl)
    simp only [Act.put, List.setIfInBounds_toArray, List.set_cons_zero, List.set_cons_succ]
    refine held_take 11 (v := ?_) rfl (by kernel_rfl) (by kernel_rfl) (by kernel_rfl) (fun _ _ _ h => h) (by assumption) (by rfl) ?_ ?_
    rotate_left
    · (intro W hW; go_simp; try with_reducible rfl)
    simp only [Act.put, List.setIfInBounds_toArray, List.set_cons_zero, List.set_cons_succ]
    refine held_take 12 (v := ?_) rfl (by kernel_rfl) (by kernel_rfl) (by kernel_rfl) (fun _ _ _ h => h) (by assumption) (by rfl) ?_ ?_
    rotate_left
    · (intro W hW; (have t0 : W.cell? ⟨T, 2, none⟩ = some (.int .u32 (snap : Int)) := by subst hob; exact cell_of_row _ _ _ _ _ _ hW); clear hW; go_simp; try with_reducible rfl)
    simp only [Act.put, List.setIfInBounds_toArray, List.set_cons_zero, List.set_cons_succ]
    refine held_take 13 (v := ?_) rfl (by kernel_rfl) (by kernel_rfl) (by kernel_rfl) (fun _ _ _ h => h) (by assumption) (by rfl) ?_ ?_
    rotate_left
    · (intro W hW; go_simp; try with_reducible rfl)
    simp only [Act.put, List.setIfInBounds_toArray, List.set_cons_zero, List.set_cons_succ]
    refine held_take 14 (v := ?_) rfl (by kernel_rfl) (by kernel_rfl) (by kernel_rfl) (fun _ _ _ h => h) (by assumption) (by rfl) ?_ ?_
    rotate_left
    · (intro W hW; (have t0 : W.cell? ⟨T, 3, none⟩ = some (.int .u32 (link : Int)) := by subst hob; exact cell_of_row _ _ _ _ _ _ hW); clear hW; go_simp; try with_reducible rfl)
    simp only [Act.put, List.setIfInBounds_toArray, List.set_cons_zero, List.set_cons_succ]
    exact s0000 _ ⟨hS, hW, (fun _ e => by cases e), (fun _ e => by cases e), (fun _ e => by cases e), (fun _ e => by cases e), (fun _ e => by cases e), (fun _ e => by cases e)⟩
  · skip
    have hxi : (2712812621 : Int) = (x : Int) := HX.out
    have HXI := Lib.hid hxi
    clear HX hxi
    go_enter Tryd.func51, Tryd.ntmps51
    simp only [hcells]
    go_wp2_with fail
    rw [HXI.out]
    have hW : (w.alloc (.cells #[.bool big, .bool true, .int .u32 (snap : Int), .int .u32 (link : Int)] 39)).drew.heap[w.heap.size]? = some ob := by rw [hob]; exact HT
    have hS : Below w.heap.size w (w.alloc (.cells #[.bool big, .bool true, .int .u32 (snap : Int), .int .u32 (link : Int)] 39)).drew := HB.drew
    clear HB HT
    refine held_start (S := fun W => W.heap[w.heap.size]? = some ob) 20 (by kernel_rfl) rfl ?_
    generalize (w.alloc (.cells #[.bool big, .bool true, .int .u32 (snap : Int), .int .u32 (link : Int)] 39)).drew = W0 at hW hS ⊢
    generalize w.heap.size = T at hW ⊢
    refine with_ops ?_
    intro l Q hl hQ
    obtain ⟨u0, hu0⟩ : ∃ u0, u0 = Value.agg #[Value.bool big, Value.bool true, Value.int IntKind.u32 ↑snap, Value.int IntKind.u32 ↑link] := ⟨_, rfl⟩
    obtain ⟨u5, hu5⟩ : ∃ u5, u5 = Value.bool true := ⟨_, rfl⟩
    rw [← hu0, ← hu5]
    clear hu0 hu5
    have s3111 : ∀ (W : World) (g3 g7 g15 : Nat) (v10 v14 v22 : Value), Ph w W T ob big x snap link (some g3) (some g7) (some g15) (some v10) (some v14) (some v22) → wpAnyH Tryd.prog .any l.toArray Q (fun W => W.heap[T]? = some ob) 3 #[true, true, true, true, true, true, true, true, true, true, true, true, true, true, true, true, true, false, false, false] { tmps := #[u0, .pointer (some ⟨T, 0, none⟩), .slice none 0 0, .int .u32 (x : Int), .pointer (some ⟨T, 1, none⟩), u5, .pointer (some ⟨T, 0, none⟩), .bool big, .int .u32 (x : Int), .slice (some ⟨g3, 0, none⟩) 1 1, v10, .pointer (some ⟨T, 0, none⟩), .bool big, .slice (some ⟨g7, 0, none⟩) 2 2, v14, .pointer (some ⟨T, 0, none⟩), .bool big, .pointer (some ⟨T, 2, none⟩), .int .u32 (snap : Int), .pointer (some ⟨T, 3, none⟩), .int .u32 (link : Int), .slice (some ⟨g15, 0, none⟩) 4 4, v22, undef, undef], defers := [] } W := by
      intro W g3 g7 g15 v10 v14 v22 h
      subst hl
      obtain ⟨p10, c10, rfl⟩ := own_slice (h.c10 _ rfl)
      obtain ⟨p14, c14, rfl⟩ := own_slice (h.c14 _ rfl)
      obtain ⟨p22, c22, rfl⟩ := own_slice (h.c22 _ rfl)
      have hps := h.parts rfl rfl rfl
      have hps2 := Ph.bel h
      refine held_makes 17 (v := .slice (some ⟨W.heap.size, 0, none⟩) 3 3) (w' := W.alloc (.cells #[.slice p10 4 c10, .slice p14 4 c14, .slice p22 16 c22] 28)) rfl (by kernel_rfl) (by rfl) (by go_simp) (block_next h.box ((Below.refl _ _).alloc (Nat.le_refl _) _)) ?_
      simp only [Act.put, List.setIfInBounds_toArray, List.set_cons_zero, List.set_cons_succ]
      refine held_call 18 (f := 53) (args := #[.slice (some ⟨W.heap.size, 0, none⟩) 3 3]) rfl (by kernel_rfl) (by rfl) (by go_simp) ?_
      refine (join_at _ 3 3 _ F _ (by rfl) HF.out (by simp) (by omega) hps).mono ?_
      rintro e W2 ⟨v, rfl, o2, b2⟩
      refine ⟨_, rfl, block_next (block_next h.box ((Below.refl _ _).alloc (Nat.le_refl _) _)) b2, ?_⟩
      simp only [Act.put, List.setIfInBounds_toArray, List.set_cons_zero, List.set_cons_succ]
      subst hQ
      have hS2 : W2.heap[T]? = some ob := block_next (block_next h.box ((Below.refl _ _).alloc (Nat.le_refl _) _)) b2
      refine held_take 19 (v := ?_) rfl (by kernel_rfl) (by kernel_rfl) (by kernel_rfl) (fun _ _ _ h => h) (by assumption) (by rfl) ?_ ?_
      rotate_left
      · (intro W hW; go_simp; try with_reducible rfl)
      simp only [Act.put, List.setIfInBounds_toArray, List.set_cons_zero, List.set_cons_succ]
      refine held_done (by kernel_rfl) ?_
      have O2 := Lib.hid (ownsRow_lower (base' := w.heap.size) o2 (by have := hps2.size; simp; omega))
      have B2 := Lib.hid (Below.trans (hps2.alloc hps2.size _) (b2.mono (by have := hps2.size; simp; omega)))
      clear hps hps2 o2 b2 h hS2
      go_wp2
      go_ret
      exact ⟨_, rfl, by rw [Hl.out] at O2; exact O2.out, B2.out⟩
    have s2111 : ∀ (W : World) (g3 g7 g15 : Nat) (v10 v14 : Value), Ph w W T ob big x snap link (some g3) (some g7) (some g15) (some v10) (some v14) none → wpAnyH Tryd.prog .any l.toArray Q (fun W => W.heap[T]? = some ob) 4 #[true, true, true, true, true, true, true, true, true, true, true, true, true, true, true, true, false, false, false, false] { tmps := #[u0, .pointer (some ⟨T, 0, none⟩), .slice none 0 0, .int .u32 (x : Int), .pointer (some ⟨T, 1, none⟩), u5, .pointer (some ⟨T, 0, none⟩), .bool big, .int .u32 (x : Int), .slice (some ⟨g3, 0, none⟩) 1 1, v10, .pointer (some ⟨T, 0, none⟩), .bool big, .slice (some ⟨g7, 0, none⟩) 2 2, v14, .pointer (some ⟨T, 0, none⟩), .bool big, .pointer (some ⟨T, 2, none⟩), .int .u32 (snap : Int), .pointer (some ⟨T, 3, none⟩), .int .u32 (link : Int), .slice (some ⟨g15, 0, none⟩) 4 4, undef, undef, undef], defers := [] } W := by
      intro W g3 g7 g15 v10 v14 h
      subst hl
      refine held_one 16 rfl (by kernel_rfl) (by rfl) ?_
      · refine wp_enter (f := 52) (args := #[.bool big, .int .i64 4, .slice (some ⟨g15, 0, none⟩) 4 4]) (by go_simp) ((numbers_put [0, 0, snap, link] 4 4 big g15 W rfl (by omega) (by omega) (by omega) N15 (h.b15 _ rfl)).mono ?_)
        rintro e W2 ⟨v, rfl, o2, b2⟩
        refine ⟨_, rfl, block_next h.box b2, ?_⟩
        simp only [Act.put, List.setIfInBounds_toArray, List.set_cons_zero, List.set_cons_succ]
        exact s3111 _ g3 g7 g15 v10 v14 _ (h.call22 o2 b2)
    have s1111 : ∀ (W : World) (g3 g7 g15 : Nat) (v10 : Value), Ph w W T ob big x snap link (some g3) (some g7) (some g15) (some v10) none none → wpAnyH Tryd.prog .any l.toArray Q (fun W => W.heap[T]? = some ob) 5 #[true, true, true, true, true, true, true, true, false, true, true, true, true, true, true, true, false, false, false, false] { tmps := #[u0, .pointer (some ⟨T, 0, none⟩), .slice none 0 0, .int .u32 (x : Int), .pointer (some ⟨T, 1, none⟩), u5, .pointer (some ⟨T, 0, none⟩), .bool big, .int .u32 (x : Int), .slice (some ⟨g3, 0, none⟩) 1 1, v10, .pointer (some ⟨T, 0, none⟩), .bool big, .slice (some ⟨g7, 0, none⟩) 2 2, undef, .pointer (some ⟨T, 0, none⟩), .bool big, .pointer (some ⟨T, 2, none⟩), .int .u32 (snap : Int), .pointer (some ⟨T, 3, none⟩), .int .u32 (link : Int), .slice (some ⟨g15, 0, none⟩) 4 4, undef, undef, undef], defers := [] } W := by
      intro W g3 g7 g15 v10 h
      subst hl
      refine held_one 8 rfl (by kernel_rfl) (by rfl) ?_
      · refine wp_enter (f := 52) (args := #[.bool big, .int .i64 2, .slice (some ⟨g7, 0, none⟩) 2 2]) (by go_simp) ((numbers_put [2, 4] 2 2 big g7 W rfl (by omega) (by omega) (by omega) N7 (h.b7 _ rfl)).mono ?_)
        rintro e W2 ⟨v, rfl, o2, b2⟩
        refine ⟨_, rfl, block_next h.box b2, ?_⟩
        simp only [Act.put, List.setIfInBounds_toArray, List.set_cons_zero, List.set_cons_succ]
        exact s2111 _ g3 g7 g15 v10 _ (h.call14 o2 b2)
    have s2110 : ∀ (W : World) (g3 g7 : Nat) (v10 v14 : Value), Ph w W T ob big x snap link (some g3) (some g7) none (some v10) (some v14) none → wpAnyH Tryd.prog .any l.toArray Q (fun W => W.heap[T]? = some ob) 5 #[true, true, true, true, true, true, true, true, true, true, true, true, true, true, true, false, false, false, false, false] { tmps := #[u0, .pointer (some ⟨T, 0, none⟩), .slice none 0 0, .int .u32 (x : Int), .pointer (some ⟨T, 1, none⟩), u5, .pointer (some ⟨T, 0, none⟩), .bool big, .int .u32 (x : Int), .slice (some ⟨g3, 0, none⟩) 1 1, v10, .pointer (some ⟨T, 0, none⟩), .bool big, .slice (some ⟨g7, 0, none⟩) 2 2, v14, .pointer (some ⟨T, 0, none⟩), .bool big, .pointer (some ⟨T, 2, none⟩), .int .u32 (snap : Int), .pointer (some ⟨T, 3, none⟩), .int .u32 (link : Int), undef, undef, undef, undef], defers := [] } W := by
      intro W g3 g7 v10 v14 h
      subst hl
      refine held_one 15 rfl (by kernel_rfl) (by rfl) ?_
      · refine wp_value (v := .slice (some ⟨W.heap.size, 0, none⟩) 4 4) (w' := W.alloc (.cells #[.int .u32 0, .int .u32 0, .int .u32 (snap : Int), .int .u32 (link : Int)] 23)) (by go_simp) ⟨block_next h.box ((Below.refl _ _).alloc (Nat.le_refl _) _), ?_⟩
        simp only [Act.put, List.setIfInBounds_toArray, List.set_cons_zero, List.set_cons_succ]
        exact s2111 _ g3 g7 _ v10 v14 h.mk15
    have s0111 : ∀ (W : World) (g3 g7 g15 : Nat), Ph w W T ob big x snap link (some g3) (some g7) (some g15) none none none → wpAnyH Tryd.prog .any l.toArray Q (fun W => W.heap[T]? = some ob) 6 #[true, true, true, true, false, true, true, true, false, true, true, true, true, true, true, true, false, false, false, false] { tmps := #[u0, .pointer (some ⟨T, 0, none⟩), .slice none 0 0, .int .u32 (x : Int), .pointer (some ⟨T, 1, none⟩), u5, .pointer (some ⟨T, 0, none⟩), .bool big, .int .u32 (x : Int), .slice (some ⟨g3, 0, none⟩) 1 1, undef, .pointer (some ⟨T, 0, none⟩), .bool big, .slice (some ⟨g7, 0, none⟩) 2 2, undef, .pointer (some ⟨T, 0, none⟩), .bool big, .pointer (some ⟨T, 2, none⟩), .int .u32 (snap : Int), .pointer (some ⟨T, 3, none⟩), .int .u32 (link : Int), .slice (some ⟨g15, 0, none⟩) 4 4, undef, undef, undef], defers := [] } W := by
      intro W g3 g7 g15 h
      subst hl
      refine held_one 4 rfl (by kernel_rfl) (by rfl) ?_
      · refine wp_enter (f := 52) (args := #[.bool big, .int .i64 4, .slice (some ⟨g3, 0, none⟩) 1 1]) (by go_simp) ((numbers_put [x] 1 4 big g3 W rfl (by omega) (by omega) (by omega) N3 (h.b3 _ rfl)).mono ?_)
        rintro e W2 ⟨v, rfl, o2, b2⟩
        refine ⟨_, rfl, block_next h.box b2, ?_⟩
        simp only [Act.put, List.setIfInBounds_toArray, List.set_cons_zero, List.set_cons_succ]
        exact s1111 _ g3 g7 g15 _ (h.call10 o2 b2)
    have s1110 : ∀ (W : World) (g3 g7 : Nat) (v10 : Value), Ph w W T ob big x snap link (some g3) (some g7) none (some v10) none none → wpAnyH Tryd.prog .any l.toArray Q (fun W => W.heap[T]? = some ob) 6 #[true, true, true, true, true, true, true, true, false, true, true, true, true, true, true, false, false, false, false, false] { tmps := #[u0, .pointer (some ⟨T, 0, none⟩), .slice none 0 0, .int .u32 (x : Int), .pointer (some ⟨T, 1, none⟩), u5, .pointer (some ⟨T, 0, none⟩), .bool big, .int .u32 (x : Int), .slice (some ⟨g3, 0, none⟩) 1 1, v10, .pointer (some ⟨T, 0, none⟩), .bool big, .slice (some ⟨g7, 0, none⟩) 2 2, undef, .pointer (some ⟨T, 0, none⟩), .bool big, .pointer (some ⟨T, 2, none⟩), .int .u32 (snap : Int), .pointer (some ⟨T, 3, none⟩), .int .u32 (link : Int), undef, undef, undef, undef], defers := [] } W := by
      intro W g3 g7 v10 h
      subst hl
      refine held_pair 8 15 rfl rfl (by kernel_rfl) (by rfl) (by rfl) ?_ ?_
      · refine wp_enter (f := 52) (args := #[.bool big, .int .i64 2, .slice (some ⟨g7, 0, none⟩) 2 2]) (by go_simp) ((numbers_put [2, 4] 2 2 big g7 W rfl (by omega) (by omega) (by omega) N7 (h.b7 _ rfl)).mono ?_)
        rintro e W2 ⟨v, rfl, o2, b2⟩
        refine ⟨_, rfl, block_next h.box b2, ?_⟩
        simp only [Act.put, List.setIfInBounds_toArray, List.set_cons_zero, List.set_cons_succ]
        exact s2110 _ g3 g7 v10 _ (h.call14 o2 b2)
      · refine wp_value (v := .slice (some ⟨W.heap.size, 0, none⟩) 4 4) (w' := W.alloc (.cells #[.int .u32 0, .int .u32 0, .int .u32 (snap : Int), .int .u32 (link : Int)] 23)) (by go_simp) ⟨block_next h.box ((Below.refl _ _).alloc (Nat.le_refl _) _), ?_⟩
        simp only [Act.put, List.setIfInBounds_toArray, List.set_cons_zero, List.set_cons_succ]
        exact s1111 _ g3 g7 _ v10 h.mk15
    have s1101 : ∀ (W : World) (g3 g15 : Nat) (v10 : Value), Ph w W T ob big x snap link (some g3) none (some g15) (some v10) none none → wpAnyH Tryd.prog .any l.toArray Q (fun W => W.heap[T]? = some ob) 6 #[true, true, true, true, true, true, true, false, false, true, true, true, true, true, true, true, false, false, false, false] { tmps := #[u0, .pointer (some ⟨T, 0, none⟩), .slice none 0 0, .int .u32 (x : Int), .pointer (some ⟨T, 1, none⟩), u5, .pointer (some ⟨T, 0, none⟩), .bool big, .int .u32 (x : Int), .slice (some ⟨g3, 0, none⟩) 1 1, v10, .pointer (some ⟨T, 0, none⟩), .bool big, undef, undef, .pointer (some ⟨T, 0, none⟩), .bool big, .pointer (some ⟨T, 2, none⟩), .int .u32 (snap : Int), .pointer (some ⟨T, 3, none⟩), .int .u32 (link : Int), .slice (some ⟨g15, 0, none⟩) 4 4, undef, undef, undef], defers := [] } W := by
      intro W g3 g15 v10 h
      subst hl
      refine held_one 7 rfl (by kernel_rfl) (by rfl) ?_
      · refine wp_value (v := .slice (some ⟨W.heap.size, 0, none⟩) 2 2) (w' := W.alloc (.cells #[.int .u32 2, .int .u32 4] 23)) (by go_simp) ⟨block_next h.box ((Below.refl _ _).alloc (Nat.le_refl _) _), ?_⟩
        simp only [Act.put, List.setIfInBounds_toArray, List.set_cons_zero, List.set_cons_succ]
        exact s1111 _ g3 _ g15 v10 h.mk7
    have s0110 : ∀ (W : World) (g3 g7 : Nat), Ph w W T ob big x snap link (some g3) (some g7) none none none none → wpAnyH Tryd.prog .any l.toArray Q (fun W => W.heap[T]? = some ob) 7 #[true, true, true, true, false, true, true, true, false, true, true, true, true, true, true, false, false, false, false, false] { tmps := #[u0, .pointer (some ⟨T, 0, none⟩), .slice none 0 0, .int .u32 (x : Int), .pointer (some ⟨T, 1, none⟩), u5, .pointer (some ⟨T, 0, none⟩), .bool big, .int .u32 (x : Int), .slice (some ⟨g3, 0, none⟩) 1 1, undef, .pointer (some ⟨T, 0, none⟩), .bool big, .slice (some ⟨g7, 0, none⟩) 2 2, undef, .pointer (some ⟨T, 0, none⟩), .bool big, .pointer (some ⟨T, 2, none⟩), .int .u32 (snap : Int), .pointer (some ⟨T, 3, none⟩), .int .u32 (link : Int), undef, undef, undef, undef], defers := [] } W := by
      intro W g3 g7 h
      subst hl
      refine held_pair 4 15 rfl rfl (by kernel_rfl) (by rfl) (by rfl) ?_ ?_
      · refine wp_enter (f := 52) (args := #[.bool big, .int .i64 4, .slice (some ⟨g3, 0, none⟩) 1 1]) (by go_simp) ((numbers_put [x] 1 4 big g3 W rfl (by omega) (by omega) (by omega) N3 (h.b3 _ rfl)).mono ?_)
        rintro e W2 ⟨v, rfl, o2, b2⟩
        refine ⟨_, rfl, block_next h.box b2, ?_⟩
        simp only [Act.put, List.setIfInBounds_toArray, List.set_cons_zero, List.set_cons_succ]
        exact s1110 _ g3 g7 _ (h.call10 o2 b2)
      · refine wp_value (v := .slice (some ⟨W.heap.size, 0, none⟩) 4 4) (w' := W.alloc (.cells #[.int .u32 0, .int .u32 0, .int .u32 (snap : Int), .int .u32 (link : Int)] 23)) (by go_simp) ⟨block_next h.box ((Below.refl _ _).alloc (Nat.le_refl _) _), ?_⟩
        simp only [Act.put, List.setIfInBounds_toArray, List.set_cons_zero, List.set_cons_succ]
        exact s0111 _ g3 g7 _ h.mk15
    have s0101 : ∀ (W : World) (g3 g15 : Nat), Ph w W T ob big x snap link (some g3) none (some g15) none none none → wpAnyH Tryd.prog .any l.toArray Q (fun W => W.heap[T]? = some ob) 7 #[true, true, true, true, false, true, true, false, false, true, true, true, true, true, true, true, false, false, false, false] { tmps := #[u0, .pointer (some ⟨T, 0, none⟩), .slice none 0 0, .int .u32 (x : Int), .pointer (some ⟨T, 1, none⟩), u5, .pointer (some ⟨T, 0, none⟩), .bool big, .int .u32 (x : Int), .slice (some ⟨g3, 0, none⟩) 1 1, undef, .pointer (some ⟨T, 0, none⟩), .bool big, undef, undef, .pointer (some ⟨T, 0, none⟩), .bool big, .pointer (some ⟨T, 2, none⟩), .int .u32 (snap : Int), .pointer (some ⟨T, 3, none⟩), .int .u32 (link : Int), .slice (some ⟨g15, 0, none⟩) 4 4, undef, undef, undef], defers := [] } W := by
      intro W g3 g15 h
      subst hl
      refine held_pair 4 7 rfl rfl (by kernel_rfl) (by rfl) (by rfl) ?_ ?_
      · refine wp_enter (f := 52) (args := #[.bool big, .int .i64 4, .slice (some ⟨g3, 0, none⟩) 1 1]) (by go_simp) ((numbers_put [x] 1 4 big g3 W rfl (by omega) (by omega) (by omega) N3 (h.b3 _ rfl)).mono ?_)
        rintro e W2 ⟨v, rfl, o2, b2⟩
        refine ⟨_, rfl, block_next h.box b2, ?_⟩
        simp only [Act.put, List.setIfInBounds_toArray, List.set_cons_zero, List.set_cons_succ]
        exact s1101 _ g3 g15 _ (h.call10 o2 b2)
      · refine wp_value (v := .slice (some ⟨W.heap.size, 0, none⟩) 2 2) (w' := W.alloc (.cells #[.int .u32 2, .int .u32 4] 23)) (by go_simp) ⟨block_next h.box ((Below.refl _ _).alloc (Nat.le_refl _) _), ?_⟩
        simp only [Act.put, List.setIfInBounds_toArray, List.set_cons_zero, List.set_cons_succ]
        exact s0111 _ g3 _ g15 h.mk7
    have s0011 : ∀ (W : World) (g7 g15 : Nat), Ph w W T ob big x snap link none (some g7) (some g15) none none none → wpAnyH Tryd.prog .any l.toArray Q (fun W => W.heap[T]? = some ob) 7 #[true, true, true, false, false, true, true, true, false, true, true, true, true, true, true, true, false, false, false, false] { tmps := #[u0, .pointer (some ⟨T, 0, none⟩), .slice none 0 0, .int .u32 (x : Int), .pointer (some ⟨T, 1, none⟩), u5, .pointer (some ⟨T, 0, none⟩), .bool big, .int .u32 (x : Int), undef, undef, .pointer (some ⟨T, 0, none⟩), .bool big, .slice (some ⟨g7, 0, none⟩) 2 2, undef, .pointer (some ⟨T, 0, none⟩), .bool big, .pointer (some ⟨T, 2, none⟩), .int .u32 (snap : Int), .pointer (some ⟨T, 3, none⟩), .int .u32 (link : Int), .slice (some ⟨g15, 0, none⟩) 4 4, undef, undef, undef], defers := [] } W := by
      intro W g7 g15 h
      subst hl
      refine held_one 3 rfl (by kernel_rfl) (by rfl) ?_
      · refine wp_value (v := .slice (some ⟨W.heap.size, 0, none⟩) 1 1) (w' := W.alloc (.cells #[.int .u32 (x : Int)] 23)) (by go_simp) ⟨block_next h.box ((Below.refl _ _).alloc (Nat.le_refl _) _), ?_⟩
        simp only [Act.put, List.setIfInBounds_toArray, List.set_cons_zero, List.set_cons_succ]
        exact s0111 _ _ g7 g15 h.mk3
    have s1100 : ∀ (W : World) (g3 : Nat) (v10 : Value), Ph w W T ob big x snap link (some g3) none none (some v10) none none → wpAnyH Tryd.prog .any l.toArray Q (fun W => W.heap[T]? = some ob) 7 #[true, true, true, true, true, true, true, false, false, true, true, true, true, true, true, false, false, false, false, false] { tmps := #[u0, .pointer (some ⟨T, 0, none⟩), .slice none 0 0, .int .u32 (x : Int), .pointer (some ⟨T, 1, none⟩), u5, .pointer (some ⟨T, 0, none⟩), .bool big, .int .u32 (x : Int), .slice (some ⟨g3, 0, none⟩) 1 1, v10, .pointer (some ⟨T, 0, none⟩), .bool big, undef, undef, .pointer (some ⟨T, 0, none⟩), .bool big, .pointer (some ⟨T, 2, none⟩), .int .u32 (snap : Int), .pointer (some ⟨T, 3, none⟩), .int .u32 (link : Int), undef, undef, undef, undef], defers := [] } W := by
      intro W g3 v10 h
      subst hl
      refine held_pair 7 15 rfl rfl (by kernel_rfl) (by rfl) (by rfl) ?_ ?_
      · refine wp_value (v := .slice (some ⟨W.heap.size, 0, none⟩) 2 2) (w' := W.alloc (.cells #[.int .u32 2, .int .u32 4] 23)) (by go_simp) ⟨block_next h.box ((Below.refl _ _).alloc (Nat.le_refl _) _), ?_⟩
        simp only [Act.put, List.setIfInBounds_toArray, List.set_cons_zero, List.set_cons_succ]
        exact s1110 _ g3 _ v10 h.mk7
      · refine wp_value (v := .slice (some ⟨W.heap.size, 0, none⟩) 4 4) (w' := W.alloc (.cells #[.int .u32 0, .int .u32 0, .int .u32 (snap : Int), .int .u32 (link : Int)] 23)) (by go_simp) ⟨block_next h.box ((Below.refl _ _).alloc (Nat.le_refl _) _), ?_⟩
        simp only [Act.put, List.setIfInBounds_toArray, List.set_cons_zero, List.set_cons_succ]
        exact s1101 _ g3 _ v10 h.mk15
    have s0100 : ∀ (W : World) (g3 : Nat), Ph w W T ob big x snap link (some g3) none none none none none → wpAnyH Tryd.prog .any l.toArray Q (fun W => W.heap[T]? = some ob) 8 #[true, true, true, true, false, true, true, false, false, true, true, true, true, true, true, false, false, false, false, false] { tmps := #[u0, .pointer (some ⟨T, 0, none⟩), .slice none 0 0, .int .u32 (x : Int), .pointer (some ⟨T, 1, none⟩), u5, .pointer (some ⟨T, 0, none⟩), .bool big, .int .u32 (x : Int), .slice (some ⟨g3, 0, none⟩) 1 1, undef, .pointer (some ⟨T, 0, none⟩), .bool big, undef, undef, .pointer (some ⟨T, 0, none⟩), .bool big, .pointer (some ⟨T, 2, none⟩), .int .u32 (snap : Int), .pointer (some ⟨T, 3, none⟩), .int .u32 (link : Int), undef, undef, undef, undef], defers := [] } W := by
      intro W g3 h
      subst hl
      refine held_three 4 7 15 rfl rfl rfl (by kernel_rfl) (by rfl) (by rfl) (by rfl) ?_ ?_ ?_
      · refine wp_enter (f := 52) (args := #[.bool big, .int .i64 4, .slice (some ⟨g3, 0, none⟩) 1 1]) (by go_simp) ((numbers_put [x] 1 4 big g3 W rfl (by omega) (by omega) (by omega) N3 (h.b3 _ rfl)).mono ?_)
        rintro e W2 ⟨v, rfl, o2, b2⟩
        refine ⟨_, rfl, block_next h.box b2, ?_⟩
        simp only [Act.put, List.setIfInBounds_toArray, List.set_cons_zero, List.set_cons_succ]
        exact s1100 _ g3 _ (h.call10 o2 b2)
      · refine wp_value (v := .slice (some ⟨W.heap.size, 0, none⟩) 2 2) (w' := W.alloc (.cells #[.int .u32 2, .int .u32 4] 23)) (by go_simp) ⟨block_next h.box ((Below.refl _ _).alloc (Nat.le_refl _) _), ?_⟩
        simp only [Act.put, List.setIfInBounds_toArray, List.set_cons_zero, List.set_cons_succ]
        exact s0110 _ g3 _ h.mk7
      · refine wp_value (v := .slice (some ⟨W.heap.size, 0, none⟩) 4 4) (w' := W.alloc (.cells #[.int .u32 0, .int .u32 0, .int .u32 (snap : Int), .int .u32 (link : Int)] 23)) (by go_simp) ⟨block_next h.box ((Below.refl _ _).alloc (Nat.le_refl _) _), ?_⟩
        simp only [Act.put, List.setIfInBounds_toArray, List.set_cons_zero, List.set_cons_succ]
        exact s0101 _ g3 _ h.mk15
    have s0010 : ∀ (W : World) (g7 : Nat), Ph w W T ob big x snap link none (some g7) none none none none → wpAnyH Tryd.prog .any l.toArray Q (fun W => W.heap[T]? = some ob) 8 #[true, true, true, false, false, true, true, true, false, true, true, true, true, true, true, false, false, false, false, false] { tmps := #[u0, .pointer (some ⟨T, 0, none⟩), .slice none 0 0, .int .u32 (x : Int), .pointer (some ⟨T, 1, none⟩), u5, .pointer (some ⟨T, 0, none⟩), .bool big, .int .u32 (x : Int), undef, undef, .pointer (some ⟨T, 0, none⟩), .bool big, .slice (some ⟨g7, 0, none⟩) 2 2, undef, .pointer (some ⟨T, 0, none⟩), .bool big, .pointer (some ⟨T, 2, none⟩), .int .u32 (snap : Int), .pointer (some ⟨T, 3, none⟩), .int .u32 (link : Int), undef, undef, undef, undef], defers := [] } W := by
      intro W g7 h
      subst hl
      refine held_pair 3 15 rfl rfl (by kernel_rfl) (by rfl) (by rfl) ?_ ?_
      · refine wp_value (v := .slice (some ⟨W.heap.size, 0, none⟩) 1 1) (w' := W.alloc (.cells #[.int .u32 (x : Int)] 23)) (by go_simp) ⟨block_next h.box ((Below.refl _ _).alloc (Nat.le_refl _) _), ?_⟩
        simp only [Act.put, List.setIfInBounds_toArray, List.set_cons_zero, List.set_cons_succ]
        exact s0110 _ _ g7 h.mk3
      · refine wp_value (v := .slice (some ⟨W.heap.size, 0, none⟩) 4 4) (w' := W.alloc (.cells #[.int .u32 0, .int .u32 0, .int .u32 (snap : Int), .int .u32 (link : Int)] 23)) (by go_simp) ⟨block_next h.box ((Below.refl _ _).alloc (Nat.le_refl _) _), ?_⟩
        simp only [Act.put, List.setIfInBounds_toArray, List.set_cons_zero, List.set_cons_succ]
        exact s0011 _ g7 _ h.mk15
    have s0001 : ∀ (W : World) (g15 : Nat), Ph w W T ob big x snap link none none (some g15) none none none → wpAnyH Tryd.prog .any l.toArray Q (fun W => W.heap[T]? = some ob) 8 #[true, true, true, false, false, true, true, false, false, true, true, true, true, true, true, true, false, false, false, false] { tmps := #[u0, .pointer (some ⟨T, 0, none⟩), .slice none 0 0, .int .u32 (x : Int), .pointer (some ⟨T, 1, none⟩), u5, .pointer (some ⟨T, 0, none⟩), .bool big, .int .u32 (x : Int), undef, undef, .pointer (some ⟨T, 0, none⟩), .bool big, undef, undef, .pointer (some ⟨T, 0, none⟩), .bool big, .pointer (some ⟨T, 2, none⟩), .int .u32 (snap : Int), .pointer (some ⟨T, 3, none⟩), .int .u32 (link : Int), .slice (some ⟨g15, 0, none⟩) 4 4, undef, undef, undef], defers := [] } W := by
      intro W g15 h
      subst hl
      refine held_pair 3 7 rfl rfl (by kernel_rfl) (by rfl) (by rfl) ?_ ?_
      · refine wp_value (v := .slice (some ⟨W.heap.size, 0, none⟩) 1 1) (w' := W.alloc (.cells #[.int .u32 (x : Int)] 23)) (by go_simp) ⟨block_next h.box ((Below.refl _ _).alloc (Nat.le_refl _) _), ?_⟩
        simp only [Act.put, List.setIfInBounds_toArray, List.set_cons_zero, List.set_cons_succ]
        exact s0101 _ _ g15 h.mk3
      · refine wp_value (v := .slice (some ⟨W.heap.size, 0, none⟩) 2 2) (w' := W.alloc (.cells #[.int .u32 2, .int .u32 4] 23)) (by go_simp) ⟨block_next h.box ((Below.refl _ _).alloc (Nat.le_refl _) _), ?_⟩
        simp only [Act.put, List.setIfInBounds_toArray, List.set_cons_zero, List.set_cons_succ]
        exact s0011 _ _ g15 h.mk7
    have s0000 : ∀ (W : World), Ph w W T ob big x snap link none none none none none none → wpAnyH Tryd.prog .any l.toArray Q (fun W => W.heap[T]? = some ob) 9 #[true, true, true, false, false, true, true, false, false, true, true, true, true, true, true, false, false, false, false, false] { tmps := #[u0, .pointer (some ⟨T, 0, none⟩), .slice none 0 0, .int .u32 (x : Int), .pointer (some ⟨T, 1, none⟩), u5, .pointer (some ⟨T, 0, none⟩), .bool big, .int .u32 (x : Int), undef, undef, .pointer (some ⟨T, 0, none⟩), .bool big, undef, undef, .pointer (some ⟨T, 0, none⟩), .bool big, .pointer (some ⟨T, 2, none⟩), .int .u32 (snap : Int), .pointer (some ⟨T, 3, none⟩), .int .u32 (link : Int), undef, undef, undef, undef], defers := [] } W := by
      intro W h
      subst hl
      refine held_three 3 7 15 rfl rfl rfl (by kernel_rfl) (by rfl) (by rfl) (by rfl) ?_ ?_ ?_
      · refine wp_value (v := .slice (some ⟨W.heap.size, 0, none⟩) 1 1) (w' := W.alloc (.cells #[.int .u32 (x : Int)] 23)) (by go_simp) ⟨block_next h.box ((Below.refl _ _).alloc (Nat.le_refl _) _), ?_⟩
        simp only [Act.put, List.setIfInBounds_toArray, List.set_cons_zero, List.set_cons_succ]
        exact s0100 _ _ h.mk3
      · refine wp_value (v := .slice (some ⟨W.heap.size, 0, none⟩) 2 2) (w' := W.alloc (.cells #[.int .u32 2, .int .u32 4] 23)) (by go_simp) ⟨block_next h.box ((Below.refl _ _).alloc (Nat.le_refl _) _), ?_⟩
        simp only [Act.put, List.setIfInBounds_toArray, List.set_cons_zero, List.set_cons_succ]
        exact s0010 _ _ h.mk7
      · refine wp_value (v := .slice (some ⟨W.heap.size, 0, none⟩) 4 4) (w' := W.alloc (.cells #[.int .u32 0, .int .u32 0, .int .u32 (snap : Int), .int .u32 (link : Int)] 23)) (by go_simp) ⟨block_next h.box ((Below.refl _ _).alloc (Nat.le_refl _) _), ?_⟩
        simp only [Act.put, List.setIfInBounds_toArray, List.set_cons_zero, List.set_cons_succ]
        exact s0001 _ _ h.mk15
    subst hl
    subst hQ
    refine held_take 0 (v := ?_) rfl (by kernel_rfl) (by kernel_rfl) (by kernel_rfl) (fun _ _ _ h => h) (by assumption) (by rfl) ?_ ?_
    rotate_left
    · (intro W hW; go_simp; try with_reducible rfl)
    simp only [Act.put, List.setIfInBounds_toArray, List.set_cons_zero, List.set_cons_succ]
    refine held_take 1 (v := ?_) rfl (by kernel_rfl) (by kernel_rfl) (by kernel_rfl) (fun _ _ _ h => h) (by assumption) (by rfl) ?_ ?_
    rotate_left
    · (intro W hW; (have t0 : W.cell? ⟨T, 0, none⟩ = some (.bool big) := by subst hob; exact cell_of_row _ _ _ _ _ _ hW); clear hW; go_simp; try with_reducible rfl)
    simp only [Act.put, List.setIfInBounds_toArray, List.set_cons_zero, List.set_cons_succ]
    refine held_take 2 (v := ?_) rfl (by kernel_rfl) (by kernel_rfl) (by kernel_rfl) (fun _ _ _ h => h) (by assumption) (by rfl) ?_ ?_
    rotate_left
    · (intro W hW; go_simp; try with_reducible rfl)
    simp only [Act.put, List.setIfInBounds_toArray, List.set_cons_zero, List.set_cons_succ]
    refine held_take 5 (v := ?_) rfl (by kernel_rfl) (by kernel_rfl) (by kernel_rfl) (fun _ _ _ h => h) (by assumption) (by rfl) ?_ ?_
    rotate_left
    · (intro W hW; go_simp; try with_reducible rfl)
    simp only [Act.put, List.setIfInBounds_toArray, List.set_cons_zero, List.set_cons_succ]
    refine held_take 6 (v := ?_) rfl (by kernel_rfl) (by kernel_rfl) (by kernel_rfl) (fun _ _ _ h => h) (by assumption) (by rfl) ?_ ?_
    rotate_left
    · (intro W hW; (have t0 : W.cell? ⟨T, 0, none⟩ = some (.bool big) := by subst hob; exact cell_of_row _ _ _ _ _ _ hW); clear hW; go_simp; try with_reducible rfl)
    simp only [Act.put, List.setIfInBounds_toArray, List.set_cons_zero, List.set_cons_succ]
    refine held_take 9 (v := ?_) rfl (by kernel_rfl) (by kernel_rfl) (by kernel_rfl) (fun _ _ _ h => h) (by assumption) (by rfl) ?_ ?_
    rotate_left
    · (intro W hW; go_simp; try with_reducible rfl)
    simp only [Act.put, List.setIfInBounds_toArray, List.set_cons_zero, List.set_cons_succ]
    refine held_take 10 (v := ?_) rfl (by kernel_rfl) (by kernel_rfl) (by kernel_rfl) (fun _ _ _ h => h) (by assumption) (by rfl) ?_ ?_
    rotate_left
    · (intro W hW; (have t0 : W.cell? ⟨T, 0, none⟩ = some (.bool big) := by subst hob; exact cell_of_row _ _ _ _ _ _ hW); clear hW; go_simp; try with_reducible rfl)
    simp only [Act.put, List.setIfInBounds_toArray, List.set_cons_zero, List.set_cons_succ]
    refine held_take 11 (v := ?_) rfl (by kernel_rfl) (by kernel_rfl) (by kernel_rfl) (fun _ _ _ h => h) (by assumption) (by rfl) ?_ ?_
    rotate_left
    · (intro W hW; go_simp; try with_reducible rfl)
    simp only [Act.put, List.setIfInBounds_toArray, List.set_cons_zero, List.set_cons_succ]
    refine held_take 12 (v := ?_) rfl (by kernel_rfl) (by kernel_rfl) (by kernel_rfl) (fun _ _ _ h => h) (by assumption) (by rfl) ?_ ?_
    rotate_left
    · (intro W hW; (have t0 : W.cell? ⟨T, 2, none⟩ = some (.int .u32 (snap : Int)) := by subst hob; exact cell_of_row _ _ _ _ _ _ hW); clear hW; go_simp; try with_reducible rfl)
    simp only [Act.put, List.setIfInBounds_toArray, List.set_cons_zero, List.set_cons_succ]
    refine held_take 13 (v := ?_) rfl (by kernel_rfl) (by kernel_rfl) (by kernel_rfl) (fun _ _ _ h => h) (by assumption) (by rfl) ?_ ?_
    rotate_left
    · (intro W hW; go_simp; try with_reducible rfl)
    simp only [Act.put, List.setIfInBounds_toArray, List.set_cons_zero, List.set_cons_succ]
    refine held_take 14 (v := ?_) rfl (by kernel_rfl) (by kernel_rfl) (by kernel_rfl) (fun _ _ _ h => h) (by assumption) (by rfl) ?_ ?_
    rotate_left
    · (intro W hW; (have t0 : W.cell? ⟨T, 3, none⟩ = some (.int .u32 (link : Int)) := by subst hob; exact cell_of_row _ _ _ _ _ _ hW); clear hW; go_simp; try with_reducible rfl)
    simp only [Act.put, List.setIfInBounds_toArray, List.set_cons_zero, List.set_cons_succ]
    exact s0000 _ ⟨hS, hW, (fun _ e => by cases e), (fun _ e => by cases e), (fun _ e => by cases e), (fun _ e => by cases e), (fun _ e => by cases e), (fun _ e => by cases e)⟩
end Go.Proofs.YtbbnkmhlgfoacaaDoor.S9
