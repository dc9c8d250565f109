/- What CHAP's packets carry: the mathematics. -/
import Derived.Test.YtjalhlofpoknoaaDoorM3Wg
namespace Go.Proofs.YtjalhlofpoknoaaDoor

namespace Ch
/-- What is put of a value and a name: the data, and the error. -/
def put (v s : List UInt8) : List UInt8 × Nat :=
  if v.length = 0 ∨ 255 < v.length then ([], 1) else if 65526 < s.length then ([], 4) else (UInt8.ofNat v.length :: (v ++ s), 0)
/-- What data tell: the value, the name, the error. -/
def read : List UInt8 → List UInt8 × List UInt8 × Nat
  | [] => ([], [], 2)
  | c :: r => if c.toNat = 0 then ([], [], 1) else if r.length < c.toNat then ([], [], 2) else if 65526 < r.length - c.toNat then ([], [], 4) else (r.take c.toNat, r.drop c.toNat, 0)
def byteOf (i : Int) : UInt8 := UInt8.ofNat (i % 256).toNat
def answer (i : Int) (s v : List UInt8) : List UInt8 := S3.Md.sum (byteOf i :: (s ++ v))

theorem byteOf_int (i : Int) : ((byteOf i).toNat : Int) = i % 256 := by
  have h1 : 0 ≤ i % 256 := Int.emod_nonneg _ (by decide)
  have h2 : i % 256 < 256 := Int.emod_lt_of_pos _ (by decide)
  rw [byteOf, UInt8.toNat_ofNat']
  omega
theorem byteOf_mod {i j : Int} (h : i % 256 = j % 256) : byteOf i = byteOf j := by rw [byteOf, byteOf, h]
theorem answer_mod {i j : Int} (h : i % 256 = j % 256) (s v : List UInt8) : answer i s v = answer j s v := by rw [answer, answer, byteOf_mod h]
theorem answer_length (i : Int) (s v : List UInt8) : (answer i s v).length = 16 := S3.Md.digest_length _
/-- It doesn't hang on where the secret ends. -/
theorem answer_cut (i : Int) (s v : List UInt8) (n : Nat) : answer i (s.take n) (s.drop n ++ v) = answer i s v := by
  rw [answer, answer, ← List.append_assoc, List.take_append_drop]

theorem put_bad {v s : List UInt8} (h : v.length = 0 ∨ 255 < v.length) : put v s = ([], 1) := by rw [put, if_pos h]
theorem put_long {v s : List UInt8} (h : ¬ (v.length = 0 ∨ 255 < v.length)) (h2 : 65526 < s.length) : put v s = ([], 4) := by rw [put, if_neg h, if_pos h2]
theorem put_good {v s : List UInt8} (h : ¬ (v.length = 0 ∨ 255 < v.length)) (h2 : ¬ 65526 < s.length) : put v s = (UInt8.ofNat v.length :: (v ++ s), 0) := by rw [put, if_neg h, if_neg h2]
theorem put_small (v s : List UInt8) : (put v s).1.length ≤ 65782 := by
  rw [put]
  split
  · simp
  · split
    · simp
    · rw [List.length_cons, List.length_append]; omega
theorem put_le (v s : List UInt8) : (put v s).2 ≤ 4 := by
  rw [put]
  split
  · simp
  · split <;> simp
/-- What is put is read as it was. -/
theorem read_put {v s : List UInt8} (h : (put v s).2 = 0) : read (put v s).1 = (v, s, 0) := by
  by_cases h1 : v.length = 0 ∨ 255 < v.length
  · rw [put_bad h1] at h; cases h
  by_cases h2 : 65526 < s.length
  · rw [put_long h1 h2] at h; cases h
  rw [put_good h1 h2]
  have e : (UInt8.ofNat v.length).toNat = v.length := by simp; omega
  rw [read, e, if_neg (by omega), if_neg (by rw [List.length_append]; omega), if_neg (by rw [List.length_append]; omega), List.take_left', List.drop_left']
  · rfl
  · rfl
theorem read_end {c : UInt8} {r : List UInt8} (h : c.toNat = 0) : read (c :: r) = ([], [], 1) := by rw [read, if_pos h]
theorem read_cut {c : UInt8} {r : List UInt8} (h : ¬ c.toNat = 0) (h2 : r.length < c.toNat) : read (c :: r) = ([], [], 2) := by rw [read, if_neg h, if_pos h2]
theorem read_long {c : UInt8} {r : List UInt8} (h : ¬ c.toNat = 0) (h2 : ¬ r.length < c.toNat) (h3 : 65526 < r.length - c.toNat) : read (c :: r) = ([], [], 4) := by rw [read, if_neg h, if_neg h2, if_pos h3]
theorem read_good {c : UInt8} {r : List UInt8} (h : ¬ c.toNat = 0) (h2 : ¬ r.length < c.toNat) (h3 : ¬ 65526 < r.length - c.toNat) : read (c :: r) = (r.take c.toNat, r.drop c.toNat, 0) := by rw [read, if_neg h, if_neg h2, if_neg h3]
/-- What is read without an error has just these data. -/
theorem read_back {b : List UInt8} (h : (read b).2.2 = 0) : put (read b).1 (read b).2.1 = (b, 0) := by
  cases b with
  | nil => cases h
  | cons c r =>
    by_cases h1 : c.toNat = 0
    · rw [read_end h1] at h; cases h
    by_cases h2 : r.length < c.toNat
    · rw [read_cut h1 h2] at h; cases h
    by_cases h3 : 65526 < r.length - c.toNat
    · rw [read_long h1 h2 h3] at h; cases h
    rw [read_good h1 h2 h3]
    have hc := UInt8.toNat_lt c
    have hl : (r.take c.toNat).length = c.toNat := by rw [List.length_take]; omega
    simp only
    rw [put_good (by omega) (by rw [List.length_drop]; omega), hl, List.take_append_drop]
    congr 2
    exact UInt8.toNat_inj.1 (by simp)
theorem read_bad {b : List UInt8} (h : (read b).2.2 ≠ 0) : read b = ([], [], (read b).2.2) := by
  cases b with
  | nil => rfl
  | cons c r =>
    by_cases h1 : c.toNat = 0
    · rw [read_end h1]
    by_cases h2 : r.length < c.toNat
    · rw [read_cut h1 h2]
    by_cases h3 : 65526 < r.length - c.toNat
    · rw [read_long h1 h2 h3]
    rw [read_good h1 h2 h3] at h
    exact absurd rfl h
theorem read_small (b : List UInt8) : (read b).1.length ≤ 255 ∧ (read b).2.1.length ≤ 65526 := by
  cases b with
  | nil => exact ⟨Nat.zero_le _, Nat.zero_le _⟩
  | cons c r =>
    have hc := UInt8.toNat_lt c
    by_cases h1 : c.toNat = 0
    · rw [read_end h1]; exact ⟨Nat.zero_le _, Nat.zero_le _⟩
    by_cases h2 : r.length < c.toNat
    · rw [read_cut h1 h2]; exact ⟨Nat.zero_le _, Nat.zero_le _⟩
    by_cases h3 : 65526 < r.length - c.toNat
    · rw [read_long h1 h2 h3]; exact ⟨Nat.zero_le _, Nat.zero_le _⟩
    rw [read_good h1 h2 h3]
    simp only
    rw [List.length_take, List.length_drop]
    omega
end Ch
end Go.Proofs.YtjalhlofpoknoaaDoor
