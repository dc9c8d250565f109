/- Packets, as the document tells them: what Put, Get, Options, Magic and Rejected answer; what follows. -/
import Derived.Test.YtbpkhjjabnboaaaPlainoc
import Derived.Test.YtbpkhjjabnboaaaPlaino
namespace Go.Proofs.Ytbpkhjjabnboaaa
open S2 S12
namespace Pk
structure P where
  code : Int
  id : Int
  data : List UInt8
  deriving DecidableEq
def pz : P := ⟨0, 0, []⟩
theorem P.ext' {x y : P} (h1 : x.code = y.code) (h2 : x.id = y.id) (h3 : x.data = y.data) : x = y := by cases x; cases y; simp_all
/-- May its Code and its Id be? -/
def may (x : P) : Bool := decide (0 ≤ x.code ∧ x.code ≤ 255 ∧ 0 ≤ x.id ∧ x.id ≤ 255)
def err (x : P) : Nat := if may x then (if x.data.length ≤ 65531 then 0 else 4) else 1
theorem err_not (x : P) (h : may x = false) : err x = 1 := by simp [err, h]
theorem err_long (x : P) (h : may x = true) (h2 : ¬ x.data.length ≤ 65531) : err x = 4 := by simp [err, h, h2]
theorem err_none (x : P) (h : may x = true) (h2 : x.data.length ≤ 65531) : err x = 0 := by simp [err, h, h2]
theorem err_zero (x : P) : err x = 0 ↔ (0 ≤ x.code ∧ x.code ≤ 255 ∧ 0 ≤ x.id ∧ x.id ≤ 255) ∧ x.data.length ≤ 65531 := by
  unfold err may
  by_cases h : 0 ≤ x.code ∧ x.code ≤ 255 ∧ 0 ≤ x.id ∧ x.id ≤ 255
  · simp [h]
  · simp [h]
theorem may_in {x : P} (h : may x = true) : 0 ≤ x.code ∧ x.code ≤ 255 ∧ 0 ≤ x.id ∧ x.id ≤ 255 := by simpa [may] using h
theorem may_of {x : P} (h1 : ¬ x.code < 0) (h2 : ¬ 255 < x.code) (h3 : ¬ x.id < 0) (h4 : ¬ 255 < x.id) : may x = true := by simp [may]; omega
theorem may_not {x : P} (h : x.code < 0 ∨ 255 < x.code ∨ x.id < 0 ∨ 255 < x.id) : may x = false := by simp [may]; omega
/-- A byte of a number that is one. -/
def oct (z : Int) : UInt8 := z.toNat.toUInt8
theorem oct_nat {z : Int} (h1 : 0 ≤ z) (h2 : z ≤ 255) : ((oct z).toNat : Int) = z := by simp [oct]; omega
theorem oct_wrap {z : Int} (h1 : 0 ≤ z) (h2 : z ≤ 255) : IntKind.u8.wrap z = ((oct z).toNat : Int) := by rw [oct_nat h1 h2, IntKind.wrap_u8]; omega
theorem oct_back (x : UInt8) : oct (x.toNat : Int) = x := by simp [oct]
/-- A packet's bytes. -/
def size (x : P) : Nat := 4 + x.data.length
def bytes (x : P) : List UInt8 := [oct x.code, oct x.id] ++ (Oc.put (size x) 2 true ++ x.data)
theorem two (n : Nat) : Oc.put n 2 true = [Oc.dg n 1, Oc.dg n 0] := by rw [Oc.put_big, Oc.put_big, Oc.put_zero]; rfl
theorem bytes_four (x : P) : bytes x = oct x.code :: oct x.id :: Oc.dg (size x) 1 :: Oc.dg (size x) 0 :: x.data := by simp [bytes, two]
theorem bytes_len (x : P) : (bytes x).length = size x := by rw [bytes_four]; simp [size]; omega
theorem bytes_flat (x : P) : [[oct x.code, oct x.id], Oc.put (size x) 2 true, x.data].flatten = bytes x := by simp [bytes]
theorem bytes_ref (x : P) : [oct x.code, oct x.id, Oc.dg (size x) 1, Oc.dg (size x) 0] ++ x.data = bytes x := by rw [bytes_four]; rfl

def at0 (b : List UInt8) (i : Nat) : Nat := (b.getD i 0).toNat
def siz (b : List UInt8) : Nat := 256 * at0 b 2 + at0 b 3
def get (b : List UInt8) : P × Nat := if b.length < 4 then (pz, 2) else if siz b < 4 then (pz, 3) else if b.length < siz b then (pz, 2) else (⟨(at0 b 0 : Int), (at0 b 1 : Int), (b.take (siz b)).drop 4⟩, 0)
theorem get_few {b : List UInt8} (h : b.length < 4) : get b = (pz, 2) := by unfold get; rw [if_pos h]
theorem get_form {b : List UInt8} (h : ¬ b.length < 4) (h2 : siz b < 4) : get b = (pz, 3) := by unfold get; rw [if_neg h, if_pos h2]
theorem get_end {b : List UInt8} (h : ¬ b.length < 4) (h2 : ¬ siz b < 4) (h3 : b.length < siz b) : get b = (pz, 2) := by unfold get; rw [if_neg h, if_neg h2, if_pos h3]
theorem get_good {b : List UInt8} (h : ¬ b.length < 4) (h2 : ¬ siz b < 4) (h3 : ¬ b.length < siz b) : get b = (⟨(at0 b 0 : Int), (at0 b 1 : Int), (b.take (siz b)).drop 4⟩, 0) := by unfold get; rw [if_neg h, if_neg h2, if_neg h3]
theorem get_bad {b : List UInt8} (h : (get b).2 ≠ 0) : (get b).1 = pz := by
  unfold get at h ⊢
  split
  · rfl
  · split
    · rfl
    · split
      · rfl
      · simp_all
theorem get_one (b : List UInt8) : (get b).1.data.length ≤ b.length := by
  unfold get
  split
  · simp [pz]
  · split
    · simp [pz]
    · split
      · simp [pz]
      · simp; omega
theorem four_of (b : List UInt8) (h : ¬ b.length < 4) : ∃ x0 x1 x2 x3 l, b = x0 :: x1 :: x2 :: x3 :: l ∧ at0 b 0 = x0.toNat ∧ at0 b 1 = x1.toNat ∧ at0 b 2 = x2.toNat ∧ at0 b 3 = x3.toNat := by
  match b with
  | x0 :: x1 :: x2 :: x3 :: l => exact ⟨x0, x1, x2, x3, l, rfl, rfl, rfl, rfl, rfl⟩
  | [] => simp at h
  | [_] => simp at h
  | [_, _] => simp at h
  | [_, _, _] => simp at h
theorem at0_lt (b : List UInt8) (i : Nat) : at0 b i < 256 := by unfold at0; exact UInt8.toNat_lt _
theorem siz_lt (b : List UInt8) : siz b < 65536 := by
  have := at0_lt b 2
  have := at0_lt b 3
  unfold siz
  omega
theorem siz_get (b : List UInt8) (h : ¬ b.length < 4) : Oc.get ((b.take 4).drop 2) true = siz b := by
  obtain ⟨x0, x1, x2, x3, l, rfl, _, _, h2, h3⟩ := four_of b h
  rw [siz, h2, h3]
  simp [Oc.get, Oc.turn, Oc.val]
  omega
theorem dg_one (n : Nat) (h : n < 65536) : (Oc.dg n 1).toNat = n / 256 := by rw [Oc.dg_nat]; omega
theorem dg_none (n : Nat) : (Oc.dg n 0).toNat = n % 256 := by rw [Oc.dg_nat]; simp
theorem quo_two (s : Nat) (h : s < 65536) : (s : Int) / 256 = ((Oc.dg s 1).toNat : Int) := by rw [dg_one s h]; rfl
theorem rem_two (s : Nat) : (s : Int) % 256 = ((Oc.dg s 0).toNat : Int) := by rw [dg_none s]; rfl
theorem wrap_oct (y : UInt8) : IntKind.u8.wrap (y.toNat : Int) = (y.toNat : Int) := by
  have := UInt8.toNat_lt y
  rw [IntKind.wrap_u8]
  omega
theorem siz_bytes (x : P) (h : x.data.length ≤ 65531) (more : List UInt8) : siz (bytes x ++ more) = size x := by
  have e : siz (bytes x ++ more) = 256 * (Oc.dg (size x) 1).toNat + (Oc.dg (size x) 0).toNat := by rw [bytes_four]; rfl
  rw [e, dg_one _ (by simp [size]; omega), dg_none]
  omega
/-- What is put is read as it was, whatever stands behind. -/
theorem get_put (x : P) (h : err x = 0) (more : List UInt8) : get (bytes x ++ more) = (x, 0) := by
  obtain ⟨⟨h1, h2, h3, h4⟩, h5⟩ := (err_zero x).1 h
  have hl := bytes_len x
  have hs := siz_bytes x h5 more
  have hz : size x = 4 + x.data.length := rfl
  rw [get_good (by rw [List.length_append]; omega) (by omega) (by rw [List.length_append]; omega), hs]
  have e0 : ((at0 (bytes x ++ more) 0 : Nat) : Int) = x.code := by rw [bytes_four]; exact oct_nat h1 h2
  have e1 : ((at0 (bytes x ++ more) 1 : Nat) : Int) = x.id := by rw [bytes_four]; exact oct_nat h3 h4
  have e2 : ((bytes x ++ more).take (size x)).drop 4 = x.data := by rw [List.take_append_of_le_length (by omega), List.take_of_length_le (by omega), bytes_four]; rfl
  rw [e0, e1, e2]
theorem get_cut (x : P) (h : err x = 0) (k : Nat) (hk : k < (bytes x).length) : (get ((bytes x).take k)).2 = 2 := by
  obtain ⟨_, h5⟩ := (err_zero x).1 h
  have hl := bytes_len x
  have hz : size x = 4 + x.data.length := rfl
  have ht : ((bytes x).take k).length = k := by rw [List.length_take]; omega
  by_cases h4 : k < 4
  · rw [get_few (by omega)]
  · have hs : siz ((bytes x).take k) = size x := by
      have e := siz_bytes x h5 []
      rw [List.append_nil] at e
      rw [← e]
      have g : ∀ i, i < 4 → at0 ((bytes x).take k) i = at0 (bytes x) i := fun i hi => by simp [at0, List.getD_eq_getElem?_getD, List.getElem?_take, if_pos (show i < k by omega)]
      rw [siz, siz, g 2 (by omega), g 3 (by omega)]
    rw [get_end (by omega) (by omega) (by omega)]
/-- What is read, put again, is what was read, without the padding. -/
theorem put_get (b : List UInt8) (h : (get b).2 = 0) : err (get b).1 = 0 ∧ (bytes (get b).1).length ≤ b.length ∧ bytes (get b).1 = b.take (bytes (get b).1).length := by
  by_cases h1 : b.length < 4
  · rw [get_few h1] at h; simp at h
  by_cases h2 : siz b < 4
  · rw [get_form h1 h2] at h; simp at h
  by_cases h3 : b.length < siz b
  · rw [get_end h1 h2 h3] at h; simp at h
  rw [get_good h1 h2 h3]
  have hd : ((b.take (siz b)).drop 4).length = siz b - 4 := by rw [List.length_drop, List.length_take]; omega
  have hs := siz_lt b
  have hz : size ⟨(at0 b 0 : Int), (at0 b 1 : Int), (b.take (siz b)).drop 4⟩ = siz b := by show 4 + ((b.take (siz b)).drop 4).length = _; omega
  have a0 := at0_lt b 0
  have a1 := at0_lt b 1
  refine ⟨(err_zero _).2 ⟨⟨by simp only; omega, by simp only; omega, by simp only; omega, by simp only; omega⟩, by simp only; omega⟩, by rw [bytes_len, hz]; omega, ?_⟩
  rw [bytes_len, hz, bytes_four, hz]
  simp only
  obtain ⟨x0, x1, x2, x3, l, rfl, e0, e1, e2, e3⟩ := four_of b h1
  have g1 : Oc.dg (siz (x0 :: x1 :: x2 :: x3 :: l)) 1 = x2 := UInt8.toNat_inj.1 (by rw [dg_one _ hs, siz, e2, e3]; have := UInt8.toNat_lt x3; omega)
  have g0 : Oc.dg (siz (x0 :: x1 :: x2 :: x3 :: l)) 0 = x3 := UInt8.toNat_inj.1 (by rw [dg_none, siz, e2, e3]; have := UInt8.toNat_lt x3; omega)
  rw [g1, g0, e0, e1, oct_back, oct_back]
  obtain ⟨m, hm⟩ : ∃ m, siz (x0 :: x1 :: x2 :: x3 :: l) = m + 4 := ⟨siz (x0 :: x1 :: x2 :: x3 :: l) - 4, by omega⟩
  rw [hm]
  rfl

/-- The first bytes' number, and what stands behind. -/
def split (xs : List UInt8) (k : Nat) : Nat × List UInt8 × Bool := if xs.length < k then (0, [], false) else (Oc.get (xs.take k) true, xs.drop k, true)
theorem split_few {xs : List UInt8} {k : Nat} (h : xs.length < k) : split xs k = (0, [], false) := if_pos h
theorem split_good {xs : List UInt8} {k : Nat} (h : ¬ xs.length < k) : split xs k = (Oc.get (xs.take k) true, xs.drop k, true) := if_neg h
theorem split_lt (xs : List UInt8) (k : Nat) : (split xs k).1 < 256 ^ k := by
  by_cases h : xs.length < k
  · rw [split_few h]; exact Nat.pow_pos (by omega)
  · rw [split_good h]
    have := Oc.get_lt (xs.take k) true
    rw [List.length_take, Nat.min_eq_left (by omega)] at this
    exact this
theorem split_len (xs : List UInt8) (k : Nat) : (split xs k).2.1.length ≤ xs.length := by
  by_cases h : xs.length < k
  · rw [split_few h]; simp
  · rw [split_good h]; simp
def magic (x : P) : Nat × List UInt8 × Bool := if 9 ≤ x.code ∧ x.code ≤ 11 then split x.data 4 else (0, [], false)
def rejected (x : P) : Nat × List UInt8 × Bool := if x.code = 8 then split x.data 2 else (0, [], false)
def options (x : P) : List Ot.O × Bool := if 1 ≤ x.code ∧ x.code ≤ 4 then ((Ot.read x.data).1, decide ((Ot.read x.data).2.2 = 0)) else ([], false)
theorem magic_in {x : P} (h : 9 ≤ x.code ∧ x.code ≤ 11) : magic x = split x.data 4 := if_pos h
theorem magic_out {x : P} (h : ¬ (9 ≤ x.code ∧ x.code ≤ 11)) : magic x = (0, [], false) := if_neg h
theorem rejected_in {x : P} (h : x.code = 8) : rejected x = split x.data 2 := if_pos h
theorem rejected_out {x : P} (h : x.code ≠ 8) : rejected x = (0, [], false) := if_neg h
theorem options_in {x : P} (h : 1 ≤ x.code ∧ x.code ≤ 4) : options x = ((Ot.read x.data).1, decide ((Ot.read x.data).2.2 = 0)) := if_pos h
theorem options_out {x : P} (h : ¬ (1 ≤ x.code ∧ x.code ≤ 4)) : options x = ([], false) := if_neg h
theorem options_len (x : P) : (options x).1.length ≤ x.data.length := by
  by_cases h : 1 ≤ x.code ∧ x.code ≤ 4
  · rw [options_in h]; exact (Ot.read_told x.data).many
  · rw [options_out h]; simp
theorem magic_lt (x : P) : (magic x).1 < 4294967296 := by
  by_cases h : 9 ≤ x.code ∧ x.code ≤ 11
  · rw [magic_in h]; exact split_lt _ _
  · rw [magic_out h]; omega
theorem rejected_lt (x : P) : (rejected x).1 < 65536 := by
  by_cases h : x.code = 8
  · rw [rejected_in h]; exact split_lt _ _
  · rw [rejected_out h]; omega
theorem magic_len (x : P) : (magic x).2.1.length ≤ x.data.length := by
  by_cases h : 9 ≤ x.code ∧ x.code ≤ 11
  · rw [magic_in h]; exact split_len _ _
  · rw [magic_out h]; simp
theorem rejected_len (x : P) : (rejected x).2.1.length ≤ x.data.length := by
  by_cases h : x.code = 8
  · rw [rejected_in h]; exact split_len _ _
  · rw [rejected_out h]; simp
/-- The number, byte by byte, the highest first. -/
theorem hor_step (xs : List UInt8) (k : Nat) (h : k < xs.length) : Oc.hor (xs.take (k + 1)) = 256 * Oc.hor (xs.take k) + (xs[k]).toNat := by rw [List.take_succ_eq_append_getElem h, Oc.hor_snoc]
theorem at0_get (xs : List UInt8) (k : Nat) (h : k < xs.length) : at0 xs k = (xs[k]).toNat := by simp [at0, List.getD_eq_getElem?_getD, h]
theorem hor_at (xs : List UInt8) (k : Nat) (h : k < xs.length) : 256 * Oc.hor (xs.take k) + at0 xs k = Oc.hor (xs.take (k + 1)) := by rw [hor_step xs k h, at0_get xs k h]
theorem hor_get (xs : List UInt8) : Oc.hor xs = Oc.get xs true := by have := Oc.get_hor xs true; simpa [Oc.turn] using this
theorem get_two (xs : List UInt8) (h : ¬ xs.length < 2) : Oc.get (xs.take 2) true = 256 * at0 xs 0 + at0 xs 1 := by
  match xs with
  | x :: y :: l => simp [Oc.get, Oc.turn, Oc.val, at0]; omega
  | [] => simp at h
  | [_] => simp at h
end Pk
end Go.Proofs.Ytbpkhjjabnboaaa
