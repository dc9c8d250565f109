/- Plain mathematics of layer 8 (head): which protocols may be, how frames begin, what they are read as. No program stands in it. -/
import Derived.Test.YtphamnpafafpkaaPlain
namespace Go.Proofs.Ytphamnpafafpkaa
namespace Hd

/-- May a protocol be? -/
def may (p : Int) : Bool := decide (1 ≤ p ∧ p ≤ 65535 ∧ p % 2 = 1 ∧ p / 256 % 2 = 0 ∧ p ≠ 255)
theorem may_iff (p : Int) : may p = true ↔ 1 ≤ p ∧ p ≤ 65535 ∧ p % 2 = 1 ∧ p / 256 % 2 = 0 ∧ p ≠ 255 := by simp [may]
theorem may_not (p : Int) : may p = false ↔ ¬ (1 ≤ p ∧ p ≤ 65535 ∧ p % 2 = 1 ∧ p / 256 % 2 = 0 ∧ p ≠ 255) := by unfold may; exact decide_eq_false_iff_not

/-- The byte at a place, 0 where there is none. -/
def bt (xs : List UInt8) (k : Nat) : Nat := (xs[k]?.map UInt8.toNat).getD 0
theorem bt_lt (xs : List UInt8) (k : Nat) : bt xs k < 256 := by
  unfold bt
  cases xs[k]? with
  | none => simp
  | some x => simpa using x.toNat_lt
theorem bt_out (xs : List UInt8) (k : Nat) (h : xs.length ≤ k) : bt xs k = 0 := by simp [bt, h]
theorem bt_in (xs : List UInt8) (k : Nat) (h : k < xs.length) : bt xs k = xs[k].toNat := by simp [bt, h]

/-- Two bytes at a place, 0 where they are not there. -/
def two (xs : List UInt8) (k : Nat) : Nat := if k + 2 ≤ xs.length then 256 * bt xs k + bt xs (k + 1) else 0
theorem get_one (xs : List UInt8) (k : Nat) (h : k + 1 ≤ xs.length) : Oc.get ((xs.drop k).take 1) true = bt xs k := by
  have e : (xs.drop k).take 1 = [xs[k]] := by rw [List.drop_eq_getElem_cons (by omega)]; rfl
  rw [bt_in xs k (by omega), e]
  simp [Oc.get, Oc.turn, Oc.val]
theorem get_two (xs : List UInt8) (k : Nat) (h : k + 2 ≤ xs.length) : Oc.get ((xs.drop k).take 2) true = two xs k := by
  have e : (xs.drop k).take 2 = [xs[k], xs[k + 1]] := by rw [List.drop_eq_getElem_cons (by omega), List.drop_eq_getElem_cons (by omega)]; rfl
  rw [two, if_pos h, bt_in xs k (by omega), bt_in xs (k + 1) (by omega), e]
  simp [Oc.get, Oc.turn, Oc.val]
  omega
theorem two_lt (xs : List UInt8) (k : Nat) : two xs k < 65536 := by
  unfold two
  have h1 := bt_lt xs k
  have h2 := bt_lt xs (k + 1)
  split <;> omega

/-- The place behind address and control, and the error. -/
def pass (xs : List UInt8) : Nat × Nat :=
  if bt xs 0 ≠ 255 then (0, 0) else if xs.length < 2 then (0, 2) else if bt xs 1 ≠ 3 then (0, 3) else (2, 0)
/-- The protocol at a place, the place behind it, and the error. -/
def tail (xs : List UInt8) (k : Nat) : Nat × Nat × Nat :=
  if bt xs k % 2 = 1 then (if bt xs k = 255 then (0, 0, 3) else (bt xs k, k + 1, 0))
  else if xs.length < k + 2 then (0, 0, 2) else if may (256 * bt xs k + bt xs (k + 1) : Nat) = true then (256 * bt xs k + bt xs (k + 1), k + 2, 0) else (0, 0, 3)
/-- What a frame's beginning is read as. -/
def read (xs : List UInt8) : Nat × Nat × Nat := if (pass xs).2 = 0 then tail xs (pass xs).1 else (0, 0, (pass xs).2)

theorem may_one (c : Nat) (h : c < 256) : may (c : Int) = decide (c % 2 = 1 ∧ c ≠ 255) := by
  rw [Bool.eq_iff_iff, may_iff]
  simp only [decide_eq_true_eq]
  omega
theorem may_two (c d : Nat) (hc : c < 256) (hd : d < 256) (h : c % 2 = 0) : may ((256 * c + d : Nat) : Int) = decide (d % 2 = 1 ∧ ¬ (c = 0 ∧ d = 255)) := by
  rw [Bool.eq_iff_iff, may_iff]
  simp only [decide_eq_true_eq]
  omega

theorem pass_zero (xs : List UInt8) (h : bt xs 0 ≠ 255) : pass xs = (0, 0) := by simp [pass, h]
theorem pass_end (xs : List UInt8) (h : bt xs 0 = 255) (h2 : xs.length < 2) : pass xs = (0, 2) := by simp [pass, h, h2]
theorem pass_form (xs : List UInt8) (h : bt xs 0 = 255) (h2 : ¬ xs.length < 2) (h3 : bt xs 1 ≠ 3) : pass xs = (0, 3) := by simp [pass, h, h2, h3]
theorem pass_full (xs : List UInt8) (h : bt xs 0 = 255) (h2 : ¬ xs.length < 2) (h3 : bt xs 1 = 3) : pass xs = (2, 0) := by simp [pass, h, h2, h3]
theorem pass_le (xs : List UInt8) : (pass xs).1 ≤ xs.length ∧ (pass xs).1 ≤ 2 := by
  unfold pass
  by_cases h : bt xs 0 ≠ 255
  · rw [if_pos h]; exact ⟨Nat.zero_le _, by omega⟩
  · rw [if_neg h]
    by_cases h2 : xs.length < 2
    · rw [if_pos h2]; exact ⟨Nat.zero_le _, by omega⟩
    · rw [if_neg h2]
      by_cases h3 : bt xs 1 ≠ 3
      · rw [if_pos h3]; exact ⟨Nat.zero_le _, by omega⟩
      · rw [if_neg h3]; exact ⟨by omega, by omega⟩
theorem pass_err (xs : List UInt8) : (pass xs).2 ≤ 3 := by
  unfold pass
  split
  · omega
  · split
    · omega
    · split <;> omega

theorem tail_one (xs : List UInt8) (k : Nat) (h : bt xs k % 2 = 1) (h2 : bt xs k ≠ 255) : tail xs k = (bt xs k, k + 1, 0) := by simp [tail, h, h2]
theorem tail_ff (xs : List UInt8) (k : Nat) (h2 : bt xs k = 255) : tail xs k = (0, 0, 3) := by simp [tail, h2]
theorem tail_end (xs : List UInt8) (k : Nat) (h : ¬ bt xs k % 2 = 1) (h2 : xs.length < k + 2) : tail xs k = (0, 0, 2) := by simp only [tail]; rw [if_neg h, if_pos h2]
theorem tail_two (xs : List UInt8) (k : Nat) (h : ¬ bt xs k % 2 = 1) (h2 : ¬ xs.length < k + 2) (h3 : may (256 * bt xs k + bt xs (k + 1) : Nat) = true) : tail xs k = (256 * bt xs k + bt xs (k + 1), k + 2, 0) := by simp only [tail]; rw [if_neg h, if_neg h2, if_pos h3]
theorem tail_form (xs : List UInt8) (k : Nat) (h : ¬ bt xs k % 2 = 1) (h2 : ¬ xs.length < k + 2) (h3 : may (256 * bt xs k + bt xs (k + 1) : Nat) = false) : tail xs k = (0, 0, 3) := by
  simp only [tail]; rw [if_neg h, if_neg h2, if_neg (by rw [h3]; exact Bool.false_ne_true)]

/-- What is known of what is read. -/
structure Known (xs : List UInt8) (p t e : Nat) : Prop where
  le : t ≤ xs.length
  small : p < 65536
  err : e ≤ 3
  bad : e ≠ 0 → p = 0 ∧ t = 0
  good : e = 0 → may (p : Int) = true ∧ 1 ≤ t
theorem tail_known (xs : List UInt8) (k : Nat) : Known xs (tail xs k).1 (tail xs k).2.1 (tail xs k).2.2 := by
  have hb := bt_lt xs k
  have hb1 := bt_lt xs (k + 1)
  by_cases h1 : bt xs k % 2 = 1
  · by_cases h2 : bt xs k = 255
    · rw [tail_ff xs k h2]; exact ⟨Nat.zero_le _, by decide, by decide, fun _ => ⟨rfl, rfl⟩, fun h => by cases h⟩
    · rw [tail_one xs k h1 h2]
      have hk : k < xs.length := by
        rcases Nat.lt_or_ge k xs.length with h | h
        · exact h
        · rw [bt_out xs k h] at h1; omega
      exact ⟨hk, by show bt xs k < 65536; omega, Nat.zero_le _, fun h => absurd rfl h, fun _ => ⟨by show may (bt xs k : Int) = true; rw [may_one _ hb]; exact decide_eq_true ⟨h1, h2⟩, by show 1 ≤ k + 1; omega⟩⟩
  · by_cases h2 : xs.length < k + 2
    · rw [tail_end xs k h1 h2]; exact ⟨Nat.zero_le _, by decide, by decide, fun _ => ⟨rfl, rfl⟩, fun h => by cases h⟩
    · cases h3 : may (256 * bt xs k + bt xs (k + 1) : Nat) with
      | true => rw [tail_two xs k h1 h2 h3]; exact ⟨by show k + 2 ≤ _; omega, by show 256 * bt xs k + bt xs (k + 1) < 65536; omega, Nat.zero_le _, fun h => absurd rfl h, fun _ => ⟨h3, by show 1 ≤ k + 2; omega⟩⟩
      | false => rw [tail_form xs k h1 h2 h3]; exact ⟨Nat.zero_le _, by decide, by decide, fun _ => ⟨rfl, rfl⟩, fun h => by cases h⟩
theorem read_known (xs : List UInt8) : Known xs (read xs).1 (read xs).2.1 (read xs).2.2 := by
  unfold read
  by_cases h : (pass xs).2 = 0
  · rw [if_pos h]; exact tail_known xs _
  · rw [if_neg h]; exact ⟨Nat.zero_le _, by show 0 < 65536; omega, pass_err xs, fun _ => ⟨rfl, rfl⟩, fun h2 => absurd h2 h⟩
theorem read_pass (xs : List UInt8) (k : Nat) (h : pass xs = (k, 0)) : read xs = tail xs k := by simp [read, h]
theorem read_err (xs : List UInt8) (e : Nat) (h : pass xs = (0, e)) (he : e ≠ 0) : read xs = (0, 0, e) := by simp [read, h, he]

/-- How many bytes a protocol is put in. -/
def wide (p : Nat) (short : Bool) : Nat := if short = true ∧ p < 256 then 1 else 2
theorem wide_le (p : Nat) (short : Bool) : 1 ≤ wide p short ∧ wide p short ≤ 2 := by unfold wide; split <;> omega
theorem wide_fits (p : Nat) (short : Bool) (h : p < 65536) : p < 256 ^ wide p short := by
  unfold wide
  split <;> omega
/-- Address and control. -/
def ahead (full : Bool) : List UInt8 := if full = true then [255, 3] else []
/-- How a frame begins. -/
def put (p : Nat) (full short : Bool) : List UInt8 := ahead full ++ Oc.put p (wide p short) true
theorem put_length (p : Nat) (full short : Bool) : (put p full short).length = (ahead full).length + wide p short := by rw [put, List.length_append, Oc.put_length]
theorem put_pos (p : Nat) (full short : Bool) : 1 ≤ (put p full short).length ∧ (put p full short).length ≤ 4 := by
  rw [put_length]
  have := wide_le p short
  cases full <;> simp [ahead] <;> omega
theorem oput_one (p : Nat) : Oc.put p 1 true = [Oc.dg p 0] := rfl
theorem oput_two (p : Nat) : Oc.put p 2 true = [Oc.dg p 1, Oc.dg p 0] := rfl

theorem tail_put (p : Nat) (short : Bool) (A more : List UInt8) (h : may (p : Int) = true) : tail (A ++ Oc.put p (wide p short) true ++ more) A.length = (p, A.length + wide p short, 0) := by
  have hm := (may_iff _).1 h
  by_cases hs : short = true ∧ p < 256
  · have hw : wide p short = 1 := by unfold wide; rw [if_pos hs]
    rw [hw, oput_one]
    have hb : bt (A ++ [Oc.dg p 0] ++ more) A.length = p := by
      simp [bt, Oc.dg_nat]
      omega
    rw [tail_one _ _ (by rw [hb]; omega) (by rw [hb]; omega), hb]
  · have hw : wide p short = 2 := by unfold wide; rw [if_neg hs]
    rw [hw, oput_two]
    have hb : bt (A ++ [Oc.dg p 1, Oc.dg p 0] ++ more) A.length = p / 256 := by
      simp [bt, Oc.dg_nat]; omega
    have hb1 : bt (A ++ [Oc.dg p 1, Oc.dg p 0] ++ more) (A.length + 1) = p % 256 := by
      simp [bt, Oc.dg_nat]
    have e : 256 * (p / 256) + p % 256 = p := by omega
    rw [tail_two _ _ (by rw [hb]; omega) (by simp) (by rw [hb, hb1, e]; exact h), hb, hb1, e]
theorem bt_put0 (p : Nat) (short : Bool) (more : List UInt8) (h : may (p : Int) = true) : bt (Oc.put p (wide p short) true ++ more) 0 ≠ 255 := by
  have hm := (may_iff _).1 h
  by_cases hs : short = true ∧ p < 256
  · have hw : wide p short = 1 := by unfold wide; rw [if_pos hs]
    rw [hw, oput_one]
    simp [bt, Oc.dg_nat]
    omega
  · have hw : wide p short = 2 := by unfold wide; rw [if_neg hs]
    rw [hw, oput_two]
    simp [bt, Oc.dg_nat]
    omega
/-- What is put is read as it was, whatever stands behind. -/
theorem read_put (p : Nat) (full short : Bool) (more : List UInt8) (h : may (p : Int) = true) : read (put p full short ++ more) = (p, (put p full short).length, 0) := by
  rw [put_length]
  have ht := tail_put p short (ahead full) more h
  cases full with
  | false =>
    have e : put p false short = Oc.put p (wide p short) true := rfl
    rw [e, read_pass _ 0 (pass_zero _ (bt_put0 p short more h))]
    exact ht
  | true =>
    have hp : pass (put p true short ++ more) = (2, 0) := pass_full _ rfl (by simp [put, ahead]) rfl
    rw [read_pass _ 2 hp]
    exact ht
theorem take_even (p k : Nat) (short : Bool) (h : may (p : Int) = true) (hk : k < wide p short) (A : List UInt8) : tail (A ++ (Oc.put p (wide p short) true).take k) A.length = (0, 0, 2) := by
  have hm := (may_iff _).1 h
  have hw := wide_le p short
  have hk2 : k = 0 ∨ (k = 1 ∧ wide p short = 2) := by omega
  rcases hk2 with rfl | ⟨rfl, h2⟩
  · exact tail_end _ _ (by rw [bt_out _ _ (by simp)]; omega) (by simp)
  · rw [h2, oput_two]
    refine tail_end _ _ ?_ (by simp)
    simp [bt, Oc.dg_nat]
    omega
/-- What is put and cut off is at its end. -/
theorem read_cut (p : Nat) (full short : Bool) (k : Nat) (h : may (p : Int) = true) (hk : k < (put p full short).length) : read ((put p full short).take k) = (0, 0, 2) := by
  rw [put_length] at hk
  have hm := (may_iff _).1 h
  cases full with
  | false =>
    have e : put p false short = Oc.put p (wide p short) true := rfl
    have hk2 : k < wide p short := by simpa [ahead] using hk
    have ht := take_even p k short h hk2 []
    rw [e]
    rw [read_pass _ 0 (pass_zero _ ?_)]
    · exact ht
    · have h0 := bt_put0 p short [] h
      rw [List.append_nil] at h0
      rcases Nat.eq_zero_or_pos k with rfl | h1
      · rw [bt_out _ _ (by simp)]; omega
      · intro h2
        refine h0 ?_
        rw [← h2]
        unfold bt
        rw [List.getElem?_take, if_pos h1]
  | true =>
    have hk2 : k < 2 + wide p short := by simpa [ahead] using hk
    rcases Nat.lt_or_ge k 2 with h1 | h1
    · have hk3 : k = 0 ∨ k = 1 := by omega
      rcases hk3 with rfl | rfl
      · rfl
      · rfl
    · obtain ⟨j, rfl⟩ : ∃ j, k = 2 + j := ⟨k - 2, by omega⟩
      have e : (put p true short).take (2 + j) = [255, 3] ++ (Oc.put p (wide p short) true).take j := by
        show ((255 : UInt8) :: 3 :: Oc.put p (wide p short) true).take (2 + j) = _
        rw [Nat.add_comm]; rfl
      rw [e, read_pass _ 2 (pass_full _ rfl (by simp) rfl)]
      exact take_even p j short h (by omega) [255, 3]

/-- The four ways, one after another. -/
def way (p i : Nat) : List UInt8 := put p (decide (i % 2 = 1)) (decide (i / 2 = 1))
/-- Is one of the first k ways the text? -/
def hit (p : Nat) (ys : List UInt8) : Nat → Bool
  | 0 => false
  | k + 1 => hit p ys k || decide (way p k = ys)
theorem hit_of (p : Nat) (ys : List UInt8) (i : Nat) (h : way p i = ys) : ∀ k, i < k → hit p ys k = true
  | 0, hk => by omega
  | k + 1, hk => by
    unfold hit
    rcases Nat.lt_or_ge i k with h1 | h1
    · rw [hit_of p ys i h k h1]; rfl
    · obtain rfl : i = k := by omega
      rw [h]; simp
theorem tail_way (xs A : List UInt8) (k : Nat) (hA : xs.take k = A) (he : (tail xs k).2.2 = 0) :
    ∃ short : Bool, A ++ Oc.put (tail xs k).1 (wide (tail xs k).1 short) true = xs.take (tail xs k).2.1 := by
  have hb := bt_lt xs k
  have hb1 := bt_lt xs (k + 1)
  by_cases h1 : bt xs k % 2 = 1
  · by_cases h2 : bt xs k = 255
    · rw [tail_ff xs k h2] at he; cases he
    · rw [tail_one xs k h1 h2]
      have hk2 : k < xs.length := by
        rcases Nat.lt_or_ge k xs.length with h | h
        · exact h
        · rw [bt_out xs k h] at h1; omega
      refine ⟨true, ?_⟩
      have hw : wide (bt xs k) true = 1 := by unfold wide; rw [if_pos ⟨rfl, hb⟩]
      show A ++ Oc.put (bt xs k) (wide (bt xs k) true) true = xs.take (k + 1)
      rw [hw, oput_one, List.take_succ_eq_append_getElem hk2, hA]
      congr 2
      apply UInt8.toNat_inj.1
      rw [Oc.dg_nat, bt_in xs k hk2]
      have := xs[k].toNat_lt
      omega
  · by_cases h2 : xs.length < k + 2
    · rw [tail_end xs k h1 h2] at he; cases he
    · cases h3 : may (256 * bt xs k + bt xs (k + 1) : Nat) with
      | false => rw [tail_form xs k h1 h2 h3] at he; cases he
      | true =>
        rw [tail_two xs k h1 h2 h3]
        refine ⟨false, ?_⟩
        show A ++ Oc.put (256 * bt xs k + bt xs (k + 1)) 2 true = xs.take (k + 2)
        have hk2 : k < xs.length := by omega
        have hk3 : k + 1 < xs.length := by omega
        rw [oput_two, List.take_succ_eq_append_getElem hk3, List.take_succ_eq_append_getElem hk2, hA, List.append_assoc]
        have e1 : Oc.dg (256 * bt xs k + bt xs (k + 1)) 1 = xs[k] := by
          apply UInt8.toNat_inj.1
          rw [Oc.dg_nat, ← bt_in xs k hk2]
          omega
        have e0 : Oc.dg (256 * bt xs k + bt xs (k + 1)) 0 = xs[k + 1] := by
          apply UInt8.toNat_inj.1
          rw [Oc.dg_nat, ← bt_in xs (k + 1) hk3]
          omega
        rw [e1, e0]; rfl
/-- What is read is put in one of the ways. -/
theorem read_hit (xs : List UInt8) (he : (read xs).2.2 = 0) : hit (read xs).1 (xs.take (read xs).2.1) 4 = true := by
  have main : ∀ full : Bool, ∀ k, xs.take k = ahead full → read xs = tail xs k → hit (read xs).1 (xs.take (read xs).2.1) 4 = true := by
    intro full k hA hr
    rw [hr] at he ⊢
    obtain ⟨short, hs⟩ := tail_way xs _ k hA he
    cases full <;> cases short
    · exact hit_of _ _ 0 hs 4 (by omega)
    · exact hit_of _ _ 2 hs 4 (by omega)
    · exact hit_of _ _ 1 hs 4 (by omega)
    · exact hit_of _ _ 3 hs 4 (by omega)
  by_cases h0 : bt xs 0 ≠ 255
  · exact main false 0 rfl (read_pass xs 0 (pass_zero xs h0))
  · have h0' : bt xs 0 = 255 := by omega
    by_cases h2 : xs.length < 2
    · rw [read_err xs 2 (pass_end xs h0' h2) (by omega)] at he; cases he
    · by_cases h3 : bt xs 1 = 3
      · refine main true 2 ?_ (read_pass xs 2 (pass_full xs h0' h2 h3))
        rw [List.take_succ_eq_append_getElem (by omega), List.take_succ_eq_append_getElem (by omega)]
        rw [bt_in xs 0 (by omega)] at h0'
        rw [bt_in xs 1 (by omega)] at h3
        have e0 : xs[0] = 255 := UInt8.toNat_inj.1 h0'
        have e1 : xs[1] = 3 := UInt8.toNat_inj.1 h3
        rw [e0, e1]; rfl
      · rw [read_err xs 3 (pass_form xs h0' h2 h3) (by omega)] at he; cases he
end Hd
end Go.Proofs.Ytphamnpafafpkaa
