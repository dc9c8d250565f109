/- Frame check sequences, by plain functions on numbers and bytes: the register behind bytes is so many shifts of their number, turned by what it was; shifts forget nothing, so a burst is found. No program stands in it. -/
import Derived.KernelRfl
import Derived.Laws.Bits64
import Derived.Laws.BitsAllLaws
import Derived.Laws.BitsLemmas
namespace Go.Proofs.Ythmljgpnkealaaa
namespace Fc

def poly (wide : Bool) : Nat := if wide then 3988292384 else 33800
def ones (wide : Bool) : Nat := if wide then 4294967295 else 65535
def size (wide : Bool) : Nat := if wide then 4 else 2

/-- One shift. -/
def step (p w : Nat) : Nat := if w % 2 = 1 then (w / 2) ^^^ p else w / 2
/-- So many shifts. -/
def run (p : Nat) : Nat → Nat → Nat
  | 0, w => w
  | k + 1, w => step p (run p k w)
/-- The register behind bytes. -/
def one (p w : Nat) (x : UInt8) : Nat := run p 8 (w ^^^ x.toNat)
def more (p w : Nat) (l : List UInt8) : Nat := l.foldl (one p) w
/-- The number of bytes, the lowest first. -/
def val : List UInt8 → Nat
  | [] => 0
  | x :: l => x.toNat + 256 * val l
/-- A number's bytes, the lowest first. -/
def le : Nat → Nat → List UInt8
  | 0, _ => []
  | k + 1, v => UInt8.ofNat v :: le k (v / 256)

theorem xor_zero_eq {a b : Nat} (h : a ^^^ b = 0) : a = b := by
  have h2 : (a ^^^ b) ^^^ b = 0 ^^^ b := by rw [h]
  rw [Nat.xor_assoc, Nat.xor_self, Nat.xor_zero, Nat.zero_xor] at h2
  exact h2

theorem step_xor (p a b : Nat) : step p (a ^^^ b) = step p a ^^^ step p b := by
  unfold step
  have h2 : (a ^^^ b) / 2 = a / 2 ^^^ b / 2 := Nat.xor_div_two
  have h3 : (a ^^^ b) % 2 = 1 ↔ ¬ (a % 2 = 1 ↔ b % 2 = 1) := Nat.xor_mod_two_eq_one
  rw [h2]
  by_cases ha : a % 2 = 1 <;> by_cases hb : b % 2 = 1
  · rw [if_neg (by rw [h3]; simp [ha, hb]), if_pos ha, if_pos hb]
    rw [show a / 2 ^^^ p ^^^ (b / 2 ^^^ p) = a / 2 ^^^ b / 2 ^^^ (p ^^^ p) by ac_rfl, Nat.xor_self, Nat.xor_zero]
  · rw [if_pos (by rw [h3]; simp [ha, hb]), if_pos ha, if_neg hb]; ac_rfl
  · rw [if_pos (by rw [h3]; simp [ha, hb]), if_neg ha, if_pos hb]; ac_rfl
  · rw [if_neg (by rw [h3]; simp [ha, hb]), if_neg ha, if_neg hb]

theorem run_xor (p k a b : Nat) : run p k (a ^^^ b) = run p k a ^^^ run p k b := by
  induction k with
  | zero => rfl
  | succ k ih => rw [run, ih, step_xor]; rfl
theorem run_add (p a b w : Nat) : run p (a + b) w = run p b (run p a w) := by
  induction b with
  | zero => rfl
  | succ b ih => rw [← Nat.add_assoc, run, ih]; rfl
theorem step_double (p m : Nat) : step p (2 * m) = m := by
  unfold step; rw [if_neg (by omega)]; omega
theorem run_shift (p k m : Nat) : run p k (2 ^ k * m) = m := by
  induction k generalizing m with
  | zero => simp [run]
  | succ k ih => rw [run, Nat.pow_succ, Nat.mul_assoc, ih, step_double]
theorem step_lt (p w n : Nat) (hp : p < 2 ^ n) (hw : w < 2 ^ n) : step p w < 2 ^ n := by
  unfold step
  have h : w / 2 < 2 ^ n := by omega
  split
  · exact Nat.xor_lt_two_pow h hp
  · exact h
theorem run_lt (p w n k : Nat) (hp : p < 2 ^ n) (hw : w < 2 ^ n) : run p k w < 2 ^ n := by
  induction k with
  | zero => exact hw
  | succ k ih => exact step_lt _ _ _ hp ih
theorem step_zero (p w n : Nat) (hq : 2 ^ n ≤ p) (hw : w < 2 ^ (n + 1)) (h : step p w = 0) : w = 0 := by
  unfold step at h
  split at h
  · have := xor_zero_eq h
    rw [Nat.pow_succ] at hw
    omega
  · omega
theorem run_zero (p w n k : Nat) (hq : 2 ^ n ≤ p) (hp : p < 2 ^ (n + 1)) (hw : w < 2 ^ (n + 1)) (h : run p k w = 0) : w = 0 := by
  induction k with
  | zero => exact h
  | succ k ih => exact ih (step_zero p _ n hq (run_lt p w (n + 1) k hp hw) h)
theorem run_inj (p a b n k : Nat) (hq : 2 ^ n ≤ p) (hp : p < 2 ^ (n + 1)) (ha : a < 2 ^ (n + 1)) (hb : b < 2 ^ (n + 1)) (h : run p k a = run p k b) : a = b := by
  refine xor_zero_eq (run_zero p _ n k hq hp (Nat.xor_lt_two_pow ha hb) ?_)
  rw [run_xor, h, Nat.xor_self]
theorem run_null (p k : Nat) : run p k 0 = 0 := by
  induction k with
  | zero => rfl
  | succ k ih => rw [run, ih]; rfl

theorem apart (x v : Nat) (hx : x < 256) : x + 256 * v = x ^^^ 256 * v := by
  apply Nat.eq_of_testBit_eq
  intro i
  rw [Nat.add_comm, show 256 = 2 ^ 8 from rfl, Nat.testBit_two_pow_mul_add _ hx, Nat.testBit_xor, Nat.testBit_two_pow_mul]
  by_cases h : i < 8
  · simp [h, show ¬ 8 ≤ i by omega]
  · have hx2 : x.testBit i = false := Nat.testBit_lt_two_pow (Nat.lt_of_lt_of_le (show x < 2 ^ 8 from hx) (Nat.pow_le_pow_right (by omega) (Nat.le_of_not_lt h)))
    simp [h, hx2, show 8 ≤ i by omega]
theorem mul_xor (k a b : Nat) : 2 ^ k * (a ^^^ b) = 2 ^ k * a ^^^ 2 ^ k * b := by
  have h := @Nat.shiftLeft_xor_distrib k a b
  simp only [Nat.shiftLeft_eq, Nat.mul_comm _ (2 ^ k)] at h
  exact h
/-- A byte is gone through by the table. -/
theorem by_table (p w x : Nat) : run p 8 (w ^^^ x) = w / 256 ^^^ run p 8 (w % 256 ^^^ x) := by
  have h : w = w % 256 ^^^ 256 * (w / 256) := by rw [← apart _ _ (Nat.mod_lt _ (by omega))]; omega
  have h2 := run_shift p 8 (w / 256)
  rw [show (2 : Nat) ^ 8 = 256 from rfl] at h2
  have h3 : w ^^^ x = (w % 256 ^^^ x) ^^^ 256 * (w / 256) := by
    conv => lhs; rw [h]
    ac_rfl
  rw [h3, run_xor, h2, Nat.xor_comm]

theorem more_nil (p w : Nat) : more p w [] = w := rfl
theorem more_cons (p w : Nat) (x : UInt8) (l : List UInt8) : more p w (x :: l) = more p (run p 8 (w ^^^ x.toNat)) l := by
  unfold more; rw [List.foldl_cons]; unfold one; rfl
theorem more_eq (p w : Nat) (l : List UInt8) : more p w l = run p (8 * l.length) (w ^^^ val l) := by
  induction l generalizing w with
  | nil => rw [more_nil]; simp [run, val]
  | cons x l ih =>
    have h2 := run_shift p 8 (val l)
    rw [show (2 : Nat) ^ 8 = 256 from rfl] at h2
    rw [more_cons, ih, val, apart _ _ x.toNat_lt, List.length_cons, Nat.mul_add, Nat.mul_one, Nat.add_comm (8 * l.length) 8, run_add]
    congr 1
    rw [← Nat.xor_assoc, run_xor p 8 _ (256 * val l), h2]
theorem more_append (p w : Nat) (a b : List UInt8) : more p w (a ++ b) = more p (more p w a) b := by
  induction a generalizing w with
  | nil => rfl
  | cons x a ih => rw [List.cons_append, more_cons, more_cons, ih]
theorem more_snoc (p w : Nat) (a : List UInt8) (x : UInt8) : more p w (a ++ [x]) = run p 8 (more p w a ^^^ x.toNat) := by
  rw [more_append, more_cons, more_nil]

theorem val_lt (l : List UInt8) : val l < 256 ^ l.length := by
  induction l with
  | nil => simp [val]
  | cons x l ih =>
    have := x.toNat_lt
    rw [val, List.length_cons, Nat.pow_succ]; omega
theorem le_length (k v : Nat) : (le k v).length = k := by
  induction k generalizing v with
  | zero => rfl
  | succ k ih => rw [le, List.length_cons, ih]
theorem val_le (k v : Nat) : val (le k v) = v % 256 ^ k := by
  induction k generalizing v with
  | zero => simp [le, val, Nat.mod_one]
  | succ k ih =>
    rw [le, val, ih, Nat.pow_succ, Nat.mul_comm (256 ^ k) 256, Nat.mod_mul]
    simp
theorem val_inj (a b : List UInt8) (hl : a.length = b.length) (h : val a = val b) : a = b := by
  induction a generalizing b with
  | nil => cases b with
    | nil => rfl
    | cons y b => simp at hl
  | cons x a ih => cases b with
    | nil => simp at hl
    | cons y b =>
      have h1 := x.toNat_lt
      have h2 := y.toNat_lt
      rw [val, val] at h
      have h3 : x.toNat = y.toNat := by omega
      rw [UInt8.toNat_inj.mp h3, ih b (by simpa using hl) (by omega)]
theorem le_snoc (k v : Nat) : le (k + 1) v = le k v ++ [UInt8.ofNat (v / 256 ^ k)] := by
  induction k generalizing v with
  | zero => simp [le]
  | succ k ih => rw [le, ih, le, Nat.div_div_eq_div_mul, Nat.pow_succ, Nat.mul_comm 256]; rfl

/-- Turning one bit of a byte turns one of the number. -/
theorem val_set (l : List UInt8) (k r : Nat) (hk : k < l.length) (hr : r < 8) : val (l.set k (UInt8.ofNat (l[k].toNat ^^^ 2 ^ r))) = val l ^^^ 2 ^ (8 * k + r) := by
  induction l generalizing k with
  | nil => simp at hk
  | cons x l ih =>
    have hx := x.toNat_lt
    have h2r : (2 : Nat) ^ r < 2 ^ 8 := Nat.pow_lt_pow_right (by omega) hr
    cases k with
    | zero =>
      have h1 : x.toNat ^^^ 2 ^ r < 2 ^ 8 := Nat.xor_lt_two_pow hx h2r
      simp only [List.set_cons_zero, List.getElem_cons_zero, val, Nat.mul_zero, Nat.zero_add]
      rw [UInt8.toNat_ofNat_of_lt' h1, apart _ _ h1, apart _ _ hx]
      ac_rfl
    | succ k =>
      have hk2 : k < l.length := by simpa using hk
      simp only [List.set_cons_succ, List.getElem_cons_succ, val]
      rw [ih k hk2, show (256 : Nat) = 2 ^ 8 from rfl, mul_xor, show (2 : Nat) ^ 8 = 256 from rfl]
      rw [apart _ _ hx]
      rw [show 8 * (k + 1) + r = 8 + (8 * k + r) by omega, Nat.pow_add 2 8, show (2 : Nat) ^ 8 = 256 from rfl]
      have h5 : x.toNat + (256 * val l ^^^ 256 * 2 ^ (8 * k + r)) = x.toNat ^^^ (256 * val l ^^^ 256 * 2 ^ (8 * k + r)) := by
        have h6 := mul_xor 8 (val l) (2 ^ (8 * k + r))
        rw [show (2 : Nat) ^ 8 = 256 from rfl] at h6
        rw [← h6, apart _ _ hx]
      rw [h5]; ac_rfl

/-- Three texts of one length, turned by one another. -/
def xor3 : List UInt8 → List UInt8 → List UInt8 → List UInt8
  | x :: a, y :: b, z :: c => (x ^^^ y ^^^ z) :: xor3 a b c
  | _, _, _ => []
theorem xor3_length (a b c : List UInt8) (hb : b.length = a.length) (hc : c.length = a.length) : (xor3 a b c).length = a.length := by
  induction a generalizing b c with
  | nil => simp [xor3]
  | cons x a ih => match b, c, hb, hc with
    | y :: b, z :: c, hb, hc => simp only [xor3, List.length_cons]; rw [ih b c (by simpa using hb) (by simpa using hc)]
theorem val_xor3 (a b c : List UInt8) (hb : b.length = a.length) (hc : c.length = a.length) : val (xor3 a b c) = val a ^^^ val b ^^^ val c := by
  induction a generalizing b c with
  | nil =>
    have hb2 : b = [] := by simpa using hb
    have hc2 : c = [] := by simpa using hc
    subst hb2; subst hc2; rfl
  | cons x a ih => match b, c, hb, hc with
    | y :: b, z :: c, hb, hc =>
      have hx : (x ^^^ y ^^^ z).toNat = x.toNat ^^^ y.toNat ^^^ z.toNat := by rw [UInt8.toNat_xor, UInt8.toNat_xor]
      have hl : x.toNat ^^^ y.toNat ^^^ z.toNat < 256 := by rw [← hx]; exact UInt8.toNat_lt _
      simp only [xor3, val]
      have h6 := mul_xor 8 (val a ^^^ val b) (val c)
      have h7 := mul_xor 8 (val a) (val b)
      rw [show (2 : Nat) ^ 8 = 256 from rfl] at h6 h7
      rw [ih b c (by simpa using hb) (by simpa using hc), hx, apart _ _ hl, h6, h7, apart _ _ x.toNat_lt, apart _ _ y.toNat_lt, apart _ _ z.toNat_lt]
      ac_rfl
theorem xor3_snoc (a b c : List UInt8) (hb : b.length = a.length) (hc : c.length = a.length) (x y z : UInt8) : xor3 (a ++ [x]) (b ++ [y]) (c ++ [z]) = xor3 a b c ++ [x ^^^ y ^^^ z] := by
  induction a generalizing b c with
  | nil =>
    have hb2 : b = [] := by simpa using hb
    have hc2 : c = [] := by simpa using hc
    subst hb2; subst hc2; rfl
  | cons x' a ih => match b, c, hb, hc with
    | y' :: b, z' :: c, hb, hc => simp only [xor3, List.cons_append]; rw [ih b c (by simpa using hb) (by simpa using hc)]

/-- The register from 'reg' on; the check sequence; sealed; good. -/
def moreOf (reg : Nat) (l : List UInt8) (wide : Bool) : Nat := more (poly wide) (reg &&& ones wide) l
def of (l : List UInt8) (wide : Bool) : Nat := moreOf (ones wide) l wide ^^^ ones wide
def seq (l : List UInt8) (wide : Bool) : List UInt8 := le (size wide) (of l wide)
def sealed (l : List UInt8) (wide : Bool) : List UInt8 := l ++ seq l wide
def good (x : List UInt8) (wide : Bool) : Bool := decide (size wide ≤ x.length) && (x.drop (x.length - size wide) == seq (x.take (x.length - size wide)) wide)

theorem ones_pow (wide : Bool) : ones wide = 2 ^ (8 * size wide) - 1 := by cases wide <;> rfl
theorem poly_lt (wide : Bool) : poly wide < 2 ^ (8 * size wide - 1 + 1) := by cases wide <;> decide
theorem poly_le (wide : Bool) : 2 ^ (8 * size wide - 1) ≤ poly wide := by cases wide <;> decide
theorem poly_lt' (wide : Bool) : poly wide < 2 ^ (8 * size wide) := by cases wide <;> decide
theorem ones_lt (wide : Bool) : ones wide < 2 ^ (8 * size wide) := by cases wide <;> decide
theorem width_eq (wide : Bool) : 8 * size wide - 1 + 1 = 8 * size wide := by cases wide <;> rfl
theorem width_le (wide : Bool) : 2 ^ (8 * size wide) ≤ 2 ^ 32 := by cases wide <;> decide
theorem pow256 (k : Nat) : 256 ^ k = 2 ^ (8 * k) := by rw [Nat.pow_mul]

theorem and_ones (reg : Nat) (wide : Bool) : reg &&& ones wide = reg % 2 ^ (8 * size wide) := by
  rw [ones_pow, Nat.and_two_pow_sub_one_eq_mod]
theorem and_ones_of (reg : Nat) (wide : Bool) (h : reg < 2 ^ (8 * size wide)) : reg &&& ones wide = reg := by
  rw [and_ones, Nat.mod_eq_of_lt h]
theorem more_lt (w : Nat) (l : List UInt8) (wide : Bool) (hw : w < 2 ^ (8 * size wide)) : more (poly wide) w l < 2 ^ (8 * size wide) := by
  induction l generalizing w with
  | nil => exact hw
  | cons x l ih =>
    rw [more_cons]
    refine ih _ (run_lt _ _ _ _ (poly_lt' wide) (Nat.xor_lt_two_pow hw ?_))
    refine Nat.lt_of_lt_of_le x.toNat_lt ?_
    cases wide <;> decide
theorem moreOf_lt (reg : Nat) (l : List UInt8) (wide : Bool) : moreOf reg l wide < 2 ^ (8 * size wide) := by
  refine more_lt _ _ _ ?_
  rw [and_ones]; exact Nat.mod_lt _ (Nat.pow_pos (by omega))
theorem moreOf_lt32 (reg : Nat) (l : List UInt8) (wide : Bool) : moreOf reg l wide < 4294967296 := Nat.lt_of_lt_of_le (moreOf_lt reg l wide) (width_le wide)
theorem of_lt (l : List UInt8) (wide : Bool) : of l wide < 2 ^ (8 * size wide) := Nat.xor_lt_two_pow (moreOf_lt _ _ _) (ones_lt _)
theorem of_lt32 (l : List UInt8) (wide : Bool) : of l wide < 4294967296 := Nat.lt_of_lt_of_le (of_lt l wide) (width_le wide)
theorem seq_length (l : List UInt8) (wide : Bool) : (seq l wide).length = size wide := le_length _ _
theorem sealed_length (l : List UInt8) (wide : Bool) : (sealed l wide).length = l.length + size wide := by
  rw [sealed, List.length_append, seq_length]

/-- The document's check sequence takes away where the program turns. -/
theorem of_sub (l : List UInt8) (wide : Bool) : of l wide = ones wide - moreOf (ones wide) l wide := by
  have h := moreOf_lt (ones wide) l wide
  obtain ⟨m, hm⟩ : ∃ m, m = moreOf (ones wide) l wide := ⟨_, rfl⟩
  unfold of
  rw [← hm] at h ⊢
  rw [ones_pow]
  apply Nat.eq_of_testBit_eq
  intro i
  rw [show 2 ^ (8 * size wide) - 1 - m = 2 ^ (8 * size wide) - (m + 1) by omega, Nat.testBit_two_pow_sub_succ h, Nat.testBit_xor, Nat.testBit_two_pow_sub_one]
  by_cases hi : i < 8 * size wide
  · simp [hi]
  · have hx2 : m.testBit i = false := Nat.testBit_lt_two_pow (Nat.lt_of_lt_of_le h (Nat.pow_le_pow_right (by omega) (by omega)))
    simp [hi, hx2]

/-- Behind two parts. -/
theorem moreOf_parts (reg : Nat) (a b : List UInt8) (wide : Bool) : moreOf (moreOf reg a wide) b wide = moreOf reg (a ++ b) wide := by
  have h := and_ones_of _ wide (moreOf_lt reg a wide)
  unfold moreOf at h ⊢
  rw [h, more_append]

/-- Three texts. -/
theorem of_xor3 (a b c : List UInt8) (wide : Bool) (hb : b.length = a.length) (hc : c.length = a.length) : of (xor3 a b c) wide = of a wide ^^^ of b wide ^^^ of c wide := by
  unfold of moreOf
  rw [and_ones_of _ _ (ones_lt wide)]
  simp only [more_eq]
  rw [xor3_length a b c hb hc, val_xor3 a b c hb hc, hb, hc]
  obtain ⟨k, hk⟩ : ∃ k, k = 8 * a.length := ⟨_, rfl⟩
  obtain ⟨o, ho⟩ : ∃ o, o = ones wide := ⟨_, rfl⟩
  obtain ⟨p, hp⟩ : ∃ p, p = poly wide := ⟨_, rfl⟩
  rw [← hk, ← ho, ← hp]
  simp only [run_xor]
  obtain ⟨r, hr⟩ : ∃ r, r = run p k o := ⟨_, rfl⟩
  obtain ⟨A, hA⟩ : ∃ r, r = run p k (val a) := ⟨_, rfl⟩
  obtain ⟨B, hB⟩ : ∃ r, r = run p k (val b) := ⟨_, rfl⟩
  obtain ⟨C, hC⟩ : ∃ r, r = run p k (val c) := ⟨_, rfl⟩
  rw [← hr, ← hA, ← hB, ← hC]
  have e : r ^^^ A ^^^ o ^^^ (r ^^^ B ^^^ o) ^^^ (r ^^^ C ^^^ o) = (r ^^^ r) ^^^ (o ^^^ o) ^^^ (r ^^^ (A ^^^ B ^^^ C) ^^^ o) := by ac_rfl
  rw [e, Nat.xor_self, Nat.xor_self, Nat.xor_self, Nat.zero_xor]

theorem sealed_good (l : List UInt8) (wide : Bool) : good (sealed l wide) wide = true := by
  unfold good
  rw [sealed_length]
  simp only [Nat.add_sub_cancel]
  unfold sealed
  rw [List.drop_left, List.take_left]
  simp
theorem good_split (x : List UInt8) (wide : Bool) (h : good x wide = true) : x = sealed (x.take (x.length - size wide)) wide := by
  unfold good at h
  rw [Bool.and_eq_true, beq_iff_eq] at h
  unfold sealed
  rw [← h.2, List.take_append_drop]
/-- Good ones are told by the register behind them. -/
theorem good_iff (x : List UInt8) (wide : Bool) (hx : size wide ≤ x.length) : good x wide = decide (more (poly wide) (ones wide) x = run (poly wide) (8 * size wide) (ones wide)) := by
  obtain ⟨d, hd⟩ : ∃ d, d = x.take (x.length - size wide) := ⟨_, rfl⟩
  obtain ⟨s, hs⟩ : ∃ s, s = x.drop (x.length - size wide) := ⟨_, rfl⟩
  have hxe : x = d ++ s := by rw [hd, hs, List.take_append_drop]
  have hsl : s.length = size wide := by rw [hs, List.length_drop]; omega
  unfold good
  rw [← hd, ← hs, hxe, more_append, more_eq, hsl]
  rw [show decide (size wide ≤ (d ++ s).length) = true by rw [← hxe]; simpa using hx, Bool.true_and]
  have hm := moreOf_lt (ones wide) d wide
  have hof : of d wide = more (poly wide) (ones wide) d ^^^ ones wide := by
    unfold of moreOf
    rw [and_ones_of _ _ (ones_lt wide)]
  have hml : more (poly wide) (ones wide) d < 2 ^ (8 * size wide) := more_lt _ _ _ (ones_lt wide)
  have hvl : val s < 2 ^ (8 * size wide) := by rw [← hsl, ← pow256]; exact val_lt s
  rw [show (s == seq d wide) = decide (s = seq d wide) by rw [Bool.eq_iff_iff]; simp]
  rw [decide_eq_decide]
  constructor
  · intro h
    have hv : val s = of d wide := by
      rw [h, seq, val_le, pow256, Nat.mod_eq_of_lt (of_lt d wide)]
    rw [hv, hof, ← Nat.xor_assoc, Nat.xor_self, Nat.zero_xor]
  · intro h
    have h2 := run_inj _ _ _ (8 * size wide - 1) _ (poly_le wide) (poly_lt wide) (by rw [width_eq]; exact Nat.xor_lt_two_pow hml hvl) (by rw [width_eq]; exact ones_lt wide) h
    have hv : val s = of d wide := by
      obtain ⟨m, hm⟩ : ∃ m, m = more (poly wide) (ones wide) d := ⟨_, rfl⟩
      rw [hof, ← hm]
      rw [← hm] at h2
      rw [← h2, ← Nat.xor_assoc, Nat.xor_self, Nat.zero_xor]
    refine val_inj _ _ (by rw [hsl, seq_length]) ?_
    rw [hv, seq, val_le, pow256, Nat.mod_eq_of_lt (of_lt d wide)]

/-- A burst no longer than the check sequence is found. -/
theorem burst (x y : List UInt8) (wide : Bool) (f t : Nat) (hx : good x wide = true) (hl : y.length = x.length) (hs : size wide ≤ x.length) (hf : f ≤ 8 * x.length) (ht : t < 2 ^ (8 * size wide))
    (hy : val y = val x ^^^ 2 ^ f * t) : good y wide = decide (t = 0) := by
  rw [good_iff x wide hs, decide_eq_true_eq, more_eq] at hx
  rw [good_iff y wide (by omega), more_eq, hy, hl, ← Nat.xor_assoc, run_xor, hx, decide_eq_decide]
  rw [show 8 * x.length = f + (8 * x.length - f) by omega, run_add, run_shift]
  constructor
  · intro h
    have h2 : run (poly wide) (8 * size wide) (ones wide) ^^^ run (poly wide) (8 * size wide) (ones wide) ^^^ run (poly wide) (8 * x.length - f) t = run (poly wide) (8 * size wide) (ones wide) ^^^ run (poly wide) (8 * size wide) (ones wide) := by rw [Nat.xor_assoc, h]
    rw [Nat.xor_self, Nat.zero_xor] at h2
    exact run_zero _ _ (8 * size wide - 1) _ (poly_le wide) (poly_lt wide) (by rw [width_eq]; exact ht) h2
  · intro h
    rw [h, run_null, Nat.xor_zero]
end Fc
end Go.Proofs.Ythmljgpnkealaaa
