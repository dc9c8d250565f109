/- Plain mathematics of layer 9 (pcap): headers, records and captures as bytes, and what is read of bytes. No program stands in it. -/
import Derived.Test.YtfkjjolohphaoaaPlain
namespace Go.Proofs.Ytfkjjolohphaoaa
namespace Pc

/-- A header. -/
structure Hdr where
  big : Bool
  nano : Bool
  snap : Nat
  link : Nat
/-- A record. -/
structure Rcd where
  sec : Nat
  frac : Nat
  len : Nat
  data : List UInt8
def hz : Hdr := ⟨false, false, 0, 0⟩
def rz : Rcd := ⟨0, 0, 0, []⟩
structure Hdr.Ok (m : Hdr) : Prop where
  snap : m.snap < 4294967296
  link : m.link < 4294967296
structure Rcd.Ok (r : Rcd) : Prop where
  sec : r.sec < 4294967296
  frac : r.frac < 4294967296
  len : r.len < 4294967296

def mark (nano : Bool) : Nat := if nano then 2712812621 else 2712847316
theorem mark_lt (nano : Bool) : mark nano < 4294967296 := by cases nano <;> decide

/-- Numbers, each by so many bytes. -/
def nums (big : Bool) (s : Nat) (ws : List Nat) : List UInt8 := (ws.map fun n => Oc.put n s big).flatten
theorem nums_length (big : Bool) (s : Nat) : ∀ ws : List Nat, (nums big s ws).length = ws.length * s
  | [] => by simp [nums]
  | x :: l => by
    have h := nums_length big s l
    have e : nums big s (x :: l) = Oc.put x s big ++ nums big s l := rfl
    rw [e, List.length_append, h, Oc.put_length, List.length_cons, Nat.add_mul]
    omega
theorem nums_snoc (big : Bool) (s : Nat) (ws : List Nat) (x : Nat) : nums big s (ws ++ [x]) = nums big s ws ++ Oc.put x s big := by simp [nums]

def hparts (m : Hdr) : List (List UInt8) := [nums m.big 4 [mark m.nano], nums m.big 2 [2, 4], nums m.big 4 [0, 0, m.snap, m.link]]
def hbytes (m : Hdr) : List UInt8 := (hparts m).flatten
theorem hbytes_length (m : Hdr) : (hbytes m).length = 24 := by simp [hbytes, hparts, nums_length]
def rnums (big : Bool) (r : Rcd) : List UInt8 := nums big 4 [r.sec, r.frac, r.data.length, r.len]
theorem rnums_length (big : Bool) (r : Rcd) : (rnums big r).length = 16 := by simp [rnums, nums_length]
def rbytes (big : Bool) (r : Rcd) : List UInt8 := rnums big r ++ r.data
theorem rbytes_length (big : Bool) (r : Rcd) : (rbytes big r).length = 16 + r.data.length := by simp [rbytes, rnums_length]

/-- A capture's parts, up to some of its records. -/
def parts (m : Hdr) (l : List Rcd) : List (List UInt8) := hbytes m :: (l.map fun r => [rnums m.big r, r.data]).flatten
def put (m : Hdr) (l : List Rcd) : List UInt8 := hbytes m ++ (l.map (rbytes m.big)).flatten
theorem parts_snoc (m : Hdr) (l : List Rcd) (r : Rcd) : parts m (l ++ [r]) = parts m l ++ [rnums m.big r, r.data] := by simp [parts]
theorem parts_flat (m : Hdr) (l : List Rcd) : (parts m l).flatten = put m l := by
  unfold parts put
  rw [List.flatten_cons]
  congr 1
  induction l with
  | nil => rfl
  | cons r l ih => simp only [List.map_cons, List.flatten_cons, List.flatten_append, ih]; simp [rbytes]
theorem parts_length (m : Hdr) (l : List Rcd) : (parts m l).length = 1 + 2 * l.length := by
  unfold parts
  rw [List.length_cons]
  induction l with
  | nil => rfl
  | cons r l ih => simp only [List.map_cons, List.flatten_cons, List.length_append, List.length_cons, List.length_nil] at ih ⊢; omega
theorem put_snoc (m : Hdr) (l : List Rcd) (r : Rcd) : put m (l ++ [r]) = put m l ++ rbytes m.big r := by simp [put]
theorem put_nil (m : Hdr) : put m [] = hbytes m := by simp [put]

/-- How many bytes the Data of records have. -/
def size (l : List Rcd) : Nat := (l.map fun r => r.data.length).sum
theorem size_nil : size [] = 0 := rfl
theorem size_cons (r : Rcd) (l : List Rcd) : size (r :: l) = r.data.length + size l := by simp [size]
theorem size_append (l k : List Rcd) : size (l ++ k) = size l + size k := by simp [size]
theorem size_one (r : Rcd) : size [r] = r.data.length := by simp [size]
theorem size_take (l : List Rcd) (k : Nat) : size (l.take k) ≤ size l := by
  have h := size_append (l.take k) (l.drop k)
  rw [List.take_append_drop] at h
  omega
theorem size_next (l : List Rcd) (k : Nat) (h : k < l.length) : size (l.take (k + 1)) = size (l.take k) + l[k].data.length := by
  rw [List.take_succ_eq_append_getElem h, size_append, size_one]
theorem recs_length (big : Bool) : ∀ l : List Rcd, (l.map (rbytes big)).flatten.length = 16 * l.length + size l
  | [] => by simp [size]
  | r :: l => by
    have h := recs_length big l
    rw [List.map_cons, List.flatten_cons, List.length_append, h, rbytes_length, size_cons, List.length_cons]
    omega
theorem put_length (m : Hdr) (l : List Rcd) : (put m l).length = 24 + 16 * l.length + size l := by
  rw [put, List.length_append, hbytes_length, recs_length]; omega

/-- Four bytes at a place, as a number. -/
def num (b : List UInt8) (k : Nat) (big : Bool) : Nat := Oc.get ((b.drop k).take 4) big
theorem get4_lt (b : List UInt8) (k s : Nat) (big : Bool) (hs : s ≤ 4) : Oc.get ((b.drop k).take s) big < 4294967296 := by
  have h := Oc.get_lt ((b.drop k).take s) big
  have h2 : ((b.drop k).take s).length ≤ 4 := by simp; omega
  have h3 := Nat.pow_le_pow_right (n := 256) (by omega) h2
  have h4 : 256 ^ 4 = 4294967296 := rfl
  omega
theorem num_lt (b : List UInt8) (k : Nat) (big : Bool) : num b k big < 4294967296 := get4_lt b k 4 big (by omega)

/-- Which order, and what times are of. -/
def who (b : List UInt8) : Option (Bool × Bool) :=
  if Oc.get (b.take 4) true = mark false then some (true, false)
  else if Oc.get (b.take 4) true = mark true then some (true, true)
  else if Oc.get (b.take 4) false = mark false then some (false, false)
  else if Oc.get (b.take 4) false = mark true then some (false, true)
  else none
def head (b : List UInt8) : Hdr × Nat :=
  if b.length < 4 then (hz, 2) else
  match who b with
  | none => (hz, 3)
  | some (big, nano) => if b.length < 24 then (hz, 2) else if Oc.get ((b.drop 4).take 2) big = 2 then (⟨big, nano, num b 16 big, num b 20 big⟩, 0) else (hz, 3)
def next (b : List UInt8) (big : Bool) : Rcd × Nat × Nat :=
  if b.length < 16 then (rz, 0, 2) else
  if 131072 < num b 8 big then (rz, 0, 4) else
  if b.length < 16 + num b 8 big then (rz, 0, 2) else
  (⟨num b 0 big, num b 4 big, num b 12 big, (b.drop 16).take (num b 8 big)⟩, 16 + num b 8 big, 0)
def rd : Nat → List UInt8 → Bool → Nat → List Rcd × Nat × Nat
  | 0, _, _, _ => ([], 0, 0)
  | f + 1, b, big, k => if b = [] then ([], 0, 0) else
    match next b big with
    | (r, n, 0) => (r :: (rd f (b.drop n) big (k + n)).1, (rd f (b.drop n) big (k + n)).2)
    | (_, _, e + 1) => ([], k, e + 1)
def read (b : List UInt8) : Hdr × List Rcd × Nat × Nat :=
  match head b with
  | (m, 0) => (m, rd b.length (b.drop 24) m.big 24)
  | (_, e + 1) => (hz, [], 0, e + 1)

theorem head_end (b : List UInt8) (h : b.length < 4) : head b = (hz, 2) := by unfold head; rw [if_pos h]
theorem head_form (b : List UInt8) (h : ¬ b.length < 4) (hw : who b = none) : head b = (hz, 3) := by unfold head; rw [if_neg h, hw]
theorem head_short (b : List UInt8) (h : ¬ b.length < 4) {big nano : Bool} (hw : who b = some (big, nano)) (h2 : b.length < 24) : head b = (hz, 2) := by
  unfold head; rw [if_neg h, hw]; simp only; rw [if_pos h2]
theorem head_two (b : List UInt8) (h : ¬ b.length < 4) {big nano : Bool} (hw : who b = some (big, nano)) (h2 : ¬ b.length < 24) (h3 : ¬ Oc.get ((b.drop 4).take 2) big = 2) : head b = (hz, 3) := by
  unfold head; rw [if_neg h, hw]; simp only; rw [if_neg h2, if_neg h3]
theorem head_good (b : List UInt8) (h : ¬ b.length < 4) {big nano : Bool} (hw : who b = some (big, nano)) (h2 : ¬ b.length < 24) (h3 : Oc.get ((b.drop 4).take 2) big = 2) : head b = (⟨big, nano, num b 16 big, num b 20 big⟩, 0) := by
  unfold head; rw [if_neg h, hw]; simp only; rw [if_neg h2, if_pos h3]

theorem who_bf (b : List UInt8) (h : Oc.get (b.take 4) true = mark false) : who b = some (true, false) := by unfold who; rw [if_pos h]
theorem who_bn (b : List UInt8) (h1 : ¬ Oc.get (b.take 4) true = mark false) (h : Oc.get (b.take 4) true = mark true) : who b = some (true, true) := by unfold who; rw [if_neg h1, if_pos h]
theorem who_lf (b : List UInt8) (h1 : ¬ Oc.get (b.take 4) true = mark false) (h2 : ¬ Oc.get (b.take 4) true = mark true) (h : Oc.get (b.take 4) false = mark false) : who b = some (false, false) := by unfold who; rw [if_neg h1, if_neg h2, if_pos h]
theorem who_ln (b : List UInt8) (h1 : ¬ Oc.get (b.take 4) true = mark false) (h2 : ¬ Oc.get (b.take 4) true = mark true) (h3 : ¬ Oc.get (b.take 4) false = mark false) (h : Oc.get (b.take 4) false = mark true) : who b = some (false, true) := by unfold who; rw [if_neg h1, if_neg h2, if_neg h3, if_pos h]
theorem who_none (b : List UInt8) (h1 : ¬ Oc.get (b.take 4) true = mark false) (h2 : ¬ Oc.get (b.take 4) true = mark true) (h3 : ¬ Oc.get (b.take 4) false = mark false) (h : ¬ Oc.get (b.take 4) false = mark true) : who b = none := by unfold who; rw [if_neg h1, if_neg h2, if_neg h3, if_neg h]

/-- Four bytes that are a number's, by an order. -/
theorem take_put (b : List UInt8) (n : Nat) (big : Bool) (h : 4 ≤ b.length) (hn : n < 4294967296) : Oc.put n 4 big = b.take 4 ↔ Oc.get (b.take 4) big = n := by
  constructor
  · intro e; rw [← e, Oc.get_put n 4 big hn]
  · intro e
    have h2 := Oc.put_get (b.take 4) big
    rw [List.length_take, Nat.min_eq_left h, e] at h2
    exact h2
/-- Two marks by two orders are never the same. -/
theorem marks (x y : Bool) (p q : Bool) (h : Oc.put (mark x) 4 p = Oc.put (mark y) 4 q) : x = y ∧ p = q := by
  revert h
  cases x <;> cases y <;> cases p <;> cases q <;> decide +kernel
theorem who_iff (b : List UInt8) (h : 4 ≤ b.length) (big nano : Bool) : who b = some (big, nano) ↔ Oc.put (mark nano) 4 big = b.take 4 := by
  have k := fun n p => take_put b n p h
  have m1 := fun (x y p q : Bool) (e1 : Oc.put (mark x) 4 p = b.take 4) (e2 : Oc.put (mark y) 4 q = b.take 4) => marks x y p q (e1.trans e2.symm)
  constructor
  · intro hw
    rw [k _ _ (mark_lt _)]
    unfold who at hw
    split at hw
    · next e => simp at hw; obtain ⟨rfl, rfl⟩ := hw; exact e
    · split at hw
      · next e => simp at hw; obtain ⟨rfl, rfl⟩ := hw; exact e
      · split at hw
        · next e => simp at hw; obtain ⟨rfl, rfl⟩ := hw; exact e
        · split at hw
          · next e => simp at hw; obtain ⟨rfl, rfl⟩ := hw; exact e
          · simp at hw
  · intro he
    unfold who
    split
    · next e =>
      obtain ⟨rfl, rfl⟩ := m1 _ _ _ _ he ((k _ _ (mark_lt _)).2 e)
      rfl
    · next e1 =>
      split
      · next e =>
        obtain ⟨rfl, rfl⟩ := m1 _ _ _ _ he ((k _ _ (mark_lt _)).2 e)
        rfl
      · next e2 =>
        split
        · next e =>
          obtain ⟨rfl, rfl⟩ := m1 _ _ _ _ he ((k _ _ (mark_lt _)).2 e)
          rfl
        · next e3 =>
          split
          · next e =>
            obtain ⟨rfl, rfl⟩ := m1 _ _ _ _ he ((k _ _ (mark_lt _)).2 e)
            rfl
          · next e4 =>
            exfalso
            rw [k _ _ (mark_lt _)] at he
            cases big <;> cases nano <;> simp_all

theorem next_end (b : List UInt8) (big : Bool) (h : b.length < 16) : next b big = (rz, 0, 2) := by unfold next; rw [if_pos h]
theorem next_long (b : List UInt8) (big : Bool) (h : ¬ b.length < 16) (h2 : 131072 < num b 8 big) : next b big = (rz, 0, 4) := by unfold next; rw [if_neg h, if_pos h2]
theorem next_short (b : List UInt8) (big : Bool) (h : ¬ b.length < 16) (h2 : ¬ 131072 < num b 8 big) (h3 : b.length < 16 + num b 8 big) : next b big = (rz, 0, 2) := by unfold next; rw [if_neg h, if_neg h2, if_pos h3]
theorem next_good (b : List UInt8) (big : Bool) (h : ¬ b.length < 16) (h2 : ¬ 131072 < num b 8 big) (h3 : ¬ b.length < 16 + num b 8 big) : next b big = (⟨num b 0 big, num b 4 big, num b 12 big, (b.drop 16).take (num b 8 big)⟩, 16 + num b 8 big, 0) := by unfold next; rw [if_neg h, if_neg h2, if_neg h3]

/-- What Next tells. -/
structure Next (b : List UInt8) (A : Rcd × Nat × Nat) : Prop where
  err : A.2.2 = 0 ∨ A.2.2 = 2 ∨ A.2.2 = 4
  ok : A.1.Ok
  le : A.1.data.length ≤ b.length
  size : A.2.1 ≤ b.length
  many : A.2.1 = 0 ∨ 16 ≤ A.2.1
  good : A.2.2 = 0 → A.2.1 = 16 + A.1.data.length ∧ A.1.data.length ≤ 131072
theorem rz_ok : rz.Ok := ⟨by decide, by decide, by decide⟩
theorem next_known (b : List UInt8) (big : Bool) : Next b (next b big) := by
  by_cases h : b.length < 16
  · rw [next_end b big h]; exact ⟨.inr (.inl rfl), rz_ok, Nat.zero_le _, Nat.zero_le _, .inl rfl, (fun h => by cases h)⟩
  · by_cases h2 : 131072 < num b 8 big
    · rw [next_long b big h h2]; exact ⟨.inr (.inr rfl), rz_ok, Nat.zero_le _, Nat.zero_le _, .inl rfl, (fun h => by cases h)⟩
    · by_cases h3 : b.length < 16 + num b 8 big
      · rw [next_short b big h h2 h3]; exact ⟨.inr (.inl rfl), rz_ok, Nat.zero_le _, Nat.zero_le _, .inl rfl, (fun h => by cases h)⟩
      · rw [next_good b big h h2 h3]
        have e : ((b.drop 16).take (num b 8 big)).length = num b 8 big := by simp; omega
        exact ⟨.inl rfl, ⟨num_lt _ _ _, num_lt _ _ _, num_lt _ _ _⟩, by simp only [e]; omega, by simp only; omega, .inr (by simp only; omega), fun _ => ⟨by simp only [e], by simp only [e]; omega⟩⟩
/-- What Head tells. -/
structure Head (A : Hdr × Nat) : Prop where
  err : A.2 = 0 ∨ A.2 = 2 ∨ A.2 = 3
  ok : A.1.Ok
  bad : A.2 ≠ 0 → A.1 = hz
theorem hz_ok : hz.Ok := ⟨by decide, by decide⟩
theorem head_known (b : List UInt8) : Head (head b) := by
  by_cases h : b.length < 4
  · rw [head_end b h]; exact ⟨.inr (.inl rfl), hz_ok, fun _ => rfl⟩
  · cases hw : who b with
    | none => rw [head_form b h hw]; exact ⟨.inr (.inr rfl), hz_ok, fun _ => rfl⟩
    | some p =>
      obtain ⟨big, nano⟩ := p
      by_cases h2 : b.length < 24
      · rw [head_short b h hw h2]; exact ⟨.inr (.inl rfl), hz_ok, fun _ => rfl⟩
      · by_cases h3 : Oc.get ((b.drop 4).take 2) big = 2
        · rw [head_good b h hw h2 h3]; exact ⟨.inl rfl, ⟨num_lt _ _ _, num_lt _ _ _⟩, (fun h => absurd rfl h)⟩
        · rw [head_two b h hw h2 h3]; exact ⟨.inr (.inr rfl), hz_ok, fun _ => rfl⟩

/-- The rounds of Read: enough is enough. -/
theorem rd_more (big : Bool) : ∀ (f g : Nat) (b : List UInt8) (k : Nat), b.length ≤ f → f ≤ g → rd g b big k = rd f b big k
  | 0, g, b, k, h, _ => by
    have : b = [] := List.eq_nil_of_length_eq_zero (by omega)
    subst this
    cases g <;> simp [rd]
  | f + 1, 0, b, k, _, h => by omega
  | f + 1, g + 1, b, k, h, hg => by
    by_cases hb : b = []
    · simp [rd, hb]
    · have hn := next_known b big
      have hpos : 0 < b.length := List.length_pos_iff.2 hb
      simp only [rd, hb, if_false]
      rcases hx : next b big with ⟨r, n, e⟩
      rw [hx] at hn
      cases e with
      | zero =>
        have hg := (hn.good rfl).1
        simp only at hg
        simp only
        rw [rd_more big f g (b.drop n) (k + n) (by simp; omega) (by omega)]
      | succ e => rfl
def rdr (b : List UInt8) (big : Bool) (k : Nat) : List Rcd × Nat × Nat := rd b.length b big k
theorem rdr_nil (big : Bool) (k : Nat) : rdr [] big k = ([], 0, 0) := rfl
theorem rdr_bad (b : List UInt8) (big : Bool) (k : Nat) (hb : 0 < b.length) (r : Rcd) (n e : Nat) (hx : next b big = (r, n, e)) (he : e ≠ 0) : rdr b big k = ([], k, e) := by
  unfold rdr
  obtain ⟨f, hf⟩ : ∃ f, b.length = f + 1 := ⟨b.length - 1, by omega⟩
  obtain ⟨e', rfl⟩ : ∃ e', e = e' + 1 := ⟨e - 1, by omega⟩
  have hb' : b ≠ [] := List.length_pos_iff.1 hb
  rw [hf, rd, if_neg hb', hx]
theorem rdr_good (b : List UInt8) (big : Bool) (k : Nat) (hb : 0 < b.length) (r : Rcd) (n : Nat) (hx : next b big = (r, n, 0)) : rdr b big k = (r :: (rdr (b.drop n) big (k + n)).1, (rdr (b.drop n) big (k + n)).2) := by
  unfold rdr
  obtain ⟨f, hf⟩ : ∃ f, b.length = f + 1 := ⟨b.length - 1, by omega⟩
  have hb' : b ≠ [] := List.length_pos_iff.1 hb
  have hn := next_known b big
  rw [hx] at hn
  have hg := (hn.good rfl).1
  simp only at hg
  rw [hf, rd, if_neg hb', hx]
  simp only
  rw [rd_more big (b.drop n).length f (b.drop n) (k + n) (Nat.le_refl _) (by simp; omega)]
theorem read_bad (b : List UInt8) (e : Nat) (m : Hdr) (h : head b = (m, e)) (he : e ≠ 0) : read b = (hz, [], 0, e) := by
  obtain ⟨e', rfl⟩ : ∃ e', e = e' + 1 := ⟨e - 1, by omega⟩
  unfold read; rw [h]
theorem read_good (b : List UInt8) (m : Hdr) (h : head b = (m, 0)) : read b = (m, rdr (b.drop 24) m.big 24) := by
  unfold read rdr; rw [h]; simp only
  rw [rd_more m.big (b.drop 24).length b.length (b.drop 24) 24 (Nat.le_refl _) (by simp)]
end Pc
end Go.Proofs.Ytfkjjolohphaoaa
