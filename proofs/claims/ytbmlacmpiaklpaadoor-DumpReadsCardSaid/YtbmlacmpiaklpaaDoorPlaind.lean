/- Plain mathematics of layer 10 (dump): notes as bytes, and what is read of bytes. No program stands in it. -/
import Derived.Test.YtbmlacmpiaklpaaDoorPlain
namespace Go.Proofs.YtbmlacmpiaklpaaDoor
namespace Dm

/-- A note. -/
structure Nt where
  kind : Int
  n : Nat
  data : List UInt8
def nz : Nt := ⟨0, 0, []⟩
structure Nt.Ok (x : Nt) : Prop where
  lo : -9223372036854775808 ≤ x.kind
  hi : x.kind ≤ 9223372036854775807
  n : x.n < 4294967296
theorem nz_ok : nz.Ok := ⟨by decide, by decide, by decide⟩
/-- A kind's form. -/
structure Fm where
  known : Bool
  size : Nat
  data : Bool
  most : Nat
def fz : Fm := ⟨false, 0, false, 0⟩
def form (k : Int) : Fm :=
  if k = 1 ∨ k = 2 then ⟨true, 2, true, 0⟩ else if k = 3 ∨ k = 4 then ⟨true, 0, false, 0⟩ else if k = 5 ∨ k = 7 then ⟨true, 4, false, 4294967295⟩ else if k = 6 then ⟨true, 1, false, 255⟩ else fz
/-- What holds of each form. -/
structure Fm.Ok (f : Fm) : Prop where
  size : f.size ≤ 4
  most : f.most < 4294967296
  data : f.data = true → f.known = true ∧ f.size = 2 ∧ f.most = 0
  word : f.data = false → f.most + 1 = 256 ^ f.size
  non : f.known = false → f = fz
theorem form_ok (k : Int) : (form k).Ok := by
  unfold form
  split
  · exact ⟨by decide, by decide, fun _ => ⟨rfl, rfl, rfl⟩, (fun h => by cases h), (fun h => by cases h)⟩
  · split
    · exact ⟨by decide, by decide, (fun h => by cases h), (fun _ => rfl), (fun h => by cases h)⟩
    · split
      · exact ⟨by decide, by decide, (fun h => by cases h), (fun _ => rfl), (fun h => by cases h)⟩
      · split
        · exact ⟨by decide, by decide, (fun h => by cases h), (fun _ => rfl), (fun h => by cases h)⟩
        · exact ⟨by decide, by decide, (fun h => by cases h), (fun _ => rfl), (fun _ => rfl)⟩
theorem form_known (k : Int) : (form k).known = true ↔ 1 ≤ k ∧ k ≤ 7 := by
  unfold form
  split
  · simp; omega
  · split
    · simp; omega
    · split
      · simp; omega
      · split
        · simp; omega
        · simp [fz]; omega
theorem form_data (k : Int) : (form k).data = true ↔ 1 ≤ k ∧ k ≤ 2 := by
  unfold form
  split
  · simp; omega
  · split
    · simp; omega
    · split
      · simp; omega
      · split
        · simp; omega
        · simp [fz]; omega

def may (x : Nt) (f : Fm) : Bool := f.known && (decide (x.n ≤ f.most) && (f.data || decide (x.data.length = 0)))
def long (x : Nt) (f : Fm) : Bool := f.data && decide (65535 < x.data.length)
def num (x : Nt) (f : Fm) : Nat := if f.data then x.data.length else x.n
def bad (x : Nt) : Nat := if may x (form x.kind) then (if long x (form x.kind) then 4 else 0) else 1
def byt0 (x : Nt) : UInt8 := x.kind.toNat.toUInt8
def nbytes (x : Nt) : List UInt8 := Oc.put (num x (form x.kind)) (form x.kind).size true
def one (x : Nt) : List UInt8 := byt0 x :: (nbytes x ++ x.data)
theorem nbytes_length (x : Nt) : (nbytes x).length = (form x.kind).size := Oc.put_length _ _ _
theorem one_length (x : Nt) : (one x).length = 1 + (form x.kind).size + x.data.length := by
  rw [one, List.length_cons, List.length_append, nbytes_length]; omega
theorem one_le (x : Nt) : (one x).length ≤ 5 + x.data.length := by
  have := (form_ok x.kind).size
  rw [one_length]; omega

theorem bad_le (x : Nt) : bad x ≤ 4 := by unfold bad; split <;> (try split) <;> omega
theorem bad_may (x : Nt) (h : may x (form x.kind) = false) : bad x = 1 := by simp [bad, h]
theorem bad_long (x : Nt) (h : may x (form x.kind) = true) (h2 : long x (form x.kind) = true) : bad x = 4 := by simp [bad, h, h2]
theorem bad_good (x : Nt) (h : may x (form x.kind) = true) (h2 : long x (form x.kind) = false) : bad x = 0 := by simp [bad, h, h2]
/-- What is so of a note that may be and isn't too long. -/
structure Good (x : Nt) : Prop where
  known : (form x.kind).known = true
  lo : 1 ≤ x.kind
  hi : x.kind ≤ 7
  most : x.n ≤ (form x.kind).most
  fits : num x (form x.kind) < 256 ^ (form x.kind).size
  data : (form x.kind).data = true → x.n = 0 ∧ x.data.length ≤ 65535
  word : (form x.kind).data = false → x.data = []
theorem good_of (x : Nt) (h : bad x = 0) : Good x := by
  have hm : may x (form x.kind) = true := by
    cases hm : may x (form x.kind)
    · rw [bad_may x hm] at h; cases h
    · rfl
  have hl : long x (form x.kind) = false := by
    cases hl : long x (form x.kind)
    · rfl
    · rw [bad_long x hm hl] at h; cases h
  have hk := form_known x.kind
  have ho := form_ok x.kind
  unfold may at hm
  unfold long at hl
  generalize hF : form x.kind = f at *
  simp only [Bool.and_eq_true, decide_eq_true_eq, Bool.or_eq_true] at hm
  obtain ⟨h1, h2, h3⟩ := hm
  have h17 := hk.1 h1
  refine ⟨by rw [hF]; exact h1, h17.1, h17.2, by rw [hF]; exact h2, ?_, ?_, ?_⟩
  · rw [hF]
    cases hd : f.data
    · have := ho.word hd
      simp [num, hd]; omega
    · obtain ⟨_, hs, _⟩ := ho.data hd
      rw [hd] at hl
      simp at hl
      simp [num, hd, hs]; omega
  · rw [hF]
    intro hd
    obtain ⟨_, hs, hm⟩ := ho.data hd
    rw [hd] at hl
    simp at hl
    omega
  · rw [hF]
    intro hd
    rw [hd] at h3
    simp at h3
    exact h3

def err : List Nt → Nat
  | [] => 0
  | x :: l => if bad x = 0 then err l else bad x
def fine (l : List Nt) : Prop := ∀ x ∈ l, bad x = 0
theorem fine_nil : fine [] := fun x h => by simp at h
theorem err_fine : ∀ l : List Nt, fine l → err l = 0
  | [], _ => rfl
  | x :: l, h => by rw [err, if_pos (h x (by simp))]; exact err_fine l fun y hy => h y (by simp [hy])
theorem fine_err : ∀ l : List Nt, err l = 0 → fine l
  | [], _ => fine_nil
  | x :: l, h => by
    by_cases hb : bad x = 0
    · rw [err, if_pos hb] at h
      intro y hy
      simp only [List.mem_cons] at hy
      rcases hy with rfl | hy
      · exact hb
      · exact fine_err l h y hy
    · rw [err, if_neg hb] at h; exact absurd h hb
theorem err_append : ∀ l m : List Nt, err (l ++ m) = if err l = 0 then err m else err l
  | [], m => by simp [err]
  | x :: l, m => by
    have ih := err_append l m
    by_cases hb : bad x = 0
    · rw [List.cons_append, err, if_pos hb, ih, err, if_pos hb]
    · rw [List.cons_append, err, if_neg hb, err, if_neg hb, if_neg hb]
theorem err_at (l : List Nt) (k : Nat) (h : k < l.length) (hf : fine (l.take k)) (hb : bad l[k] ≠ 0) : err l = bad l[k] := by
  have hsp : l = l.take k ++ (l[k] :: l.drop (k + 1)) := by rw [← List.drop_eq_getElem_cons h, List.take_append_drop]
  have := congrArg err hsp
  rw [err_append, if_pos (err_fine _ hf), err, if_neg hb] at this
  exact this
theorem fine_take {l : List Nt} {k : Nat} (h : k < l.length) (hf : fine (l.take k)) (hb : bad l[k] = 0) : fine (l.take (k + 1)) := by
  rw [List.take_succ_eq_append_getElem h]
  intro x hx
  simp only [List.mem_append, List.mem_singleton] at hx
  rcases hx with hx | rfl
  · exact hf x hx
  · exact hb
theorem err_le : ∀ l : List Nt, err l ≤ 4
  | [] => by simp [err]
  | x :: l => by
    have := bad_le x
    have := err_le l
    rw [err]
    split <;> omega

def bytes (l : List Nt) : List UInt8 := (l.map one).flatten
def parts (l : List Nt) : List (List UInt8) := (l.map fun x => [[byt0 x], nbytes x, x.data]).flatten
theorem bytes_nil : bytes [] = [] := rfl
theorem bytes_cons (x : Nt) (l : List Nt) : bytes (x :: l) = one x ++ bytes l := by simp [bytes]
theorem bytes_append (l m : List Nt) : bytes (l ++ m) = bytes l ++ bytes m := by simp [bytes]
theorem bytes_one (x : Nt) : bytes [x] = one x := by simp [bytes]
theorem parts_nil : parts [] = [] := rfl
theorem parts_snoc (l : List Nt) (x : Nt) : parts (l ++ [x]) = parts l ++ [[byt0 x], nbytes x, x.data] := by simp [parts]
theorem parts_flat : ∀ l : List Nt, (parts l).flatten = bytes l
  | [] => rfl
  | x :: l => by
    have ih := parts_flat l
    have e : parts (x :: l) = [byt0 x] :: nbytes x :: x.data :: parts l := by simp [parts]
    rw [e, List.flatten_cons, List.flatten_cons, List.flatten_cons, ih, bytes_cons, one]
    simp
theorem parts_length : ∀ l : List Nt, (parts l).length = 3 * l.length
  | [] => rfl
  | x :: l => by
    have ih := parts_length l
    have e : parts (x :: l) = [byt0 x] :: nbytes x :: x.data :: parts l := by simp [parts]
    rw [e, List.length_cons, List.length_cons, List.length_cons, ih, List.length_cons]; omega
/-- How many bytes the Data of notes have. -/
def size (l : List Nt) : Nat := (l.map fun x => x.data.length).sum
theorem size_nil : size [] = 0 := rfl
theorem size_cons (x : Nt) (l : List Nt) : size (x :: l) = x.data.length + size l := by simp [size]
theorem size_append (l k : List Nt) : size (l ++ k) = size l + size k := by simp [size]
theorem size_one (x : Nt) : size [x] = x.data.length := by simp [size]
theorem size_take (l : List Nt) (k : Nat) : size (l.take k) ≤ size l := by
  have h := size_append (l.take k) (l.drop k)
  rw [List.take_append_drop] at h
  omega
theorem size_next (l : List Nt) (k : Nat) (h : k < l.length) : size (l.take (k + 1)) = size (l.take k) + l[k].data.length := by
  rw [List.take_succ_eq_append_getElem h, size_append, size_one]
theorem size_mem {l : List Nt} (k : Nat) (h : k < l.length) : l[k].data.length ≤ size l := by
  have h1 := size_next l k h
  have h2 := size_take l (k + 1)
  omega
theorem bytes_le : ∀ l : List Nt, (bytes l).length ≤ 5 * l.length + size l
  | [] => by simp [bytes, size]
  | x :: l => by
    have h := bytes_le l
    have h1 := one_le x
    rw [bytes_cons, List.length_append, size_cons, List.length_cons]
    omega
theorem bytes_ge : ∀ l : List Nt, l.length + size l ≤ (bytes l).length
  | [] => by simp [bytes, size]
  | x :: l => by
    have h := bytes_ge l
    have h1 := one_length x
    rw [bytes_cons, List.length_append, size_cons, List.length_cons]
    omega
theorem bytes_take (l : List Nt) (k : Nat) (h : k < l.length) : bytes (l.take (k + 1)) = bytes (l.take k) ++ one l[k] := by
  rw [List.take_succ_eq_append_getElem h, bytes_append, bytes_one]
theorem bytes_upto (l : List Nt) (k : Nat) : (bytes (l.take k)).length ≤ (bytes l).length := by
  have h := bytes_append (l.take k) (l.drop k)
  rw [List.take_append_drop] at h
  have := congrArg List.length h
  rw [List.length_append] at this
  omega

/-- The first byte. -/
def kd (b : List UInt8) : Nat := (b[0]?.getD 0).toNat
theorem kd_lt (b : List UInt8) : kd b < 256 := by have := (b[0]?.getD 0).toNat_lt; unfold kd; omega
theorem kd_cons (c : UInt8) (b : List UInt8) : kd (c :: b) = c.toNat := rfl
def fm (b : List UInt8) : Fm := form (kd b : Nat)
/-- The number behind the kind. -/
def vl (b : List UInt8) : Nat := Oc.get ((b.drop 1).take (fm b).size) true
def next (b : List UInt8) : Nt × Nat × Nat :=
  if b.length = 0 then (nz, 0, 2) else
  if (fm b).known = false then (nz, 0, 7) else
  if b.length < 1 + (fm b).size then (nz, 0, 2) else
  if (fm b).data = false then (⟨(kd b : Nat), vl b, []⟩, 1 + (fm b).size, 0) else
  if b.length < 1 + (fm b).size + vl b then (nz, 0, 2) else
  (⟨(kd b : Nat), 0, (b.drop (1 + (fm b).size)).take (vl b)⟩, 1 + (fm b).size + vl b, 0)
theorem next_end (b : List UInt8) (h : b.length = 0) : next b = (nz, 0, 2) := by unfold next; rw [if_pos h]
theorem next_kind (b : List UInt8) (h : ¬ b.length = 0) (h2 : (fm b).known = false) : next b = (nz, 0, 7) := by unfold next; rw [if_neg h, if_pos h2]
theorem next_short (b : List UInt8) (h : ¬ b.length = 0) (h2 : (fm b).known = true) (h3 : b.length < 1 + (fm b).size) : next b = (nz, 0, 2) := by unfold next; rw [if_neg h, if_neg (by simp [h2]), if_pos h3]
theorem next_word (b : List UInt8) (h : ¬ b.length = 0) (h2 : (fm b).known = true) (h3 : ¬ b.length < 1 + (fm b).size) (h4 : (fm b).data = false) : next b = (⟨(kd b : Nat), vl b, []⟩, 1 + (fm b).size, 0) := by
  unfold next; rw [if_neg h, if_neg (by simp [h2]), if_neg h3, if_pos h4]
theorem next_cut (b : List UInt8) (h : ¬ b.length = 0) (h2 : (fm b).known = true) (h3 : ¬ b.length < 1 + (fm b).size) (h4 : (fm b).data = true) (h5 : b.length < 1 + (fm b).size + vl b) : next b = (nz, 0, 2) := by
  unfold next; rw [if_neg h, if_neg (by simp [h2]), if_neg h3, if_neg (by simp [h4]), if_pos h5]
theorem next_good (b : List UInt8) (h : ¬ b.length = 0) (h2 : (fm b).known = true) (h3 : ¬ b.length < 1 + (fm b).size) (h4 : (fm b).data = true) (h5 : ¬ b.length < 1 + (fm b).size + vl b) : next b = (⟨(kd b : Nat), 0, (b.drop (1 + (fm b).size)).take (vl b)⟩, 1 + (fm b).size + vl b, 0) := by
  unfold next; rw [if_neg h, if_neg (by simp [h2]), if_neg h3, if_neg (by simp [h4]), if_neg h5]
theorem vl_pow (b : List UInt8) : vl b < 256 ^ (fm b).size := by
  have h := Oc.get_lt ((b.drop 1).take (fm b).size) true
  have h2 : ((b.drop 1).take (fm b).size).length ≤ (fm b).size := by simp; omega
  have h3 := Nat.pow_le_pow_right (n := 256) (by omega) h2
  exact Nat.lt_of_lt_of_le h h3
theorem vl_lt (b : List UInt8) : vl b < 4294967296 := by
  have h := vl_pow b
  have h3 := Nat.pow_le_pow_right (n := 256) (by omega) (form_ok (kd b : Nat)).size
  have h4 : 256 ^ 4 = 4294967296 := rfl
  unfold fm at h
  omega
theorem vl_two (b : List UInt8) (hd : (fm b).data = true) : vl b < 65536 := by
  have h := vl_pow b
  obtain ⟨_, hs, _⟩ := (form_ok (kd b : Nat)).data hd
  have : (fm b).size = 2 := hs
  rw [this] at h
  exact h

/-- What Next tells. -/
structure Next (b : List UInt8) (A : Nt × Nat × Nat) : Prop where
  err : A.2.2 = 0 ∨ A.2.2 = 2 ∨ A.2.2 = 7
  ok : A.1.Ok
  le : A.1.data.length ≤ b.length
  size : A.2.1 ≤ b.length
  good : A.2.2 = 0 → 1 ≤ A.2.1 ∧ bad A.1 = 0 ∧ one A.1 = b.take A.2.1
theorem next_known (b : List UInt8) : Next b (next b) := by
  by_cases h : b.length = 0
  · rw [next_end b h]; exact ⟨.inr (.inl rfl), nz_ok, Nat.zero_le _, Nat.zero_le _, (fun h => by cases h)⟩
  · cases h2 : (fm b).known
    · rw [next_kind b h h2]; exact ⟨.inr (.inr rfl), nz_ok, Nat.zero_le _, Nat.zero_le _, (fun h => by cases h)⟩
    · by_cases h3 : b.length < 1 + (fm b).size
      · rw [next_short b h h2 h3]; exact ⟨.inr (.inl rfl), nz_ok, Nat.zero_le _, Nat.zero_le _, (fun h => by cases h)⟩
      · have hk := kd_lt b
        have hv := vl_lt b
        have hvp := vl_pow b
        have hfo : (fm b).Ok := form_ok _
        have hfm : form ((kd b : Nat) : Int) = fm b := rfl
        have hput : Oc.put (vl b) (fm b).size true = (b.drop 1).take (fm b).size := by
          have := Oc.put_get ((b.drop 1).take (fm b).size) true
          rw [show ((b.drop 1).take (fm b).size).length = (fm b).size by simp; omega] at this
          exact this
        have hc : b = UInt8.ofNat (kd b) :: b.drop 1 := by
          cases b with
          | nil => simp at h
          | cons c t => simp [kd]
        have htk : ∀ m : Nat, b.take (m + 1) = UInt8.ofNat (kd b) :: (b.drop 1).take m := fun m => by
          have := congrArg (List.take (m + 1)) hc
          rw [List.take_succ_cons] at this
          exact this
        have hb0 : ∀ (n : Nat) (d : List UInt8), byt0 ⟨(kd b : Nat), n, d⟩ = UInt8.ofNat (kd b) := fun n d => by simp [byt0]
        cases h4 : (fm b).data
        · rw [next_word b h h2 h3 h4]
          have hmost := hfo.word h4
          refine ⟨.inl rfl, ⟨by simp only; omega, by simp only; omega, hv⟩, Nat.zero_le _, by simp only; omega, fun _ => ⟨by simp only; omega, ?_, ?_⟩⟩
          · apply bad_good
            · simp only [hfm, may, h2, h4, Bool.true_and, Bool.and_eq_true, decide_eq_true_eq, List.length_nil]; simp; omega
            · simp [long, hfm, h4]
          · simp only [one, nbytes, num, hfm, h4, hb0, List.append_nil]
            simp only [Bool.false_eq_true, if_false]
            rw [hput, Nat.add_comm 1, htk]
        · have hv2 := vl_two b h4
          by_cases h5 : b.length < 1 + (fm b).size + vl b
          · rw [next_cut b h h2 h3 h4 h5]; exact ⟨.inr (.inl rfl), nz_ok, Nat.zero_le _, Nat.zero_le _, (fun h => by cases h)⟩
          · rw [next_good b h h2 h3 h4 h5]
            have hdl : ((b.drop (1 + (fm b).size)).take (vl b)).length = vl b := by simp; omega
            refine ⟨.inl rfl, ⟨by simp only; omega, by simp only; omega, by simp⟩, by simp only [hdl]; omega, by simp only; omega, fun _ => ⟨by simp only; omega, ?_, ?_⟩⟩
            · apply bad_good
              · simp [may, hfm, h2, h4]
              · simp only [long, hfm, h4, hdl, Bool.true_and, decide_eq_false_iff_not]; omega
            · simp only [one, nbytes, num, hfm, h4, hb0, hdl, if_true]
              rw [hput]
              have e : 1 + (fm b).size + vl b = ((fm b).size + vl b) + 1 := by omega
              rw [e, htk, List.take_add, List.drop_drop]

def rd : Nat → List UInt8 → Nat → List Nt × Nat × Nat
  | 0, _, _ => ([], 0, 0)
  | f + 1, b, k => if b = [] then ([], 0, 0) else
    match next b with
    | (r, n, 0) => (r :: (rd f (b.drop n) (k + n)).1, (rd f (b.drop n) (k + n)).2)
    | (_, _, e + 1) => ([], k, e + 1)
/-- The rounds of Read: enough is enough. -/
theorem rd_more : ∀ (f g : Nat) (b : List UInt8) (k : Nat), b.length ≤ f → f ≤ g → rd g b k = rd f b k
  | 0, g, b, k, h, _ => by
    have : b = [] := List.eq_nil_of_length_eq_zero (by omega)
    subst this
    cases g <;> simp [rd]
  | f + 1, 0, b, k, _, h => by omega
  | f + 1, g + 1, b, k, h, hg => by
    by_cases hb : b = []
    · simp [rd, hb]
    · have hn := next_known b
      have hpos : 0 < b.length := List.length_pos_iff.2 hb
      simp only [rd, hb, if_false]
      rcases hx : next b with ⟨r, n, e⟩
      rw [hx] at hn
      cases e with
      | zero =>
        have hg := (hn.good rfl).1
        simp only at hg
        simp only
        rw [rd_more f g (b.drop n) (k + n) (by simp; omega) (by omega)]
      | succ e => rfl
def rdr (b : List UInt8) (k : Nat) : List Nt × Nat × Nat := rd b.length b k
def read (b : List UInt8) : List Nt × Nat × Nat := rdr b 0
theorem rdr_nil (k : Nat) : rdr [] k = ([], 0, 0) := rfl
theorem rdr_bad (b : List UInt8) (k : Nat) (hb : 0 < b.length) (r : Nt) (n e : Nat) (hx : next b = (r, n, e)) (he : e ≠ 0) : rdr b k = ([], k, e) := by
  unfold rdr
  obtain ⟨f, hf⟩ : ∃ f, b.length = f + 1 := ⟨b.length - 1, by omega⟩
  obtain ⟨e', rfl⟩ : ∃ e', e = e' + 1 := ⟨e - 1, by omega⟩
  have hb' : b ≠ [] := List.length_pos_iff.1 hb
  rw [hf, rd, if_neg hb', hx]
theorem rdr_good (b : List UInt8) (k : Nat) (hb : 0 < b.length) (r : Nt) (n : Nat) (hx : next b = (r, n, 0)) : rdr b k = (r :: (rdr (b.drop n) (k + n)).1, (rdr (b.drop n) (k + n)).2) := by
  unfold rdr
  obtain ⟨f, hf⟩ : ∃ f, b.length = f + 1 := ⟨b.length - 1, by omega⟩
  have hb' : b ≠ [] := List.length_pos_iff.1 hb
  have hn := next_known b
  rw [hx] at hn
  have hg := (hn.good rfl).1
  simp only at hg
  rw [hf, rd, if_neg hb', hx]
  simp only
  rw [rd_more (b.drop n).length f (b.drop n) (k + n) (Nat.le_refl _) (by simp; omega)]
end Dm
end Go.Proofs.YtbmlacmpiaklpaaDoor
