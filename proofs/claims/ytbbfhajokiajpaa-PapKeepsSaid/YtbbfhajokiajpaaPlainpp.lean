/- Short texts, one behind the other: the mathematics. -/
import Derived.Test.YtbbfhajokiajpaaBa
namespace Go.Proofs.Ytbbfhajokiajpaa

namespace Pp
def short (s : List UInt8) : List UInt8 := UInt8.ofNat s.length :: s
def bad (l : List (List UInt8)) : Bool := l.any fun s => decide (255 < s.length)
def bytes (l : List (List UInt8)) : List UInt8 := l.flatMap short
/-- What is put of texts: the bytes, and the error. -/
def put (l : List (List UInt8)) : List UInt8 × Nat := if bad l then ([], 4) else (bytes l, 0)
/-- The first short text, and what is behind it. -/
def one : List UInt8 → Option (List UInt8 × List UInt8)
  | [] => none
  | c :: r => if r.length < c.toNat then none else some (r.take c.toNat, r.drop c.toNat)
def reads : Nat → List UInt8 → Option (List (List UInt8) × List UInt8)
  | 0, b => some ([], b)
  | n + 1, b => match one b with
    | none => none
    | some (t, r) => (reads n r).map fun p => (t :: p.1, p.2)
/-- So many texts that bytes are, and the error. -/
def read (n : Nat) (b : List UInt8) : List (List UInt8) × Nat :=
  match reads n b with
  | none => ([], 2)
  | some (l, r) => if r = [] then (l, 0) else ([], 3)
def ask (b : List UInt8) : List UInt8 × List UInt8 × Nat := ((read 2 b).1.getD 0 [], (read 2 b).1.getD 1 [], (read 2 b).2)
def say (b : List UInt8) : List UInt8 × Nat := ((read 1 b).1.getD 0 [], (read 1 b).2)

theorem bytes_cons (s : List UInt8) (l : List (List UInt8)) : bytes (s :: l) = UInt8.ofNat s.length :: (s ++ bytes l) := rfl
theorem bytes_append (l m : List (List UInt8)) : bytes (l ++ m) = bytes l ++ bytes m := List.flatMap_append
theorem bytes_snoc (l : List (List UInt8)) (s : List UInt8) : bytes (l ++ [s]) = bytes l ++ [UInt8.ofNat s.length] ++ s := by
  rw [bytes_append, show bytes [s] = UInt8.ofNat s.length :: (s ++ []) from rfl, List.append_nil, List.append_assoc]
  rfl
theorem bad_append (l m : List (List UInt8)) : bad (l ++ m) = (bad l || bad m) := List.any_append
theorem bad_one (s : List UInt8) : bad [s] = decide (255 < s.length) := by simp [bad]
theorem bad_take {l : List (List UInt8)} {k : Nat} {s : List UInt8} (hs : l[k]? = some s) (h : bad (l.take k) = false) : bad (l.take (k + 1)) = decide (255 < s.length) := by
  rw [List.take_add_one, hs, show (some s).toList = [s] from rfl, bad_append, h, bad_one, Bool.false_or]
theorem bad_of_take {l : List (List UInt8)} {k : Nat} (h : bad (l.take k) = true) : bad l = true := by
  have := bad_append (l.take k) (l.drop k)
  rw [List.take_append_drop, h, Bool.true_or] at this
  exact this
theorem bytes_take {l : List (List UInt8)} {k : Nat} {s : List UInt8} (hs : l[k]? = some s) : bytes (l.take (k + 1)) = bytes (l.take k) ++ [UInt8.ofNat s.length] ++ s := by
  rw [List.take_add_one, hs, show (some s).toList = [s] from rfl, bytes_snoc]
theorem bytes_small : ∀ (l : List (List UInt8)), bad l = false → (bytes l).length ≤ 256 * l.length
  | [], _ => by simp [bytes]
  | s :: l, h => by
    have h1 : decide (255 < s.length) = false ∧ bad l = false := by
      rw [show s :: l = [s] ++ l from rfl, bad_append, bad_one, Bool.or_eq_false_iff] at h
      exact h
    have h2 := bytes_small l h1.2
    have h3 := of_decide_eq_false h1.1
    rw [bytes_cons, List.length_cons, List.length_append, List.length_cons]
    omega
theorem put_bad {l : List (List UInt8)} (h : bad l = true) : put l = ([], 4) := by rw [put, if_pos h]
theorem put_good {l : List (List UInt8)} (h : bad l = false) : put l = (bytes l, 0) := by rw [put, if_neg (by rw [h]; decide)]
theorem put_cases (l : List (List UInt8)) : (bad l = true ∧ put l = ([], 4)) ∨ (bad l = false ∧ put l = (bytes l, 0)) := by
  cases h : bad l
  · exact .inr ⟨rfl, put_good h⟩
  · exact .inl ⟨rfl, put_bad h⟩
theorem put_small (l : List (List UInt8)) : (put l).1.length ≤ 256 * l.length := by
  rcases put_cases l with ⟨h, e⟩ | ⟨h, e⟩
  · rw [e]; simp
  · rw [e]; exact bytes_small l h

theorem one_short {s : List UInt8} (h : s.length ≤ 255) (r : List UInt8) : one (UInt8.ofNat s.length :: (s ++ r)) = some (s, r) := by
  have e : (UInt8.ofNat s.length).toNat = s.length := by simp; omega
  rw [one, e, if_neg (by rw [List.length_append]; omega), List.take_left', List.drop_left']
  · rfl
  · rfl
theorem one_back {b t r : List UInt8} (h : one b = some (t, r)) : t.length ≤ 255 ∧ b = UInt8.ofNat t.length :: (t ++ r) := by
  cases b with
  | nil => cases h
  | cons c q =>
    rw [one] at h
    split at h
    · cases h
    · rename_i hc
      simp only [Option.some.injEq, Prod.mk.injEq] at h
      obtain ⟨rfl, rfl⟩ := h
      have := UInt8.toNat_lt c
      have hl : (q.take c.toNat).length = c.toNat := by rw [List.length_take]; omega
      refine ⟨by omega, ?_⟩
      rw [hl, List.take_append_drop]
      congr 1
      exact UInt8.toNat_inj.1 (by simp)
theorem one_cut {s : List UInt8} {r : List UInt8} {k : Nat} (h : s.length ≤ 255) (hk : k ≤ s.length) : one ((UInt8.ofNat s.length :: (s ++ r)).take k) = none := by
  have e : (UInt8.ofNat s.length).toNat = s.length := by simp; omega
  cases k with
  | zero => rfl
  | succ k => rw [List.take_succ_cons, one, e, if_pos (by rw [List.length_take, List.length_append]; omega)]
theorem one_more {s : List UInt8} {r : List UInt8} {k : Nat} (h : s.length ≤ 255) (hk : s.length < k) : one ((UInt8.ofNat s.length :: (s ++ r)).take k) = some (s, r.take (k - 1 - s.length)) := by
  obtain ⟨m, rfl⟩ : ∃ m, k = s.length + m + 1 := ⟨k - 1 - s.length, by omega⟩
  have e2 : s.length + m + 1 - 1 - s.length = m := by omega
  rw [List.take_succ_cons, List.take_length_add_append, one_short h, e2]
theorem bad_cons {s : List UInt8} {l : List (List UInt8)} (h : bad (s :: l) = false) : s.length ≤ 255 ∧ bad l = false := by
  rw [show s :: l = [s] ++ l from rfl, bad_append, bad_one, Bool.or_eq_false_iff] at h
  exact ⟨by have := of_decide_eq_false h.1; omega, h.2⟩
theorem reads_put : ∀ (l : List (List UInt8)) (r : List UInt8), bad l = false → reads l.length (bytes l ++ r) = some (l, r)
  | [], _, _ => rfl
  | s :: l, r, h => by
    obtain ⟨h1, h2⟩ := bad_cons h
    rw [bytes_cons, List.length_cons, List.cons_append, List.append_assoc, reads, one_short h1]
    simp only [reads_put l r h2, Option.map_some]
theorem reads_back : ∀ (n : Nat) (b : List UInt8) (l : List (List UInt8)) (r : List UInt8), reads n b = some (l, r) → l.length = n ∧ bad l = false ∧ b = bytes l ++ r
  | 0, b, l, r, h => by
    simp only [reads, Option.some.injEq, Prod.mk.injEq] at h
    obtain ⟨rfl, rfl⟩ := h
    exact ⟨rfl, rfl, rfl⟩
  | n + 1, b, l, r, h => by
    rw [reads] at h
    cases h1 : one b with
    | none => rw [h1] at h; cases h
    | some p =>
      obtain ⟨t, q⟩ := p
      rw [h1] at h
      simp only at h
      cases h2 : reads n q with
      | none => rw [h2] at h; cases h
      | some p =>
        obtain ⟨m, q2⟩ := p
        rw [h2] at h
        simp only [Option.map_some, Option.some.injEq, Prod.mk.injEq] at h
        obtain ⟨rfl, rfl⟩ := h
        obtain ⟨a1, a2, rfl⟩ := reads_back n q m q2 h2
        obtain ⟨b1, rfl⟩ := one_back h1
        refine ⟨by rw [List.length_cons, a1], ?_, ?_⟩
        · rw [show t :: m = [t] ++ m from rfl, bad_append, bad_one, a2, decide_eq_false (by omega)]; rfl
        · rw [bytes_cons, List.cons_append, List.append_assoc]
theorem reads_cut : ∀ (l : List (List UInt8)) (k : Nat), bad l = false → k < (bytes l).length → reads l.length ((bytes l).take k) = none
  | [], k, _, hk => by simp [bytes] at hk
  | s :: l, k, h, hk => by
    obtain ⟨h1, h2⟩ := bad_cons h
    rw [bytes_cons, List.length_cons, List.length_append] at hk
    rw [bytes_cons, List.length_cons, reads]
    by_cases hs : k ≤ s.length
    · rw [one_cut h1 hs]
    · rw [one_more h1 (by omega)]
      simp only [reads_cut l (k - 1 - s.length) h2 (by omega), Option.map_none]
theorem read_put (l : List (List UInt8)) (h : bad l = false) : read l.length (bytes l) = (l, 0) := by
  have := reads_put l [] h
  rw [List.append_nil] at this
  rw [read, this]
  rfl
theorem read_back {n : Nat} {b : List UInt8} (h : (read n b).2 = 0) : (read n b).1.length = n ∧ put (read n b).1 = (b, 0) := by
  rw [read] at h ⊢
  cases h1 : reads n b with
  | none => rw [h1] at h; cases h
  | some p =>
    obtain ⟨l, r⟩ := p
    rw [h1] at h
    simp only at h ⊢
    split at h
    · rename_i hr
      subst hr
      obtain ⟨a1, a2, a3⟩ := reads_back n b l [] h1
      rw [if_pos rfl]
      exact ⟨a1, by rw [put_good a2, a3, List.append_nil]⟩
    · cases h
theorem read_cut (l : List (List UInt8)) (k : Nat) (h : bad l = false) (hk : k < (bytes l).length) : read l.length ((bytes l).take k) = ([], 2) := by rw [read, reads_cut l k h hk]
theorem read_more (l : List (List UInt8)) (c : UInt8) (h : bad l = false) : read l.length (bytes l ++ [c]) = ([], 3) := by
  rw [read, reads_put l [c] h]
  rfl
theorem read_err (n : Nat) (b : List UInt8) : ((read n b).2 = 0 ∧ (read n b).1.length = n) ∨ ((read n b).2 ≠ 0 ∧ (read n b).1 = []) := by
  by_cases h : (read n b).2 = 0
  · exact .inl ⟨h, (read_back h).1⟩
  · refine .inr ⟨h, ?_⟩
    rw [read] at h ⊢
    cases h1 : reads n b with
    | none => rfl
    | some p =>
      obtain ⟨l, r⟩ := p
      rw [h1] at h
      simp only at h ⊢
      split
      · rename_i hr; rw [if_pos hr] at h; exact absurd rfl h
      · rfl
theorem read_le (n : Nat) (b : List UInt8) : (read n b).2 ≤ 3 := by
  rw [read]
  split
  · decide
  · split
    · exact Nat.zero_le _
    · decide
theorem two {α : Type} {l : List α} (h : l.length = 2) : ∃ x y, l = [x, y] := by
  match l, h with
  | [x, y], _ => exact ⟨x, y, rfl⟩
theorem single {α : Type} {l : List α} (h : l.length = 1) : ∃ x, l = [x] := by
  match l, h with
  | [x], _ => exact ⟨x, rfl⟩
/-- What is put of a request's texts is read as it was. -/
theorem ask_put {s u : List UInt8} (h : bad [s, u] = false) : ask (bytes [s, u]) = (s, u, 0) := by
  rw [ask, show (2 : Nat) = [s, u].length from rfl, read_put _ h]
  rfl
theorem say_put {s : List UInt8} (h : bad [s] = false) : say (bytes [s]) = (s, 0) := by
  rw [say, show (1 : Nat) = [s].length from rfl, read_put _ h]
  rfl
theorem ask_back {b : List UInt8} (h : (ask b).2.2 = 0) : put [(ask b).1, (ask b).2.1] = (b, 0) := by
  obtain ⟨h1, h2⟩ := read_back (n := 2) (b := b) h
  obtain ⟨x, y, e⟩ := two h1
  rw [ask]
  rw [e] at h2 ⊢
  exact h2
theorem say_back {b : List UInt8} (h : (say b).2 = 0) : put [(say b).1] = (b, 0) := by
  obtain ⟨h1, h2⟩ := read_back (n := 1) (b := b) h
  obtain ⟨x, e⟩ := single h1
  rw [say]
  rw [e] at h2 ⊢
  exact h2
theorem ask_cut {s u : List UInt8} {k : Nat} (h : bad [s, u] = false) (hk : k < (bytes [s, u]).length) : ask ((bytes [s, u]).take k) = ([], [], 2) := by
  rw [ask, show (2 : Nat) = [s, u].length from rfl, read_cut _ _ h hk]
  rfl
theorem ask_more {s u : List UInt8} (c : UInt8) (h : bad [s, u] = false) : ask (bytes [s, u] ++ [c]) = ([], [], 3) := by
  rw [ask, show (2 : Nat) = [s, u].length from rfl, read_more _ _ h]
  rfl
/-- With the texts that were read ahead. -/
def on (l : List (List UInt8)) : Option (List (List UInt8) × List UInt8) → List (List UInt8) × Nat
  | none => ([], 2)
  | some (m, r) => if r = [] then (l ++ m, 0) else ([], 3)
theorem on_none {l : List (List UInt8)} {n : Nat} {b : List UInt8} (h : one b = none) : on l (reads (n + 1) b) = ([], 2) := by rw [reads, h]; rfl
theorem on_one {l : List (List UInt8)} {n : Nat} {b t r : List UInt8} (h : one b = some (t, r)) : on l (reads (n + 1) b) = on (l ++ [t]) (reads n r) := by
  rw [reads, h]
  simp only
  cases reads n r with
  | none => rfl
  | some p => simp only [Option.map_some, on, List.append_assoc, List.singleton_append]
theorem on_read (n : Nat) (b : List UInt8) : on [] (reads n b) = read n b := by
  rw [read]
  cases reads n b with
  | none => rfl
  | some p => rfl
theorem on_end (l : List (List UInt8)) (b : List UInt8) : on l (reads 0 b) = if b = [] then (l, 0) else ([], 3) := by
  rw [reads, on, List.append_nil]
end Pp
end Go.Proofs.Ytbbfhajokiajpaa
