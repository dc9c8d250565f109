/- Plain mathematics of layer 12 (option): options' bytes, what is read of bytes, the first of a Type, lists within one another. -/
import Derived.Test.YtacnlancncmpmaaChecked
namespace Go.Proofs.Ytacnlancncmpmaa.S12
namespace Ot

structure O where
  ty : Int
  data : List UInt8
  deriving DecidableEq
theorem O.ext' {a b : O} (h : a.ty = b.ty) (k : a.data = b.data) : a = b := by cases a; cases b; simp only at h k; subst h; subst k; rfl
theorem ne_ty {a b : O} (h : a.ty ≠ b.ty) : a ≠ b := fun e => h (by rw [e])
theorem ne_data {a b : O} (h : a.data ≠ b.data) : a ≠ b := fun e => h (by rw [e])
def oz : O := ⟨0, []⟩

/-! Whether an option may be, its bytes. -/
def bad (x : O) : Nat := if x.ty < 0 ∨ 255 < x.ty then 1 else if 253 < x.data.length then 4 else 0
def err : List O → Nat
  | [] => 0
  | x :: l => if bad x = 0 then err l else bad x
def one (x : O) : List UInt8 := [UInt8.ofNat x.ty.toNat, UInt8.ofNat (2 + x.data.length)] ++ x.data
def bytes (l : List O) : List UInt8 := (l.map one).flatten
theorem bytes_nil : bytes [] = [] := rfl
theorem bytes_cons (x : O) (l : List O) : bytes (x :: l) = one x ++ bytes l := by simp [bytes]
theorem bytes_append (l m : List O) : bytes (l ++ m) = bytes l ++ bytes m := by simp [bytes]
theorem one_length (x : O) : (one x).length = 2 + x.data.length := by simp [one]; omega
theorem bytes_step (l : List O) (k : Nat) (h : k < l.length) : bytes (l.take (k + 1)) = bytes (l.take k) ++ one l[k] := by
  rw [List.take_succ_eq_append_getElem h, bytes_append]; simp [bytes]
def fine (l : List O) : Prop := ∀ x ∈ l, bad x = 0
theorem fine_nil : fine [] := fun x h => by simp at h
theorem err_zero : ∀ (l : List O), err l = 0 ↔ fine l
  | [] => ⟨fun _ => fine_nil, fun _ => rfl⟩
  | x :: l => by
    rw [err]
    by_cases hx : bad x = 0
    · rw [if_pos hx, err_zero l]
      refine ⟨fun h y hy => ?_, fun h y hy => h y (by simp [hy])⟩
      simp only [List.mem_cons] at hy
      rcases hy with rfl | hy
      · exact hx
      · exact h y hy
    · rw [if_neg hx]
      exact ⟨fun h => absurd h hx, fun h => absurd (h x (by simp)) hx⟩
/-- The first fault lies at k. -/
theorem err_at : ∀ (l : List O) (k : Nat) (h : k < l.length), fine (l.take k) → bad l[k] ≠ 0 → err l = bad l[k]
  | x :: l, 0, _, _, hb => by rw [err]; exact if_neg hb
  | x :: l, k + 1, h, hf, hb => by
    have hx : bad x = 0 := hf x (by simp)
    rw [err, if_pos hx]
    exact err_at l k (by simpa using h) (fun y hy => hf y (by simp [hy])) hb
theorem fine_step (l : List O) (k : Nat) (h : k < l.length) (hf : fine (l.take k)) (hb : bad l[k] = 0) : fine (l.take (k + 1)) := by
  intro x hx
  rw [List.take_succ_eq_append_getElem h] at hx
  simp only [List.mem_append, List.mem_singleton] at hx
  rcases hx with hx | rfl
  · exact hf x hx
  · exact hb
theorem bad_le (x : O) : bad x ≤ 4 := by
  unfold bad
  split
  · omega
  · split <;> omega
theorem err_le : ∀ l, err l ≤ 4
  | [] => Nat.zero_le _
  | x :: l => by rw [err]; split; exact err_le l; exact bad_le x
structure May (x : O) : Prop where
  lo : 0 ≤ x.ty
  hi : x.ty ≤ 255
  le : x.data.length ≤ 253
theorem may_of (x : O) (h : bad x = 0) : May x := by
  unfold bad at h
  split at h
  · cases h
  · split at h
    · cases h
    · exact ⟨by omega, by omega, by omega⟩
theorem bad_of (x : O) (h : May x) : bad x = 0 := by
  have := h.lo; have := h.hi; have := h.le
  unfold bad
  rw [if_neg (by omega), if_neg (by omega)]
theorem bytes_le : ∀ (l : List O), fine l → (bytes l).length ≤ 255 * l.length
  | [], _ => Nat.le_refl _
  | x :: l, h => by
    have := bytes_le l (fun y hy => h y (by simp [hy]))
    have := (may_of x (h x (by simp))).le
    rw [bytes_cons, List.length_append, one_length, List.length_cons]
    omega

/-! The option with which bytes begin. -/
def ty0 (b : List UInt8) : Nat := (b.headD 0).toNat
def sz (b : List UInt8) : Nat := (b.tail.headD 0).toNat
def next (b : List UInt8) : O × Nat × Nat :=
  if b.length < 2 then (oz, 0, 2) else if sz b < 2 then (oz, 0, 3) else if b.length < sz b then (oz, 0, 2) else (⟨(ty0 b : Int), (b.drop 2).take (sz b - 2)⟩, sz b, 0)
theorem next_end (b : List UInt8) (h : b.length < 2) : next b = (oz, 0, 2) := if_pos h
theorem next_form (b : List UInt8) (h : ¬ b.length < 2) (h2 : sz b < 2) : next b = (oz, 0, 3) := by unfold next; rw [if_neg h, if_pos h2]
theorem next_cut (b : List UInt8) (h : ¬ b.length < 2) (h2 : ¬ sz b < 2) (h3 : b.length < sz b) : next b = (oz, 0, 2) := by unfold next; rw [if_neg h, if_neg h2, if_pos h3]
theorem next_good (b : List UInt8) (h : ¬ b.length < 2) (h2 : ¬ sz b < 2) (h3 : ¬ b.length < sz b) : next b = (⟨(ty0 b : Int), (b.drop 2).take (sz b - 2)⟩, sz b, 0) := by unfold next; rw [if_neg h, if_neg h2, if_neg h3]
theorem ty0_lt (b : List UInt8) : ty0 b < 256 := UInt8.toNat_lt _
theorem sz_lt (b : List UInt8) : sz b < 256 := UInt8.toNat_lt _
theorem two_of (b : List UInt8) (h : ¬ b.length < 2) : ∃ x y l, b = x :: y :: l ∧ ty0 b = x.toNat ∧ sz b = y.toNat := by
  match b, h with
  | x :: y :: l, _ => exact ⟨x, y, l, rfl, rfl, rfl⟩
  | [_], h => simp at h
  | [], h => simp at h
structure Known (b : List UInt8) (A : O × Nat × Nat) : Prop where
  good : A.2.2 = 0 → 2 ≤ A.2.1 ∧ A.2.1 ≤ b.length ∧ May A.1 ∧ one A.1 = b.take A.2.1 ∧ A.1.data.length + 2 = A.2.1
  err : A.2.2 ≠ 0 → A.1 = oz ∧ A.2.1 = 0
  le : A.2.2 ≤ 3
  size : A.1.data.length ≤ b.length
theorem next_known (b : List UInt8) : Known b (next b) := by
  by_cases h : b.length < 2
  · rw [next_end b h]; exact ⟨fun h => by simp at h, fun _ => ⟨rfl, rfl⟩, by simp, Nat.zero_le _⟩
  · by_cases h2 : sz b < 2
    · rw [next_form b h h2]; exact ⟨fun h => by simp at h, fun _ => ⟨rfl, rfl⟩, by simp, Nat.zero_le _⟩
    · by_cases h3 : b.length < sz b
      · rw [next_cut b h h2 h3]; exact ⟨fun h => by simp at h, fun _ => ⟨rfl, rfl⟩, by simp, Nat.zero_le _⟩
      · rw [next_good b h h2 h3]
        have hs := sz_lt b
        have ht := ty0_lt b
        have hl : ((b.drop 2).take (sz b - 2)).length = sz b - 2 := by rw [List.length_take, List.length_drop]; omega
        refine ⟨fun _ => ⟨by simp only; omega, by simp only; omega, ⟨by simp, by simp; omega, by simp only [hl]; omega⟩, ?_, by simp only [hl]; omega⟩, fun h => absurd rfl h, Nat.zero_le _, by simp only [hl]; omega⟩
        obtain ⟨x, y, l, e, e1, e2⟩ := two_of b h
        unfold one
        simp only [hl]
        rw [show 2 + (sz b - 2) = sz b by omega, e1, e2]
        have hy : y.toNat = (y.toNat - 2) + 1 + 1 := by omega
        rw [e]
        conv => rhs; rw [hy]
        simp

/-! What is read of bytes. -/
def rd : Nat → List UInt8 → Nat → List O × Nat × Nat
  | 0, _, _ => ([], 0, 0)
  | f + 1, b, k => if b = [] then ([], 0, 0) else
    match next b with
    | (x, n, 0) => (x :: (rd f (b.drop n) (k + n)).1, (rd f (b.drop n) (k + n)).2)
    | (_, _, e + 1) => ([], k, e + 1)
theorem rd_more : ∀ (f g : Nat) (b : List UInt8) (k : Nat), b.length ≤ f → f ≤ g → rd g b k = rd f b k
  | 0, g, b, k, h, _ => by
    have : b = [] := List.eq_nil_of_length_eq_zero (by omega)
    subst this
    cases g <;> rfl
  | f + 1, 0, b, k, _, h => by omega
  | f + 1, g + 1, b, k, h, hg => by
    rw [rd, rd]
    by_cases hb : b = []
    · rw [if_pos hb, if_pos hb]
    · rw [if_neg hb, if_neg hb]
      have hn := next_known b
      rcases hx : next b with ⟨x, n, e⟩
      rw [hx] at hn
      cases e with
      | succ e => rfl
      | zero =>
        have := (hn.good rfl).1
        simp only at this
        simp only
        rw [rd_more f g (b.drop n) (k + n) (by simp; have := List.length_pos_iff.2 hb; omega) (by omega)]
def rdr (b : List UInt8) (k : Nat) : List O × Nat × Nat := rd b.length b k
/-- What the calls tell: nothing beside a fault. -/
def fin (A : List O × Nat × Nat) : List O × Nat × Nat := if A.2.2 = 0 then (A.1, 0, 0) else ([], A.2)
def read (b : List UInt8) : List O × Nat × Nat := fin (rdr b 0)
theorem rdr_nil (k : Nat) : rdr [] k = ([], 0, 0) := rfl
theorem rdr_bad (b : List UInt8) (k : Nat) (hb : 0 < b.length) (r : O) (n e : Nat) (hx : next b = (r, n, e)) (he : e ≠ 0) : rdr b k = ([], k, e) := by
  unfold rdr
  obtain ⟨f, hf⟩ : ∃ f, b.length = f + 1 := ⟨b.length - 1, by omega⟩
  obtain ⟨e', rfl⟩ : ∃ e', e = e' + 1 := ⟨e - 1, by omega⟩
  have hb' : b ≠ [] := List.length_pos_iff.1 hb
  rw [hf, rd, if_neg hb', hx]
theorem rdr_good (b : List UInt8) (k : Nat) (hb : 0 < b.length) (r : O) (n : Nat) (hx : next b = (r, n, 0)) : rdr b k = (r :: (rdr (b.drop n) (k + n)).1, (rdr (b.drop n) (k + n)).2) := by
  unfold rdr
  obtain ⟨f, hf⟩ : ∃ f, b.length = f + 1 := ⟨b.length - 1, by omega⟩
  have hb' : b ≠ [] := List.length_pos_iff.1 hb
  have hn := next_known b
  rw [hx] at hn
  have hg := (hn.good rfl).1
  simp only at hg
  rw [hf, rd, if_neg hb', hx]
  simp only
  rw [rd_more (b.drop n).length f (b.drop n) (k + n) (Nat.le_refl _) (by simp; omega)]

/-! What is put is read as it was. -/
theorem next_put (x : O) (rest : List UInt8) (h : bad x = 0) : next (one x ++ rest) = (x, (one x).length, 0) := by
  have hm := may_of x h
  have h1 := hm.lo
  have h2 := hm.hi
  have h3 := hm.le
  have hl := one_length x
  have hs : sz (one x ++ rest) = 2 + x.data.length := by simp [one, sz]; omega
  have ht : ((ty0 (one x ++ rest) : Nat) : Int) = x.ty := by simp [one, ty0]; omega
  have hlen : (one x ++ rest).length = (one x).length + rest.length := List.length_append
  rw [next_good _ (by omega) (by omega) (by omega), hs, ht, hl]
  have : ((one x ++ rest).drop 2).take (2 + x.data.length - 2) = x.data := by
    rw [show 2 + x.data.length - 2 = x.data.length by omega]
    show (x.data ++ rest).take x.data.length = x.data
    exact List.take_left' rfl
  rw [this]
theorem rdr_put (rest : List UInt8) : ∀ (l : List O) (k : Nat), fine l →
    rdr (bytes l ++ rest) k = (l ++ (rdr rest (k + (bytes l).length)).1, (rdr rest (k + (bytes l).length)).2)
  | [], k, _ => by simp [bytes_nil]
  | x :: l, k, h => by
    have hn := next_put x (bytes l ++ rest) (h x (by simp))
    have hl := one_length x
    have ih := rdr_put rest l (k + (one x).length) (fun y hy => h y (by simp [hy]))
    rw [bytes_cons, List.append_assoc, rdr_good _ k (by rw [List.length_append]; omega) x _ hn, List.drop_left' rfl, ih, List.length_append, Nat.add_assoc]
    rfl
theorem read_put (l : List O) (h : fine l) : read (bytes l) = (l, 0, 0) := by
  have h := rdr_put [] l 0 h
  rw [List.append_nil, rdr_nil] at h
  rw [read, h]
  simp [fin]
theorem bytes_inj (l m : List O) (h : fine l) (k : fine m) : bytes l = bytes m ↔ l = m := by
  refine ⟨fun e => ?_, fun e => by rw [e]⟩
  have h1 := read_put l h
  rw [e, read_put m k] at h1
  simp only [Prod.mk.injEq] at h1
  exact h1.1.symm

/-! What is read, put again. -/
structure Back (b : List UInt8) (k : Nat) (A : List O × Nat × Nat) : Prop where
  fine : fine A.1
  many : A.1.length ≤ b.length
  short : ∀ x ∈ A.1, x.data.length ≤ b.length
  none : A.2.2 = 0 → A.2.1 = 0 ∧ bytes A.1 = b
  some : A.2.2 ≠ 0 → k ≤ A.2.1 ∧ A.2.1 - k < b.length ∧ A.2.2 ≤ 3
theorem rdr_back : ∀ (f : Nat) (b : List UInt8) (k : Nat), b.length ≤ f → Back b k (rdr b k)
  | 0, b, k, hf => by
    have : b = [] := List.eq_nil_of_length_eq_zero (by omega)
    subst this
    rw [rdr_nil]
    exact ⟨fine_nil, Nat.le_refl _, (fun r hr => by simp at hr), fun _ => ⟨rfl, rfl⟩, fun h => absurd rfl h⟩
  | f + 1, b, k, hf => by
    by_cases hb : b = []
    · subst hb
      rw [rdr_nil]
      exact ⟨fine_nil, Nat.le_refl _, (fun r hr => by simp at hr), fun _ => ⟨rfl, rfl⟩, fun h => absurd rfl h⟩
    · have hpos : 0 < b.length := List.length_pos_iff.2 hb
      have hk := next_known b
      rcases hx : next b with ⟨r, n, e⟩
      rw [hx] at hk
      by_cases he : e = 0
      · subst he
        obtain ⟨q1, q2, q3, q4, q5⟩ := hk.good rfl
        simp only at q1 q2 q3 q4 q5
        have ih := rdr_back f (b.drop n) (k + n) (by simp; omega)
        rw [rdr_good b k hpos r n hx]
        generalize rdr (b.drop n) (k + n) = A at ih ⊢
        obtain ⟨l, at', e⟩ := A
        have hm := ih.many
        rw [List.length_drop] at hm
        refine ⟨?_, ?_, ?_, ?_, ?_⟩
        · intro x hx
          simp only [List.mem_cons] at hx
          rcases hx with rfl | hx
          · exact bad_of _ q3
          · exact ih.fine x hx
        · simp only [List.length_cons] at hm ⊢; omega
        · intro x hx
          simp only [List.mem_cons] at hx
          rcases hx with rfl | hx
          · omega
          · have := ih.short x hx
            rw [List.length_drop] at this
            omega
        · intro h
          obtain ⟨h1, h2⟩ := ih.none h
          refine ⟨h1, ?_⟩
          simp only at h2 ⊢
          rw [bytes_cons, h2, q4, List.take_append_drop]
        · intro h
          obtain ⟨h1, h2, h3⟩ := ih.some h
          rw [List.length_drop] at h2
          simp only at h1 h2 h3 ⊢
          exact ⟨by omega, by omega, h3⟩
      · rw [rdr_bad b k hpos r n e hx he]
        have := hk.le
        simp only at this
        exact ⟨fine_nil, Nat.zero_le _, (fun r hr => by simp at hr), fun h => absurd h he, fun _ => ⟨Nat.le_refl _, by simp; omega, by simp only; omega⟩⟩
/-- What Read tells of bytes. -/
structure Told (b : List UInt8) (A : List O × Nat × Nat) : Prop where
  fine : fine A.1
  many : A.1.length ≤ b.length
  short : ∀ x ∈ A.1, x.data.length ≤ 253
  none : A.2.2 = 0 → A.2.1 = 0 ∧ bytes A.1 = b
  some : A.2.2 ≠ 0 → A.1 = [] ∧ A.2.1 < b.length ∧ A.2.2 ≤ 3
  le : A.2.1 ≤ b.length
theorem read_told (b : List UInt8) : Told b (read b) := by
  have h := rdr_back b.length b 0 (Nat.le_refl _)
  unfold read
  generalize rdr b 0 = A at h ⊢
  unfold fin
  split
  · rename_i he
    have h1 := h.none he
    exact ⟨h.fine, h.many, fun x hx => (may_of x (h.fine x hx)).le, fun _ => ⟨rfl, h1.2⟩, fun h => absurd rfl h, Nat.zero_le _⟩
  · rename_i he
    have h1 := h.some he
    exact ⟨fine_nil, Nat.zero_le _, (fun r hr => by simp at hr), fun h => absurd h he, fun _ => ⟨rfl, by have := h1.2.1; simp only; omega, h1.2.2⟩, by have := h1.2.1; simp only; omega⟩

/-! The first of a Type; whether two have one. -/
def find : List O → Int → Option (List UInt8)
  | [], _ => none
  | x :: l, t => if x.ty = t then some x.data else find l t
theorem find_none (l : List O) (t : Int) (h : ∀ x ∈ l, x.ty ≠ t) : find l t = none := by
  induction l with
  | nil => rfl
  | cons x l ih => rw [find, if_neg (h x (by simp))]; exact ih (fun y hy => h y (by simp [hy]))
theorem find_at : ∀ (l : List O) (t : Int) (k : Nat) (h : k < l.length), (∀ x ∈ l.take k, x.ty ≠ t) → l[k].ty = t → find l t = some l[k].data
  | x :: l, t, 0, _, _, hk => by rw [find]; exact if_pos hk
  | x :: l, t, k + 1, h, hp, hk => by
    rw [find, if_neg (hp x (by simp))]
    exact find_at l t k (by simpa using h) (fun y hy => hp y (by simp [hy])) hk
theorem notyet_step {l : List O} {t : Int} {k : Nat} (h : k < l.length) (hp : ∀ x ∈ l.take k, x.ty ≠ t) (hk : l[k].ty ≠ t) : ∀ x ∈ l.take (k + 1), x.ty ≠ t := by
  intro x hx
  rw [List.take_succ_eq_append_getElem h] at hx
  simp only [List.mem_append, List.mem_singleton] at hx
  rcases hx with hx | rfl
  · exact hp x hx
  · exact hk
def twice (l : List O) : Bool := !decide ((l.map O.ty).Nodup)
theorem twice_no (l : List O) (h : (l.map O.ty).Nodup) : twice l = false := by simp [twice, h]
theorem nodup_step {l : List O} {k : Nat} (h : k < l.length) (hp : ((l.take k).map O.ty).Nodup) (hk : ∀ x ∈ l.take k, x.ty ≠ l[k].ty) : ((l.take (k + 1)).map O.ty).Nodup := by
  rw [List.take_succ_eq_append_getElem h, List.map_append]
  refine List.nodup_append.2 ⟨hp, by simp, ?_⟩
  intro a ha b hb
  simp only [List.map_cons, List.map_nil, List.mem_singleton] at hb
  simp only [List.mem_map] at ha
  obtain ⟨x, hx, rfl⟩ := ha
  rw [hb]
  exact hk x hx
theorem twice_yes {l : List O} {k : Nat} (h : k < l.length) (hk : ∃ x ∈ l.take k, x.ty = l[k].ty) : twice l = true := by
  simp only [twice, Bool.not_eq_true', decide_eq_false_iff_not]
  intro hn
  have e : l = l.take k ++ (l[k] :: l.drop (k + 1)) := by rw [← List.drop_eq_getElem_cons h, List.take_append_drop]
  rw [e, List.map_append, List.map_cons] at hn
  obtain ⟨_, _, h3⟩ := List.nodup_append.1 hn
  obtain ⟨x, hx, hxe⟩ := hk
  exact h3 x.ty (List.mem_map.2 ⟨x, hx, rfl⟩) l[k].ty (by simp) hxe

/-! Lists within one another: by the first one alike. -/
def within : List O → List O → Bool
  | [], _ => true
  | x :: a, b => match b with
    | [] => false
    | y :: b => if x = y then within a b else within (x :: a) b
theorem within_nil (b : List O) : within [] b = true := by unfold within; rfl
theorem within_none (x : O) (a : List O) : within (x :: a) [] = false := by unfold within; rfl
theorem within_skip (x : O) (a : List O) : ∀ (b : List O) (j : Nat), j ≤ b.length → (∀ y ∈ b.take j, x ≠ y) → within (x :: a) b = within (x :: a) (b.drop j)
  | b, 0, _, _ => rfl
  | [], j + 1, h, _ => by simp at h
  | y :: b, j + 1, h, hn => by
    rw [within, if_neg (hn y (by simp))]
    exact within_skip x a b j (by simpa using h) (fun z hz => hn z (by simp [hz]))
theorem within_take (x : O) (a : List O) (b : List O) (j : Nat) (h : j < b.length) (hn : ∀ y ∈ b.take j, x ≠ y) (hj : x = b[j]) : within (x :: a) b = within a (b.drop (j + 1)) := by
  rw [within_skip x a b j (by omega) hn, List.drop_eq_getElem_cons h, within, if_pos hj]
theorem within_out (x : O) (a : List O) (b : List O) (hn : ∀ y ∈ b, x ≠ y) : within (x :: a) b = false := by
  rw [within_skip x a b b.length (Nat.le_refl _) (by rw [List.take_length]; exact hn), List.drop_length, within_none]
theorem within_sub : ∀ (b a : List O), within a b = true ↔ List.Sublist a b
  | b, [] => by rw [within_nil]; simp
  | [], x :: a => by rw [within_none]; simp
  | y :: b, x :: a => by
    rw [within]
    by_cases h : x = y
    · subst h
      rw [if_pos rfl, within_sub b a]
      exact List.cons_sublist_cons.symm
    · rw [if_neg h, within_sub b (x :: a)]
      refine ⟨fun k => List.Sublist.cons _ k, fun k => ?_⟩
      cases k with
      | cons _ k => exact k
      | cons_cons _ k => exact absurd rfl h
/-- What is left when options are taken out. -/
def left (p : Nat → Bool) : Nat → List O → List O
  | _, [] => []
  | k, x :: l => if p k then x :: left p (k + 1) l else left p (k + 1) l
theorem left_sub (p : Nat → Bool) : ∀ (l : List O) (k : Nat), List.Sublist (left p k l) l
  | [], _ => by rw [left]; exact List.Sublist.refl _
  | x :: l, k => by
    rw [left]
    split
    · exact List.Sublist.cons_cons _ (left_sub p l (k + 1))
    · exact List.Sublist.cons _ (left_sub p l (k + 1))
theorem left_append (p : Nat → Bool) : ∀ (l m : List O) (k : Nat), left p k (l ++ m) = left p k l ++ left p (k + l.length) m
  | [], m, k => by simp [left]
  | x :: l, m, k => by
    rw [List.cons_append, left, left, left_append p l m (k + 1), List.length_cons, show k + 1 + l.length = k + (l.length + 1) by omega]
    split <;> simp
theorem left_step (p : Nat → Bool) (l : List O) (k : Nat) (h : k < l.length) : left p 0 (l.take (k + 1)) = left p 0 (l.take k) ++ (if p k then [l[k]] else []) := by
  rw [List.take_succ_eq_append_getElem h, left_append, List.length_take, Nat.zero_add, Nat.min_eq_left (by omega), left, left]
theorem within_left (p : Nat → Bool) (l : List O) : within (left p 0 l) l = true := (within_sub _ _).2 (left_sub p l 0)
theorem left_within (p : Nat → Bool) (l : List O) : within l (left p 0 l) = decide ((left p 0 l).length = l.length) := by
  have h := left_sub p l 0
  have h1 := within_sub (left p 0 l) l
  generalize left p 0 l = m at h h1
  by_cases e : m.length = l.length
  · have := h.eq_of_length e
    subst this
    rw [decide_eq_true rfl]
    exact h1.2 (List.Sublist.refl _)
  · rw [decide_eq_false e]
    cases hw : within l m with
    | false => rfl
    | true => exact absurd (Nat.le_antisymm h.length_le (h1.1 hw).length_le) e
theorem left_same (p : Nat → Bool) (l : List O) : decide (left p 0 l = l) = decide ((left p 0 l).length = l.length) := by
  have h := left_sub p l 0
  generalize left p 0 l = m at h
  refine decide_eq_decide.2 ⟨fun e => by rw [e], fun e => h.eq_of_length e⟩
/-- Few options, none too long. -/
def few (l : List O) : Bool := decide (l.length ≤ 50) && l.all (fun x => decide (x.data.length ≤ 1000))
theorem few_of (l : List O) (h : few l = true) : l.length ≤ 50 ∧ ∀ x ∈ l, x.data.length ≤ 1000 := by
  simp only [few, Bool.and_eq_true, decide_eq_true_eq, List.all_eq_true] at h
  exact h
end Ot
end Go.Proofs.Ytacnlancncmpmaa.S12
