/- Addresses, as the document tells them: which options are right, what they tell, what is bad of a list; what follows. -/
import Derived.Test.YtacnlancncmpmaaPlainoc
import Derived.Test.YtacnlancncmpmaaPlaino
namespace Go.Proofs.Ytacnlancncmpmaa
open S2 S12
namespace Ad
open Ot (O)
structure B4 where
  a : UInt8
  b : UInt8
  c : UInt8
  d : UInt8
  deriving DecidableEq
structure B8 where
  a : UInt8
  b : UInt8
  c : UInt8
  d : UInt8
  e : UInt8
  f : UInt8
  g : UInt8
  h : UInt8
  deriving DecidableEq
def B4.list (x : B4) : List UInt8 := [x.a, x.b, x.c, x.d]
def B8.list (x : B8) : List UInt8 := [x.a, x.b, x.c, x.d, x.e, x.f, x.g, x.h]
def b4 (l : List UInt8) : B4 := ⟨l.getD 0 0, l.getD 1 0, l.getD 2 0, l.getD 3 0⟩
def b8 (l : List UInt8) : B8 := ⟨l.getD 0 0, l.getD 1 0, l.getD 2 0, l.getD 3 0, l.getD 4 0, l.getD 5 0, l.getD 6 0, l.getD 7 0⟩
theorem four_of {l : List UInt8} (h : l.length = 4) : ∃ x : B4, l = x.list := by
  match l, h with
  | [a, b, c, d], _ => exact ⟨⟨a, b, c, d⟩, rfl⟩
theorem eight_of {l : List UInt8} (h : l.length = 8) : ∃ x : B8, l = x.list := by
  match l, h with
  | [a, b, c, d, e, f, g, h], _ => exact ⟨⟨a, b, c, d, e, f, g, h⟩, rfl⟩
theorem b4_list (x : B4) : b4 x.list = x := rfl
theorem b8_list (x : B8) : b8 x.list = x := rfl
def o4 : B4 := ⟨0, 0, 0, 0⟩
def o8 : B8 := ⟨0, 0, 0, 0, 0, 0, 0, 0⟩
structure T where
  hasIp : Bool
  ip : B4
  hasVj : Bool
  slots : Int
  vjId : Bool
  d0 : Bool
  d1 : Bool
  d2 : Bool
  d3 : Bool
  n0 : B4
  n1 : B4
  n2 : B4
  n3 : B4
  hasId : Bool
  id : B8
  deriving DecidableEq
def z : T := ⟨false, o4, false, 0, false, false, false, false, false, o4, o4, o4, o4, false, o8⟩
def known (P t : Int) : Bool := decide (P = 32855 ∧ t = 1 ∨ P = 32801 ∧ (t = 2 ∨ t = 3 ∨ t = 129 ∨ t = 130 ∨ t = 131 ∨ t = 132))
theorem known_cases (P : Int) {t : Int} (h : known P t = true) : P = 32855 ∧ t = 1 ∨ P = 32801 ∧ (t = 2 ∨ t = 3 ∨ t = 129 ∨ t = 130 ∨ t = 131 ∨ t = 132) := of_decide_eq_true h
theorem known_not (P : Int) {t : Int} (h : known P t = false) : ¬ (P = 32855 ∧ t = 1 ∨ P = 32801 ∧ (t = 2 ∨ t = 3 ∨ t = 129 ∨ t = 130 ∨ t = 131 ∨ t = 132)) := of_decide_eq_false h
/-- Are Data right, of a known Type? -/
def fits (t : Int) (d : List UInt8) : Bool :=
  if t = 1 then decide (d.length = 8) && decide (b8 d ≠ o8) else if t = 2 then decide (d.length = 4) && decide ((b4 d).a = 0 ∧ (b4 d).b = 45 ∧ (b4 d).d.toNat < 2) else decide (d.length = 4)
def good (P t : Int) (d : List UInt8) : Bool := known P t && fits t d
theorem good_known (P : Int) {t : Int} {d : List UInt8} (h : good P t d = true) : known P t = true := (Bool.and_eq_true _ _ ▸ h : _ ∧ _).1
def right (P : Int) (x : O) : Bool := good P x.ty x.data
theorem right_known (P : Int) {x : O} (h : right P x = true) : known P x.ty = true := good_known P h
/-- What an option tells, put into the addresses. -/
def put1 (s : T) (x : O) : T :=
  if x.ty = 1 then { s with hasId := true, id := b8 x.data } else if x.ty = 2 then { s with hasVj := true, slots := ((b4 x.data).c.toNat : Nat), vjId := decide ((b4 x.data).d = 1) }
  else if x.ty = 3 then { s with hasIp := true, ip := b4 x.data } else if x.ty = 129 then { s with d0 := true, n0 := b4 x.data } else if x.ty = 130 then { s with d1 := true, n1 := b4 x.data }
  else if x.ty = 131 then { s with d2 := true, n2 := b4 x.data } else if x.ty = 132 then { s with d3 := true, n3 := b4 x.data } else s
def usualD (t : Int) : List UInt8 := if t = 1 then [0, 0, 0, 0, 0, 0, 0, 1] else if t = 2 then [0, 45, 15, 0] else [10, 0, 0, 1]
theorem usual_good (P : Int) {t : Int} (h : known P t = true) : good P t (usualD t) = true := by
  rcases known_cases P h with ⟨rfl, rfl⟩ | ⟨rfl, rfl | rfl | rfl | rfl | rfl | rfl⟩ <;> decide
theorem usualD_le (t : Int) : (usualD t).length ≤ 8 := by
  unfold usualD
  repeat' split
  all_goals simp

/-! A list that is right, its terms. -/
def okl (P : Int) (l : List O) : Prop := (∀ x ∈ l, right P x = true) ∧ (l.map O.ty).Nodup
/-- The same, as a Boolean. -/
def oklB (P : Int) (l : List O) : Bool := decide ((∀ x ∈ l, right P x = true) ∧ (l.map O.ty).Nodup)
def told (l : List O) : T := l.foldl put1 z
def read (P : Int) (l : List O) : T × Bool := if (∀ x ∈ l, right P x = true) ∧ (l.map O.ty).Nodup then (told l, true) else (z, false)
theorem read_yes (P : Int) {l : List O} (h : okl P l) : read P l = (told l, true) := if_pos h
theorem read_no (P : Int) {l : List O} (h : ¬ okl P l) : read P l = (z, false) := if_neg h
theorem told_nil : told [] = z := rfl
theorem okl_nil (P : Int) : okl P [] := ⟨fun x h => by simp at h, by simp⟩
theorem told_step {l : List O} {k : Nat} (h : k < l.length) : told (l.take (k + 1)) = put1 (told (l.take k)) l[k] := by
  rw [told, told, List.take_succ_eq_append_getElem h, List.foldl_append]; rfl
theorem okl_step (P : Int) {l : List O} {k : Nat} (h : k < l.length) (hp : okl P (l.take k)) (hr : right P l[k] = true) (hf : ∀ x ∈ l.take k, x.ty ≠ l[k].ty) : okl P (l.take (k + 1)) := by
  refine ⟨fun x hx => ?_, Ot.nodup_step h hp.2 hf⟩
  rw [List.take_succ_eq_append_getElem h] at hx
  simp only [List.mem_append, List.mem_singleton] at hx
  rcases hx with hx | rfl
  · exact hp.1 x hx
  · exact hr
theorem okl_wrong (P : Int) {l : List O} {k : Nat} (h : k < l.length) (hr : right P l[k] = false) : ¬ okl P l := fun e => by
  rw [e.1 _ (List.getElem_mem h)] at hr; cases hr
theorem okl_again (P : Int) {l : List O} {k : Nat} (h : k < l.length) (hf : ∃ x ∈ l.take k, x.ty = l[k].ty) : ¬ okl P l := fun e => by
  have := Ot.twice_yes h hf
  rw [Ot.twice_no l e.2] at this; cases this
/-! What is to be rejected, what is to be changed, what is left. -/
def first (l : List O) (i : Nat) : Bool := match l[i]? with | some x => (l.take i).all (fun y => decide (y.ty ≠ x.ty)) | none => false
theorem first_iff {l : List O} {k : Nat} (h : k < l.length) : first l k = true ↔ ∀ x ∈ l.take k, x.ty ≠ l[k].ty := by
  simp [first, List.getElem?_eq_getElem h]
theorem first_not {l : List O} {k : Nat} (h : k < l.length) (hk : ∃ x ∈ l.take k, x.ty = l[k].ty) : first l k = false := by
  cases e : first l k with
  | false => rfl
  | true =>
    obtain ⟨x, hx, he⟩ := hk
    exact absurd he ((first_iff h).1 e x hx)
def pa (P : Int) (l : List O) (i : Nat) : Bool := match l[i]? with | some x => !(known P x.ty && first l i) | none => false
def pc (P : Int) (l : List O) (i : Nat) : Bool := match l[i]? with | some x => known P x.ty && first l i && !right P x | none => false
def pm (P : Int) (l : List O) (i : Nat) : Bool := match l[i]? with | some x => right P x && first l i | none => false
theorem pa_at (P : Int) {l : List O} {k : Nat} (h : k < l.length) : pa P l k = !(known P l[k].ty && first l k) := by simp [pa, List.getElem?_eq_getElem h]
theorem pc_at (P : Int) {l : List O} {k : Nat} (h : k < l.length) : pc P l k = (known P l[k].ty && first l k && !right P l[k]) := by simp [pc, List.getElem?_eq_getElem h]
theorem pm_at (P : Int) {l : List O} {k : Nat} (h : k < l.length) : pm P l k = (right P l[k] && first l k) := by simp [pm, List.getElem?_eq_getElem h]

def usual (x : O) : O := ⟨x.ty, usualD x.ty⟩
def awayTo (P : Int) (l : List O) (k : Nat) : List O := Ot.left (pa P l) 0 (l.take k)
def changedTo (P : Int) (l : List O) (k : Nat) : List O := (Ot.left (pc P l) 0 (l.take k)).map usual
def mendedTo (P : Int) (l : List O) (k : Nat) : List O := Ot.left (pm P l) 0 (l.take k)
def away (P : Int) (l : List O) : List O := Ot.left (pa P l) 0 l
def changed (P : Int) (l : List O) : List O := (Ot.left (pc P l) 0 l).map usual
def mended (P : Int) (l : List O) : List O := Ot.left (pm P l) 0 l
theorem away_all (P : Int) {l : List O} {k : Nat} (h : l.length ≤ k) : awayTo P l k = away P l := by rw [awayTo, List.take_of_length_le h]; rfl
theorem changed_all (P : Int) {l : List O} {k : Nat} (h : l.length ≤ k) : changedTo P l k = changed P l := by rw [changedTo, List.take_of_length_le h]; rfl
theorem mended_all (P : Int) {l : List O} {k : Nat} (h : l.length ≤ k) : mendedTo P l k = mended P l := by rw [mendedTo, List.take_of_length_le h]; rfl
theorem away_nil (P : Int) (l : List O) : awayTo P l 0 = [] := by simp [awayTo, Ot.left]
theorem changed_nil (P : Int) (l : List O) : changedTo P l 0 = [] := by simp [changedTo, Ot.left]
theorem mended_nil (P : Int) (l : List O) : mendedTo P l 0 = [] := by simp [mendedTo, Ot.left]
theorem away_step (P : Int) {l : List O} {k : Nat} (h : k < l.length) : awayTo P l (k + 1) = awayTo P l k ++ (if pa P l k then [l[k]] else []) := Ot.left_step _ _ _ h
theorem changed_step (P : Int) {l : List O} {k : Nat} (h : k < l.length) : changedTo P l (k + 1) = changedTo P l k ++ (if pc P l k then [usual l[k]] else []) := by
  rw [changedTo, Ot.left_step _ _ _ h, List.map_append, changedTo]
  split <;> simp
theorem mended_step (P : Int) {l : List O} {k : Nat} (h : k < l.length) : mendedTo P l (k + 1) = mendedTo P l k ++ (if pm P l k then [l[k]] else []) := Ot.left_step _ _ _ h
/-! The three arms of a round. -/
theorem arm_away (P : Int) {l : List O} {k : Nat} (h : k < l.length) (hk : known P l[k].ty = false ∨ first l k = false) : awayTo P l (k + 1) = awayTo P l k ++ [l[k]] ∧ changedTo P l (k + 1) = changedTo P l k := by
  have e1 : pa P l k = true := by rw [pa_at P h]; rcases hk with e | e <;> rw [e] <;> simp
  have e2 : pc P l k = false := by rw [pc_at P h]; rcases hk with e | e <;> rw [e] <;> simp
  rw [away_step P h, changed_step P h, e1, e2]; simp
theorem arm_stay (P : Int) {l : List O} {k : Nat} (h : k < l.length) (h1 : known P l[k].ty = true) (h2 : first l k = true) (h3 : right P l[k] = true) : awayTo P l (k + 1) = awayTo P l k ∧ changedTo P l (k + 1) = changedTo P l k := by
  have e1 : pa P l k = false := by rw [pa_at P h, h1, h2]; rfl
  have e2 : pc P l k = false := by rw [pc_at P h, h3]; simp
  rw [away_step P h, changed_step P h, e1, e2]; simp
theorem arm_change (P : Int) {l : List O} {k : Nat} (h : k < l.length) (h1 : known P l[k].ty = true) (h2 : first l k = true) (h3 : right P l[k] = false) : awayTo P l (k + 1) = awayTo P l k ∧ changedTo P l (k + 1) = changedTo P l k ++ [usual l[k]] := by
  have e1 : pa P l k = false := by rw [pa_at P h, h1, h2]; rfl
  have e2 : pc P l k = true := by rw [pc_at P h, h1, h2, h3]; rfl
  rw [away_step P h, changed_step P h, e1, e2]; simp
theorem arm_mend (P : Int) {l : List O} {k : Nat} (h : k < l.length) (h1 : right P l[k] = true) (h2 : first l k = true) : mendedTo P l (k + 1) = mendedTo P l k ++ [l[k]] := by
  rw [mended_step P h, pm_at P h, h1, h2]; rfl
theorem arm_leave (P : Int) {l : List O} {k : Nat} (h : k < l.length) (hk : right P l[k] = false ∨ first l k = false) : mendedTo P l (k + 1) = mendedTo P l k := by
  have e : pm P l k = false := by rw [pm_at P h]; rcases hk with e | e <;> rw [e] <;> simp
  rw [mended_step P h, e]; simp
theorem left_le (p : Nat → Bool) (l : List O) (k : Nat) : (Ot.left p 0 (l.take k)).length ≤ k := by
  have := (Ot.left_sub p (l.take k) 0).length_le
  rw [List.length_take] at this
  omega
theorem away_le (P : Int) (l : List O) (k : Nat) : (awayTo P l k).length ≤ k := left_le _ l k
theorem changed_le (P : Int) (l : List O) (k : Nat) : (changedTo P l k).length ≤ k := by rw [changedTo, List.length_map]; exact left_le _ l k
theorem mended_le (P : Int) (l : List O) (k : Nat) : (mendedTo P l k).length ≤ k := left_le _ l k
/-! What follows. -/
theorem left_nil (p : Nat → Bool) : ∀ (l : List O) (k : Nat), Ot.left p k l = [] ↔ ∀ i, i < l.length → p (k + i) = false
  | [], k => by simp [Ot.left]
  | x :: l, k => by
    rw [Ot.left]
    by_cases hp : p k = true
    · rw [if_pos hp]
      refine ⟨fun h => absurd h (by simp), fun h => ?_⟩
      have := h 0 (by simp)
      rw [Nat.add_zero, hp] at this; cases this
    · rw [if_neg hp, left_nil p l (k + 1)]
      refine ⟨fun h i hi => ?_, fun h i hi => ?_⟩
      · cases i with
        | zero => simpa using hp
        | succ i => rw [show k + (i + 1) = k + 1 + i by omega]; exact h i (by simpa using hi)
      · rw [show k + 1 + i = k + (i + 1) by omega]; exact h (i + 1) (by simpa using hi)
theorem left_mem (p : Nat → Bool) : ∀ (l : List O) (k : Nat) (x : O), x ∈ Ot.left p k l → ∃ i, ∃ h : i < l.length, p (k + i) = true ∧ l[i] = x
  | [], k, x, h => by simp [Ot.left] at h
  | y :: l, k, x, h => by
    rw [Ot.left] at h
    by_cases hp : p k = true
    · rw [if_pos hp] at h
      simp only [List.mem_cons] at h
      rcases h with rfl | h
      · exact ⟨0, by simp, by simpa using hp, rfl⟩
      · obtain ⟨i, hi, h1, h2⟩ := left_mem p l (k + 1) x h
        exact ⟨i + 1, by simpa using hi, by rw [show k + (i + 1) = k + 1 + i by omega]; exact h1, by simpa using h2⟩
    · rw [if_neg hp] at h
      obtain ⟨i, hi, h1, h2⟩ := left_mem p l (k + 1) x h
      exact ⟨i + 1, by simpa using hi, by rw [show k + (i + 1) = k + 1 + i by omega]; exact h1, by simpa using h2⟩
theorem left_three (p q r : Nat → Bool) : ∀ (l : List O) (k : Nat), (∀ i, i < l.length → (p (k + i)).toNat + (q (k + i)).toNat + (r (k + i)).toNat = 1) → (Ot.left p k l).length + (Ot.left q k l).length + (Ot.left r k l).length = l.length
  | [], k, _ => by simp [Ot.left]
  | x :: l, k, h => by
    have h0 := h 0 (by simp)
    have ih := left_three p q r l (k + 1) (fun i hi => by rw [show k + 1 + i = k + (i + 1) by omega]; exact h (i + 1) (by simpa using hi))
    rw [Nat.add_zero] at h0
    rw [Ot.left, Ot.left, Ot.left, List.length_cons]
    cases hp : p k <;> cases hq : q k <;> cases hr : r k <;> rw [hp, hq, hr] at h0 <;> simp at h0 ⊢ <;> omega
theorem known_of_right (P : Int) (x : O) (h : known P x.ty = false) : right P x = false := by
  cases e : right P x with
  | false => rfl
  | true => rw [right_known P e] at h; cases h
theorem counted (P : Int) (l : List O) : (mended P l).length + (away P l).length + (changed P l).length = l.length := by
  rw [changed, List.length_map]
  refine left_three _ _ _ l 0 fun i hi => ?_
  rw [Nat.zero_add, pa_at P hi, pc_at P hi, pm_at P hi]
  have h1 := known_of_right P l[i]
  cases e1 : known P l[i].ty <;> cases e2 : first l i <;> cases e3 : right P l[i] <;> simp
  all_goals rw [h1 e1] at e3; cases e3
theorem okl_iff (P : Int) (l : List O) : okl P l ↔ ∀ i, i < l.length → pm P l i = true := by
  constructor
  · intro h i hi
    rw [pm_at P hi, h.1 _ (List.getElem_mem hi), Bool.true_and]
    cases e : first l i with
    | true => rfl
    | false =>
      refine absurd h (okl_again P hi ?_)
      by_cases hx : ∃ x ∈ l.take i, x.ty = l[i].ty
      · exact hx
      · rw [(first_iff hi).2 (fun x hm e' => hx ⟨x, hm, e'⟩)] at e; cases e
  · intro h
    have key : ∀ k, k ≤ l.length → okl P (l.take k) := by
      intro k
      induction k with
      | zero => intro _; simpa using okl_nil P
      | succ k ih =>
        intro hk
        have hi : k < l.length := by omega
        have := h k hi
        rw [pm_at P hi, Bool.and_eq_true] at this
        exact okl_step P hi (ih (by omega)) this.1 ((first_iff hi).1 this.2)
    simpa using key l.length (Nat.le_refl _)
theorem okl_bad (P : Int) (l : List O) : okl P l ↔ away P l = [] ∧ changed P l = [] := by
  rw [okl_iff P, away, changed, List.map_eq_nil_iff, left_nil, left_nil]
  constructor
  · intro h
    refine ⟨fun i hi => ?_, fun i hi => ?_⟩
    · have := h i hi
      rw [pm_at P hi, Bool.and_eq_true] at this
      rw [Nat.zero_add, pa_at P hi, right_known P this.1, this.2]; rfl
    · have := h i hi
      rw [pm_at P hi, Bool.and_eq_true] at this
      rw [Nat.zero_add, pc_at P hi, this.1]; simp
  · rintro ⟨h1, h2⟩ i hi
    have a := h1 i hi
    have b := h2 i hi
    rw [Nat.zero_add, pa_at P hi] at a
    rw [Nat.zero_add, pc_at P hi] at b
    rw [pm_at P hi]
    cases e1 : known P l[i].ty <;> cases e2 : first l i <;> cases e3 : right P l[i] <;> simp [e1, e2, e3] at a b ⊢
theorem okl_count (P : Int) (l : List O) : oklB P l = (decide ((away P l).length = 0) && decide ((changed P l).length = 0)) := by
  rw [← Bool.decide_and]
  refine decide_eq_decide.2 ?_
  show okl P l ↔ _
  rw [okl_bad P, List.length_eq_zero_iff, List.length_eq_zero_iff]
theorem usual_right (P : Int) {t : Int} (h : known P t = true) : good P t (usualD t) = true := by
  exact usual_good P h
theorem left_nodup (p : Nat → Bool) (l : List O) (hp : ∀ i, i < l.length → p i = true → first l i = true) : ((Ot.left p 0 l).map O.ty).Nodup := by
  have key : ∀ k, k ≤ l.length → ((Ot.left p 0 (l.take k)).map O.ty).Nodup := by
    intro k
    induction k with
    | zero => intro _; simp [Ot.left]
    | succ k ih =>
      intro hk
      have hi : k < l.length := by omega
      rw [Ot.left_step _ _ _ hi]
      by_cases e : p k = true
      · rw [if_pos e, List.map_append]
        refine List.nodup_append.2 ⟨ih (by omega), by simp, ?_⟩
        intro a ha b hb
        simp only [List.map_cons, List.map_nil, List.mem_singleton] at hb
        simp only [List.mem_map] at ha
        obtain ⟨x, hx, rfl⟩ := ha
        rw [hb]
        exact (first_iff hi).1 (hp k hi e) x ((Ot.left_sub p _ 0).subset hx)
      · rw [if_neg e, List.append_nil]; exact ih (by omega)
  simpa using key l.length (Nat.le_refl _)
theorem mem_take {l : List O} {i j : Nat} (h : i < j) (hj : j < l.length) : l[i] ∈ l.take j := by
  have hi : i < (l.take j).length := by rw [List.length_take]; omega
  have := List.getElem_mem hi
  rwa [List.getElem_take] at this
theorem mended_right (P : Int) (l : List O) : okl P (mended P l ++ changed P l) := by
  constructor
  · intro x hx
    simp only [List.mem_append] at hx
    rcases hx with hx | hx
    · obtain ⟨i, hi, h1, rfl⟩ := left_mem _ l 0 x hx
      rw [Nat.zero_add, pm_at P hi, Bool.and_eq_true] at h1
      exact h1.1
    · obtain ⟨y, hy, rfl⟩ := List.mem_map.1 hx
      obtain ⟨i, hi, h1, rfl⟩ := left_mem _ l 0 y hy
      rw [Nat.zero_add, pc_at P hi, Bool.and_eq_true, Bool.and_eq_true] at h1
      exact usual_right P h1.1.1
  · rw [List.map_append, changed, List.map_map]
    have e : (O.ty ∘ usual) = O.ty := rfl
    rw [e]
    refine List.nodup_append.2 ⟨left_nodup _ l fun i hi h => ?_, left_nodup _ l fun i hi h => ?_, ?_⟩
    · rw [pm_at P hi, Bool.and_eq_true] at h; exact h.2
    · rw [pc_at P hi, Bool.and_eq_true, Bool.and_eq_true] at h; exact h.1.2
    · intro a ha b hb
      obtain ⟨x, hx, rfl⟩ := List.mem_map.1 ha
      obtain ⟨y, hy, rfl⟩ := List.mem_map.1 hb
      obtain ⟨i, hi, h1, rfl⟩ := left_mem _ l 0 x hx
      obtain ⟨j, hj, h2, rfl⟩ := left_mem _ l 0 y hy
      rw [Nat.zero_add, pm_at P hi, Bool.and_eq_true] at h1
      rw [Nat.zero_add, pc_at P hj, Bool.and_eq_true, Bool.and_eq_true] at h2
      rcases Nat.lt_trichotomy i j with h | rfl | h
      · exact (first_iff hj).1 h2.1.2 _ (mem_take h hj)
      · rw [h1.1] at h2; simp at h2
      · exact fun e => (first_iff hi).1 h1.2 _ (mem_take h hi) e.symm
theorem away_within (P : Int) (l : List O) : Ot.within (away P l) l = true := Ot.within_left _ _

/-! What is put. -/
/-- The last byte of a number. -/
def low (n : Int) : UInt8 := UInt8.ofNat (n % 256).toNat
theorem low_nat (n : Int) : ((low n).toNat : Int) = n % 256 := by
  have h : (low n).toNat = (n % 256).toNat % 256 := by simp [low]
  rw [h]; omega
def vjD (s : Int) (i : Bool) : List UInt8 := [0, 45, low s, if i then 1 else 0]
def pick (b : Bool) (x : O) : List O := if b then [x] else []
def opts (t : T) : List O :=
  pick t.hasId ⟨1, t.id.list⟩ ++ pick t.hasVj ⟨2, vjD t.slots t.vjId⟩ ++ pick t.hasIp ⟨3, t.ip.list⟩ ++ pick t.d0 ⟨129, t.n0.list⟩ ++ pick t.d1 ⟨130, t.n1.list⟩ ++ pick t.d2 ⟨131, t.n2.list⟩ ++ pick t.d3 ⟨132, t.n3.list⟩
def may6 (t : T) : Bool := decide ({ t with hasId := false, id := o8 } = z) && (t.hasId == decide (t.id ≠ o8))
def may4 (t : T) : Bool :=
  !t.hasId && decide (t.id = o8) && (t.hasIp || decide (t.ip = o4)) && (t.hasVj || (decide (t.slots = 0) && !t.vjId)) && decide (0 ≤ t.slots) && decide (t.slots ≤ 255)
    && (t.d0 || decide (t.n0 = o4)) && (t.d1 || decide (t.n1 = o4)) && (t.d2 || decide (t.n2 = o4)) && (t.d3 || decide (t.n3 = o4))
def may (P : Int) (t : T) : Bool := if P = 32855 then may6 t else if P = 32801 then may4 t else false
def put (P : Int) (t : T) : List O × Bool := if (P = 32801 ∨ P = 32855) ∧ ((∀ x ∈ opts t, right P x = true) ∧ ((opts t).map O.ty).Nodup) ∧ told (opts t) = t then (opts t, true) else ([], false)
theorem pick_le (b : Bool) (x : O) : (pick b x).length ≤ 1 := by cases b <;> simp [pick]
theorem opts_le (t : T) : (opts t).length ≤ 7 := by
  simp only [opts, List.length_append]
  have := pick_le t.hasId ⟨1, t.id.list⟩
  have := pick_le t.hasVj ⟨2, vjD t.slots t.vjId⟩
  have := pick_le t.hasIp ⟨3, t.ip.list⟩
  have := pick_le t.d0 ⟨129, t.n0.list⟩
  have := pick_le t.d1 ⟨130, t.n1.list⟩
  have := pick_le t.d2 ⟨131, t.n2.list⟩
  have := pick_le t.d3 ⟨132, t.n3.list⟩
  omega
theorem mem_pick {b : Bool} {x y : O} : y ∈ pick b x ↔ b = true ∧ y = x := by cases b <;> simp [pick]
theorem fold_pick (s : T) (b : Bool) (x : O) : (pick b x).foldl put1 s = if b then put1 s x else s := by cases b <;> rfl
theorem vj_told (s : Int) (i : Bool) : (((b4 (vjD s i)).c.toNat : Nat) : Int) = s % 256 ∧ decide ((b4 (vjD s i)).d = 1) = i := by
  refine ⟨low_nat s, ?_⟩
  cases i <;> rfl
theorem told_opts (t : T) : told (opts t) = ⟨t.hasIp, if t.hasIp then t.ip else o4, t.hasVj, if t.hasVj then t.slots % 256 else 0, t.hasVj && t.vjId, t.d0, t.d1, t.d2, t.d3,
    if t.d0 then t.n0 else o4, if t.d1 then t.n1 else o4, if t.d2 then t.n2 else o4, if t.d3 then t.n3 else o4, t.hasId, if t.hasId then t.id else o8⟩ := by
  have h2 (s : T) : put1 s ⟨2, vjD t.slots t.vjId⟩ = { s with hasVj := true, slots := t.slots % 256, vjId := t.vjId } := by
    have e : put1 s ⟨2, vjD t.slots t.vjId⟩ = { s with hasVj := true, slots := (((b4 (vjD t.slots t.vjId)).c.toNat : Nat) : Int), vjId := decide ((b4 (vjD t.slots t.vjId)).d = 1) } := rfl
    rw [e, (vj_told _ _).1, (vj_told _ _).2]
  have h1 (s : T) : put1 s ⟨1, t.id.list⟩ = { s with hasId := true, id := t.id } := rfl
  have h3 (s : T) : put1 s ⟨3, t.ip.list⟩ = { s with hasIp := true, ip := t.ip } := rfl
  have h4 (s : T) : put1 s ⟨129, t.n0.list⟩ = { s with d0 := true, n0 := t.n0 } := rfl
  have h5 (s : T) : put1 s ⟨130, t.n1.list⟩ = { s with d1 := true, n1 := t.n1 } := rfl
  have h6 (s : T) : put1 s ⟨131, t.n2.list⟩ = { s with d2 := true, n2 := t.n2 } := rfl
  have h7 (s : T) : put1 s ⟨132, t.n3.list⟩ = { s with d3 := true, n3 := t.n3 } := rfl
  have k1 (s : T) : (if t.hasId = true then put1 s ⟨1, t.id.list⟩ else s) = { s with hasId := t.hasId || s.hasId, id := if t.hasId then t.id else s.id } := by rw [h1]; cases t.hasId <;> rfl
  have k2 (s : T) : (if t.hasVj = true then put1 s ⟨2, vjD t.slots t.vjId⟩ else s) = { s with hasVj := t.hasVj || s.hasVj, slots := if t.hasVj then t.slots % 256 else s.slots, vjId := if t.hasVj then t.vjId else s.vjId } := by rw [h2]; cases t.hasVj <;> rfl
  have k3 (s : T) : (if t.hasIp = true then put1 s ⟨3, t.ip.list⟩ else s) = { s with hasIp := t.hasIp || s.hasIp, ip := if t.hasIp then t.ip else s.ip } := by rw [h3]; cases t.hasIp <;> rfl
  have k4 (s : T) : (if t.d0 = true then put1 s ⟨129, t.n0.list⟩ else s) = { s with d0 := t.d0 || s.d0, n0 := if t.d0 then t.n0 else s.n0 } := by rw [h4]; cases t.d0 <;> rfl
  have k5 (s : T) : (if t.d1 = true then put1 s ⟨130, t.n1.list⟩ else s) = { s with d1 := t.d1 || s.d1, n1 := if t.d1 then t.n1 else s.n1 } := by rw [h5]; cases t.d1 <;> rfl
  have k6 (s : T) : (if t.d2 = true then put1 s ⟨131, t.n2.list⟩ else s) = { s with d2 := t.d2 || s.d2, n2 := if t.d2 then t.n2 else s.n2 } := by rw [h6]; cases t.d2 <;> rfl
  have k7 (s : T) : (if t.d3 = true then put1 s ⟨132, t.n3.list⟩ else s) = { s with d3 := t.d3 || s.d3, n3 := if t.d3 then t.n3 else s.n3 } := by rw [h7]; cases t.d3 <;> rfl
  simp only [told, opts, List.foldl_append, fold_pick, k1, k2, k3, k4, k5, k6, k7]
  simp only [z, Bool.or_false]
  cases t.hasVj <;> rfl
theorem ty_pick (b : Bool) (x : O) : List.Sublist ((pick b x).map O.ty) [x.ty] := by cases b <;> simp [pick]
theorem opts_nodup (t : T) : ((opts t).map O.ty).Nodup := by
  have h : List.Sublist ((opts t).map O.ty) ([1] ++ [2] ++ [3] ++ [129] ++ [130] ++ [131] ++ [132] : List Int) := by
    simp only [opts, List.map_append]
    exact ((((((ty_pick _ _).append (ty_pick _ _)).append (ty_pick _ _)).append (ty_pick _ _)).append (ty_pick _ _)).append (ty_pick _ _)).append (ty_pick _ _)
  exact h.nodup (by decide)
theorem vj_good (s : Int) (i : Bool) : good 32801 2 (vjD s i) = true := by cases i <;> rfl
theorem okl_four (t : T) : okl 32801 (opts t) ↔ t.hasId = false := by
  constructor
  · intro h
    cases e : t.hasId with
    | false => rfl
    | true =>
      have := h.1 ⟨1, t.id.list⟩ (by simp [opts, mem_pick, e])
      cases this
  · intro h
    refine ⟨fun x hx => ?_, opts_nodup t⟩
    simp only [opts, List.mem_append, mem_pick] at hx
    rcases hx with (((((⟨e, rfl⟩ | ⟨_, rfl⟩) | ⟨_, rfl⟩) | ⟨_, rfl⟩) | ⟨_, rfl⟩) | ⟨_, rfl⟩) | ⟨_, rfl⟩
    · rw [h] at e; cases e
    · exact vj_good _ _
    all_goals rfl
theorem okl_six (t : T) : okl 32855 (opts t) ↔ t.hasVj = false ∧ t.hasIp = false ∧ t.d0 = false ∧ t.d1 = false ∧ t.d2 = false ∧ t.d3 = false ∧ (t.hasId = true → t.id ≠ o8) := by
  constructor
  · intro h
    have key (b : Bool) (x : O) (hb : b = true → x ∈ opts t) (hr : right 32855 x = false) : b = false := by
      cases e : b with
      | false => rfl
      | true => rw [h.1 x (hb e)] at hr; cases hr
    refine ⟨key _ ⟨2, vjD t.slots t.vjId⟩ (fun e => by simp [opts, mem_pick, e]) rfl, key _ ⟨3, t.ip.list⟩ (fun e => by simp [opts, mem_pick, e]) rfl, key _ ⟨129, t.n0.list⟩ (fun e => by simp [opts, mem_pick, e]) rfl,
      key _ ⟨130, t.n1.list⟩ (fun e => by simp [opts, mem_pick, e]) rfl, key _ ⟨131, t.n2.list⟩ (fun e => by simp [opts, mem_pick, e]) rfl, key _ ⟨132, t.n3.list⟩ (fun e => by simp [opts, mem_pick, e]) rfl, fun e hz => ?_⟩
    have := h.1 ⟨1, t.id.list⟩ (by simp [opts, mem_pick, e])
    rw [hz] at this
    cases this
  · rintro ⟨h1, h2, h3, h4, h5, h6, h7⟩
    refine ⟨fun x hx => ?_, opts_nodup t⟩
    simp only [opts, List.mem_append, mem_pick, h1, h2, h3, h4, h5, h6] at hx
    simp only [Bool.false_eq_true, false_and, or_false] at hx
    obtain ⟨e, rfl⟩ := hx
    have e : good 32855 1 t.id.list = decide (t.id ≠ o8) := rfl
    show good 32855 1 t.id.list = true
    rw [e]
    exact decide_eq_true (h7 (by assumption))
theorem T.ext' {a b : T} (h1 : a.hasIp = b.hasIp) (h2 : a.ip = b.ip) (h3 : a.hasVj = b.hasVj) (h4 : a.slots = b.slots) (h5 : a.vjId = b.vjId) (h6 : a.d0 = b.d0) (h7 : a.d1 = b.d1) (h8 : a.d2 = b.d2) (h9 : a.d3 = b.d3)
    (g1 : a.n0 = b.n0) (g2 : a.n1 = b.n1) (g3 : a.n2 = b.n2) (g4 : a.n3 = b.n3) (g5 : a.hasId = b.hasId) (g6 : a.id = b.id) : a = b := by
  cases a; cases b; simp_all
theorem had {α : Type} [DecidableEq α] (b : Bool) (x y : α) : ((if b = true then x else y) = x) ↔ (b || decide (x = y)) = true := by
  cases b <;> simp [eq_comm]
/-- Addresses that are put are just those that may be. -/
theorem put_may (P : Int) (t : T) : ((P = 32801 ∨ P = 32855) ∧ okl P (opts t) ∧ told (opts t) = t) ↔ may P t = true := by
  unfold may
  by_cases h6 : P = 32855
  · subst h6
    rw [if_pos rfl, okl_six, told_opts, may6]
    constructor
    · rintro ⟨_, ⟨h1, h2, h3, h4, h5, h6, h7⟩, h⟩
      have e2 := congrArg T.ip h
      have e4 := congrArg T.slots h
      have e5 := congrArg T.vjId h
      have g0 := congrArg T.n0 h
      have g1 := congrArg T.n1 h
      have g2 := congrArg T.n2 h
      have g3 := congrArg T.n3 h
      have g4 := congrArg T.id h
      simp only [h1, h2, h3, h4, h5, h6, Bool.false_eq_true, if_false, Bool.false_and] at e2 e4 e5 g0 g1 g2 g3 g4
      rw [Bool.and_eq_true]
      refine ⟨decide_eq_true (T.ext' h2 e2.symm h1 e4.symm e5.symm h3 h4 h5 h6 g0.symm g1.symm g2.symm g3.symm rfl rfl), ?_⟩
      cases e : t.hasId with
      | true => simp [h7 e]
      | false => rw [e] at g4; simp at g4; simp [g4.symm]
    · intro h
      rw [Bool.and_eq_true] at h
      obtain ⟨h1, h2⟩ := h
      have h := of_decide_eq_true h1
      have a1 := congrArg T.hasIp h
      have a2 := congrArg T.ip h
      have a3 := congrArg T.hasVj h
      have a4 := congrArg T.slots h
      have a5 := congrArg T.vjId h
      have b0 := congrArg T.d0 h
      have b1 := congrArg T.d1 h
      have b2 := congrArg T.d2 h
      have b3 := congrArg T.d3 h
      have c0 := congrArg T.n0 h
      have c1 := congrArg T.n1 h
      have c2 := congrArg T.n2 h
      have c3 := congrArg T.n3 h
      simp only [z] at a1 a2 a3 a4 a5 b0 b1 b2 b3 c0 c1 c2 c3
      clear h h1
      have h2 := eq_of_beq h2
      refine ⟨.inr rfl, ⟨a3, a1, b0, b1, b2, b3, fun e => ?_⟩, T.ext' rfl ?_ rfl ?_ ?_ rfl rfl rfl rfl ?_ ?_ ?_ ?_ rfl ?_⟩
      · rw [e] at h2; exact of_decide_eq_true h2.symm
      · simp [a1, a2]
      · simp [a3, a4]
      · simp [a3, a5]
      · simp [b0, c0]
      · simp [b1, c1]
      · simp [b2, c2]
      · simp [b3, c3]
      · cases e : t.hasId with
        | true => rfl
        | false =>
          rw [e] at h2
          have := of_decide_eq_false h2.symm
          simp only [ne_eq, Decidable.not_not] at this
          simp [this]
  · rw [if_neg h6]
    by_cases h4 : P = 32801
    · subst h4
      rw [if_pos rfl, okl_four, told_opts, may4]
      simp only [Bool.and_eq_true, Bool.not_eq_true', ← had, decide_eq_true_eq]
      constructor
      · rintro ⟨_, h1, h⟩
        have e2 := congrArg T.ip h
        have e4 := congrArg T.slots h
        have e5 := congrArg T.vjId h
        have g0 := congrArg T.n0 h
        have g1 := congrArg T.n1 h
        have g2 := congrArg T.n2 h
        have g3 := congrArg T.n3 h
        have g4 := congrArg T.id h
        simp only [h1, Bool.false_eq_true, if_false] at e2 e4 e5 g0 g1 g2 g3 g4
        have hs : 0 ≤ t.slots ∧ t.slots ≤ 255 := by
          cases e : t.hasVj with
          | true => rw [e] at e4; simp at e4; omega
          | false => rw [e] at e4; simp at e4; omega
        refine ⟨⟨⟨⟨⟨⟨⟨⟨⟨h1, g4.symm⟩, e2⟩, ?_⟩, hs.1⟩, hs.2⟩, g0⟩, g1⟩, g2⟩, g3⟩
        cases e : t.hasVj with
        | true => rfl
        | false => rw [e] at e4 e5; simp at e4 e5; simp [e4.symm, e5.symm]
      · rintro ⟨⟨⟨⟨⟨⟨⟨⟨⟨h1, g4⟩, e2⟩, e3⟩, s1⟩, s2⟩, g0⟩, g1⟩, g2⟩, g3⟩
        refine ⟨.inl trivial, h1, T.ext' rfl e2 rfl ?_ ?_ rfl rfl rfl rfl g0 g1 g2 g3 rfl ?_⟩
        · cases e : t.hasVj with
          | true => simp only [if_true]; omega
          | false => rw [e] at e3; simp at e3; simp [e3.1]
        · cases e : t.hasVj with
          | true => simp
          | false => rw [e] at e3; simp at e3; simp [e3.2]
        · simp [h1, g4]
    · rw [if_neg h4]
      constructor
      · rintro ⟨h | h, _⟩
        · exact absurd h h4
        · exact absurd h h6
      · intro h; cases h
theorem put_yes (P : Int) {t : T} (h : may P t = true) : put P t = (opts t, true) := if_pos ((put_may P t).2 h)
theorem put_no (P : Int) {t : T} (h : may P t = false) : put P t = ([], false) := if_neg fun e => by rw [(put_may P t).1 e] at h; cases h

/-- A right option of each Type. -/
def full : T := ⟨true, ⟨10, 0, 0, 1⟩, true, 15, false, true, true, true, true, ⟨10, 0, 0, 1⟩, ⟨10, 0, 0, 1⟩, ⟨10, 0, 0, 1⟩, ⟨10, 0, 0, 1⟩, true, ⟨0, 0, 0, 0, 0, 0, 0, 1⟩⟩
theorem find_full (P : Int) {t : Int} (h : known P t = true) : Ot.find (opts full) t = some (usualD t) := by
  rcases known_cases P h with ⟨rfl, rfl⟩ | ⟨rfl, rfl | rfl | rfl | rfl | rfl | rfl⟩ <;> decide
end Ad
end Go.Proofs.Ytacnlancncmpmaa
