/- Terms, as the document tells them: which options are right, what they tell, what is bad of a list; what follows. -/
import Derived.Test.YtnhjpbhndckfgaaPlainoc
import Derived.Test.YtnhjpbhndckfgaaPlaino
namespace Go.Proofs.Ytnhjpbhndckfgaa
open S2 S12
namespace Tm
open Ot (O)
structure T where
  hasMru : Bool
  mru : Int
  hasAccm : Bool
  accm : Nat
  login : Int
  quality : Bool
  hasMagic : Bool
  magic : Nat
  pfc : Bool
  acfc : Bool
  deriving DecidableEq
def z : T := ⟨false, 0, false, 0, 0, false, false, 0, false, false⟩
def known (t : Int) : Bool := decide (t = 1 ∨ t = 2 ∨ t = 3 ∨ t = 4 ∨ t = 5 ∨ t = 7 ∨ t = 8)
theorem known_cases {t : Int} (h : known t = true) : t = 1 ∨ t = 2 ∨ t = 3 ∨ t = 4 ∨ t = 5 ∨ t = 7 ∨ t = 8 := of_decide_eq_true h
theorem known_not {t : Int} (h : known t = false) : t ≠ 1 ∧ t ≠ 2 ∧ t ≠ 3 ∧ t ≠ 4 ∧ t ≠ 5 ∧ t ≠ 7 ∧ t ≠ 8 := by
  have := of_decide_eq_false h
  omega
/-- What Data of a login ask for; 0, if they aren't right. -/
def asked (d : List UInt8) : Nat :=
  if d.length < 2 then 0 else if Oc.get (d.take 2) true = 49187 then (if d.length = 2 then 49187 else 0) else if Oc.get (d.take 2) true = 49699 then (if d.drop 2 = [5] then 49699 else 0) else 1
theorem get_two (x y : UInt8) (l : List UInt8) : Oc.get ((x :: y :: l).take 2) true = 256 * x.toNat + y.toNat := by
  show Oc.val (Oc.turn true [x, y]) = _
  simp only [Oc.turn, if_true, List.reverse_cons, List.reverse_nil, List.nil_append, List.cons_append, Oc.val]
  omega
theorem asked_le (d : List UInt8) : asked d ≤ 65535 := by
  unfold asked
  repeat' split
  all_goals omega
def good (t : Int) (d : List UInt8) : Bool :=
  if t = 1 then decide (d.length = 2) else if t = 2 then decide (d.length = 4) else if t = 3 then decide (asked d ≠ 0) else if t = 4 then decide (2 ≤ d.length)
  else if t = 5 then decide (d.length = 4 ∧ Oc.get d true ≠ 0) else if t = 7 ∨ t = 8 then decide (d.length = 0) else false
theorem good_known {t : Int} {d : List UInt8} (h : good t d = true) : known t = true := by
  refine decide_eq_true ?_
  unfold good at h
  by_cases h1 : t = 1
  · exact .inl h1
  by_cases h2 : t = 2
  · exact .inr (.inl h2)
  by_cases h3 : t = 3
  · exact .inr (.inr (.inl h3))
  by_cases h4 : t = 4
  · exact .inr (.inr (.inr (.inl h4)))
  by_cases h5 : t = 5
  · exact .inr (.inr (.inr (.inr (.inl h5))))
  by_cases h7 : t = 7
  · exact .inr (.inr (.inr (.inr (.inr (.inl h7)))))
  by_cases h8 : t = 8
  · exact .inr (.inr (.inr (.inr (.inr (.inr h8)))))
  rw [if_neg h1, if_neg h2, if_neg h3, if_neg h4, if_neg h5, if_neg (by omega)] at h
  cases h
def right (x : O) : Bool := good x.ty x.data
theorem right_known {x : O} (h : right x = true) : known x.ty = true := good_known h
/-- What an option tells, put into the terms. -/
def put1 (s : T) (x : O) : T :=
  if x.ty = 1 then { s with hasMru := true, mru := (Oc.get x.data true : Nat) } else if x.ty = 2 then { s with hasAccm := true, accm := Oc.get x.data true }
  else if x.ty = 3 then { s with login := (asked x.data : Nat) } else if x.ty = 4 then { s with quality := true } else if x.ty = 5 then { s with hasMagic := true, magic := Oc.get x.data true }
  else if x.ty = 7 then { s with pfc := true } else if x.ty = 8 then { s with acfc := true } else s

/-! A list that is right, its terms. -/
def okl (l : List O) : Prop := (∀ x ∈ l, right x = true) ∧ (l.map O.ty).Nodup
/-- The same, as a Boolean. -/
def oklB (l : List O) : Bool := decide ((∀ x ∈ l, right x = true) ∧ (l.map O.ty).Nodup)
def told (l : List O) : T := l.foldl put1 z
def read (l : List O) : T × Bool := if (∀ x ∈ l, right x = true) ∧ (l.map O.ty).Nodup then (told l, true) else (z, false)
theorem read_yes {l : List O} (h : okl l) : read l = (told l, true) := if_pos h
theorem read_no {l : List O} (h : ¬ okl l) : read l = (z, false) := if_neg h
theorem told_nil : told [] = z := rfl
theorem okl_nil : okl [] := ⟨fun x h => by simp at h, by simp⟩
theorem told_step {l : List O} {k : Nat} (h : k < l.length) : told (l.take (k + 1)) = put1 (told (l.take k)) l[k] := by
  rw [told, told, List.take_succ_eq_append_getElem h, List.foldl_append]; rfl
theorem okl_step {l : List O} {k : Nat} (h : k < l.length) (hp : okl (l.take k)) (hr : right l[k] = true) (hf : ∀ x ∈ l.take k, x.ty ≠ l[k].ty) : okl (l.take (k + 1)) := by
  refine ⟨fun x hx => ?_, Ot.nodup_step h hp.2 hf⟩
  rw [List.take_succ_eq_append_getElem h] at hx
  simp only [List.mem_append, List.mem_singleton] at hx
  rcases hx with hx | rfl
  · exact hp.1 x hx
  · exact hr
theorem okl_wrong {l : List O} {k : Nat} (h : k < l.length) (hr : right l[k] = false) : ¬ okl l := fun e => by
  rw [e.1 _ (List.getElem_mem h)] at hr; cases hr
theorem okl_again {l : List O} {k : Nat} (h : k < l.length) (hf : ∃ x ∈ l.take k, x.ty = l[k].ty) : ¬ okl l := fun e => by
  have := Ot.twice_yes h hf
  rw [Ot.twice_no l e.2] at this; cases this
/-- Data's numbers. -/
structure In (t : T) : Prop where
  accm : t.accm < 4294967296
  magic : t.magic < 4294967296

/-! What the first right option of Type 3 asks for. -/
def login : List O → Nat
  | [] => 0
  | x :: l => if x.ty = 3 ∧ asked x.data ≠ 0 then asked x.data else login l
theorem login_none (l : List O) (h : ∀ x ∈ l, ¬ (x.ty = 3 ∧ asked x.data ≠ 0)) : login l = 0 := by
  induction l with
  | nil => rfl
  | cons x l ih => rw [login, if_neg (h x (by simp))]; exact ih (fun y hy => h y (by simp [hy]))
theorem login_at : ∀ (l : List O) (k : Nat) (h : k < l.length), (∀ x ∈ l.take k, ¬ (x.ty = 3 ∧ asked x.data ≠ 0)) → l[k].ty = 3 → asked l[k].data ≠ 0 → login l = asked l[k].data
  | x :: l, 0, _, _, h1, h2 => by rw [login]; exact if_pos ⟨h1, h2⟩
  | x :: l, k + 1, h, hp, h1, h2 => by
    rw [login, if_neg (hp x (by simp))]
    exact login_at l k (by simpa using h) (fun y hy => hp y (by simp [hy])) h1 h2
theorem notyet {l : List O} {k : Nat} (h : k < l.length) (hp : ∀ x ∈ l.take k, ¬ (x.ty = 3 ∧ asked x.data ≠ 0)) (hk : ¬ (l[k].ty = 3 ∧ asked l[k].data ≠ 0)) : ∀ x ∈ l.take (k + 1), ¬ (x.ty = 3 ∧ asked x.data ≠ 0) := by
  intro x hx
  rw [List.take_succ_eq_append_getElem h] at hx
  simp only [List.mem_append, List.mem_singleton] at hx
  rcases hx with hx | rfl
  · exact hp x hx
  · exact hk
theorem login_le (l : List O) : login l ≤ 65535 := by
  induction l with
  | nil => simp [login]
  | cons x l ih => rw [login]; split; exact asked_le _; exact ih

/-! What is to be rejected, what is to be changed, what is left. -/
def first (l : List O) (i : Nat) : Bool := match l[i]? with | some x => (l.take i).all (fun y => decide (y.ty ≠ x.ty)) | none => false
theorem first_iff {l : List O} {k : Nat} (h : k < l.length) : first l k = true ↔ ∀ x ∈ l.take k, x.ty ≠ l[k].ty := by
  simp [first, List.getElem?_eq_getElem h]
theorem first_not {l : List O} {k : Nat} (h : k < l.length) (hk : ∃ x ∈ l.take k, x.ty = l[k].ty) : first l k = false := by
  cases e : first l k with
  | false => rfl
  | true =>
    obtain ⟨x, hx, he⟩ := hk
    exact absurd he ((first_iff h).1 e x hx)
def pa (l : List O) (i : Nat) : Bool := match l[i]? with | some x => !(known x.ty && first l i) | none => false
def pc (l : List O) (i : Nat) : Bool := match l[i]? with | some x => known x.ty && first l i && !right x | none => false
def pm (l : List O) (i : Nat) : Bool := match l[i]? with | some x => right x && first l i | none => false
theorem pa_at {l : List O} {k : Nat} (h : k < l.length) : pa l k = !(known l[k].ty && first l k) := by simp [pa, List.getElem?_eq_getElem h]
theorem pc_at {l : List O} {k : Nat} (h : k < l.length) : pc l k = (known l[k].ty && first l k && !right l[k]) := by simp [pc, List.getElem?_eq_getElem h]
theorem pm_at {l : List O} {k : Nat} (h : k < l.length) : pm l k = (right l[k] && first l k) := by simp [pm, List.getElem?_eq_getElem h]
def usualD (t : Int) : List UInt8 := if t = 1 then [5, 220] else if t = 2 then [0, 0, 0, 0] else if t = 3 then [192, 35] else if t = 4 then [192, 37] else if t = 5 then [0, 0, 0, 1] else []
def usual (x : O) : O := ⟨x.ty, usualD x.ty⟩
def awayTo (l : List O) (k : Nat) : List O := Ot.left (pa l) 0 (l.take k)
def changedTo (l : List O) (k : Nat) : List O := (Ot.left (pc l) 0 (l.take k)).map usual
def mendedTo (l : List O) (k : Nat) : List O := Ot.left (pm l) 0 (l.take k)
def away (l : List O) : List O := Ot.left (pa l) 0 l
def changed (l : List O) : List O := (Ot.left (pc l) 0 l).map usual
def mended (l : List O) : List O := Ot.left (pm l) 0 l
theorem away_all {l : List O} {k : Nat} (h : l.length ≤ k) : awayTo l k = away l := by rw [awayTo, List.take_of_length_le h]; rfl
theorem changed_all {l : List O} {k : Nat} (h : l.length ≤ k) : changedTo l k = changed l := by rw [changedTo, List.take_of_length_le h]; rfl
theorem mended_all {l : List O} {k : Nat} (h : l.length ≤ k) : mendedTo l k = mended l := by rw [mendedTo, List.take_of_length_le h]; rfl
theorem away_nil (l : List O) : awayTo l 0 = [] := by simp [awayTo, Ot.left]
theorem changed_nil (l : List O) : changedTo l 0 = [] := by simp [changedTo, Ot.left]
theorem mended_nil (l : List O) : mendedTo l 0 = [] := by simp [mendedTo, Ot.left]
theorem away_step {l : List O} {k : Nat} (h : k < l.length) : awayTo l (k + 1) = awayTo l k ++ (if pa l k then [l[k]] else []) := Ot.left_step _ _ _ h
theorem changed_step {l : List O} {k : Nat} (h : k < l.length) : changedTo l (k + 1) = changedTo l k ++ (if pc l k then [usual l[k]] else []) := by
  rw [changedTo, Ot.left_step _ _ _ h, List.map_append, changedTo]
  split <;> simp
theorem mended_step {l : List O} {k : Nat} (h : k < l.length) : mendedTo l (k + 1) = mendedTo l k ++ (if pm l k then [l[k]] else []) := Ot.left_step _ _ _ h
/-! The three arms of a round. -/
theorem arm_away {l : List O} {k : Nat} (h : k < l.length) (hk : known l[k].ty = false ∨ first l k = false) : awayTo l (k + 1) = awayTo l k ++ [l[k]] ∧ changedTo l (k + 1) = changedTo l k := by
  have e1 : pa l k = true := by rw [pa_at h]; rcases hk with e | e <;> rw [e] <;> simp
  have e2 : pc l k = false := by rw [pc_at h]; rcases hk with e | e <;> rw [e] <;> simp
  rw [away_step h, changed_step h, e1, e2]; simp
theorem arm_stay {l : List O} {k : Nat} (h : k < l.length) (h1 : known l[k].ty = true) (h2 : first l k = true) (h3 : right l[k] = true) : awayTo l (k + 1) = awayTo l k ∧ changedTo l (k + 1) = changedTo l k := by
  have e1 : pa l k = false := by rw [pa_at h, h1, h2]; rfl
  have e2 : pc l k = false := by rw [pc_at h, h3]; simp
  rw [away_step h, changed_step h, e1, e2]; simp
theorem arm_change {l : List O} {k : Nat} (h : k < l.length) (h1 : known l[k].ty = true) (h2 : first l k = true) (h3 : right l[k] = false) : awayTo l (k + 1) = awayTo l k ∧ changedTo l (k + 1) = changedTo l k ++ [usual l[k]] := by
  have e1 : pa l k = false := by rw [pa_at h, h1, h2]; rfl
  have e2 : pc l k = true := by rw [pc_at h, h1, h2, h3]; rfl
  rw [away_step h, changed_step h, e1, e2]; simp
theorem arm_mend {l : List O} {k : Nat} (h : k < l.length) (h1 : right l[k] = true) (h2 : first l k = true) : mendedTo l (k + 1) = mendedTo l k ++ [l[k]] := by
  rw [mended_step h, pm_at h, h1, h2]; rfl
theorem arm_leave {l : List O} {k : Nat} (h : k < l.length) (hk : right l[k] = false ∨ first l k = false) : mendedTo l (k + 1) = mendedTo l k := by
  have e : pm l k = false := by rw [pm_at h]; rcases hk with e | e <;> rw [e] <;> simp
  rw [mended_step h, e]; simp
theorem left_le (p : Nat → Bool) (l : List O) (k : Nat) : (Ot.left p 0 (l.take k)).length ≤ k := by
  have := (Ot.left_sub p (l.take k) 0).length_le
  rw [List.length_take] at this
  omega
theorem away_le (l : List O) (k : Nat) : (awayTo l k).length ≤ k := left_le _ l k
theorem changed_le (l : List O) (k : Nat) : (changedTo l k).length ≤ k := by rw [changedTo, List.length_map]; exact left_le _ l k
theorem mended_le (l : List O) (k : Nat) : (mendedTo l k).length ≤ k := left_le _ l k
theorem usualD_le (t : Int) : (usualD t).length ≤ 4 := by
  unfold usualD
  repeat' split
  all_goals simp

/-! What follows. -/
theorem left_nil (p : Nat → Bool) : ∀ (l : List O) (k : Nat), Ot.left p k l = [] ↔ ∀ i, i < l.length → p (k + i) = false
  | [], k => by simp [Ot.left]
  | x :: l, k => by
    rw [Ot.left]
    by_cases hp : p k = true
    · rw [if_pos hp]
      refine ⟨fun h => absurd h (by simp), fun h => ?_⟩
      have := h 0 (by simp)
      rw [Nat.add_zero, hp] at this; cases this
    · rw [if_neg hp, left_nil p l (k + 1)]
      refine ⟨fun h i hi => ?_, fun h i hi => ?_⟩
      · cases i with
        | zero => simpa using hp
        | succ i => rw [show k + (i + 1) = k + 1 + i by omega]; exact h i (by simpa using hi)
      · rw [show k + 1 + i = k + (i + 1) by omega]; exact h (i + 1) (by simpa using hi)
theorem left_mem (p : Nat → Bool) : ∀ (l : List O) (k : Nat) (x : O), x ∈ Ot.left p k l → ∃ i, ∃ h : i < l.length, p (k + i) = true ∧ l[i] = x
  | [], k, x, h => by simp [Ot.left] at h
  | y :: l, k, x, h => by
    rw [Ot.left] at h
    by_cases hp : p k = true
    · rw [if_pos hp] at h
      simp only [List.mem_cons] at h
      rcases h with rfl | h
      · exact ⟨0, by simp, by simpa using hp, rfl⟩
      · obtain ⟨i, hi, h1, h2⟩ := left_mem p l (k + 1) x h
        exact ⟨i + 1, by simpa using hi, by rw [show k + (i + 1) = k + 1 + i by omega]; exact h1, by simpa using h2⟩
    · rw [if_neg hp] at h
      obtain ⟨i, hi, h1, h2⟩ := left_mem p l (k + 1) x h
      exact ⟨i + 1, by simpa using hi, by rw [show k + (i + 1) = k + 1 + i by omega]; exact h1, by simpa using h2⟩
theorem left_three (p q r : Nat → Bool) : ∀ (l : List O) (k : Nat), (∀ i, i < l.length → (p (k + i)).toNat + (q (k + i)).toNat + (r (k + i)).toNat = 1) → (Ot.left p k l).length + (Ot.left q k l).length + (Ot.left r k l).length = l.length
  | [], k, _ => by simp [Ot.left]
  | x :: l, k, h => by
    have h0 := h 0 (by simp)
    have ih := left_three p q r l (k + 1) (fun i hi => by rw [show k + 1 + i = k + (i + 1) by omega]; exact h (i + 1) (by simpa using hi))
    rw [Nat.add_zero] at h0
    rw [Ot.left, Ot.left, Ot.left, List.length_cons]
    cases hp : p k <;> cases hq : q k <;> cases hr : r k <;> rw [hp, hq, hr] at h0 <;> simp at h0 ⊢ <;> omega
theorem known_of_right (x : O) (h : known x.ty = false) : right x = false := by
  cases e : right x with
  | false => rfl
  | true => rw [right_known e] at h; cases h
theorem counted (l : List O) : (mended l).length + (away l).length + (changed l).length = l.length := by
  rw [changed, List.length_map]
  refine left_three _ _ _ l 0 fun i hi => ?_
  rw [Nat.zero_add, pa_at hi, pc_at hi, pm_at hi]
  have h1 := known_of_right l[i]
  cases e1 : known l[i].ty <;> cases e2 : first l i <;> cases e3 : right l[i] <;> simp
  all_goals rw [h1 e1] at e3; cases e3
theorem okl_iff (l : List O) : okl l ↔ ∀ i, i < l.length → pm l i = true := by
  constructor
  · intro h i hi
    rw [pm_at hi, h.1 _ (List.getElem_mem hi), Bool.true_and]
    cases e : first l i with
    | true => rfl
    | false =>
      refine absurd h (okl_again hi ?_)
      by_cases hx : ∃ x ∈ l.take i, x.ty = l[i].ty
      · exact hx
      · rw [(first_iff hi).2 (fun x hm e' => hx ⟨x, hm, e'⟩)] at e; cases e
  · intro h
    have key : ∀ k, k ≤ l.length → okl (l.take k) := by
      intro k
      induction k with
      | zero => intro _; simpa using okl_nil
      | succ k ih =>
        intro hk
        have hi : k < l.length := by omega
        have := h k hi
        rw [pm_at hi, Bool.and_eq_true] at this
        exact okl_step hi (ih (by omega)) this.1 ((first_iff hi).1 this.2)
    simpa using key l.length (Nat.le_refl _)
theorem okl_bad (l : List O) : okl l ↔ away l = [] ∧ changed l = [] := by
  rw [okl_iff, away, changed, List.map_eq_nil_iff, left_nil, left_nil]
  constructor
  · intro h
    refine ⟨fun i hi => ?_, fun i hi => ?_⟩
    · have := h i hi
      rw [pm_at hi, Bool.and_eq_true] at this
      rw [Nat.zero_add, pa_at hi, right_known this.1, this.2]; rfl
    · have := h i hi
      rw [pm_at hi, Bool.and_eq_true] at this
      rw [Nat.zero_add, pc_at hi, this.1]; simp
  · rintro ⟨h1, h2⟩ i hi
    have a := h1 i hi
    have b := h2 i hi
    rw [Nat.zero_add, pa_at hi] at a
    rw [Nat.zero_add, pc_at hi] at b
    rw [pm_at hi]
    cases e1 : known l[i].ty <;> cases e2 : first l i <;> cases e3 : right l[i] <;> simp [e1, e2, e3] at a b ⊢
theorem okl_count (l : List O) : oklB l = (decide ((away l).length = 0) && decide ((changed l).length = 0)) := by
  rw [← Bool.decide_and]
  refine decide_eq_decide.2 ?_
  show okl l ↔ _
  rw [okl_bad, List.length_eq_zero_iff, List.length_eq_zero_iff]
theorem usual_right {t : Int} (h : known t = true) : good t (usualD t) = true := by
  rcases known_cases h with rfl | rfl | rfl | rfl | rfl | rfl | rfl <;> decide
theorem left_nodup (p : Nat → Bool) (l : List O) (hp : ∀ i, i < l.length → p i = true → first l i = true) : ((Ot.left p 0 l).map O.ty).Nodup := by
  have key : ∀ k, k ≤ l.length → ((Ot.left p 0 (l.take k)).map O.ty).Nodup := by
    intro k
    induction k with
    | zero => intro _; simp [Ot.left]
    | succ k ih =>
      intro hk
      have hi : k < l.length := by omega
      rw [Ot.left_step _ _ _ hi]
      by_cases e : p k = true
      · rw [if_pos e, List.map_append]
        refine List.nodup_append.2 ⟨ih (by omega), by simp, ?_⟩
        intro a ha b hb
        simp only [List.map_cons, List.map_nil, List.mem_singleton] at hb
        simp only [List.mem_map] at ha
        obtain ⟨x, hx, rfl⟩ := ha
        rw [hb]
        exact (first_iff hi).1 (hp k hi e) x ((Ot.left_sub p _ 0).subset hx)
      · rw [if_neg e, List.append_nil]; exact ih (by omega)
  simpa using key l.length (Nat.le_refl _)
theorem mem_take {l : List O} {i j : Nat} (h : i < j) (hj : j < l.length) : l[i] ∈ l.take j := by
  have hi : i < (l.take j).length := by rw [List.length_take]; omega
  have := List.getElem_mem hi
  rwa [List.getElem_take] at this
theorem mended_right (l : List O) : okl (mended l ++ changed l) := by
  constructor
  · intro x hx
    simp only [List.mem_append] at hx
    rcases hx with hx | hx
    · obtain ⟨i, hi, h1, rfl⟩ := left_mem _ l 0 x hx
      rw [Nat.zero_add, pm_at hi, Bool.and_eq_true] at h1
      exact h1.1
    · obtain ⟨y, hy, rfl⟩ := List.mem_map.1 hx
      obtain ⟨i, hi, h1, rfl⟩ := left_mem _ l 0 y hy
      rw [Nat.zero_add, pc_at hi, Bool.and_eq_true, Bool.and_eq_true] at h1
      exact usual_right h1.1.1
  · rw [List.map_append, changed, List.map_map]
    have e : (O.ty ∘ usual) = O.ty := rfl
    rw [e]
    refine List.nodup_append.2 ⟨left_nodup _ l fun i hi h => ?_, left_nodup _ l fun i hi h => ?_, ?_⟩
    · rw [pm_at hi, Bool.and_eq_true] at h; exact h.2
    · rw [pc_at hi, Bool.and_eq_true, Bool.and_eq_true] at h; exact h.1.2
    · intro a ha b hb
      obtain ⟨x, hx, rfl⟩ := List.mem_map.1 ha
      obtain ⟨y, hy, rfl⟩ := List.mem_map.1 hb
      obtain ⟨i, hi, h1, rfl⟩ := left_mem _ l 0 x hx
      obtain ⟨j, hj, h2, rfl⟩ := left_mem _ l 0 y hy
      rw [Nat.zero_add, pm_at hi, Bool.and_eq_true] at h1
      rw [Nat.zero_add, pc_at hj, Bool.and_eq_true, Bool.and_eq_true] at h2
      rcases Nat.lt_trichotomy i j with h | rfl | h
      · exact (first_iff hj).1 h2.1.2 _ (mem_take h hj)
      · rw [h1.1] at h2; simp at h2
      · exact fun e => (first_iff hi).1 h1.2 _ (mem_take h hi) e.symm
theorem away_within (l : List O) : Ot.within (away l) l = true := Ot.within_left _ _

/-! What is put. -/
def mruD (m : Int) : List UInt8 := if 0 ≤ m ∧ m ≤ 65535 then Oc.put m.toNat 2 true else []
def loginD (g : Int) : List UInt8 := if g = 49187 then [192, 35] else if g = 49699 then [194, 35, 5] else []
def pick (b : Bool) (x : O) : List O := if b then [x] else []
def opts (t : T) : List O :=
  pick t.hasMru ⟨1, mruD t.mru⟩ ++ pick t.hasAccm ⟨2, Oc.put t.accm 4 true⟩ ++ pick (decide (0 < (loginD t.login).length)) ⟨3, loginD t.login⟩ ++ pick t.quality ⟨4, [192, 37]⟩
    ++ pick t.hasMagic ⟨5, Oc.put t.magic 4 true⟩ ++ pick t.pfc ⟨7, []⟩ ++ pick t.acfc ⟨8, []⟩
def may (t : T) : Bool :=
  if t.mru < 0 ∨ 65535 < t.mru ∨ t.login ≠ 0 ∧ t.login ≠ 49187 ∧ t.login ≠ 49699 then false else if t.hasMagic = true ∧ t.magic = 0 ∨ t.hasMagic = false ∧ t.magic ≠ 0 then false
  else !(decide (t.hasMru = false ∧ t.mru ≠ 0 ∨ t.hasAccm = false ∧ t.accm ≠ 0))
def put (t : T) : List O × Bool := if ((∀ x ∈ opts t, right x = true) ∧ ((opts t).map O.ty).Nodup) ∧ told (opts t) = t then (opts t, true) else ([], false)
theorem pick_le (b : Bool) (x : O) : (pick b x).length ≤ 1 := by cases b <;> simp [pick]
theorem opts_le (t : T) : (opts t).length ≤ 7 := by
  simp only [opts, List.length_append]
  have := pick_le t.hasMru ⟨1, mruD t.mru⟩
  have := pick_le t.hasAccm ⟨2, Oc.put t.accm 4 true⟩
  have := pick_le (decide (0 < (loginD t.login).length)) ⟨3, loginD t.login⟩
  have := pick_le t.quality ⟨4, [192, 37]⟩
  have := pick_le t.hasMagic ⟨5, Oc.put t.magic 4 true⟩
  have := pick_le t.pfc ⟨7, []⟩
  have := pick_le t.acfc ⟨8, []⟩
  omega
theorem mem_pick {b : Bool} {x y : O} : y ∈ pick b x ↔ b = true ∧ y = x := by cases b <;> simp [pick]
theorem fold_pick (s : T) (b : Bool) (x : O) : (pick b x).foldl put1 s = if b then put1 s x else s := by cases b <;> rfl
theorem told_opts (t : T) : told (opts t) = ⟨t.hasMru, if t.hasMru then (Oc.get (mruD t.mru) true : Nat) else 0, t.hasAccm, if t.hasAccm then Oc.get (Oc.put t.accm 4 true) true else 0,
    if 0 < (loginD t.login).length then (asked (loginD t.login) : Nat) else 0, t.quality, t.hasMagic, if t.hasMagic then Oc.get (Oc.put t.magic 4 true) true else 0, t.pfc, t.acfc⟩ := by
  simp only [told, opts, List.foldl_append, fold_pick, z]
  generalize mruD t.mru = d1
  generalize Oc.put t.accm 4 true = d2
  generalize loginD t.login = d3
  generalize Oc.put t.magic 4 true = d5
  have e1 : (if t.hasMru = true then put1 ⟨false, 0, false, 0, 0, false, false, 0, false, false⟩ ⟨1, d1⟩ else ⟨false, 0, false, 0, 0, false, false, 0, false, false⟩) = ⟨t.hasMru, if t.hasMru then (Oc.get d1 true : Nat) else 0, false, 0, 0, false, false, 0, false, false⟩ := by
    cases t.hasMru <;> rfl
  rw [e1]
  generalize (if t.hasMru = true then ((Oc.get d1 true : Nat) : Int) else 0) = m1
  have e2 : (if t.hasAccm = true then put1 ⟨t.hasMru, m1, false, 0, 0, false, false, 0, false, false⟩ ⟨2, d2⟩ else ⟨t.hasMru, m1, false, 0, 0, false, false, 0, false, false⟩) = ⟨t.hasMru, m1, t.hasAccm, if t.hasAccm then Oc.get d2 true else 0, 0, false, false, 0, false, false⟩ := by
    cases t.hasAccm <;> rfl
  rw [e2]
  generalize (if t.hasAccm = true then Oc.get d2 true else 0) = m2
  have e3 : (if decide (0 < d3.length) = true then put1 ⟨t.hasMru, m1, t.hasAccm, m2, 0, false, false, 0, false, false⟩ ⟨3, d3⟩ else ⟨t.hasMru, m1, t.hasAccm, m2, 0, false, false, 0, false, false⟩) = ⟨t.hasMru, m1, t.hasAccm, m2, if 0 < d3.length then (asked d3 : Nat) else 0, false, false, 0, false, false⟩ := by
    by_cases h : 0 < d3.length
    · rw [decide_eq_true h, if_pos rfl, if_pos h]; rfl
    · rw [decide_eq_false h, if_neg (by simp), if_neg h]
  rw [e3]
  generalize (if 0 < d3.length then ((asked d3 : Nat) : Int) else 0) = m3
  have e4 : (if t.quality = true then put1 ⟨t.hasMru, m1, t.hasAccm, m2, m3, false, false, 0, false, false⟩ ⟨4, [192, 37]⟩ else ⟨t.hasMru, m1, t.hasAccm, m2, m3, false, false, 0, false, false⟩) = ⟨t.hasMru, m1, t.hasAccm, m2, m3, t.quality, false, 0, false, false⟩ := by
    cases t.quality <;> rfl
  rw [e4]
  have e5 : (if t.hasMagic = true then put1 ⟨t.hasMru, m1, t.hasAccm, m2, m3, t.quality, false, 0, false, false⟩ ⟨5, d5⟩ else ⟨t.hasMru, m1, t.hasAccm, m2, m3, t.quality, false, 0, false, false⟩) = ⟨t.hasMru, m1, t.hasAccm, m2, m3, t.quality, t.hasMagic, if t.hasMagic then Oc.get d5 true else 0, false, false⟩ := by
    cases t.hasMagic <;> rfl
  rw [e5]
  generalize (if t.hasMagic = true then Oc.get d5 true else 0) = m5
  have e7 : (if t.pfc = true then put1 ⟨t.hasMru, m1, t.hasAccm, m2, m3, t.quality, t.hasMagic, m5, false, false⟩ ⟨7, []⟩ else ⟨t.hasMru, m1, t.hasAccm, m2, m3, t.quality, t.hasMagic, m5, false, false⟩) = ⟨t.hasMru, m1, t.hasAccm, m2, m3, t.quality, t.hasMagic, m5, t.pfc, false⟩ := by
    cases t.pfc <;> rfl
  rw [e7]
  cases t.acfc <;> rfl
theorem ty_pick (b : Bool) (x : O) : List.Sublist ((pick b x).map O.ty) [x.ty] := by cases b <;> simp [pick]
theorem opts_nodup (t : T) : ((opts t).map O.ty).Nodup := by
  have h : List.Sublist ((opts t).map O.ty) ([1] ++ [2] ++ [3] ++ [4] ++ [5] ++ [7] ++ [8] : List Int) := by
    simp only [opts, List.map_append]
    exact ((((((ty_pick _ _).append (ty_pick _ _)).append (ty_pick _ _)).append (ty_pick _ _)).append (ty_pick _ _)).append (ty_pick _ _)).append (ty_pick _ _)
  exact h.nodup (by decide)
theorem login_known {g : Int} (h : 0 < (loginD g).length) : (asked (loginD g) : Int) = g ∧ asked (loginD g) ≠ 0 ∧ (g = 49187 ∨ g = 49699) := by
  unfold loginD at h ⊢
  by_cases h1 : g = 49187
  · subst h1; exact ⟨by decide, by decide, .inl rfl⟩
  · rw [if_neg h1] at h ⊢
    by_cases h2 : g = 49699
    · subst h2; exact ⟨by decide, by decide, .inr rfl⟩
    · rw [if_neg h2] at h; simp at h
theorem login_else {g : Int} (h : ¬ 0 < (loginD g).length) : g ≠ 49187 ∧ g ≠ 49699 := by
  refine ⟨fun e => ?_, fun e => ?_⟩ <;> subst e <;> exact h (by decide)
theorem okl_opts (t : T) (hi : In t) : okl (opts t) ↔ (t.hasMru = true → 0 ≤ t.mru ∧ t.mru ≤ 65535) ∧ (t.hasMagic = true → t.magic ≠ 0) := by
  have hm : t.magic < 256 ^ 4 := hi.magic
  constructor
  · intro h
    refine ⟨fun e => ?_, fun e => ?_⟩
    · have := h.1 ⟨1, mruD t.mru⟩ (by simp [opts, mem_pick, e])
      by_cases hr : 0 ≤ t.mru ∧ t.mru ≤ 65535
      · exact hr
      · rw [mruD, if_neg hr] at this; cases this
    · have := h.1 ⟨5, Oc.put t.magic 4 true⟩ (by simp [opts, mem_pick, e])
      have h2 := of_decide_eq_true (show decide ((Oc.put t.magic 4 true).length = 4 ∧ Oc.get (Oc.put t.magic 4 true) true ≠ 0) = true from this)
      rw [Oc.get_put _ _ _ hm] at h2
      exact h2.2
  · rintro ⟨h1, h2⟩
    refine ⟨fun x hx => ?_, opts_nodup t⟩
    simp only [opts, List.mem_append, mem_pick] at hx
    rcases hx with (((((⟨e, rfl⟩ | ⟨e, rfl⟩) | ⟨e, rfl⟩) | ⟨e, rfl⟩) | ⟨e, rfl⟩) | ⟨e, rfl⟩) | ⟨e, rfl⟩
    · show decide ((mruD t.mru).length = 2) = true
      rw [mruD, if_pos (h1 e), Oc.put_length]; rfl
    · show decide ((Oc.put t.accm 4 true).length = 4) = true
      rw [Oc.put_length]; rfl
    · exact decide_eq_true (login_known (of_decide_eq_true e)).2.1
    · rfl
    · show decide ((Oc.put t.magic 4 true).length = 4 ∧ Oc.get (Oc.put t.magic 4 true) true ≠ 0) = true
      rw [Oc.get_put _ _ _ hm]
      exact decide_eq_true ⟨Oc.put_length _ _ _, h2 e⟩
    · rfl
    · rfl
theorem T.ext' {a b : T} (h1 : a.hasMru = b.hasMru) (h2 : a.mru = b.mru) (h3 : a.hasAccm = b.hasAccm) (h4 : a.accm = b.accm) (h5 : a.login = b.login) (h6 : a.quality = b.quality) (h7 : a.hasMagic = b.hasMagic) (h8 : a.magic = b.magic) (h9 : a.pfc = b.pfc) (h10 : a.acfc = b.acfc) : a = b := by
  cases a; cases b; simp_all
/-- Terms that are put are just those that may be. -/
theorem put_may (t : T) (hi : In t) : (okl (opts t) ∧ told (opts t) = t) ↔ may t = true := by
  have ha : t.accm < 256 ^ 4 := hi.accm
  have hm : t.magic < 256 ^ 4 := hi.magic
  rw [okl_opts t hi, told_opts, Oc.get_put _ _ _ ha, Oc.get_put _ _ _ hm]
  constructor
  · rintro ⟨⟨h1, h2⟩, h3⟩
    have m1 := congrArg T.mru h3
    have m2 := congrArg T.accm h3
    have m3 := congrArg T.login h3
    have m5 := congrArg T.magic h3
    simp only at m1 m2 m3 m5
    clear h3
    have r1 : 0 ≤ t.mru ∧ t.mru ≤ 65535 := by
      cases e : t.hasMru with
      | true => exact h1 e
      | false => rw [e] at m1; simp at m1; omega
    have r3 : t.login = 0 ∨ t.login = 49187 ∨ t.login = 49699 := by
      by_cases e : 0 < (loginD t.login).length
      · exact .inr (login_known e).2.2
      · rw [if_neg e] at m3; exact .inl m3.symm
    unfold may
    rw [if_neg (by omega), if_neg]
    · rw [Bool.not_eq_true', decide_eq_false_iff_not]
      rintro (⟨e, h⟩ | ⟨e, h⟩)
      · rw [e] at m1; simp at m1; omega
      · rw [e] at m2; simp at m2; omega
    · rintro (⟨e, h⟩ | ⟨e, h⟩)
      · exact h2 e h
      · rw [e] at m5; simp at m5; omega
  · intro h
    unfold may at h
    split at h
    · cases h
    rename_i g1
    split at h
    · cases h
    rename_i g2
    rw [Bool.not_eq_true', decide_eq_false_iff_not] at h
    have r1 : 0 ≤ t.mru ∧ t.mru ≤ 65535 := by omega
    refine ⟨⟨fun _ => r1, fun e h => g2 (.inl ⟨e, h⟩)⟩, T.ext' rfl ?_ rfl ?_ ?_ rfl rfl ?_ rfl rfl⟩
    · cases e : t.hasMru with
      | true =>
        simp only [if_true]
        rw [mruD, if_pos r1, Oc.get_put _ _ _ (by omega)]; omega
      | false =>
        simp only [Bool.false_eq_true, if_false]
        by_cases e0 : t.mru = 0
        · exact e0.symm
        · exact absurd (.inl ⟨e, e0⟩) h
    · cases e : t.hasAccm with
      | true => simp only [if_true]
      | false =>
        simp only [Bool.false_eq_true, if_false]
        by_cases e0 : t.accm = 0
        · exact e0.symm
        · exact absurd (.inr ⟨e, e0⟩) h
    · by_cases e : 0 < (loginD t.login).length
      · rw [if_pos e]; exact (login_known e).1
      · rw [if_neg e]
        have := login_else e
        simp only
        omega
    · cases e : t.hasMagic with
      | true => simp only [if_true]
      | false =>
        simp only [Bool.false_eq_true, if_false]
        by_cases e0 : t.magic = 0
        · exact e0.symm
        · exact absurd (.inr ⟨e, e0⟩) g2
theorem put_yes {t : T} (hi : In t) (h : may t = true) : put t = (opts t, true) := if_pos ((put_may t hi).2 h)
theorem put_no {t : T} (hi : In t) (h : may t = false) : put t = ([], false) := if_neg fun e => by rw [(put_may t hi).1 e] at h; cases h

/-- A right option of each Type. -/
def full : T := ⟨true, 1500, true, 0, 49187, true, true, 1, true, true⟩
theorem find_full {t : Int} (h : known t = true) : Ot.find (opts full) t = some (usualD t) := by
  rcases known_cases h with rfl | rfl | rfl | rfl | rfl | rfl | rfl <;> decide
end Tm
end Go.Proofs.Ytnhjpbhndckfgaa
