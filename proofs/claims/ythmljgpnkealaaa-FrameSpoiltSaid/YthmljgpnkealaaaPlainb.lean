/- Plain mathematics of layer 6 (stuff): bytes, stuffed and unstuffed by a map. No program stands in it. -/
import Derived.Test.YthmljgpnkealaaaPlaina
namespace Go.Proofs.Ythmljgpnkealaaa
namespace St

/-- A byte, turned by 20. -/
def tn (c : UInt8) : UInt8 := c ^^^ 32
theorem tn_int : ∀ c : UInt8, bits .xor .u8 (c.toNat : Int) 32 = ((tn c).toNat : Int) := by
  intro c
  have h : ∀ n : Fin 256, bits .xor .u8 ((n.val.toUInt8).toNat : Int) 32 = ((tn n.val.toUInt8).toNat : Int) := by decide +kernel
  have h1 := h ⟨c.toNat, c.toNat_lt⟩
  simpa using h1
theorem all256 {p : UInt8 → Prop} (h : ∀ n : Fin 256, p n.val.toUInt8) (c : UInt8) : p c := by
  have h1 := h ⟨c.toNat, c.toNat_lt⟩
  simpa using h1
theorem tn_tn (c : UInt8) : tn (tn c) = c := by unfold tn; rw [UInt8.xor_assoc, UInt8.xor_self, UInt8.xor_zero]

/-- A byte, stuffed. -/
def one (m : Nat) (c : UInt8) : List UInt8 := if Ac.apart m c.toNat then [125, tn c] else [c]
/-- Bytes, stuffed. -/
def stuff (m : Nat) (b : List UInt8) : List UInt8 := b.flatMap (one m)
theorem one_in (m : Nat) (c : UInt8) (h : Ac.apart m c.toNat = true) : one m c = [125, tn c] := if_pos h
theorem one_out (m : Nat) (c : UInt8) (h : Ac.apart m c.toNat = false) : one m c = [c] := by simp [one, h]
theorem stuff_nil (m : Nat) : stuff m [] = [] := rfl
theorem stuff_cons (m : Nat) (c : UInt8) (b : List UInt8) : stuff m (c :: b) = one m c ++ stuff m b := by simp [stuff]
theorem stuff_append (m : Nat) (a b : List UInt8) : stuff m (a ++ b) = stuff m a ++ stuff m b := by simp [stuff]
theorem stuff_take (m : Nat) (b : List UInt8) (k : Nat) (h : k < b.length) : stuff m (b.take (k + 1)) = stuff m (b.take k) ++ one m b[k] := by
  rw [List.take_add_one, List.getElem?_eq_getElem h, Option.toList_some, stuff_append]
  simp [stuff]
theorem stuff_le (m : Nat) (b : List UInt8) : b.length ≤ (stuff m b).length ∧ (stuff m b).length ≤ 2 * b.length := by
  induction b with
  | nil => simp [stuff]
  | cons c b ih =>
    rw [stuff_cons, List.length_append, List.length_cons]
    have : 1 ≤ (one m c).length ∧ (one m c).length ≤ 2 := by unfold one; split <;> simp
    omega

/-- One byte of what is unstuffed: what has come out so far, and whether a 7d stands ahead. -/
def step (m : Nat) (s : Option (List UInt8 × Bool)) (c : UInt8) : Option (List UInt8 × Bool) :=
  match s with
  | none => none
  | some (o, e) => if Ac.has m c.toNat then some (o, e) else if c.toNat = 126 then none else if e then some (o ++ [tn c], false) else if c.toNat = 125 then some (o, true) else some (o ++ [c], false)
def un (m : Nat) (b : List UInt8) : Option (List UInt8 × Bool) := b.foldl (step m) (some ([], false))
/-- What is answered. -/
def ans (m : Nat) (b : List UInt8) : List UInt8 × Bool := match un m b with
  | some (o, false) => (o, true)
  | _ => ([], false)
theorem ans_none (m : Nat) (b : List UInt8) (h : un m b = none) : ans m b = ([], false) := by simp [ans, h]
theorem ans_esc (m : Nat) (b o : List UInt8) (h : un m b = some (o, true)) : ans m b = ([], false) := by simp [ans, h]
theorem ans_ok (m : Nat) (b o : List UInt8) (h : un m b = some (o, false)) : ans m b = (o, true) := by simp [ans, h]
theorem un_take (m : Nat) (b : List UInt8) (k : Nat) (h : k < b.length) : un m (b.take (k + 1)) = step m (un m (b.take k)) b[k] := by
  unfold un
  rw [List.take_add_one, List.getElem?_eq_getElem h, Option.toList_some, List.foldl_append]
  rfl
theorem fold_none (m : Nat) (b : List UInt8) : b.foldl (step m) none = none := by
  induction b with
  | nil => rfl
  | cons c b ih => rw [List.foldl_cons]; exact ih
theorem un_none (m : Nat) (b : List UInt8) (k : Nat) (h : un m (b.take k) = none) : un m b = none := by
  unfold un at *
  rw [← List.take_append_drop k b, List.foldl_append, h, fold_none]
theorem step_has (m : Nat) (s : Option (List UInt8 × Bool)) (c : UInt8) (h : Ac.has m c.toNat = true) : step m s c = s := by
  unfold step
  split
  · rfl
  · rw [if_pos h]
theorem step_flag (m : Nat) (o : List UInt8) (e : Bool) (c : UInt8) (h : Ac.has m c.toNat = false) (hc : c.toNat = 126) : step m (some (o, e)) c = none := by simp only [step]; rw [if_neg (by rw [h]; decide), if_pos hc]
theorem step_esc (m : Nat) (o : List UInt8) (c : UInt8) (h : Ac.has m c.toNat = false) (hc : ¬ c.toNat = 126) : step m (some (o, true)) c = some (o ++ [tn c], false) := by simp [step, h, hc]
theorem step_7d (m : Nat) (o : List UInt8) (c : UInt8) (h : Ac.has m c.toNat = false) (hc : c.toNat = 125) : step m (some (o, false)) c = some (o, true) := by simp only [step]; rw [if_neg (by rw [h]; decide), if_neg (by omega), if_neg (by decide), if_pos hc]
theorem step_plain (m : Nat) (o : List UInt8) (c : UInt8) (h : Ac.has m c.toNat = false) (h6 : ¬ c.toNat = 126) (h5 : ¬ c.toNat = 125) : step m (some (o, false)) c = some (o ++ [c], false) := by simp [step, h, h6, h5]
theorem un_len (m : Nat) (b : List UInt8) : ∀ o e, un m b = some (o, e) → o.length ≤ b.length := by
  have key : ∀ (b o0 : List UInt8) (e0 : Bool) (o : List UInt8) (e : Bool), b.foldl (step m) (some (o0, e0)) = some (o, e) → o.length ≤ o0.length + b.length := by
    intro b
    induction b with
    | nil => intro o0 e0 o e h; simp only [List.foldl_nil, Option.some.injEq, Prod.mk.injEq] at h; simp [h.1]
    | cons c b ih =>
      intro o0 e0 o e h
      rw [List.foldl_cons] at h
      cases hs : step m (some (o0, e0)) c with
      | none => rw [hs, fold_none] at h; cases h
      | some p =>
        obtain ⟨o1, e1⟩ := p
        rw [hs] at h
        have h1 := ih o1 e1 o e h
        have h2 : o1.length ≤ o0.length + 1 := by
          unfold step at hs
          simp only at hs
          split at hs
          · simp only [Option.some.injEq, Prod.mk.injEq] at hs; rw [← hs.1]; omega
          · split at hs
            · cases hs
            · split at hs
              · simp only [Option.some.injEq, Prod.mk.injEq] at hs; rw [← hs.1]; simp
              · split at hs
                · simp only [Option.some.injEq, Prod.mk.injEq] at hs; rw [← hs.1]; omega
                · simp only [Option.some.injEq, Prod.mk.injEq] at hs; rw [← hs.1]; simp
        rw [List.length_cons]
        omega
  intro o e h
  simpa using key b [] false o e h
theorem ans_len (m : Nat) (b : List UInt8) : (ans m b).1.length ≤ b.length := by
  unfold ans
  split
  · exact un_len m b _ _ ‹_›
  · simp
/-- Without what is left out. -/
def left (m : Nat) (b : List UInt8) : List UInt8 := b.filter fun c => !Ac.has m c.toNat
theorem left_take (m : Nat) (b : List UInt8) (k : Nat) (h : k < b.length) : left m (b.take (k + 1)) = left m (b.take k) ++ (if Ac.has m b[k].toNat then [] else [b[k]]) := by
  rw [List.take_add_one, List.getElem?_eq_getElem h, Option.toList_some, left, List.filter_append, ← left]
  congr 1
  cases hh : Ac.has m b[k].toNat <;> simp [hh]
theorem left_len (m : Nat) (b : List UInt8) : (left m b).length ≤ b.length := List.length_filter_le ..
theorem left_not (m : Nat) (b : List UInt8) (c : UInt8) (h : c ∈ left m b) : Ac.has m c.toNat = false := by
  have := (List.mem_filter.1 h).2
  simpa using this
theorem fold_left (m : Nat) (b : List UInt8) : ∀ s, (left m b).foldl (step m) s = b.foldl (step m) s := by
  induction b with
  | nil => intro s; rfl
  | cons c b ih =>
    intro s
    rw [List.foldl_cons]
    cases hh : Ac.has m c.toNat with
    | true => rw [step_has m s c hh, ← ih s]; simp [left, hh]
    | false => rw [← ih (step m s c)]; simp [left, hh]
theorem un_left (m : Nat) (b : List UInt8) : un m (left m b) = un m b := fold_left m b _

/-- Unstuffed by n, what was stuffed by a map that has all its characters comes back. -/
theorem one_back (m n : Nat) (hn : ∀ c, Ac.has n c = true → Ac.has m c = true) (hm : m < 4294967296) (o : List UInt8) (c : UInt8) : (one m c).foldl (step n) (some (o, false)) = some (o ++ [c], false) := by
  cases ha : Ac.apart m c.toNat with
  | true =>
    rw [one_in m c ha]
    have h125 : Ac.has n (125 : UInt8).toNat = false := by
      cases h : Ac.has n (125 : UInt8).toNat with
      | false => rfl
      | true =>
        have h1 := hn _ h
        rw [Ac.has_high m _ hm (by decide)] at h1
        cases h1
    have ht : Ac.has m (tn c).toNat = false ∧ ¬ (tn c).toNat = 126 := by
      by_cases hc : c.toNat < 32
      · have hx : ∀ n : Fin 256, n.val.toUInt8.toNat < 32 → 32 ≤ (tn n.val.toUInt8).toNat ∧ ¬ (tn n.val.toUInt8).toNat = 126 := by decide +kernel
        have := all256 (p := fun c => c.toNat < 32 → 32 ≤ (tn c).toNat ∧ ¬ (tn c).toNat = 126) hx c hc
        exact ⟨Ac.has_high m _ hm this.1, this.2⟩
      · rw [Ac.apart, Ac.has_high m _ hm (by omega)] at ha
        have h56 : c.toNat = 125 ∨ c.toNat = 126 := by simpa using ha
        have hx : ∀ n : Fin 256, n.val.toUInt8.toNat = 125 ∨ n.val.toUInt8.toNat = 126 → 32 ≤ (tn n.val.toUInt8).toNat ∧ ¬ (tn n.val.toUInt8).toNat = 126 := by decide +kernel
        have := all256 (p := fun c => c.toNat = 125 ∨ c.toNat = 126 → 32 ≤ (tn c).toNat ∧ ¬ (tn c).toNat = 126) hx c h56
        exact ⟨Ac.has_high m _ hm this.1, this.2⟩
    have htn : Ac.has n (tn c).toNat = false := by
      cases h : Ac.has n (tn c).toNat with
      | false => rfl
      | true => rw [hn _ h] at ht; cases ht.1
    rw [List.foldl_cons, step_7d n o 125 h125 rfl, List.foldl_cons, step_esc n o (tn c) htn ht.2, tn_tn]
    rfl
  | false =>
    rw [one_out m c ha, List.foldl_cons]
    simp only [Ac.apart, Bool.or_eq_false_iff, decide_eq_false_iff_not] at ha
    have hcn : Ac.has n c.toNat = false := by
      cases h : Ac.has n c.toNat with
      | false => rfl
      | true => rw [hn _ h] at ha; cases ha.2
    rw [step_plain n o c hcn ha.1.2 ha.1.1]
    rfl
theorem stuff_back (m n : Nat) (hn : ∀ c, Ac.has n c = true → Ac.has m c = true) (hm : m < 4294967296) (b : List UInt8) : ∀ o, (stuff m b).foldl (step n) (some (o, false)) = some (o ++ b, false) := by
  induction b with
  | nil => intro o; simp [stuff]
  | cons c b ih =>
    intro o
    rw [stuff_cons, List.foldl_append, one_back m n hn hm, ih]
    simp
theorem un_back (m n : Nat) (hn : ∀ c, Ac.has n c = true → Ac.has m c = true) (hm : m < 4294967296) (b x : List UInt8) (hx : left n x = left n (stuff m b)) : ans n x = (b, true) := by
  have : un n x = some (b, false) := by
    rw [← un_left, hx, un_left]
    exact stuff_back m n hn hm b []
  simp [ans, this]
/-- A character of the map, put in anywhere, is left out. -/
theorem left_insert (n : Nat) (x : List UInt8) (k : Nat) (c : UInt8) (h : Ac.has n c.toNat = true) : left n (x.take k ++ [c] ++ x.drop k) = left n x := by
  rw [left, List.filter_append, List.filter_append]
  have : [c].filter (fun c => !Ac.has n c.toNat) = [] := by simp [h]
  rw [this, List.append_nil, ← List.filter_append, List.take_append_drop]
  rfl
/-- It has no flag, and no byte that is in the map. -/
theorem stuff_clean (m : Nat) (hm : m < 4294967296) (b : List UInt8) (c : UInt8) (h : c ∈ stuff m b) : ¬ c.toNat = 126 ∧ Ac.has m c.toNat = false := by
  simp only [stuff, List.mem_flatMap] at h
  obtain ⟨d, _, hd⟩ := h
  cases ha : Ac.apart m d.toNat with
  | true =>
    rw [one_in m d ha] at hd
    simp only [List.mem_cons, List.not_mem_nil, or_false] at hd
    rcases hd with rfl | rfl
    · exact ⟨by decide, Ac.has_high m _ hm (by decide)⟩
    · by_cases hc : d.toNat < 32
      · have hx : ∀ n : Fin 256, n.val.toUInt8.toNat < 32 → 32 ≤ (tn n.val.toUInt8).toNat ∧ ¬ (tn n.val.toUInt8).toNat = 126 := by decide +kernel
        have := all256 (p := fun c => c.toNat < 32 → 32 ≤ (tn c).toNat ∧ ¬ (tn c).toNat = 126) hx d hc
        exact ⟨this.2, Ac.has_high m _ hm this.1⟩
      · rw [Ac.apart, Ac.has_high m _ hm (by omega)] at ha
        have h56 : d.toNat = 125 ∨ d.toNat = 126 := by simpa using ha
        have hx : ∀ n : Fin 256, n.val.toUInt8.toNat = 125 ∨ n.val.toUInt8.toNat = 126 → 32 ≤ (tn n.val.toUInt8).toNat ∧ ¬ (tn n.val.toUInt8).toNat = 126 := by decide +kernel
        have := all256 (p := fun c => c.toNat = 125 ∨ c.toNat = 126 → 32 ≤ (tn c).toNat ∧ ¬ (tn c).toNat = 126) hx d h56
        exact ⟨this.2, Ac.has_high m _ hm this.1⟩
  | false =>
    rw [one_out m d ha] at hd
    simp only [List.mem_cons, List.not_mem_nil, or_false] at hd
    subst hd
    simp only [Ac.apart, Bool.or_eq_false_iff, decide_eq_false_iff_not] at ha
    exact ⟨ha.1.2, ha.2⟩
theorem has_and (m n c : Nat) : Ac.has (m &&& n) c = (Ac.has m c && Ac.has n c) := Nat.testBit_and ..
theorem list_has (m : Nat) (c : UInt8) (h : c ∈ Ac.list m 32) : Ac.has m c.toNat = true := by
  have h1 := Ac.list_any m 32 c.toNat (by omega)
  have h2 : ((Ac.list m 32).any fun d => decide (d.toNat = c.toNat)) = true := List.any_eq_true.2 ⟨c, h, by simp⟩
  rw [h2] at h1
  have := h1.symm
  simp only [Bool.and_eq_true] at this
  exact this.2

/-- Bytes, written one behind the other from a place on, as far as there is room. -/
def over (ys : List UInt8) (n : Nat) : List UInt8 → List UInt8
  | [] => ys
  | z :: zs => over (ys.set n z) (n + 1) zs
theorem over_append (zs vs : List UInt8) : ∀ (ys : List UInt8) (n : Nat), over ys n (zs ++ vs) = over (over ys n zs) (n + zs.length) vs := by
  induction zs with
  | nil => intro ys n; rfl
  | cons z zs ih =>
    intro ys n
    show over (ys.set n z) (n + 1) (zs ++ vs) = over (over (ys.set n z) (n + 1) zs) (n + (zs.length + 1)) vs
    rw [ih, Nat.add_assoc n 1, Nat.add_comm 1]
theorem over_len (zs : List UInt8) : ∀ (ys : List UInt8) (n : Nat), (over ys n zs).length = ys.length := by
  induction zs with
  | nil => intro ys n; rfl
  | cons z zs ih => intro ys n; show (over (ys.set n z) (n + 1) zs).length = _; rw [ih]; simp
theorem over_take (zs : List UInt8) : ∀ (ys : List UInt8) (n : Nat), n + zs.length ≤ ys.length → (over ys n zs).take (n + zs.length) = ys.take n ++ zs := by
  induction zs with
  | nil => intro ys n _; simp [over]
  | cons z zs ih =>
    intro ys n h
    rw [List.length_cons] at h ⊢
    show (over (ys.set n z) (n + 1) zs).take (n + (zs.length + 1)) = _
    rw [Nat.add_comm zs.length 1, ← Nat.add_assoc, ih (ys.set n z) (n + 1) (by simp; omega), List.take_add_one]
    simp [List.getElem?_set, List.take_set]
    have : ys.take n = (ys.take n).set n z := by rw [List.set_eq_of_length_le (by simp; omega)]
    rw [show n < ys.length by omega |> fun h => (if_pos h : (if n < ys.length then some z else none) = some z)]
    simp
    exact this.symm
theorem over_one (ys S : List UInt8) (z : UInt8) : over ys 0 (S ++ [z]) = (over ys 0 S).set S.length z := by rw [over_append, Nat.zero_add]; rfl
theorem over_two (ys S : List UInt8) (y z : UInt8) : over ys 0 (S ++ [y, z]) = ((over ys 0 S).set S.length y).set (S.length + 1) z := by rw [over_append, Nat.zero_add]; rfl
theorem over_all (zs ys : List UInt8) (h : zs.length = ys.length) : over ys 0 zs = zs := by
  have h1 := over_take zs ys 0 (by omega)
  rw [Nat.zero_add, List.take_zero, List.nil_append, h, ← over_len zs ys 0, List.take_length] at h1
  exact h1
end St
end Go.Proofs.Ythmljgpnkealaaa
