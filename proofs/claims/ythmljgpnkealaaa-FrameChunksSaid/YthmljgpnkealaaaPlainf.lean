/- Plain mathematics of layer 7 (frame): what a stream's bytes make of a deframer, one by one; frames that are put come back. No program stands in it. -/
import Derived.Test.YthmljgpnkealaaaPlainb
import Derived.Test.YthmljgpnkealaaaPlain
namespace Go.Proofs.Ythmljgpnkealaaa
namespace Fr

/-- How many frames are of each kind. -/
structure Tal where
  good : Nat
  aborted : Nat
  short : Nat
  long : Nat
  wrong : Nat
/-- A deframer: whether there was a flag; the frame so far, what is left out aside; the tally. -/
structure DS where
  ins : Bool
  held : List UInt8
  tal : Tal
def zero : Tal := ⟨0, 0, 0, 0, 0⟩
def init : DS := ⟨false, [], zero⟩
/-- How many bytes a good frame has at most. -/
def most (wide : Bool) : Nat := Fc.size wide + 65535
/-- A frame's kind, of what it is unstuffed: 0 nothing, 1 good, 2 aborted, 3 short, 4 long, 5 wrong. -/
def judge (wide : Bool) (A : List UInt8 × Bool) : Nat :=
  if A.2 = false then 2 else if A.1.length = 0 then 0 else if A.1.length < Fc.size wide + 2 then 3 else if most wide < A.1.length then 4 else if Fc.good A.1 wide = true then 1 else 5
def count (t : Tal) (k : Nat) : Tal :=
  if k = 1 then ⟨t.good + 1, t.aborted, t.short, t.long, t.wrong⟩
  else if k = 2 then ⟨t.good, t.aborted + 1, t.short, t.long, t.wrong⟩
  else if k = 3 then ⟨t.good, t.aborted, t.short + 1, t.long, t.wrong⟩
  else if k = 4 then ⟨t.good, t.aborted, t.short, t.long + 1, t.wrong⟩
  else if k = 5 then ⟨t.good, t.aborted, t.short, t.long, t.wrong + 1⟩ else t
/-- The body, of one that is good. -/
def bodyOf (wide : Bool) (A : List UInt8 × Bool) : List UInt8 := if judge wide A = 1 then A.1.take (A.1.length - Fc.size wide) else []
/-- What is answered: a body, if there is one. -/
def outs (b : List UInt8) : List (List UInt8) := if b = [] then [] else [b]
theorem outs_nil : outs [] = [] := rfl
theorem outs_some (b : List UInt8) (h : b ≠ []) : outs b = [b] := if_neg h

/-- One byte more. -/
def next (m : Nat) (wide : Bool) (s : DS) (c : UInt8) : DS :=
  if s.ins = false then (if c.toNat = 126 then ⟨true, s.held, s.tal⟩ else s)
  else if c.toNat = 126 then ⟨true, [], count s.tal (judge wide (St.ans m s.held))⟩
  else if Ac.has m c.toNat = true then s else ⟨true, s.held ++ [c], s.tal⟩
def out (m : Nat) (wide : Bool) (s : DS) (c : UInt8) : List UInt8 :=
  if s.ins = true ∧ c.toNat = 126 then bodyOf wide (St.ans m s.held) else []
def run (m : Nat) (wide : Bool) : DS → List UInt8 → DS
  | s, [] => s
  | s, c :: l => run m wide (next m wide s c) l
def all (m : Nat) (wide : Bool) : DS → List UInt8 → List (List UInt8)
  | _, [] => []
  | s, c :: l => outs (out m wide s c) ++ all m wide (next m wide s c) l
/-- No frame so far has more bytes, as it stands, than a good one may have. -/
def safe (m : Nat) (wide : Bool) : DS → List UInt8 → Prop
  | s, [] => s.held.length ≤ 2 * most wide
  | s, c :: l => s.held.length ≤ 2 * most wide ∧ safe m wide (next m wide s c) l

theorem run_append (m : Nat) (wide : Bool) (a b : List UInt8) : ∀ s, run m wide s (a ++ b) = run m wide (run m wide s a) b := by
  induction a with
  | nil => intro s; rfl
  | cons c a ih => intro s; exact ih _
theorem all_append (m : Nat) (wide : Bool) (a b : List UInt8) : ∀ s, all m wide s (a ++ b) = all m wide s a ++ all m wide (run m wide s a) b := by
  induction a with
  | nil => intro s; rfl
  | cons c a ih => intro s; show outs _ ++ all m wide _ (a ++ b) = (outs _ ++ all m wide _ a) ++ _; rw [ih, List.append_assoc]; rfl
theorem safe_head (m : Nat) (wide : Bool) (s : DS) (l : List UInt8) (h : safe m wide s l) : s.held.length ≤ 2 * most wide := by
  cases l with
  | nil => exact h
  | cons c l => exact h.1
theorem safe_append (m : Nat) (wide : Bool) (a b : List UInt8) : ∀ s, safe m wide s a → safe m wide (run m wide s a) b → safe m wide s (a ++ b) := by
  induction a with
  | nil => intro s _ h; exact h
  | cons c a ih => intro s h1 h2; exact ⟨h1.1, ih _ h1.2 h2⟩
theorem safe_left (m : Nat) (wide : Bool) (a b : List UInt8) : ∀ s, safe m wide s (a ++ b) → safe m wide (run m wide s a) b := by
  induction a with
  | nil => intro s h; exact h
  | cons c a ih => intro s h; exact ih _ h.2
theorem safe_take (m : Nat) (wide : Bool) (s : DS) (l : List UInt8) (k : Nat) (h : safe m wide s l) : (run m wide s (l.take k)).held.length ≤ 2 * most wide := by
  have h1 : l = l.take k ++ l.drop k := (List.take_append_drop k l).symm
  rw [h1] at h
  exact safe_head _ _ _ _ (safe_left m wide _ _ s h)
theorem take_step (l : List UInt8) (k : Nat) (h : k < l.length) : l.take (k + 1) = l.take k ++ [l[k]] := List.take_succ_eq_append_getElem h
theorem run_take (m : Nat) (wide : Bool) (s : DS) (l : List UInt8) (k : Nat) (h : k < l.length) : run m wide s (l.take (k + 1)) = next m wide (run m wide s (l.take k)) l[k] := by
  rw [take_step l k h, run_append]; rfl
theorem all_take (m : Nat) (wide : Bool) (s : DS) (l : List UInt8) (k : Nat) (h : k < l.length) : all m wide s (l.take (k + 1)) = all m wide s (l.take k) ++ outs (out m wide (run m wide s (l.take k)) l[k]) := by
  rw [take_step l k h, all_append]
  show _ ++ (outs _ ++ []) = _
  rw [List.append_nil]
theorem next_held (m : Nat) (wide : Bool) (s : DS) (c : UInt8) : (next m wide s c).held.length ≤ s.held.length + 1 := by
  unfold next
  split
  · split <;> simp
  · split
    · simp
    · split <;> simp
theorem safe_len (m : Nat) (wide : Bool) (l : List UInt8) : ∀ s : DS, s.held.length + l.length ≤ 2 * most wide → safe m wide s l := by
  induction l with
  | nil => intro s h; exact h
  | cons c l ih =>
    intro s h
    rw [List.length_cons] at h
    have := next_held m wide s c
    exact ⟨by omega, ih _ (by omega)⟩
/-- All five are at most n. -/
def Tal.le (t : Tal) (n : Nat) : Prop := t.good ≤ n ∧ t.aborted ≤ n ∧ t.short ≤ n ∧ t.long ≤ n ∧ t.wrong ≤ n
theorem Tal.le.mono {t : Tal} {n k : Nat} (h : t.le n) (hk : n ≤ k) : t.le k := by unfold Tal.le at *; omega
theorem count_le (t : Tal) (k n : Nat) (h : t.le n) : (count t k).le (n + 1) := by
  unfold Tal.le at *
  unfold count
  repeat' split
  all_goals (try simp only); omega
theorem next_le (m : Nat) (wide : Bool) (s : DS) (c : UInt8) (n : Nat) (h : s.tal.le n) : (next m wide s c).tal.le (n + 1) := by
  unfold next
  split
  · split
    · exact h.mono (by omega)
    · exact h.mono (by omega)
  · split
    · exact count_le _ _ _ h
    · split <;> exact h.mono (by omega)
theorem run_le (m : Nat) (wide : Bool) (l : List UInt8) : ∀ (s : DS) (n : Nat), s.tal.le n → (run m wide s l).tal.le (n + l.length) := by
  induction l with
  | nil => intro s n h; exact h
  | cons c l ih =>
    intro s n h
    have := ih _ _ (next_le m wide s c n h)
    rw [List.length_cons]
    exact this.mono (by omega)
theorem zero_le (n : Nat) : zero.le n := ⟨Nat.zero_le _, Nat.zero_le _, Nat.zero_le _, Nat.zero_le _, Nat.zero_le _⟩
theorem outs_len (b : List UInt8) : (outs b).length ≤ 1 := by unfold outs; split <;> simp
theorem all_len (m : Nat) (wide : Bool) (l : List UInt8) : ∀ s, (all m wide s l).length ≤ l.length := by
  induction l with
  | nil => intro s; exact Nat.le_refl _
  | cons c l ih =>
    intro s
    show (outs _ ++ all m wide _ l).length ≤ _
    rw [List.length_append, List.length_cons]
    have h1 := outs_len (out m wide s c)
    have h2 := ih (next m wide s c)
    omega
theorem size_two (wide : Bool) : 2 ≤ Fc.size wide ∧ Fc.size wide ≤ 4 := by cases wide <;> decide
theorem most_le (wide : Bool) : 65537 ≤ most wide ∧ most wide ≤ 65539 := by have := size_two wide; unfold most; omega

/-- Bytes without a flag and without a character of the map are kept. -/
theorem run_plain (m : Nat) (wide : Bool) (Z : List UInt8) : ∀ (h : List UInt8) (t : Tal), (∀ c ∈ Z, ¬ c.toNat = 126 ∧ Ac.has m c.toNat = false) → run m wide ⟨true, h, t⟩ Z = ⟨true, h ++ Z, t⟩ ∧ all m wide ⟨true, h, t⟩ Z = [] := by
  induction Z with
  | nil => intro h t _; simp [run, all]
  | cons c Z ih =>
    intro h t hz
    have h1 := hz c (by simp)
    have hn : next m wide ⟨true, h, t⟩ c = ⟨true, h ++ [c], t⟩ := by simp [next, h1.1, h1.2]
    have ho : out m wide ⟨true, h, t⟩ c = [] := by simp [out, h1.1]
    have h2 := ih (h ++ [c]) t (fun d hd => hz d (by simp [hd]))
    constructor
    · show run m wide (next m wide _ c) Z = _
      rw [hn, h2.1]; simp
    · show outs (out m wide _ c) ++ all m wide (next m wide _ c) Z = _
      rw [ho, hn, h2.2]; rfl
/-- Ahead of the first flag nothing is kept. -/
theorem run_ahead (m : Nat) (wide : Bool) (Z : List UInt8) : ∀ (h : List UInt8) (t : Tal), (∀ c ∈ Z, ¬ c.toNat = 126) → run m wide ⟨false, h, t⟩ Z = ⟨false, h, t⟩ ∧ all m wide ⟨false, h, t⟩ Z = [] := by
  induction Z with
  | nil => intro h t _; simp [run, all]
  | cons c Z ih =>
    intro h t hz
    have h1 := hz c (by simp)
    have hn : next m wide ⟨false, h, t⟩ c = ⟨false, h, t⟩ := by simp [next, h1]
    have ho : out m wide ⟨false, h, t⟩ c = [] := by simp [out]
    have h2 := ih h t (fun d hd => hz d (by simp [hd]))
    constructor
    · show run m wide (next m wide _ c) Z = _
      rw [hn, h2.1]
    · show outs (out m wide _ c) ++ all m wide (next m wide _ c) Z = _
      rw [ho, hn, h2.2]; rfl
theorem ans_nil (m : Nat) : St.ans m [] = ([], true) := rfl
theorem judge_nil (wide : Bool) : judge wide ([], true) = 0 := by simp [judge]
/-- A flag behind a flag, or the first one. -/
theorem run_flag (m : Nat) (wide : Bool) (i : Bool) (t : Tal) : next m wide ⟨i, [], t⟩ 126 = ⟨true, [], t⟩ ∧ out m wide ⟨i, [], t⟩ 126 = [] := by
  cases i with
  | false => exact ⟨rfl, rfl⟩
  | true =>
    constructor
    · show (⟨true, [], count t (judge wide (St.ans m []))⟩ : DS) = _
      rw [ans_nil, judge_nil]; rfl
    · show bodyOf wide (St.ans m []) = _
      rw [ans_nil, bodyOf, judge_nil]; rfl
/-- What was sealed is good, and opened. -/
theorem judge_sealed (wide : Bool) (b : List UInt8) (h2 : 2 ≤ b.length) (h6 : b.length ≤ 65535) : judge wide (Fc.sealed b wide, true) = 1 ∧ bodyOf wide (Fc.sealed b wide, true) = b := by
  have hl := Fc.sealed_length b wide
  have hs := size_two wide
  have hj : judge wide (Fc.sealed b wide, true) = 1 := by
    unfold judge
    simp only [hl, Fc.sealed_good]
    rw [if_neg (by decide), if_neg (by omega), if_neg (by omega), if_neg (by unfold most; omega), if_pos trivial]
  refine ⟨hj, ?_⟩
  unfold bodyOf
  rw [if_pos hj]
  simp only [hl, Nat.add_sub_cancel]
  unfold Fc.sealed
  exact List.take_left
/-- A frame as it is put, without its first flag. -/
def fr (m : Nat) (wide : Bool) (b : List UInt8) : List UInt8 := St.stuff m (Fc.sealed b wide) ++ [126]
theorem ans_stuff (m : Nat) (hm : m < 4294967296) (x : List UInt8) : St.ans m (St.stuff m x) = (x, true) := St.un_back m m (fun _ h => h) hm x _ rfl
theorem run_fr (m : Nat) (wide : Bool) (hm : m < 4294967296) (t : Tal) (b : List UInt8) (h2 : 2 ≤ b.length) (h6 : b.length ≤ 65535) :
    run m wide ⟨true, [], t⟩ (fr m wide b) = ⟨true, [], count t 1⟩ ∧ all m wide ⟨true, [], t⟩ (fr m wide b) = [b] := by
  have hj := judge_sealed wide b h2 h6
  have hp := run_plain m wide (St.stuff m (Fc.sealed b wide)) [] t (fun c hc => St.stuff_clean m hm _ c hc)
  rw [List.nil_append] at hp
  have ha := ans_stuff m hm (Fc.sealed b wide)
  constructor
  · rw [fr, run_append, hp.1]
    show (⟨true, [], count t (judge wide (St.ans m (St.stuff m (Fc.sealed b wide))))⟩ : DS) = _
    rw [ha, hj.1]
  · rw [fr, all_append, hp.1, hp.2]
    show [] ++ (outs (bodyOf wide (St.ans m (St.stuff m (Fc.sealed b wide)))) ++ []) = _
    rw [ha, hj.2, outs_some b (by intro e; rw [e] at h2; simp at h2)]; rfl
theorem fr_length (m : Nat) (wide : Bool) (b : List UInt8) : (fr m wide b).length ≤ 2 * (b.length + Fc.size wide) + 1 := by
  have := (St.stuff_le m (Fc.sealed b wide)).2
  rw [Fc.sealed_length] at this
  rw [fr, List.length_append, List.length_singleton]; omega
theorem safe_fr (m : Nat) (wide : Bool) (t : Tal) (b : List UInt8) (hm : m < 4294967296) (h6 : b.length ≤ 65535) : safe m wide ⟨true, [], t⟩ (fr m wide b) := by
  have h1 := (St.stuff_le m (Fc.sealed b wide)).2
  rw [Fc.sealed_length] at h1
  have hp := run_plain m wide (St.stuff m (Fc.sealed b wide)) [] t (fun c hc => St.stuff_clean m hm _ c hc)
  refine safe_append _ _ _ _ _ (safe_len _ _ _ _ ?_) ?_
  · show 0 + _ ≤ _
    unfold most; omega
  · rw [hp.1, List.nil_append]
    refine ⟨?_, ?_⟩
    · show (St.stuff m (Fc.sealed b wide)).length ≤ _
      unfold most; omega
    · show (0 : Nat) ≤ _
      omega

/-- Why a body may not be put. -/
def fault (b : List UInt8) : Nat := if b.length < 2 then 1 else if 65535 < b.length then 4 else 0
/-- Bodies' frames, each with a flag behind it. -/
def frs (m : Nat) (wide : Bool) (L : List (List UInt8)) : List UInt8 := L.flatMap (fr m wide)
/-- The error of the first that has one. -/
def err : List (List UInt8) → Nat
  | [] => 0
  | b :: l => if fault b = 0 then err l else fault b
theorem frs_take (m : Nat) (wide : Bool) (L : List (List UInt8)) (k : Nat) (h : k < L.length) : frs m wide (L.take (k + 1)) = frs m wide (L.take k) ++ fr m wide L[k] := by
  unfold frs
  rw [List.take_succ_eq_append_getElem h, List.flatMap_append]; simp
theorem err_take (L : List (List UInt8)) : ∀ k (_ : k < L.length), err (L.take k) = 0 → err (L.take (k + 1)) = fault (L[k]) := by
  induction L with
  | nil => intro k h; simp at h
  | cons b L ih =>
    intro k h h0
    cases k with
    | zero => simp [err]; exact fun h => h.symm
    | succ k =>
      simp only [List.take_succ_cons, err] at h0 ⊢
      split at h0
      · rename_i hb
        rw [if_pos hb]
        have := ih k (by simpa using h) h0
        simpa using this
      · rename_i hb; exact absurd h0 hb
theorem err_stop (L : List (List UInt8)) : ∀ k, err (L.take k) ≠ 0 → err L = err (L.take k) := by
  induction L with
  | nil => intro k h; simp
  | cons b L ih =>
    intro k h
    cases k with
    | zero => simp [err] at h
    | succ k =>
      simp only [List.take_succ_cons, err] at h ⊢
      split
      · rename_i hb
        rw [if_pos hb] at h
        exact ih k h
      · rfl
theorem fault_zero (b : List UInt8) : fault b = 0 ↔ 2 ≤ b.length ∧ b.length ≤ 65535 := by
  unfold fault
  split
  · simp; omega
  · split
    · simp; omega
    · simp; omega
end Fr
end Go.Proofs.Ythmljgpnkealaaa
