/- Contracts of an earlier layer, brought to this seat by names (port.py): Heldb, Plainf, Fa, Fb, Fd, Fe, Ff, Fg, Fh, Fi, Ka, Kb, Kc. -/
import Derived.Test.YtbbnkmhlgfoacaaDoorS7a
import Derived.Deep.MidRow
import Derived.Laws.EntriesVeiled

namespace Go.Proofs.YtbbnkmhlgfoacaaDoor.S7
open Go.RowKit

/-- One operation that yields a value. -/
theorem wp_value {P : Program} {o : Oper} {a : Act} {w w' : World} {v : Value} {K : Act → World → Prop} {Q : Exit → Act → World → Prop} (he : (execOp a.eval o).run P w = .ok (.value v) w') (h : K (a.put o.dst v) w') : Oper.wp P o a w K Q := by
  unfold Oper.wp
  rw [he]
  exact h
/-- append of whatever slice of bytes onto a slice of one's own, as one operation. -/
theorem wp_append_row {o : Oper} {a : Act} {w : World} {K : Act → World → Prop} {Q : Exit → Act → World → Prop} (s x : Operand)
    (ho : o.op = .call { callee := .builtin .append, args := #[s, x], argTypes := #[28, 28] })
    (base : Nat) (v : Value) (n : Nat) (xs : List Value) (hs : a.eval s = v) (hown : w.ownsRow base 5 1 v n xs)
    (p : Option Addr) (m c : Nat) (ys : List UInt8) (hx : a.eval x = .slice p m c) (hm : ys.length = m) (hrow : RowAt w p c ys)
    (h63 : n + m ≤ 1000000) (hbase : base ≤ w.heap.size)
    (h : ∀ v' w', w'.ownsRow base 5 1 v' (n + m) (xs ++ Lib.byteCells ys) → w.grownBy w' v.ownBlock → K (a.put o.dst v') w') : Oper.wp Tryd.prog o a w K Q := by
  obtain ⟨i0, hi, hz0, hz1, hz2⟩ := info_parts info5
  cases p with
  | none =>
    have h0 := hrow.nil rfl
    have h1 := hrow.le
    have hy : ys = [] := List.eq_nil_of_length_eq_zero (by omega)
    subst hy
    subst h0
    simp at hm
    subst hm
    have hrun := run_append_owned_none (P := Tryd.prog) (w := w) base 28 o.type 5 i0 1 Tryd.underlying28 hi v n xs hown
    unfold Oper.wp
    simp [execOp, ho, resolve, invoke, builtin, hs, hx, hrun, Result.andThen]
    exact h v w (by simpa [Lib.byteCells] using hown) ⟨rfl, rfl, rfl, Nat.le_refl _, fun _ _ _ => rfl⟩
  | some ad =>
    obtain ⟨v', w', hrun, r1, r2, _⟩ := run_append_own (P := Tryd.prog) w base 28 o.type 5 i0 (.int .u8 0) 1 1 Tryd.underlying28 hi hz0 hz1 hz2 rfl (by decide) v n xs hown ad m c (Lib.byteCells ys) (by rw [Lib.byteCells_length, hm, Nat.mul_one]) (hrow.cell ad rfl) (cells_one ys) (by unfold maxLen; omega) (by omega) hbase
    unfold Oper.wp
    simp [execOp, ho, resolve, invoke, builtin, hs, hx, hrun, Result.andThen]
    exact h v' w' r1 r2

section
variable {P : Program} {l : List Oper} {Q : Exit → Act → World → Prop} {S : World → Prop}
/-- Two operations, either of which may come up first. -/
theorem held_pair (i j : Nat) {oi oj : Oper} {fuel : Nat} {listed : Array Bool} {a : Act} {w : World} (hi : l[i]? = some oi) (hj : l[j]? = some oj) (hr : Region.ready .any l.toArray listed = [i, j])
    (hwi : Region.wanted oi (yielded l.toArray a.tmps) = true) (hwj : Region.wanted oj (yielded l.toArray a.tmps) = true)
    (h1 : Oper.wp P oi a w (fun a' w' => S w' ∧ wpAnyH P .any l.toArray Q S fuel (listed.setIfInBounds i true) a' w') Q)
    (h2 : Oper.wp P oj a w (fun a' w' => S w' ∧ wpAnyH P .any l.toArray Q S fuel (listed.setIfInBounds j true) a' w') Q) : wpAnyH P .any l.toArray Q S (fuel + 1) listed a w := by
  refine ⟨(fun h0 => by rw [hr] at h0; cases h0), fun k hk => ?_⟩
  rw [hr] at hk
  have hk' : k = i ∨ k = j := by simpa using hk
  rcases hk' with rfl | rfl
  · unfold wpOp
    have ho : l.toArray[k]? = some oi := by simpa using hi
    simp only [ho, hwi, if_true]
    exact .inl h1
  · unfold wpOp
    have ho : l.toArray[k]? = some oj := by simpa using hj
    simp only [ho, hwj, if_true]
    exact .inl h2
/-- One operation that alone may come up. -/
theorem held_one (i : Nat) {oi : Oper} {fuel : Nat} {listed : Array Bool} {a : Act} {w : World} (hi : l[i]? = some oi) (hr : Region.ready .any l.toArray listed = [i])
    (hwi : Region.wanted oi (yielded l.toArray a.tmps) = true)
    (h1 : Oper.wp P oi a w (fun a' w' => S w' ∧ wpAnyH P .any l.toArray Q S fuel (listed.setIfInBounds i true) a' w') Q) : wpAnyH P .any l.toArray Q S (fuel + 1) listed a w := by
  refine ⟨(fun h0 => by rw [hr] at h0; cases h0), fun k hk => ?_⟩
  rw [hr] at hk
  obtain rfl : k = i := by simpa using hk
  unfold wpOp
  have ho : l.toArray[k]? = some oi := by simpa using hi
  simp only [ho, hwi, if_true]
  exact .inl h1
end
end Go.Proofs.YtbbnkmhlgfoacaaDoor.S7

namespace Go.Proofs.YtbbnkmhlgfoacaaDoor.S7
namespace Fr

/-- How many frames are of each kind. -/
structure Tal where
  good : Nat
  aborted : Nat
  short : Nat
  long : Nat
  wrong : Nat
/-- A deframer: whether there was a flag; the frame so far, what is left out aside; the tally. -/
structure DS where
  ins : Bool
  held : List UInt8
  tal : Tal
def zero : Tal := ⟨0, 0, 0, 0, 0⟩
def init : DS := ⟨false, [], zero⟩
/-- How many bytes a good frame has at most. -/
def most (wide : Bool) : Nat := Fc.size wide + 65535
/-- A frame's kind, of what it is unstuffed: 0 nothing, 1 good, 2 aborted, 3 short, 4 long, 5 wrong. -/
def judge (wide : Bool) (A : List UInt8 × Bool) : Nat :=
  if A.2 = false then 2 else if A.1.length = 0 then 0 else if A.1.length < Fc.size wide + 2 then 3 else if most wide < A.1.length then 4 else if Fc.good A.1 wide = true then 1 else 5
def count (t : Tal) (k : Nat) : Tal :=
  if k = 1 then ⟨t.good + 1, t.aborted, t.short, t.long, t.wrong⟩
  else if k = 2 then ⟨t.good, t.aborted + 1, t.short, t.long, t.wrong⟩
  else if k = 3 then ⟨t.good, t.aborted, t.short + 1, t.long, t.wrong⟩
  else if k = 4 then ⟨t.good, t.aborted, t.short, t.long + 1, t.wrong⟩
  else if k = 5 then ⟨t.good, t.aborted, t.short, t.long, t.wrong + 1⟩ else t
/-- The body, of one that is good. -/
def bodyOf (wide : Bool) (A : List UInt8 × Bool) : List UInt8 := if judge wide A = 1 then A.1.take (A.1.length - Fc.size wide) else []
/-- What is answered: a body, if there is one. -/
def outs (b : List UInt8) : List (List UInt8) := if b = [] then [] else [b]
theorem outs_nil : outs [] = [] := rfl
theorem outs_some (b : List UInt8) (h : b ≠ []) : outs b = [b] := if_neg h

/-- One byte more. -/
def next (m : Nat) (wide : Bool) (s : DS) (c : UInt8) : DS :=
  if s.ins = false then (if c.toNat = 126 then ⟨true, s.held, s.tal⟩ else s)
  else if c.toNat = 126 then ⟨true, [], count s.tal (judge wide (St.ans m s.held))⟩
  else if Ac.has m c.toNat = true then s else ⟨true, s.held ++ [c], s.tal⟩
def out (m : Nat) (wide : Bool) (s : DS) (c : UInt8) : List UInt8 :=
  if s.ins = true ∧ c.toNat = 126 then bodyOf wide (St.ans m s.held) else []
def run (m : Nat) (wide : Bool) : DS → List UInt8 → DS
  | s, [] => s
  | s, c :: l => run m wide (next m wide s c) l
def all (m : Nat) (wide : Bool) : DS → List UInt8 → List (List UInt8)
  | _, [] => []
  | s, c :: l => outs (out m wide s c) ++ all m wide (next m wide s c) l
/-- No frame so far has more bytes, as it stands, than a good one may have. -/
def safe (m : Nat) (wide : Bool) : DS → List UInt8 → Prop
  | s, [] => s.held.length ≤ 2 * most wide
  | s, c :: l => s.held.length ≤ 2 * most wide ∧ safe m wide (next m wide s c) l

theorem run_append (m : Nat) (wide : Bool) (a b : List UInt8) : ∀ s, run m wide s (a ++ b) = run m wide (run m wide s a) b := by
  induction a with
  | nil => intro s; rfl
  | cons c a ih => intro s; exact ih _
theorem all_append (m : Nat) (wide : Bool) (a b : List UInt8) : ∀ s, all m wide s (a ++ b) = all m wide s a ++ all m wide (run m wide s a) b := by
  induction a with
  | nil => intro s; rfl
  | cons c a ih => intro s; show outs _ ++ all m wide _ (a ++ b) = (outs _ ++ all m wide _ a) ++ _; rw [ih, List.append_assoc]; rfl
theorem safe_head (m : Nat) (wide : Bool) (s : DS) (l : List UInt8) (h : safe m wide s l) : s.held.length ≤ 2 * most wide := by
  cases l with
  | nil => exact h
  | cons c l => exact h.1
theorem safe_append (m : Nat) (wide : Bool) (a b : List UInt8) : ∀ s, safe m wide s a → safe m wide (run m wide s a) b → safe m wide s (a ++ b) := by
  induction a with
  | nil => intro s _ h; exact h
  | cons c a ih => intro s h1 h2; exact ⟨h1.1, ih _ h1.2 h2⟩
theorem safe_left (m : Nat) (wide : Bool) (a b : List UInt8) : ∀ s, safe m wide s (a ++ b) → safe m wide (run m wide s a) b := by
  induction a with
  | nil => intro s h; exact h
  | cons c a ih => intro s h; exact ih _ h.2
theorem safe_take (m : Nat) (wide : Bool) (s : DS) (l : List UInt8) (k : Nat) (h : safe m wide s l) : (run m wide s (l.take k)).held.length ≤ 2 * most wide := by
  have h1 : l = l.take k ++ l.drop k := (List.take_append_drop k l).symm
  rw [h1] at h
  exact safe_head _ _ _ _ (safe_left m wide _ _ s h)
theorem take_step (l : List UInt8) (k : Nat) (h : k < l.length) : l.take (k + 1) = l.take k ++ [l[k]] := List.take_succ_eq_append_getElem h
theorem run_take (m : Nat) (wide : Bool) (s : DS) (l : List UInt8) (k : Nat) (h : k < l.length) : run m wide s (l.take (k + 1)) = next m wide (run m wide s (l.take k)) l[k] := by
  rw [take_step l k h, run_append]; rfl
theorem all_take (m : Nat) (wide : Bool) (s : DS) (l : List UInt8) (k : Nat) (h : k < l.length) : all m wide s (l.take (k + 1)) = all m wide s (l.take k) ++ outs (out m wide (run m wide s (l.take k)) l[k]) := by
  rw [take_step l k h, all_append]
  show _ ++ (outs _ ++ []) = _
  rw [List.append_nil]
theorem next_held (m : Nat) (wide : Bool) (s : DS) (c : UInt8) : (next m wide s c).held.length ≤ s.held.length + 1 := by
  unfold next
  split
  · split <;> simp
  · split
    · simp
    · split <;> simp
theorem safe_len (m : Nat) (wide : Bool) (l : List UInt8) : ∀ s : DS, s.held.length + l.length ≤ 2 * most wide → safe m wide s l := by
  induction l with
  | nil => intro s h; exact h
  | cons c l ih =>
    intro s h
    rw [List.length_cons] at h
    have := next_held m wide s c
    exact ⟨by omega, ih _ (by omega)⟩
/-- All five are at most n. -/
def Tal.le (t : Tal) (n : Nat) : Prop := t.good ≤ n ∧ t.aborted ≤ n ∧ t.short ≤ n ∧ t.long ≤ n ∧ t.wrong ≤ n
theorem Tal.le.mono {t : Tal} {n k : Nat} (h : t.le n) (hk : n ≤ k) : t.le k := by unfold Tal.le at *; omega
theorem count_le (t : Tal) (k n : Nat) (h : t.le n) : (count t k).le (n + 1) := by
  unfold Tal.le at *
  unfold count
  repeat' split
  all_goals (try simp only); omega
theorem next_le (m : Nat) (wide : Bool) (s : DS) (c : UInt8) (n : Nat) (h : s.tal.le n) : (next m wide s c).tal.le (n + 1) := by
  unfold next
  split
  · split
    · exact h.mono (by omega)
    · exact h.mono (by omega)
  · split
    · exact count_le _ _ _ h
    · split <;> exact h.mono (by omega)
theorem run_le (m : Nat) (wide : Bool) (l : List UInt8) : ∀ (s : DS) (n : Nat), s.tal.le n → (run m wide s l).tal.le (n + l.length) := by
  induction l with
  | nil => intro s n h; exact h
  | cons c l ih =>
    intro s n h
    have := ih _ _ (next_le m wide s c n h)
    rw [List.length_cons]
    exact this.mono (by omega)
theorem zero_le (n : Nat) : zero.le n := ⟨Nat.zero_le _, Nat.zero_le _, Nat.zero_le _, Nat.zero_le _, Nat.zero_le _⟩
theorem outs_len (b : List UInt8) : (outs b).length ≤ 1 := by unfold outs; split <;> simp
theorem all_len (m : Nat) (wide : Bool) (l : List UInt8) : ∀ s, (all m wide s l).length ≤ l.length := by
  induction l with
  | nil => intro s; exact Nat.le_refl _
  | cons c l ih =>
    intro s
    show (outs _ ++ all m wide _ l).length ≤ _
    rw [List.length_append, List.length_cons]
    have h1 := outs_len (out m wide s c)
    have h2 := ih (next m wide s c)
    omega
theorem size_two (wide : Bool) : 2 ≤ Fc.size wide ∧ Fc.size wide ≤ 4 := by cases wide <;> decide
theorem most_le (wide : Bool) : 65537 ≤ most wide ∧ most wide ≤ 65539 := by have := size_two wide; unfold most; omega

/-- Bytes without a flag and without a character of the map are kept. -/
theorem run_plain (m : Nat) (wide : Bool) (Z : List UInt8) : ∀ (h : List UInt8) (t : Tal), (∀ c ∈ Z, ¬ c.toNat = 126 ∧ Ac.has m c.toNat = false) → run m wide ⟨true, h, t⟩ Z = ⟨true, h ++ Z, t⟩ ∧ all m wide ⟨true, h, t⟩ Z = [] := by
  induction Z with
  | nil => intro h t _; simp [run, all]
  | cons c Z ih =>
    intro h t hz
    have h1 := hz c (by simp)
    have hn : next m wide ⟨true, h, t⟩ c = ⟨true, h ++ [c], t⟩ := by simp [next, h1.1, h1.2]
    have ho : out m wide ⟨true, h, t⟩ c = [] := by simp [out, h1.1]
    have h2 := ih (h ++ [c]) t (fun d hd => hz d (by simp [hd]))
    constructor
    · show run m wide (next m wide _ c) Z = _
      rw [hn, h2.1]; simp
    · show outs (out m wide _ c) ++ all m wide (next m wide _ c) Z = _
      rw [ho, hn, h2.2]; rfl
/-- Ahead of the first flag nothing is kept. -/
theorem run_ahead (m : Nat) (wide : Bool) (Z : List UInt8) : ∀ (h : List UInt8) (t : Tal), (∀ c ∈ Z, ¬ c.toNat = 126) → run m wide ⟨false, h, t⟩ Z = ⟨false, h, t⟩ ∧ all m wide ⟨false, h, t⟩ Z = [] := by
  induction Z with
  | nil => intro h t _; simp [run, all]
  | cons c Z ih =>
    intro h t hz
    have h1 := hz c (by simp)
    have hn : next m wide ⟨false, h, t⟩ c = ⟨false, h, t⟩ := by simp [next, h1]
    have ho : out m wide ⟨false, h, t⟩ c = [] := by simp [out]
    have h2 := ih h t (fun d hd => hz d (by simp [hd]))
    constructor
    · show run m wide (next m wide _ c) Z = _
      rw [hn, h2.1]
    · show outs (out m wide _ c) ++ all m wide (next m wide _ c) Z = _
      rw [ho, hn, h2.2]; rfl
theorem ans_nil (m : Nat) : St.ans m [] = ([], true) := rfl
theorem judge_nil (wide : Bool) : judge wide ([], true) = 0 := by simp [judge]
/-- A flag behind a flag, or the first one. -/
theorem run_flag (m : Nat) (wide : Bool) (i : Bool) (t : Tal) : next m wide ⟨i, [], t⟩ 126 = ⟨true, [], t⟩ ∧ out m wide ⟨i, [], t⟩ 126 = [] := by
  cases i with
  | false => exact ⟨rfl, rfl⟩
  | true =>
    constructor
    · show (⟨true, [], count t (judge wide (St.ans m []))⟩ : DS) = _
      rw [ans_nil, judge_nil]; rfl
    · show bodyOf wide (St.ans m []) = _
      rw [ans_nil, bodyOf, judge_nil]; rfl
/-- What was sealed is good, and opened. -/
theorem judge_sealed (wide : Bool) (b : List UInt8) (h2 : 2 ≤ b.length) (h6 : b.length ≤ 65535) : judge wide (Fc.sealed b wide, true) = 1 ∧ bodyOf wide (Fc.sealed b wide, true) = b := by
  have hl := Fc.sealed_length b wide
  have hs := size_two wide
  have hj : judge wide (Fc.sealed b wide, true) = 1 := by
    unfold judge
    simp only [hl, Fc.sealed_good]
    rw [if_neg (by decide), if_neg (by omega), if_neg (by omega), if_neg (by unfold most; omega), if_pos trivial]
  refine ⟨hj, ?_⟩
  unfold bodyOf
  rw [if_pos hj]
  simp only [hl, Nat.add_sub_cancel]
  unfold Fc.sealed
  exact List.take_left
/-- A frame as it is put, without its first flag. -/
def fr (m : Nat) (wide : Bool) (b : List UInt8) : List UInt8 := St.stuff m (Fc.sealed b wide) ++ [126]
theorem ans_stuff (m : Nat) (hm : m < 4294967296) (x : List UInt8) : St.ans m (St.stuff m x) = (x, true) := St.un_back m m (fun _ h => h) hm x _ rfl
theorem run_fr (m : Nat) (wide : Bool) (hm : m < 4294967296) (t : Tal) (b : List UInt8) (h2 : 2 ≤ b.length) (h6 : b.length ≤ 65535) :
    run m wide ⟨true, [], t⟩ (fr m wide b) = ⟨true, [], count t 1⟩ ∧ all m wide ⟨true, [], t⟩ (fr m wide b) = [b] := by
  have hj := judge_sealed wide b h2 h6
  have hp := run_plain m wide (St.stuff m (Fc.sealed b wide)) [] t (fun c hc => St.stuff_clean m hm _ c hc)
  rw [List.nil_append] at hp
  have ha := ans_stuff m hm (Fc.sealed b wide)
  constructor
  · rw [fr, run_append, hp.1]
    show (⟨true, [], count t (judge wide (St.ans m (St.stuff m (Fc.sealed b wide))))⟩ : DS) = _
    rw [ha, hj.1]
  · rw [fr, all_append, hp.1, hp.2]
    show [] ++ (outs (bodyOf wide (St.ans m (St.stuff m (Fc.sealed b wide)))) ++ []) = _
    rw [ha, hj.2, outs_some b (by intro e; rw [e] at h2; simp at h2)]; rfl
theorem fr_length (m : Nat) (wide : Bool) (b : List UInt8) : (fr m wide b).length ≤ 2 * (b.length + Fc.size wide) + 1 := by
  have := (St.stuff_le m (Fc.sealed b wide)).2
  rw [Fc.sealed_length] at this
  rw [fr, List.length_append, List.length_singleton]; omega
theorem safe_fr (m : Nat) (wide : Bool) (t : Tal) (b : List UInt8) (hm : m < 4294967296) (h6 : b.length ≤ 65535) : safe m wide ⟨true, [], t⟩ (fr m wide b) := by
  have h1 := (St.stuff_le m (Fc.sealed b wide)).2
  rw [Fc.sealed_length] at h1
  have hp := run_plain m wide (St.stuff m (Fc.sealed b wide)) [] t (fun c hc => St.stuff_clean m hm _ c hc)
  refine safe_append _ _ _ _ _ (safe_len _ _ _ _ ?_) ?_
  · show 0 + _ ≤ _
    unfold most; omega
  · rw [hp.1, List.nil_append]
    refine ⟨?_, ?_⟩
    · show (St.stuff m (Fc.sealed b wide)).length ≤ _
      unfold most; omega
    · show (0 : Nat) ≤ _
      omega

/-- Why a body may not be put. -/
def fault (b : List UInt8) : Nat := if b.length < 2 then 1 else if 65535 < b.length then 4 else 0
/-- Bodies' frames, each with a flag behind it. -/
def frs (m : Nat) (wide : Bool) (L : List (List UInt8)) : List UInt8 := L.flatMap (fr m wide)
/-- The error of the first that has one. -/
def err : List (List UInt8) → Nat
  | [] => 0
  | b :: l => if fault b = 0 then err l else fault b
theorem frs_take (m : Nat) (wide : Bool) (L : List (List UInt8)) (k : Nat) (h : k < L.length) : frs m wide (L.take (k + 1)) = frs m wide (L.take k) ++ fr m wide L[k] := by
  unfold frs
  rw [List.take_succ_eq_append_getElem h, List.flatMap_append]; simp
theorem err_take (L : List (List UInt8)) : ∀ k (_ : k < L.length), err (L.take k) = 0 → err (L.take (k + 1)) = fault (L[k]) := by
  induction L with
  | nil => intro k h; simp at h
  | cons b L ih =>
    intro k h h0
    cases k with
    | zero => simp [err]; exact fun h => h.symm
    | succ k =>
      simp only [List.take_succ_cons, err] at h0 ⊢
      split at h0
      · rename_i hb
        rw [if_pos hb]
        have := ih k (by simpa using h) h0
        simpa using this
      · rename_i hb; exact absurd h0 hb
theorem err_stop (L : List (List UInt8)) : ∀ k, err (L.take k) ≠ 0 → err L = err (L.take k) := by
  induction L with
  | nil => intro k h; simp
  | cons b L ih =>
    intro k h
    cases k with
    | zero => simp [err] at h
    | succ k =>
      simp only [List.take_succ_cons, err] at h ⊢
      split
      · rename_i hb
        rw [if_pos hb] at h
        exact ih k h
      · rfl
theorem fault_zero (b : List UInt8) : fault b = 0 ↔ 2 ≤ b.length ∧ b.length ≤ 65535 := by
  unfold fault
  split
  · simp; omega
  · split
    · simp; omega
    · simp; omega
end Fr
end Go.Proofs.YtbbnkmhlgfoacaaDoor.S7

namespace Go.Proofs.YtbbnkmhlgfoacaaDoor.S7
open Go.RowKit

/-- What takes the next byte. -/
def fnV (ins : Bool) (D : Nat) : Value := .func (.func (if ins = true then 76 else 63)) #[.pointer (some ⟨D, 0, none⟩)] #[]
/-- The tally's cells. -/
def tcells (t : Fr.Tal) : List Value := [.int .i64 (t.good : Int), .int .i64 (t.aborted : Int), .int .i64 (t.short : Int), .int .i64 (t.long : Int), .int .i64 (t.wrong : Int)]
/-- A deframer's cells. -/
def dcells (m : Nat) (wide : Bool) (f hv : Value) (t : Fr.Tal) : List Value := [.int .u32 (m : Int), .bool wide, f, hv, .int .i64 0] ++ tcells t

structure DefAt (w : World) (m : Nat) (wide : Bool) (D : Nat) (hv : Value) (s : Fr.DS) : Prop where
  blk : w.heap[D]? = some (.cells (dcells m wide (fnV s.ins D) hv s.tal).toArray 124 (0, 0))
  own : w.ownsRow (D + 1) 5 1 hv s.held.length (Lib.byteCells s.held)

theorem new_any (m : Nat) (wide : Bool) (w : World) : Calls Tryd.prog 43 #[.int .u32 (m : Int), .bool wide] w fun e w' => e = .returned (.pointer (some ⟨w.heap.size, 0, none⟩)) ∧ DefAt w' m wide w.heap.size (.slice none 0 0) Fr.init ∧ Below w.heap.size w w' ∧ w'.heap.size = w.heap.size + 1 := by
  have hmf : ∀ (fn : Fn) (first cap : Array Value) (w : World), (Instr.makeFunc fn first cap).run Tryd.prog w = .ok (.func fn first cap) w := fun _ _ _ _ => rfl
  go_enter Tryd.func43, Tryd.ntmps43
  go_wp2
  go_ret
  exact ⟨rfl, ⟨heap_alloc_new w _, World.ownsRow_nil _ _ _ _⟩, (Below.refl _ _).alloc (Nat.le_refl _) _, by simp⟩

theorem DefAt.cellAt {w : World} {m : Nat} {wide : Bool} {D : Nat} {hv : Value} {s : Fr.DS} (h : DefAt w m wide D hv s) (i : Nat) (u : Value) (hu : (dcells m wide (fnV s.ins D) hv s.tal)[i]? = some u) : w.cell? ⟨D, i, none⟩ = some u := by
  rw [cell_of_row _ _ _ _ _ _ h.blk]; simpa using hu
theorem DefAt.free {w : World} {m : Nat} {wide : Bool} {D : Nat} {hv : Value} {s : Fr.DS} (h : DefAt w m wide D hv s) (i : Nat) : w.frozen? ⟨D, i, none⟩ = false := frozen_of_row w D i _ 124 h.blk
theorem DefAt.lt {w : World} {m : Nat} {wide : Bool} {D : Nat} {hv : Value} {s : Fr.DS} (h : DefAt w m wide D hv s) : D < w.heap.size := lt_of_block h.blk
theorem DefAt.next {w w' : World} {m : Nat} {wide : Bool} {D : Nat} {hv : Value} {s : Fr.DS} (h : DefAt w m wide D hv s) (b : Below w.heap.size w w') : DefAt w' m wide D hv s :=
  ⟨by rw [b.block D h.lt]; exact h.blk, ownsRow_next h.own b⟩

theorem most_any {w : World} {m : Nat} {wide : Bool} {D : Nat} {hv : Value} {s : Fr.DS} (h : DefAt w m wide D hv s) : Calls Tryd.prog 94 #[.pointer (some ⟨D, 0, none⟩)] w fun e w' => e = .returned (.int .i64 (Fr.most wide : Nat)) ∧ w' = w := by
  have hc : w.cell? ⟨D, 1, none⟩ = some (.bool wide) := h.cellAt 1 _ rfl
  have hs := Fr.size_two wide
  have hsz := fun w => size_any wide w
  unfold Fr.most
  generalize Fc.size wide = s at hs hsz ⊢
  clear h
  go_enter Tryd.func94, Tryd.ntmps94
  go_wp2_with (go_at_call 91; refine (hsz _).mono ?_; rintro e w' ⟨rfl, h⟩; rw [h]; clear h)
  go_ret
  exact ⟨ret_int (by omega), rfl⟩

theorem info40 : (Tryd.prog.info? 122).map (·.size) = some 5 := by kernel_rfl
end Go.Proofs.YtbbnkmhlgfoacaaDoor.S7

namespace Go.Proofs.YtbbnkmhlgfoacaaDoor.S7
open Go.RowKit

structure Fed (w w' : World) (D : Nat) (hv hv' : Value) : Prop where
  os : w'.os = w.os
  tape : w'.tape = w.tape
  output : w'.output = w.output
  size : w.heap.size ≤ w'.heap.size
  away : ∀ k, k < w.heap.size → k ≠ D → hv.ownBlock ≠ some k → w'.heap[k]? = w.heap[k]? ∧ hv'.ownBlock ≠ some k
theorem Fed.refl (w : World) (D : Nat) (hv : Value) : Fed w w D hv hv := ⟨rfl, rfl, rfl, Nat.le_refl _, fun _ _ _ h => ⟨rfl, h⟩⟩
theorem Fed.trans {a b c : World} {D : Nat} {u v x : Value} (h : Fed a b D u v) (k : Fed b c D v x) : Fed a c D u x :=
  ⟨k.os.trans h.os, k.tape.trans h.tape, k.output.trans h.output, Nat.le_trans h.size k.size, fun i hi hd hn => by
    have h1 := h.away i hi hd hn
    have h2 := k.away i (Nat.lt_of_lt_of_le hi h.size) hd h1.2
    exact ⟨h2.1.trans h1.1, h2.2⟩⟩
theorem fed_below {a b : World} (D : Nat) (u : Value) (h : Below a.heap.size a b) : Fed a b D u u :=
  ⟨h.os, h.tape, h.output, h.size, fun i hi _ hn => ⟨h.block i hi, hn⟩⟩
theorem fed_cell (a : World) (D i : Nat) (u x : Value) : Fed a (a.setCell ⟨D, i, none⟩ x) D u u :=
  ⟨rfl, rfl, rfl, by simp [World.setCell], fun k _ hd hn => ⟨Below.heap_setCell _ _ _ _ hd, hn⟩⟩
/-- The frame's bytes are let go. -/
theorem Fed.drop {a b : World} {D : Nat} {u v : Value} (h : Fed a b D u v) : Fed a b D u (.slice none 0 0) :=
  ⟨h.os, h.tape, h.output, h.size, fun i hi hd hn => ⟨(h.away i hi hd hn).1, by simp [Value.ownBlock]⟩⟩
/-- Below a deframer nothing has turned. -/
theorem Fed.below {a b w : World} {D : Nat} {u v : Value} (h : Fed a b D u v) (hb : Below w.heap.size w a) (hD : w.heap.size ≤ D) (hu : ∀ k, u.ownBlock = some k → w.heap.size ≤ k) : Below w.heap.size w b :=
  ⟨h.os.trans hb.os, h.tape.trans hb.tape, h.output.trans hb.output, Nat.le_trans hb.size h.size, fun k hk => by
    rw [(h.away k (Nat.lt_of_lt_of_le hk hb.size) (by omega) (fun e => by have := hu k e; omega)).1]
    exact hb.block k hk⟩

theorem DefAt.set {w : World} {m : Nat} {wide : Bool} {D : Nat} {hv hv' : Value} {s s' : Fr.DS} (h : DefAt w m wide D hv s) (i : Nat) (u : Value)
    (heq : (dcells m wide (fnV s.ins D) hv s.tal).toArray.setIfInBounds i u = (dcells m wide (fnV s'.ins D) hv' s'.tal).toArray) (ho : w.ownsRow (D + 1) 5 1 hv' s'.held.length (Lib.byteCells s'.held)) :
    DefAt (w.setCell ⟨D, i, none⟩ u) m wide D hv' s' :=
  ⟨by rw [heap_setCell_same _ _ _ _ _ _ h.blk, heq], ownsRow_setCell_below ho (by simp) u⟩
theorem DefAt.ne {w : World} {m : Nat} {wide : Bool} {D : Nat} {hv : Value} {s : Fr.DS} (h : DefAt w m wide D hv s) : hv.ownBlock ≠ some D := fun e => by have := (h.own.lt D e).1; omega

/-- Where append's answer lies: where it was, or in new memory. -/
theorem append_place {P : Program} (w : World) (base : Nat) (t ty e : TypeId) (i : TypeInfo) (z : Value) (size bytes : Nat) (ht : P.underlying t = some (.slice e)) (hi : P.info? e = some i) (hz : i.zero = some z)
    (hsize : i.size = size) (hby : i.bytes = bytes) (hzs : z.cells.size = size) (hsz : 0 < size)
    (v : Value) (n : Nat) (xs : List Value) (hown : w.ownsRow base e size v n xs)
    (a : Addr) (m c : Nat) (news : List Value) (hl : news.length = m * size) (hnews : ∀ j u, news[j]? = some u → w.cell? (a.add j) = some u) (h1 : ∀ u ∈ news, u.oneCell' = true)
    (h63 : n + m ≤ maxLen) (hbytes : (n + m) * bytes ≤ 140737488355328) (v' : Value) (w' : World)
    (hr : (Builtin.append_ #[t, t] ty #[v, .slice (some a) m c]).run P w = .ok v' w') : v'.ownBlock = v.ownBlock ∨ ∀ k, v'.ownBlock = some k → w.heap.size ≤ k := by
  rcases hown.2 with ⟨rfl, rfl⟩ | ⟨g, cap, cur, rfl, hbg, hg, hnc, hcm, hcs, htake⟩
  · have hx : xs = [] := List.eq_nil_of_length_eq_zero (by simpa using hown.1)
    subst hx
    obtain ⟨v2, w2, hr2, ho2, _, _⟩ := run_append_own (P := P) w w.heap.size t ty e i z size bytes ht hi hz hsize hby hzs hsz (.slice none 0 0) 0 [] (World.ownsRow_nil _ _ _ _) a m c news hl hnews h1 h63 hbytes (Nat.le_refl _)
    rw [hr] at hr2
    simp only [Result.ok.injEq] at hr2
    obtain ⟨rfl, rfl⟩ := hr2
    exact .inr fun k hk => (ho2.lt k hk).1
  · subst hsize
    subst hby
    by_cases hroom : n + m ≤ cap
    · have hfit : n * i.size + news.length ≤ cur.size := by rw [hl, hcs, ← Nat.add_mul]; exact Nat.mul_le_mul_right _ hroom
      have hr2 := run_append_room (P := P) w t ty e i ht hi g n cap cur hg a m c news hl hnews h1 hroom hfit
      rw [hr] at hr2
      simp only [Result.ok.injEq] at hr2
      obtain ⟨rfl, rfl⟩ := hr2
      exact .inl rfl
    · have holds : ∀ j u, xs[j]? = some u → w.cell? ((⟨g, 0, none⟩ : Addr).add j) = some u := hown.cells (g := g) rfl
      have hr2 := run_append_grow (P := P) w t ty e i z ht hi hz ⟨g, 0, none⟩ n cap xs hown.1 holds a m c news hl hnews (by omega) (by unfold maxLen at h63; omega) (growslice_fits (by omega) hbytes)
      rw [hr] at hr2
      simp only [Result.ok.injEq] at hr2
      obtain ⟨rfl, rfl⟩ := hr2
      exact .inr fun k hk => by simp [Value.ownBlock] at hk; omega

theorem wpList_append_at {P : Program} {w : World} {ops : Array Oper} {rest : List Oper} {o : Oper} {a : Act} {Q : Exit → Act → World → Prop} (hgd : o.guard = none) (s x : Operand) (t : TypeId)
    (ho : o.op = .call { callee := .builtin .append, args := #[s, x], argTypes := #[t, t] })
    (base : Nat) (e : TypeId) (i : TypeInfo) (z : Value) (size bytes : Nat) (ht : P.underlying t = some (.slice e)) (hi : P.info? e = some i) (hz : i.zero = some z)
    (hsize : i.size = size) (hby : i.bytes = bytes) (hzs : z.cells.size = size) (hsz : 0 < size)
    (v : Value) (n : Nat) (xs : List Value) (hs : a.eval s = v) (hown : w.ownsRow base e size v n xs)
    (ad : Addr) (m c : Nat) (news : List Value) (hx : a.eval x = .slice (some ad) m c) (hl : news.length = m * size) (hnews : ∀ j u, news[j]? = some u → w.cell? (ad.add j) = some u) (h1 : ∀ u ∈ news, u.oneCell' = true)
    (h63 : n + m ≤ maxLen) (hbytes : (n + m) * bytes ≤ 140737488355328) (hbase : base ≤ w.heap.size)
    (h : ∀ v' w', w'.ownsRow base e size v' (n + m) (xs ++ news) → w.grownBy w' v.ownBlock → (v'.ownBlock = v.ownBlock ∨ ∀ k, v'.ownBlock = some k → w.heap.size ≤ k) → wpList P ops Q rest (a.put o.dst v') w') : wpList P ops Q (o :: rest) a w := by
  refine wpList_plain hgd fun K hK => ?_
  obtain ⟨v', w', hr, h2, h3, _⟩ := run_append_own (P := P) w base t o.type e i z size bytes ht hi hz hsize hby hzs hsz v n xs hown ad m c news hl hnews h1 h63 hbytes hbase
  have hp := append_place (P := P) w base t o.type e i z size bytes ht hi hz hsize hby hzs hsz v n xs hown ad m c news hl hnews h1 h63 hbytes v' w' hr
  unfold Oper.wp execOp
  simp only [ho, resolve, invoke, builtin, Sem.run_bind, Sem.run_pure, Result.andThen_ok, List.map_toArray, List.map_cons, List.map_nil, hs, hx, hr]
  exact hK _ _ (h v' w' h2 h3 hp)
end Go.Proofs.YtbbnkmhlgfoacaaDoor.S7

namespace Go.Proofs.YtbbnkmhlgfoacaaDoor.S7
open Go.RowKit
namespace St
theorem ans_one (m : Nat) (c : UInt8) (hc : ¬ c.toNat = 126) : (Ac.has m c.toNat = true ∧ ans m [c] = ([], true)) ∨ (Ac.has m c.toNat = false ∧ (ans m [c] = ([], false) ∨ ans m [c] = ([c], true))) := by
  cases h : Ac.has m c.toNat with
  | true => exact .inl ⟨rfl, ans_ok m [c] [] (by show step m (some ([], false)) c = _; rw [step_has m _ c h])⟩
  | false =>
    refine .inr ⟨rfl, ?_⟩
    by_cases h5 : c.toNat = 125
    · exact .inl (ans_esc m [c] [] (by show step m (some ([], false)) c = _; rw [step_7d m _ c h h5]))
    · exact .inr (ans_ok m [c] [c] (by show step m (some ([], false)) c = _; rw [step_plain m _ c h hc h5]; rfl))
end St

theorem outside_flag {w : World} {m : Nat} {wide : Bool} {D : Nat} {hv : Value} {s : Fr.DS} (h : DefAt w m wide D hv s) :
    Calls Tryd.prog 63 #[.pointer (some ⟨D, 0, none⟩), .int .u8 126] w fun e w' => e = .returned (.slice none 0 0) ∧ DefAt w' m wide D hv ⟨true, s.held, s.tal⟩ ∧ Fed w w' D hv hv := by
  have hmf : ∀ (fn : Fn) (first cap : Array Value) (w : World), (Instr.makeFunc fn first cap).run Tryd.prog w = .ok (.func fn first cap) w := fun _ _ _ _ => rfl
  have hc : w.cell? ⟨D, 2, none⟩ = some (fnV s.ins D) := h.cellAt 2 _ rfl
  have hf := h.free 2
  have H := Lib.hid h
  clear h
  go_enter Tryd.func63, Tryd.ntmps63
  go_wp2
  go_ret
  exact ⟨rfl, H.out.set 2 _ rfl H.out.own, fed_cell _ _ _ _ _⟩
theorem outside_byte (D c : Nat) (w : World) (hc : ¬ c = 126) :
    Calls Tryd.prog 63 #[.pointer (some ⟨D, 0, none⟩), .int .u8 (c : Int)] w fun e w' => e = .returned (.slice none 0 0) ∧ w' = w := by
  have i6 : ¬ (c : Int) = 126 := by omega
  go_enter Tryd.func63, Tryd.ntmps63
  go_wp2
  go_ret
  exact ⟨rfl, rfl⟩

theorem leftOut_any {w : World} {m : Nat} {wide : Bool} {D : Nat} {hv : Value} {s : Fr.DS} (h : DefAt w m wide D hv s) (c : UInt8) (hm : m < 4294967296) (hc : ¬ c.toNat = 126) :
    Calls Tryd.prog 86 #[.pointer (some ⟨D, 0, none⟩), .int .u8 (c.toNat : Int)] w fun e w' => e = .returned (.bool (Ac.has m c.toNat)) ∧ Below w.heap.size w w' := by
  have hb := h.lt
  have c0 : ∀ o, (w.alloc o).cell? ⟨D, 0, none⟩ = some (.int .u32 (m : Int)) := fun o => by rw [World.cell?_alloc_lt _ _ _ hb]; exact h.cellAt 0 _ rfl
  have hr := rowAt_built w [c] 1 #[.int .u8 (c.toNat : Int)] rfl rfl (by omega) (0, 0)
  rcases St.ans_one m c hc with ⟨hh, ha⟩ | ⟨hh, ha | ha⟩
  · have hu := unstuff_row 1 m 1 _ [c] _ rfl hm (by omega) hr _ ha 0 rfl
    rw [hh]
    clear h hr ha hh hb hc
    go_enter Tryd.func86, Tryd.ntmps86
    go_wp2_with fail
    refine hu.mono ?_
    rintro e w1 ⟨a, c1, rfl, r1, b1⟩
    go_wp2
    go_ret
    exact ⟨rfl, below_alloc b1⟩
  · have hu := unstuff_row 1 m 1 _ [c] _ rfl hm (by omega) hr _ ha 0 rfl
    rw [hh]
    clear h hr ha hh hb hc
    go_enter Tryd.func86, Tryd.ntmps86
    go_wp2_with fail
    refine hu.mono ?_
    rintro e w1 ⟨a, c1, rfl, r1, b1⟩
    go_wp2
    go_ret
    exact ⟨rfl, below_alloc b1⟩
  · have hu := unstuff_row 1 m 1 _ [c] _ rfl hm (by omega) hr _ ha 1 rfl
    rw [hh]
    clear h hr ha hh hb hc
    go_enter Tryd.func86, Tryd.ntmps86
    go_wp2_with fail
    refine hu.mono ?_
    rintro e w1 ⟨a, c1, rfl, r1, b1⟩
    go_wp2
    go_ret
    exact ⟨rfl, below_alloc b1⟩

theorem wpList_hold {w : World} {D : Nat} {ops : Array Oper} {rest : List Oper} {o : Oper} {act : Act} {Q : Exit → Act → World → Prop} (hgd : o.guard = none) (s x : Operand) (a : Option Addr) (cap : Nat) (held : List UInt8) (c : UInt8)
    (ho : o.op = .call { callee := .builtin .append, args := #[s, x], argTypes := #[28, 28] }) (hl : held.length + 1 ≤ 1000000) (hb : D < w.heap.size)
    (hs : act.eval s = .slice a held.length cap) (hx : act.eval x = .slice (some ⟨w.heap.size, 0, none⟩) 1 1) (hown : (w.alloc (.cells #[.int .u8 (c.toNat : Int)] 5)).ownsRow (D + 1) 5 1 (.slice a held.length cap) held.length (Lib.byteCells held))
    (h : ∀ v' w', w'.ownsRow (D + 1) 5 1 v' (held.length + 1) (Lib.byteCells held ++ [.int .u8 (c.toNat : Int)]) → (w.alloc (.cells #[.int .u8 (c.toNat : Int)] 5)).grownBy w' (Value.slice a held.length cap).ownBlock → (v'.ownBlock = (Value.slice a held.length cap).ownBlock ∨ ∀ k, v'.ownBlock = some k → (w.alloc (.cells #[.int .u8 (c.toNat : Int)] 5)).heap.size ≤ k) → wpList Tryd.prog ops Q rest (act.put o.dst v') w') : wpList Tryd.prog ops Q (o :: rest) act (w.alloc (.cells #[.int .u8 (c.toNat : Int)] 5)) := by
  obtain ⟨i0, hi, hz0, hz1, hz2⟩ := info_parts info5
  exact wpList_append_at hgd s x 28 ho (D + 1) 5 i0 (.int .u8 0) 1 1 Tryd.underlying28 hi hz0 hz1 hz2 rfl (by decide) _ _ _ hs hown ⟨w.heap.size, 0, none⟩ 1 1 [.int .u8 (c.toNat : Int)] hx rfl (cell_one_new _ _ _) (fun u hu => by simp at hu; subst hu; rfl) (by unfold maxLen; omega) (by omega) (by simp; omega) h

/-- Behind the byte: the deframer, with the frame so far. -/
theorem held_more_at {w w2 : World} {m : Nat} {wide : Bool} {D : Nat} {hv v2 : Value} {s : Fr.DS} {c : UInt8} {o : Obj} (h : DefAt w m wide D hv s)
    (o2 : w2.ownsRow (D + 1) 5 1 v2 (s.held.length + 1) (Lib.byteCells s.held ++ [.int .u8 (c.toNat : Int)])) (g2 : (w.alloc o).grownBy w2 hv.ownBlock) (p2 : v2.ownBlock = hv.ownBlock ∨ ∀ k, v2.ownBlock = some k → (w.alloc o).heap.size ≤ k) :
    DefAt (w2.setCell ⟨D, 3, none⟩ v2) m wide D v2 ⟨s.ins, s.held ++ [c], s.tal⟩ ∧ Fed w (w2.setCell ⟨D, 3, none⟩ v2) D hv v2 ∧ w2.heap[D]? = some (.cells (dcells m wide (fnV s.ins D) hv s.tal).toArray 124 (0, 0)) := by
  have hb := h.lt
  have hD : w2.heap[D]? = some (.cells (dcells m wide (fnV s.ins D) hv s.tal).toArray 124 (0, 0)) := by
    rw [g2.block D (by simp; omega) (fun e => h.ne e.symm), Below.heap_alloc _ _ _ hb]; exact h.blk
  refine ⟨⟨?_, ?_⟩, ⟨g2.os, g2.tape, g2.output, ?_, fun k hk hd hn => ⟨?_, ?_⟩⟩, hD⟩
  · rw [heap_setCell_same _ _ _ _ _ _ hD]; rfl
  · refine ownsRow_setCell_below ?_ (by simp) _
    rw [Lib.byteCells_append, List.length_append]; exact o2
  · have := g2.size; simp [World.setCell] at this ⊢; omega
  · rw [Below.heap_setCell _ _ _ _ hd, g2.block k (by simp; omega) (fun e => hn e.symm), Below.heap_alloc _ _ _ hk]
  · rcases p2 with p2 | p2
    · rw [p2]; exact hn
    · intro e; have := p2 k e; simp at this; omega

set_option maxHeartbeats 1000000 in
theorem hold_any {w : World} {m : Nat} {wide : Bool} {D : Nat} {hv : Value} {s : Fr.DS} (h : DefAt w m wide D hv s) (c : UInt8) (hl : s.held.length + 1 ≤ 2 * Fr.most wide) :
    Calls Tryd.prog 87 #[.pointer (some ⟨D, 0, none⟩), .int .u8 (c.toNat : Int)] w fun e w' => ∃ u hv', e = .returned u ∧ DefAt w' m wide D hv' ⟨s.ins, s.held ++ [c], s.tal⟩ ∧ Fed w w' D hv hv' := by
  have hb := h.lt
  have hml := Fr.most_le wide
  obtain ⟨a, cap, rfl⟩ := own_slice h.own
  have c3 : w.cell? ⟨D, 3, none⟩ = some (.slice a s.held.length cap) := h.cellAt 3 _ rfl
  have hown := Lib.hid (h.own.alloc (.cells #[.int .u8 (c.toNat : Int)] 5))
  have H := Lib.hid h
  clear h
  go_enter Tryd.func87, Tryd.ntmps87
  go_wp2_with (at_builtin; refine wpList_hold rfl (.tmp 10) (.tmp 12) a cap s.held c rfl (by omega) hb rfl rfl hown.out ?_; intro v2 w2 o2 g2 p2; obtain ⟨a2, k2, rfl⟩ := own_slice o2; have h2 := Lib.hid (held_more_at H.out o2 g2 p2); clear o2 g2 p2 hown; have d3 := cell_of_row w2 D 3 _ _ _ h2.out.2.2; have f3 := frozen_of_row w2 D 3 _ 124 h2.out.2.2; simp only [dcells, List.cons_append, List.getElem?_toArray, List.getElem?_cons_succ, List.getElem?_cons_zero] at d3; clear c3)
  clear d3 f3
  generalize w2.setCell ⟨D, 3, none⟩ (.slice a2 (s.held.length + 1) k2) = w3 at h2 ⊢
  have hd : DefAt w3.drew m wide D (.slice a2 (s.held.length + 1) k2) ⟨s.ins, s.held ++ [c], s.tal⟩ := h2.out.1.next (Below.refl _ _).drew
  have hfd : Fed w w3.drew D (.slice a s.held.length cap) (.slice a2 (s.held.length + 1) k2) := h2.out.2.1.trans (fed_below _ _ (Below.refl _ _).drew)
  clear h2
  have i1 : (s.held.length : Int) + 1 ≤ 2 * (Fr.most wide : Int) := by omega
  have hq := fun (W : World) (h : DefAt W m wide D (.slice a2 (s.held.length + 1) k2) ⟨s.ins, s.held ++ [c], s.tal⟩) => most_any h
  generalize Fr.most wide = q at hq i1 hml
  have i2 : (q : Int) ≤ 100000 := by omega
  have i3 : IntKind.i64.wrap (2 * (q : Int)) = 2 * (q : Int) := by rw [IntKind.wrap_i64]; omega
  refine held_start (S := fun W => DefAt W m wide D (.slice a2 (s.held.length + 1) k2) ⟨s.ins, s.held ++ [c], s.tal⟩) 9 (by kernel_rfl) rfl ?_
  generalize w3.drew = w4 at hd hfd ⊢
  refine held_take 0 (v := ?_) rfl (by kernel_rfl) (by kernel_rfl) (by kernel_rfl) (fun _ _ _ h => h) (by assumption) (by rfl) ?_ ?_
  rotate_left
  · (intro W hW; go_simp; try with_reducible rfl)
  simp only [Act.put, List.setIfInBounds_toArray, List.set_cons_zero, List.set_cons_succ]
  refine held_take 1 (v := ?_) rfl (by kernel_rfl) (by kernel_rfl) (by kernel_rfl) (fun _ _ _ h => h) (by assumption) (by rfl) ?_ ?_
  rotate_left
  · (intro W hW; go_simp; try with_reducible rfl)
  simp only [Act.put, List.setIfInBounds_toArray, List.set_cons_zero, List.set_cons_succ]
  refine held_take 2 (v := ?_) rfl (by kernel_rfl) (by kernel_rfl) (by kernel_rfl) (fun _ _ _ h => h) (by assumption) (by rfl) ?_ ?_
  rotate_left
  · (intro W hW; go_simp; try with_reducible rfl)
  simp only [Act.put, List.setIfInBounds_toArray, List.set_cons_zero, List.set_cons_succ]
  refine held_take 3 (v := ?_) rfl (by kernel_rfl) (by kernel_rfl) (by kernel_rfl) (fun _ _ _ h => h) (by assumption) (by rfl) ?_ ?_
  rotate_left
  · (intro W hW; have d3 : W.cell? ⟨D, 3, none⟩ = some (.slice a2 (s.held.length + 1) k2) := hW.cellAt 3 _ rfl; clear hW; go_simp; try with_reducible rfl)
  simp only [Act.put, List.setIfInBounds_toArray, List.set_cons_zero, List.set_cons_succ]
  refine held_take 4 (v := ?_) rfl (by kernel_rfl) (by kernel_rfl) (by kernel_rfl) (fun _ _ _ h => h) (by assumption) (by rfl) ?_ ?_
  rotate_left
  · (intro W hW; go_simp; try with_reducible rfl)
  simp only [Act.put, List.setIfInBounds_toArray, List.set_cons_zero, List.set_cons_succ]
  refine held_take 5 (v := ?_) rfl (by kernel_rfl) (by kernel_rfl) (by kernel_rfl) (fun _ _ _ h => h) (by assumption) (by rfl) ?_ ?_
  rotate_left
  · (intro W hW; go_simp; try with_reducible rfl)
  simp only [Act.put, List.setIfInBounds_toArray, List.set_cons_zero, List.set_cons_succ]
  refine held_call 6 (f := 94) (args := #[.pointer (some ⟨D, 0, none⟩)]) rfl (by kernel_rfl) (by rfl) (by go_simp) ?_
  refine (hq _ hd).mono ?_
  rintro e w5 ⟨rfl, h5⟩
  rw [h5]
  clear h5
  refine ⟨_, rfl, hd, ?_⟩
  simp only [Act.put, List.setIfInBounds_toArray, List.set_cons_zero, List.set_cons_succ]
  refine held_take 7 (v := ?_) rfl (by kernel_rfl) (by kernel_rfl) (by kernel_rfl) (fun _ _ _ h => h) (by assumption) (by rfl) ?_ ?_
  rotate_left
  · (intro W hW; go_simp; try with_reducible rfl)
  simp only [Act.put, List.setIfInBounds_toArray, List.set_cons_zero, List.set_cons_succ]
  refine held_take 8 (v := ?_) rfl (by kernel_rfl) (by kernel_rfl) (by kernel_rfl) (fun _ _ _ h => h) (by assumption) (by rfl) ?_ ?_
  rotate_left
  · (intro W hW; go_simp; try with_reducible rfl)
  simp only [Act.put, List.setIfInBounds_toArray, List.set_cons_zero, List.set_cons_succ]
  refine held_done (by kernel_rfl) ?_
  go_wp2
  exact bodyPost_ret (v := .tuple #[]) (results_none Tryd.results87 _ _ _) rfl ⟨_, _, rfl, hd, hfd⟩
end Go.Proofs.YtbbnkmhlgfoacaaDoor.S7

namespace Go.Proofs.YtbbnkmhlgfoacaaDoor.S7
open Go.RowKit

theorem dopen_good {w : World} {m : Nat} {wide : Bool} {D : Nat} {hv : Value} {s : Fr.DS} (h : DefAt w m wide D hv s) (a : Option Addr) (n cap : Nat) (xs : List UInt8) (hn : xs.length = n) (hl : n ≤ 100000) (hr : RowAt w a cap xs) (hT : s.tal.le 1000000) (hg : Fc.good xs wide = true) :
    Calls Tryd.prog 95 #[.pointer (some ⟨D, 0, none⟩), .slice a n cap] w fun e w' => ∃ v, e = .returned v ∧ w'.ownsRow w.heap.size 5 1 v (n - Fc.size wide) (Lib.byteCells (xs.take (n - Fc.size wide))) ∧ DefAt w' m wide D hv ⟨s.ins, s.held, Fr.count s.tal 1⟩ ∧ Fed w w' D hv hv := by
  have hc1 : w.cell? ⟨D, 1, none⟩ = some (.bool wide) := h.cellAt 1 _ rfl
  have hb := h.lt
  have ho := open_good a n cap xs wide w hn hl hr hg
  have i5 : (s.tal.good : Int) ≤ 1000000 := by have := hT.1; omega
  have H := Lib.hid h
  clear h hr hg hT
  go_enter Tryd.func95, Tryd.ntmps95
  go_wp2_with fail
  refine ho.mono ?_
  rintro e w1 ⟨v, rfl, o1, b1⟩
  have h1 := Lib.hid (H.out.next b1)
  have c5 : w1.cell? ⟨D, 5, none⟩ = some (.int .i64 (s.tal.good : Int)) := h1.out.cellAt 5 _ rfl
  have f5 := h1.out.free 5
  obtain ⟨p, c, rfl⟩ := own_slice o1
  have O1 := Lib.hid o1
  have B1 := Lib.hid b1
  clear o1 ho hc1 b1
  go_wp2
  go_ret
  exact ⟨_, rfl, ownsRow_setCell_below O1.out hb _, h1.out.set 5 _ rfl h1.out.own, (fed_below D hv B1.out).trans (fed_cell _ _ _ _ _)⟩
theorem dopen_bad {w : World} {m : Nat} {wide : Bool} {D : Nat} {hv : Value} {s : Fr.DS} (h : DefAt w m wide D hv s) (a : Option Addr) (n cap : Nat) (xs : List UInt8) (hn : xs.length = n) (hl : n ≤ 100000) (hr : RowAt w a cap xs) (hT : s.tal.le 1000000) (hg : Fc.good xs wide = false) :
    Calls Tryd.prog 95 #[.pointer (some ⟨D, 0, none⟩), .slice a n cap] w fun e w' => e = .returned (.slice none 0 0) ∧ DefAt w' m wide D hv ⟨s.ins, s.held, Fr.count s.tal 5⟩ ∧ Fed w w' D hv hv := by
  have hc1 : w.cell? ⟨D, 1, none⟩ = some (.bool wide) := h.cellAt 1 _ rfl
  have ho := open_bad a n cap xs wide w hn hl hr hg
  have i5 : (s.tal.wrong : Int) ≤ 1000000 := by have := hT.2.2.2.2; omega
  have H := Lib.hid h
  clear h hr hg hT
  go_enter Tryd.func95, Tryd.ntmps95
  go_wp2_with fail
  refine ho.mono ?_
  rintro e w1 ⟨rfl, b1⟩
  have h1 := Lib.hid (H.out.next b1)
  have c9 : w1.cell? ⟨D, 9, none⟩ = some (.int .i64 (s.tal.wrong : Int)) := h1.out.cellAt 9 _ rfl
  have f9 := h1.out.free 9
  have B1 := Lib.hid b1
  clear ho hc1 b1
  go_wp2
  go_ret
  exact ⟨rfl, h1.out.set 9 _ rfl h1.out.own, (fed_below D hv B1.out).trans (fed_cell _ _ _ _ _)⟩

/-- What a byte, or a frame's end, leaves: the body that is answered, in new memory; the deframer. -/
def NextAt (w w' : World) (e : Ending) (m : Nat) (wide : Bool) (D : Nat) (hv : Value) (s' : Fr.DS) (body : List UInt8) : Prop :=
  ∃ hv' p c, e = .returned (.slice p body.length c) ∧ RowAt w' p c body ∧ (∀ ad, p = some ad → w.heap.size ≤ ad.block ∧ ad.block < w'.heap.size ∧ hv'.ownBlock ≠ some ad.block) ∧ DefAt w' m wide D hv' s' ∧ Fed w w' D hv hv'
theorem nextAt_none {w w' : World} {m : Nat} {wide : Bool} {D : Nat} {hv hv' : Value} {s' : Fr.DS} {body : List UInt8} (hb : body = []) (h : DefAt w' m wide D hv' s') (f : Fed w w' D hv hv') : NextAt w w' (.returned (.slice none 0 0)) m wide D hv s' body := by
  subst hb
  exact ⟨hv', none, 0, rfl, rowAt_nil _, (fun _ e => by cases e), h, f⟩

namespace Fr
theorem judge_aborted (wide : Bool) (A : List UInt8 × Bool) (h : A.2 = false) : judge wide A = 2 := if_pos h
theorem judge_zero (wide : Bool) (A : List UInt8 × Bool) (h : A.2 = true) (h0 : A.1.length = 0) : judge wide A = 0 := by unfold judge; rw [if_neg (by rw [h]; decide), if_pos h0]
theorem judge_short (wide : Bool) (A : List UInt8 × Bool) (h : A.2 = true) (h0 : ¬ A.1.length = 0) (h1 : A.1.length < Fc.size wide + 2) : judge wide A = 3 := by unfold judge; rw [if_neg (by rw [h]; decide), if_neg h0, if_pos h1]
theorem judge_long (wide : Bool) (A : List UInt8 × Bool) (h : A.2 = true) (h0 : ¬ A.1.length = 0) (h1 : ¬ A.1.length < Fc.size wide + 2) (h2 : most wide < A.1.length) : judge wide A = 4 := by unfold judge; rw [if_neg (by rw [h]; decide), if_neg h0, if_neg h1, if_pos h2]
theorem judge_one (wide : Bool) (A : List UInt8 × Bool) (h : A.2 = true) (h0 : ¬ A.1.length = 0) (h1 : ¬ A.1.length < Fc.size wide + 2) (h2 : ¬ most wide < A.1.length) (hg : Fc.good A.1 wide = true) : judge wide A = 1 := by unfold judge; rw [if_neg (by rw [h]; decide), if_neg h0, if_neg h1, if_neg h2, if_pos hg]
theorem judge_wrong (wide : Bool) (A : List UInt8 × Bool) (h : A.2 = true) (h0 : ¬ A.1.length = 0) (h1 : ¬ A.1.length < Fc.size wide + 2) (h2 : ¬ most wide < A.1.length) (hg : Fc.good A.1 wide = false) : judge wide A = 5 := by unfold judge; rw [if_neg (by rw [h]; decide), if_neg h0, if_neg h1, if_neg h2, if_neg (by rw [hg]; decide)]
theorem body_not (wide : Bool) (A : List UInt8 × Bool) (h : judge wide A ≠ 1) : bodyOf wide A = [] := if_neg h
theorem body_good (wide : Bool) (A : List UInt8 × Bool) (h : judge wide A = 1) : bodyOf wide A = A.1.take (A.1.length - Fc.size wide) := if_pos h
end Fr

set_option maxRecDepth 10000 in
set_option maxHeartbeats 2000000 in
theorem end_any {w : World} {m : Nat} {wide : Bool} {D : Nat} {hv : Value} {s : Fr.DS} (h : DefAt w m wide D hv s) (hm : m < 4294967296) (hl : s.held.length ≤ 2 * Fr.most wide) (hT : s.tal.le 1000000) :
    Calls Tryd.prog 85 #[.pointer (some ⟨D, 0, none⟩)] w fun e w' => NextAt w w' e m wide D hv ⟨s.ins, [], Fr.count s.tal (Fr.judge wide (St.ans m s.held))⟩ (Fr.bodyOf wide (St.ans m s.held)) := by
  have hml := Fr.most_le wide
  have hmd : Fr.most wide = Fc.size wide + 65535 := rfl
  have hs2 := Fr.size_two wide
  have hAl := St.ans_len m s.held
  have hu := fun (W : World) (a : Option Addr) (cap : Nat) (h : RowAt W a cap s.held) => unstuff_own cap m s.held.length a s.held W rfl hm (by omega) h.bytes
  generalize St.ans m s.held = A at hu hAl ⊢
  obtain ⟨Y, ok⟩ := A
  simp only at hu hAl
  obtain ⟨y, hy⟩ : ∃ y, Y.length = y := ⟨_, rfl⟩
  rw [hy] at hAl
  simp only [hy] at hu
  have Hy := Lib.hid hy
  have Hu := Lib.hid hu
  have HT := Lib.hid hT
  clear hu hy hT
  obtain ⟨a, cap, rfl⟩ := own_slice h.own
  have hb := h.lt
  have hd : DefAt w.drew m wide D (.slice a s.held.length cap) s := h.next (Below.refl _ _).drew
  have hfd : Fed w w.drew D (.slice a s.held.length cap) (.slice a s.held.length cap) := fed_below _ _ (Below.refl _ _).drew
  have hsz0 : w.drew.heap.size = w.heap.size := rfl
  clear h
  go_enter Tryd.func85, Tryd.ntmps85
  go_wp2_with fail
  refine held_start (S := fun W => DefAt W m wide D (.slice a s.held.length cap) s) 14 (by kernel_rfl) rfl ?_
  generalize w.drew = w1 at hd hfd hsz0 ⊢
  refine held_take 0 (v := ?_) rfl (by kernel_rfl) (by kernel_rfl) (by kernel_rfl) (fun _ _ _ h => h) (by assumption) (by rfl) ?_ ?_
  rotate_left
  · (intro W hW; go_simp; try with_reducible rfl)
  simp only [Act.put, List.setIfInBounds_toArray, List.set_cons_zero, List.set_cons_succ]
  refine held_take 1 (v := ?_) rfl (by kernel_rfl) (by kernel_rfl) (by kernel_rfl) (fun _ _ _ h => h) (by assumption) (by rfl) ?_ ?_
  rotate_left
  · (intro W hW; go_simp; try with_reducible rfl)
  simp only [Act.put, List.setIfInBounds_toArray, List.set_cons_zero, List.set_cons_succ]
  refine held_take 2 (v := ?_) rfl (by kernel_rfl) (by kernel_rfl) (by kernel_rfl) (fun _ _ _ h => h) (by assumption) (by rfl) ?_ ?_
  rotate_left
  · (intro W hW; go_simp; try with_reducible rfl)
  simp only [Act.put, List.setIfInBounds_toArray, List.set_cons_zero, List.set_cons_succ]
  refine held_take 3 (v := ?_) rfl (by kernel_rfl) (by kernel_rfl) (by kernel_rfl) (fun _ _ _ h => h) (by assumption) (by rfl) ?_ ?_
  rotate_left
  · (intro W hW; have d3 : W.cell? ⟨D, 3, none⟩ = some (.slice a s.held.length cap) := hW.cellAt 3 _ rfl; clear hW; go_simp; try with_reducible rfl)
  simp only [Act.put, List.setIfInBounds_toArray, List.set_cons_zero, List.set_cons_succ]
  refine held_take 4 (v := ?_) rfl (by kernel_rfl) (by kernel_rfl) (by kernel_rfl) (fun _ _ _ h => h) (by assumption) (by rfl) ?_ ?_
  rotate_left
  · (intro W hW; go_simp; try with_reducible rfl)
  simp only [Act.put, List.setIfInBounds_toArray, List.set_cons_zero, List.set_cons_succ]
  refine held_take 5 (v := ?_) rfl (by kernel_rfl) (by kernel_rfl) (by kernel_rfl) (fun _ _ _ h => h) (by assumption) (by rfl) ?_ ?_
  rotate_left
  · (intro W hW; go_simp; try with_reducible rfl)
  simp only [Act.put, List.setIfInBounds_toArray, List.set_cons_zero, List.set_cons_succ]
  refine held_take 6 (v := ?_) rfl (by kernel_rfl) (by kernel_rfl) (by kernel_rfl) (fun _ _ _ h => h) (by assumption) (by rfl) ?_ ?_
  rotate_left
  · (intro W hW; go_simp; try with_reducible rfl)
  simp only [Act.put, List.setIfInBounds_toArray, List.set_cons_zero, List.set_cons_succ]
  refine held_take 7 (v := ?_) rfl (by kernel_rfl) (by kernel_rfl) (by kernel_rfl) (fun _ _ _ h => h) (by assumption) (by rfl) ?_ ?_
  rotate_left
  · (intro W hW; have d0 : W.cell? ⟨D, 0, none⟩ = some (.int .u32 (m : Int)) := hW.cellAt 0 _ rfl; clear hW; go_simp; try with_reducible rfl)
  simp only [Act.put, List.setIfInBounds_toArray, List.set_cons_zero, List.set_cons_succ]
  refine held_call 8 (f := 93) (args := #[.slice a s.held.length cap, .int .u32 (m : Int)]) rfl (by kernel_rfl) (by rfl) (by go_simp) ?_
  obtain ⟨a', cap', he, hrow⟩ := rowAt_own rfl hd.own
  simp only [Value.slice.injEq, true_and] at he
  obtain ⟨rfl, rfl⟩ := he
  refine (Hu.out _ _ _ hrow).mono ?_
  rintro e w2 ⟨v2, rfl, o2, b2⟩
  obtain ⟨a2, c2, rfl⟩ := own_slice o2
  replace hd := hd.next b2
  replace hfd := hfd.trans (fed_below _ _ b2)
  have O2 := Lib.hid o2
  have hs12 := b2.size
  clear b2 o2 hrow
  refine ⟨_, rfl, hd, ?_⟩
  simp only [Act.put, List.setIfInBounds_toArray, List.set_cons_zero, List.set_cons_succ]
  refine held_take 9 (v := ?_) rfl (by kernel_rfl) (by kernel_rfl) (by kernel_rfl) (fun _ _ _ h => h) (by assumption) (by rfl) ?_ ?_
  rotate_left
  · (intro W hW; go_simp; try with_reducible rfl)
  simp only [Act.put, List.setIfInBounds_toArray, List.set_cons_zero, List.set_cons_succ]
  refine held_take 10 (v := ?_) rfl (by kernel_rfl) (by kernel_rfl) (by kernel_rfl) (fun _ _ _ h => h) (by assumption) (by rfl) ?_ ?_
  rotate_left
  · (intro W hW; go_simp; try with_reducible rfl)
  simp only [Act.put, List.setIfInBounds_toArray, List.set_cons_zero, List.set_cons_succ]
  refine held_take 11 (v := ?_) rfl (by kernel_rfl) (by kernel_rfl) (by kernel_rfl) (fun _ _ _ h => h) (by assumption) (by rfl) ?_ ?_
  rotate_left
  · (intro W hW; go_simp; try with_reducible rfl)
  simp only [Act.put, List.setIfInBounds_toArray, List.set_cons_zero, List.set_cons_succ]
  refine held_take 12 (v := ?_) rfl (by kernel_rfl) (by kernel_rfl) (by kernel_rfl) (fun _ _ _ h => h) (by assumption) (by rfl) ?_ ?_
  rotate_left
  · (intro W hW; go_simp; try with_reducible rfl)
  simp only [Act.put, List.setIfInBounds_toArray, List.set_cons_zero, List.set_cons_succ]
  refine held_take 13 (v := ?_) rfl (by kernel_rfl) (by kernel_rfl) (by kernel_rfl) (fun _ _ _ h => h) (by assumption) (by rfl) ?_ ?_
  rotate_left
  · (intro W hW; go_simp; try with_reducible rfl)
  simp only [Act.put, List.setIfInBounds_toArray, List.set_cons_zero, List.set_cons_succ]
  refine held_done (by kernel_rfl) ?_
  have h3 : DefAt (w2.setCell ⟨D, 3, none⟩ (.slice none 0 0)) m wide D (.slice none 0 0) ⟨s.ins, [], s.tal⟩ := hd.set 3 _ rfl (World.ownsRow_nil _ _ _ _)
  have h4 : DefAt ((w2.setCell ⟨D, 3, none⟩ (.slice none 0 0)).setCell ⟨D, 4, none⟩ (.int .i64 0)) m wide D (.slice none 0 0) ⟨s.ins, [], s.tal⟩ := h3.set 4 _ rfl (World.ownsRow_nil _ _ _ _)
  have f4 : Fed w ((w2.setCell ⟨D, 3, none⟩ (.slice none 0 0)).setCell ⟨D, 4, none⟩ (.int .i64 0)) D (.slice a s.held.length cap) (.slice none 0 0) := ((hfd.trans (fed_cell _ _ _ _ _)).trans (fed_cell _ _ _ _ _)).drop
  have o4 := ownsRow_setCell_below (ownsRow_setCell_below O2.out (a := ⟨D, 3, none⟩) (by show D < _; omega) (.slice none 0 0)) (a := ⟨D, 4, none⟩) (by show D < _; omega) (.int .i64 0)
  obtain ⟨a', c', he, hrow4⟩ := rowAt_own Hy.out o4
  simp only [Value.slice.injEq, true_and] at he
  obtain ⟨rfl, rfl⟩ := he
  have H4 := Lib.hid h4
  have F4 := Lib.hid f4
  have R4 := Lib.hid hrow4
  have d3 : w2.cell? ⟨D, 3, none⟩ = some (.slice a s.held.length cap) := hd.cellAt 3 _ rfl
  have d4 : w2.cell? ⟨D, 4, none⟩ = some (.int .i64 0) := hd.cellAt 4 _ rfl
  have e3 := hd.free 3
  have e4 := hd.free 4
  have e4' := h3.free 4
  have d4' : (w2.setCell ⟨D, 3, none⟩ (.slice none 0 0)).cell? ⟨D, 4, none⟩ = some (.int .i64 0) := h3.cellAt 4 _ rfl
  clear h3 h4 f4 o4 hrow4 O2 Hu hfd
  have hy5 : (y : Int) ≤ 200000 := by omega
  cases ok with
  | false =>
    have i6 : (s.tal.aborted : Int) ≤ 1000000 := by have := HT.out.2.1; omega
    have d6 : ((w2.setCell ⟨D, 3, none⟩ (.slice none 0 0)).setCell ⟨D, 4, none⟩ (.int .i64 0)).cell? ⟨D, 6, none⟩ = some (.int .i64 (s.tal.aborted : Int)) := H4.out.cellAt 6 _ rfl
    have e6 := H4.out.free 6
    clear hd
    go_wp2
    go_ret
    exact nextAt_none (Fr.body_not _ _ (by rw [Fr.judge_aborted _ _ rfl]; decide)) (by rw [Fr.judge_aborted _ _ rfl]; exact H4.out.set 6 _ rfl H4.out.own) (F4.out.trans (fed_cell _ _ _ _ _))
  | true =>
    have d1 : ((w2.setCell ⟨D, 3, none⟩ (.slice none 0 0)).setCell ⟨D, 4, none⟩ (.int .i64 0)).cell? ⟨D, 1, none⟩ = some (.bool wide) := H4.out.cellAt 1 _ rfl
    have hsz := fun w => size_any wide w
    have hmo := Lib.hid (most_any H4.out)
    have Hmd := Lib.hid hmd
    clear hmd hd
    by_cases hy0 : y = 0
    · have i0 : (y : Int) = 0 := by omega
      have hj := Fr.judge_zero wide (Y, true) rfl (by rw [← hy0]; exact Hy.out)
      have Hj := Lib.hid hj
      clear hj hy0
      go_wp2
      go_ret
      exact nextAt_none (Fr.body_not _ _ (by rw [Hj.out]; decide)) (by rw [Hj.out]; exact H4.out) F4.out
    · have i0 : ¬ (y : Int) = 0 := by omega
      have hn0 : ¬ (Y, true).1.length = 0 := by show ¬ Y.length = 0; rw [Hy.out]; exact hy0
      by_cases h1 : y < Fc.size wide + 2
      · have hj := Fr.judge_short wide (Y, true) rfl hn0 (by show Y.length < _; rw [Hy.out]; exact h1)
        have i1 : (y : Int) < (Fc.size wide : Int) + 2 := by omega
        have i7 : (s.tal.short : Int) ≤ 1000000 := by have := HT.out.2.2.1; omega
        have d7 : ((w2.setCell ⟨D, 3, none⟩ (.slice none 0 0)).setCell ⟨D, 4, none⟩ (.int .i64 0)).cell? ⟨D, 7, none⟩ = some (.int .i64 (s.tal.short : Int)) := H4.out.cellAt 7 _ rfl
        have e7 := H4.out.free 7
        have Hj := Lib.hid hj
        clear hj hn0 hy0
        go_wp2_with (go_at_call 91; refine (hsz _).mono ?_; rintro e w' ⟨rfl, h⟩; rw [h]; clear h)
        go_ret
        exact nextAt_none (Fr.body_not _ _ (by rw [Hj.out]; decide)) (by rw [Hj.out]; exact H4.out.set 7 _ rfl H4.out.own) (F4.out.trans (fed_cell _ _ _ _ _))
      · have hn1 : ¬ (Y, true).1.length < Fc.size wide + 2 := by show ¬ Y.length < _; rw [Hy.out]; exact h1
        have i1 : ¬ (y : Int) < (Fc.size wide : Int) + 2 := by omega
        by_cases h2 : Fr.most wide < y
        · have hj := Fr.judge_long wide (Y, true) rfl hn0 hn1 (by show _ < Y.length; rw [Hy.out]; exact h2)
          have i2 : (Fr.most wide : Int) < (y : Int) := by omega
          have i8 : (s.tal.long : Int) ≤ 1000000 := by have := HT.out.2.2.2.1; omega
          have d8 : ((w2.setCell ⟨D, 3, none⟩ (.slice none 0 0)).setCell ⟨D, 4, none⟩ (.int .i64 0)).cell? ⟨D, 8, none⟩ = some (.int .i64 (s.tal.long : Int)) := H4.out.cellAt 8 _ rfl
          have e8 := H4.out.free 8
          have Hj := Lib.hid hj
          clear hj hn0 hn1 hy0 h1
          go_wp2_with (first | (go_at_call 91; refine (hsz _).mono ?_; rintro e w' ⟨rfl, h⟩; rw [h]; clear h) | (go_at_call 94; refine hmo.out.mono ?_; rintro e w' ⟨rfl, h⟩; rw [h]; clear h))
          go_ret
          exact nextAt_none (Fr.body_not _ _ (by rw [Hj.out]; decide)) (by rw [Hj.out]; exact H4.out.set 8 _ rfl H4.out.own) (F4.out.trans (fed_cell _ _ _ _ _))
        · have hn2 : ¬ Fr.most wide < (Y, true).1.length := by show ¬ _ < Y.length; rw [Hy.out]; exact h2
          have i2 : ¬ (Fr.most wide : Int) < (y : Int) := by omega
          have hd1 := fun hg => dopen_good H4.out a2 y c2 Y Hy.out (by omega) R4.out HT.out hg
          have hd2 := fun hg => dopen_bad H4.out a2 y c2 Y Hy.out (by omega) R4.out HT.out hg
          cases hg : Fc.good Y wide with
          | true =>
            have hj := Fr.judge_one wide (Y, true) rfl hn0 hn1 hn2 hg
            have hd3 := Lib.hid (hd1 hg)
            have Hj := Lib.hid hj
            clear hj hn0 hn1 hn2 hy0 h1 h2 hd1 hd2 hg
            go_wp2_with (first | (go_at_call 91; refine (hsz _).mono ?_; rintro e w' ⟨rfl, h⟩; rw [h]; clear h) | (go_at_call 94; refine hmo.out.mono ?_; rintro e w' ⟨rfl, h⟩; rw [h]; clear h) | (go_at_call 95; refine hd3.out.mono ?_; rintro e w5 ⟨v5, rfl, o5, h5, f5⟩; have O5 := Lib.hid o5; have H5 := Lib.hid h5; have F5 := Lib.hid f5; clear o5 h5 f5))
            go_ret
            rw [Fr.body_good _ _ Hj.out, Hj.out]
            have hbl : ((Y, true).1.take ((Y, true).1.length - Fc.size wide)).length = y - Fc.size wide := by
              show (Y.take (Y.length - Fc.size wide)).length = _
              rw [List.length_take, Hy.out]; omega
            have o6 := O5.out
            rw [show Y.take (y - Fc.size wide) = (Y, true).1.take ((Y, true).1.length - Fc.size wide) by show _ = Y.take (Y.length - _); rw [Hy.out]] at o6
            obtain ⟨p, c, rfl, r6⟩ := rowAt_own hbl o6
            refine ⟨_, p, c, by rw [hbl]; rfl, r6, fun ad he => ?_, H5.out, F4.out.trans F5.out⟩
            have h6 := o6.lt ad.block (by rw [he]; rfl)
            have h7 := F4.out.size
            exact ⟨by omega, h6.2, by simp [Value.ownBlock]⟩
          | false =>
            have hj := Fr.judge_wrong wide (Y, true) rfl hn0 hn1 hn2 hg
            have hd3 := Lib.hid (hd2 hg)
            have Hj := Lib.hid hj
            clear hj hn0 hn1 hn2 hy0 h1 h2 hd1 hd2 hg
            go_wp2_with (first | (go_at_call 91; refine (hsz _).mono ?_; rintro e w' ⟨rfl, h⟩; rw [h]; clear h) | (go_at_call 94; refine hmo.out.mono ?_; rintro e w' ⟨rfl, h⟩; rw [h]; clear h) | (go_at_call 95; refine hd3.out.mono ?_; rintro e w5 ⟨rfl, h5, f5⟩; have H5 := Lib.hid h5; have F5 := Lib.hid f5; clear h5 f5))
            go_ret
            exact nextAt_none (Fr.body_not _ _ (by rw [Hj.out]; decide)) (by rw [Hj.out]; exact H5.out) (F4.out.trans F5.out)
end Go.Proofs.YtbbnkmhlgfoacaaDoor.S7

namespace Go.Proofs.YtbbnkmhlgfoacaaDoor.S7
open Go.RowKit

theorem within_flag {w : World} {m : Nat} {wide : Bool} {D : Nat} {hv : Value} {s : Fr.DS} (h : DefAt w m wide D hv s) (hm : m < 4294967296) (hl : s.held.length ≤ 2 * Fr.most wide) (hT : s.tal.le 1000000) :
    Calls Tryd.prog 76 #[.pointer (some ⟨D, 0, none⟩), .int .u8 126] w fun e w' => NextAt w w' e m wide D hv ⟨s.ins, [], Fr.count s.tal (Fr.judge wide (St.ans m s.held))⟩ (Fr.bodyOf wide (St.ans m s.held)) := by
  have he := Lib.hid (end_any h hm hl hT)
  clear h hT
  generalize Fr.bodyOf wide (St.ans m s.held) = B at he ⊢
  generalize Fr.count s.tal (Fr.judge wide (St.ans m s.held)) = T at he ⊢
  go_enter Tryd.func76, Tryd.ntmps76
  go_wp2_with fail
  refine he.out.mono ?_
  rintro e w1 ⟨hv', p, c, rfl, h1⟩
  go_wp2
  go_ret
  exact ⟨hv', p, c, rfl, h1⟩
theorem within_left {w : World} {m : Nat} {wide : Bool} {D : Nat} {hv : Value} {s : Fr.DS} (h : DefAt w m wide D hv s) (c : UInt8) (hm : m < 4294967296) (hc : ¬ c.toNat = 126) (hh : Ac.has m c.toNat = true) :
    Calls Tryd.prog 76 #[.pointer (some ⟨D, 0, none⟩), .int .u8 (c.toNat : Int)] w fun e w' => NextAt w w' e m wide D hv s [] := by
  have hl := leftOut_any h c hm hc
  rw [hh] at hl
  have i6 : ¬ (c.toNat : Int) = 126 := by omega
  have H := Lib.hid h
  clear h hc hh
  go_enter Tryd.func76, Tryd.ntmps76
  go_wp2_with fail
  refine hl.mono ?_
  rintro e w1 ⟨rfl, b1⟩
  go_wp2
  go_ret
  exact nextAt_none rfl (H.out.next b1) (fed_below _ _ b1)
theorem within_byte {w : World} {m : Nat} {wide : Bool} {D : Nat} {hv : Value} {s : Fr.DS} (h : DefAt w m wide D hv s) (c : UInt8) (hm : m < 4294967296) (hc : ¬ c.toNat = 126) (hh : Ac.has m c.toNat = false) (hl : s.held.length + 1 ≤ 2 * Fr.most wide) :
    Calls Tryd.prog 76 #[.pointer (some ⟨D, 0, none⟩), .int .u8 (c.toNat : Int)] w fun e w' => NextAt w w' e m wide D hv ⟨s.ins, s.held ++ [c], s.tal⟩ [] := by
  have h49 := leftOut_any h c hm hc
  rw [hh] at h49
  have i6 : ¬ (c.toNat : Int) = 126 := by omega
  have H := Lib.hid h
  have hh2 := Lib.hid (fun (W : World) (b : Below w.heap.size w W) => hold_any (h.next b) c hl)
  clear h hc hh hl
  go_enter Tryd.func76, Tryd.ntmps76
  go_wp2_with fail
  refine h49.mono ?_
  rintro e w1 ⟨rfl, b1⟩
  go_wp2_with fail
  refine (hh2.out w1 b1).mono ?_
  rintro e w2 ⟨u, hv', rfl, h2, f2⟩
  have H2 := Lib.hid h2
  have F2 := Lib.hid ((fed_below D hv b1).trans f2)
  clear h2 f2 b1
  go_wp2
  go_ret
  exact nextAt_none rfl H2.out F2.out

namespace Fr
theorem next_out_flag (m : Nat) (wide : Bool) (h : List UInt8) (t : Tal) (c : UInt8) (hc : c.toNat = 126) : next m wide ⟨false, h, t⟩ c = ⟨true, h, t⟩ ∧ out m wide ⟨false, h, t⟩ c = [] := by simp [next, out, hc]
theorem next_out_byte (m : Nat) (wide : Bool) (h : List UInt8) (t : Tal) (c : UInt8) (hc : ¬ c.toNat = 126) : next m wide ⟨false, h, t⟩ c = ⟨false, h, t⟩ ∧ out m wide ⟨false, h, t⟩ c = [] := by simp [next, out, hc]
theorem next_in_flag (m : Nat) (wide : Bool) (h : List UInt8) (t : Tal) (c : UInt8) (hc : c.toNat = 126) : next m wide ⟨true, h, t⟩ c = ⟨true, [], count t (judge wide (St.ans m h))⟩ ∧ out m wide ⟨true, h, t⟩ c = bodyOf wide (St.ans m h) := by simp [next, out, hc]
theorem next_in_left (m : Nat) (wide : Bool) (h : List UInt8) (t : Tal) (c : UInt8) (hc : ¬ c.toNat = 126) (hh : Ac.has m c.toNat = true) : next m wide ⟨true, h, t⟩ c = ⟨true, h, t⟩ ∧ out m wide ⟨true, h, t⟩ c = [] := by simp [next, out, hc, hh]
theorem next_in_byte (m : Nat) (wide : Bool) (h : List UInt8) (t : Tal) (c : UInt8) (hc : ¬ c.toNat = 126) (hh : Ac.has m c.toNat = false) : next m wide ⟨true, h, t⟩ c = ⟨true, h ++ [c], t⟩ ∧ out m wide ⟨true, h, t⟩ c = [] := by simp [next, out, hc, hh]
end Fr

/-- The next byte, taken by what is kept for it. -/
theorem next_any {w : World} {m : Nat} {wide : Bool} {D : Nat} {hv : Value} {s : Fr.DS} (h : DefAt w m wide D hv s) (c : UInt8) (hm : m < 4294967296) (hl : s.held.length ≤ 2 * Fr.most wide) (hl2 : (Fr.next m wide s c).held.length ≤ 2 * Fr.most wide) (hT : s.tal.le 1000000) :
    Calls Tryd.prog (if s.ins = true then 76 else 63) #[.pointer (some ⟨D, 0, none⟩), .int .u8 (c.toNat : Int)] w fun e w' => NextAt w w' e m wide D hv (Fr.next m wide s c) (Fr.out m wide s c) := by
  obtain ⟨i, hh, t⟩ := s
  cases i with
  | false =>
    by_cases hc : c.toNat = 126
    · have hn := Fr.next_out_flag m wide hh t c hc
      rw [hn.1, hn.2, hc]
      refine (outside_flag h).mono ?_
      rintro e w1 ⟨rfl, h1, f1⟩
      exact nextAt_none rfl h1 f1
    · have hn := Fr.next_out_byte m wide hh t c hc
      rw [hn.1, hn.2]
      refine (outside_byte D c.toNat w hc).mono ?_
      rintro e w1 ⟨rfl, rfl⟩
      exact nextAt_none rfl h (Fed.refl _ _ _)
  | true =>
    by_cases hc : c.toNat = 126
    · have hn := Fr.next_in_flag m wide hh t c hc
      rw [hn.1, hn.2, hc]
      exact within_flag h hm hl hT
    · cases hx : Ac.has m c.toNat with
      | true =>
        have hn := Fr.next_in_left m wide hh t c hc hx
        rw [hn.1, hn.2]
        exact within_left h c hm hc hx
      | false =>
        have hn := Fr.next_in_byte m wide hh t c hc hx
        rw [hn.1] at hl2
        rw [hn.1, hn.2]
        exact within_byte h c hm hc hx (by simpa using hl2)
end Go.Proofs.YtbbnkmhlgfoacaaDoor.S7

namespace Go.Proofs.YtbbnkmhlgfoacaaDoor.S7
open Go.RowKit

theorem info26 : (Tryd.prog.info? 28).map (fun i => (i.zero, i.size, i.bytes)) = some (some (.slice none 0 0), 1, 24) := by kernel_rfl
/-- A slice that is not written stays. -/
theorem RowAt.kept {w w' : World} {a : Option Addr} {c : Nat} {xs : List UInt8} {row : Option Nat} (h : RowAt w a c xs) (hg : w.grownBy w' row) (hr : ∀ ad, a = some ad → row ≠ some ad.block) : RowAt w' a c xs :=
  ⟨h.le, h.max, h.nil, fun ad e j u hu => by
    have h1 := h.cell ad e j u hu
    have hb : (ad.add j).block = ad.block := by unfold Addr.add; split <;> rfl
    have hlt := World.block_lt_of_cell? w _ h1
    rw [World.cell?_of_block (w := w) (hg.block (ad.add j).block hlt (fun e2 => hr ad e (by rw [← hb]; exact e2.symm ▸ rfl)))]; exact h1⟩
theorem RowAt.fed {w w' : World} {D : Nat} {hv hv' : Value} {a : Option Addr} {c : Nat} {xs : List UInt8} (h : RowAt w a c xs) (hf : Fed w w' D hv hv') (hr : xs = [] ∨ ∀ ad, a = some ad → ad.block ≠ D ∧ hv.ownBlock ≠ some ad.block) : RowAt w' a c xs :=
  ⟨h.le, h.max, h.nil, fun ad e j u hu => by
    rcases hr with rfl | hr
    · simp [Lib.byteCells] at hu
    have h1 := h.cell ad e j u hu
    have hb : (ad.add j).block = ad.block := by unfold Addr.add; split <;> rfl
    have hlt := World.block_lt_of_cell? w _ h1
    have h2 := hr ad e
    rw [← hb] at h2
    rw [World.cell?_of_block (w := w) (hf.away (ad.add j).block hlt h2.1 h2.2).1]; exact h1⟩

theorem RowAt.lt {w : World} {a : Option Addr} {c : Nat} {xs : List UInt8} (h : RowAt w a c xs) : xs = [] ∨ ∀ ad, a = some ad → ad.block < w.heap.size := by
  rcases h.bytes with h0 | ⟨b, off, rfl, hb, _⟩
  · exact .inl h0
  · exact .inr fun ad e => by cases e; exact hb

/-- Bodies that were answered: the list, and each of them, in memory from B on, none of it the deframer's. -/
def Outs (w : World) (B : Nat) (hv v : Value) (L : List (List UInt8)) : Prop :=
  ∃ vs : List Value, w.ownsRow B 28 1 v L.length vs ∧ (∀ g, v.ownBlock = some g → hv.ownBlock ≠ some g) ∧
    ∀ j (h : j < L.length), ∃ p c, vs[j]? = some (.slice p L[j].length c) ∧ RowAt w p c L[j] ∧ ∀ ad, p = some ad → B ≤ ad.block ∧ ad.block < w.heap.size ∧ hv.ownBlock ≠ some ad.block ∧ v.ownBlock ≠ some ad.block
theorem outs_none (w : World) (B : Nat) (hv : Value) : Outs w B hv (.slice none 0 0) [] := ⟨[], World.ownsRow_nil _ _ _ _, (fun _ e => by cases e), (fun _ h => by simp at h)⟩
theorem Outs.fed {w w' : World} {B D : Nat} {hv hv' v : Value} {L : List (List UInt8)} (h : Outs w B hv v L) (hD : D < B) (hf : Fed w w' D hv hv') : Outs w' B hv' v L := by
  obtain ⟨vs, ho, hoff, he⟩ := h
  refine ⟨vs, ?_, fun g hg => ?_, fun j hj => ?_⟩
  · refine ⟨ho.1, ?_⟩
    rcases ho.2 with h2 | ⟨g, cap, cur, rfl, hb, hg, hr⟩
    · exact .inl h2
    · refine .inr ⟨g, cap, cur, rfl, hb, ?_, hr⟩
      rw [(hf.away g (lt_of_block hg) (by omega) (hoff g rfl)).1]; exact hg
  · have h1 := ho.lt g hg
    exact (hf.away g h1.2 (by omega) (hoff g hg)).2
  · obtain ⟨p, c, h1, h2, h3⟩ := he j hj
    refine ⟨p, c, h1, h2.fed hf (.inr fun ad e => ⟨by have := h3 ad e; omega, (h3 ad e).2.2.1⟩), fun ad e => ?_⟩
    have h4 := h3 ad e
    exact ⟨h4.1, Nat.lt_of_lt_of_le h4.2.1 hf.size, (hf.away _ h4.2.1 (by omega) h4.2.2.1).2, h4.2.2.2⟩
/-- What is appended to such a list. -/
def Items (w : World) (B : Nat) (hv v x : Value) (M : List (List UInt8)) : Prop :=
  ∃ (p : Option Addr) (c : Nat) (ms : List Value), x = .slice p M.length c ∧ (p = none → M = [] ∧ c = 0) ∧ ms.length = M.length ∧ (∀ ad, p = some ad → ∀ j u, ms[j]? = some u → w.cell? (ad.add j) = some u) ∧
    ∀ j (h : j < M.length), ∃ p' c', ms[j]? = some (.slice p' M[j].length c') ∧ RowAt w p' c' M[j] ∧ ∀ ad, p' = some ad → B ≤ ad.block ∧ ad.block < w.heap.size ∧ hv.ownBlock ≠ some ad.block ∧ v.ownBlock ≠ some ad.block
theorem DefAt.grown {w w' : World} {m : Nat} {wide : Bool} {D : Nat} {hv : Value} {s : Fr.DS} {row : Option Nat} (h : DefAt w m wide D hv s) (hg : w.grownBy w' row) (h1 : row ≠ some D) (h2 : ∀ k, row = some k → hv.ownBlock ≠ some k) : DefAt w' m wide D hv s := by
  refine ⟨by rw [hg.block D h.lt (fun e => h1 e.symm)]; exact h.blk, h.own.kept hg ?_⟩
  cases hv2 : hv.ownBlock with
  | none => exact .inl rfl
  | some k => exact .inr fun e => h2 k e.symm hv2

theorem outs_append {w w' : World} {B : Nat} {hv v v' : Value} {L M : List (List UInt8)} {vs ms : List Value}
    (hoff : ∀ g, v.ownBlock = some g → hv.ownBlock ≠ some g) (hl : vs.length = L.length)
    (he : ∀ j (h : j < L.length), ∃ p c, vs[j]? = some (.slice p L[j].length c) ∧ RowAt w p c L[j] ∧ ∀ ad, p = some ad → B ≤ ad.block ∧ ad.block < w.heap.size ∧ hv.ownBlock ≠ some ad.block ∧ v.ownBlock ≠ some ad.block)
    (hm : ∀ j (h : j < M.length), ∃ p c, ms[j]? = some (.slice p M[j].length c) ∧ RowAt w p c M[j] ∧ ∀ ad, p = some ad → B ≤ ad.block ∧ ad.block < w.heap.size ∧ hv.ownBlock ≠ some ad.block ∧ v.ownBlock ≠ some ad.block)
    (hh : ∀ k, hv.ownBlock = some k → k < w.heap.size)
    (o2 : w'.ownsRow B 28 1 v' (L.length + M.length) (vs ++ ms)) (g2 : w.grownBy w' v.ownBlock) (p2 : v'.ownBlock = v.ownBlock ∨ ∀ k, v'.ownBlock = some k → w.heap.size ≤ k) : Outs w' B hv v' (L ++ M) := by
  have key : ∀ (p : Option Addr) (c : Nat) (b : List UInt8), RowAt w p c b → (∀ ad, p = some ad → B ≤ ad.block ∧ ad.block < w.heap.size ∧ hv.ownBlock ≠ some ad.block ∧ v.ownBlock ≠ some ad.block) →
      RowAt w' p c b ∧ ∀ ad, p = some ad → B ≤ ad.block ∧ ad.block < w'.heap.size ∧ hv.ownBlock ≠ some ad.block ∧ v'.ownBlock ≠ some ad.block := by
    intro p c b hr h3
    refine ⟨hr.kept g2 (fun ad e => (h3 ad e).2.2.2), fun ad e => ?_⟩
    have h4 := h3 ad e
    refine ⟨h4.1, Nat.lt_of_lt_of_le h4.2.1 g2.size, h4.2.2.1, ?_⟩
    rcases p2 with p2 | p2
    · rw [p2]; exact h4.2.2.2
    · intro e2; have := p2 _ e2; omega
  refine ⟨vs ++ ms, by rw [List.length_append]; exact o2, fun g hg => ?_, fun j hj => ?_⟩
  · rcases p2 with p2 | p2
    · exact hoff g (by rw [← p2]; exact hg)
    · intro e; have h1 := hh g e; have h2 := p2 g hg; omega
  · by_cases hjl : j < L.length
    · obtain ⟨p, c, h1, h2, h3⟩ := he j hjl
      have := key p c _ h2 h3
      exact ⟨p, c, by rw [List.getElem?_append_left (by omega), h1, List.getElem_append_left hjl], by rw [List.getElem_append_left hjl]; exact this.1, this.2⟩
    · have hj2 : j - L.length < M.length := by rw [List.length_append] at hj; omega
      obtain ⟨p, c, h1, h2, h3⟩ := hm (j - L.length) hj2
      have := key p c _ h2 h3
      refine ⟨p, c, ?_, ?_, this.2⟩
      · rw [List.getElem?_append_right (by omega), hl, h1, List.getElem_append_right (by omega)]
      · rw [List.getElem_append_right (by omega)]; exact this.1
theorem wpList_append_outs {w : World} {ops : Array Oper} {rest : List Oper} {o : Oper} {a : Act} {Q : Exit → Act → World → Prop} (hgd : o.guard = none) (s x : Operand)
    (ho : o.op = .call { callee := .builtin .append, args := #[s, x], argTypes := #[95, 95] })
    (B : Nat) (hv v xv : Value) (L M : List (List UInt8)) (hs : a.eval s = v) (hx : a.eval x = xv) (hout : Outs w B hv v L) (hit : Items w B hv v xv M)
    {m : Nat} {wide : Bool} {D : Nat} {st : Fr.DS} (hdef : DefAt w m wide D hv st) (hD : D < B) (hB : B ≤ w.heap.size) (hlen : L.length + M.length ≤ 1000000)
    (h : ∀ v' w', Outs w' B hv v' (L ++ M) → DefAt w' m wide D hv st → w.grownBy w' v.ownBlock → (∀ k, v.ownBlock = some k → B ≤ k) → wpList Tryd.prog ops Q rest (a.put o.dst v') w') : wpList Tryd.prog ops Q (o :: rest) a w := by
  obtain ⟨i0, hi, hz0, hz1, hz2⟩ := info_parts info26
  have hout' := hout
  obtain ⟨vs, hown, hoff, he⟩ := hout'
  obtain ⟨p, c, ms, rfl, hn, hml, hc, hm⟩ := hit
  have hvb : ∀ k, v.ownBlock = some k → B ≤ k := fun k hk => (hown.lt k hk).1
  cases p with
  | none =>
    obtain ⟨rfl, rfl⟩ := hn rfl
    exact wpList_append_own_none hgd s x 95 ho B 28 i0 1 Tryd.underlying95 hi v _ _ hs hown hx (h v w (by rw [List.append_nil]; exact hout) hdef ⟨rfl, rfl, rfl, Nat.le_refl _, fun _ _ _ => rfl⟩ hvb)
  | some ad =>
    have hone : ∀ u ∈ ms, u.oneCell' = true := by
      intro u hu
      obtain ⟨j, hj, rfl⟩ := List.getElem_of_mem hu
      obtain ⟨p', c', h1, _, _⟩ := hm j (by omega)
      rw [List.getElem?_eq_getElem hj] at h1
      simp only [Option.some.injEq] at h1
      rw [h1]; rfl
    refine wpList_append_at hgd s x 95 ho B 28 i0 (.slice none 0 0) 1 24 Tryd.underlying95 hi hz0 hz1 hz2 rfl (by decide) v L.length vs hs hown ad M.length c ms hx (by rw [hml, Nat.mul_one]) (hc ad rfl) hone (by unfold maxLen; omega) (by omega) hB ?_
    intro v' w' o2 g2 p2
    refine h v' w' (outs_append hoff (by rw [hown.1, Nat.mul_one]) he hm (fun k hk => (hdef.own.lt k hk).2) o2 g2 p2) (hdef.grown g2 (fun e => by have := hvb D e; omega) hoff) g2 hvb

/-- What Feed leaves: the bodies that are answered, in new memory; the deframer. -/
def FeedAt (w w' : World) (e : Ending) (m : Nat) (wide : Bool) (D : Nat) (hv : Value) (s' : Fr.DS) (L : List (List UInt8)) : Prop :=
  ∃ hv' v, e = .returned v ∧ Outs w' w.heap.size hv' v L ∧ DefAt w' m wide D hv' s' ∧ Fed w w' D hv hv'
/-- One body, as it is appended. -/
theorem items_one {w : World} {B : Nat} {hv v : Value} {p : Option Addr} {c n : Nat} {body : List UInt8} (hn : body.length = n) (hr : RowAt w p c body) (hp : ∀ ad, p = some ad → B ≤ ad.block ∧ ad.block < w.heap.size ∧ hv.ownBlock ≠ some ad.block ∧ v.ownBlock ≠ some ad.block) :
    Items (w.alloc (.cells #[.slice p n c] 28)) B hv v (.slice (some ⟨w.heap.size, 0, none⟩) 1 1) [body] := by
  subst hn
  refine ⟨some ⟨w.heap.size, 0, none⟩, 1, [.slice p body.length c], rfl, (fun e => by cases e), rfl, fun ad e j u hu => ?_, fun j hj => ?_⟩
  · cases e
    exact cell_one_new _ _ _ j u hu
  · have : j = 0 := by simpa using hj
    subst this
    exact ⟨p, c, rfl, hr.next ((Below.refl _ _).alloc (Nat.le_refl _) _), fun ad e => ⟨(hp ad e).1, by have := (hp ad e).2.1; simp; omega, (hp ad e).2.2⟩⟩
theorem Outs.alloc {w : World} {B : Nat} {hv v : Value} {L : List (List UInt8)} {D : Nat} (h : Outs w B hv v L) (hD : D < B) (o : Obj) : Outs (w.alloc o) B hv v L := h.fed hD (fed_below D hv ((Below.refl _ _).alloc (Nat.le_refl _) o))
theorem outs_slice {w : World} {B : Nat} {hv v : Value} {L : List (List UInt8)} (h : Outs w B hv v L) : ∃ a c, v = .slice a L.length c := by
  obtain ⟨vs, ho, _⟩ := h
  rcases ho.2 with ⟨rfl, h0⟩ | ⟨g, cap, cur, rfl, _⟩
  · exact ⟨none, 0, by rw [h0]⟩
  · exact ⟨_, cap, rfl⟩
theorem Outs.lt {w : World} {B : Nat} {hv v : Value} {L : List (List UInt8)} (h : Outs w B hv v L) (k : Nat) (hk : v.ownBlock = some k) : B ≤ k ∧ k < w.heap.size := by
  obtain ⟨vs, ho, _⟩ := h
  exact ho.lt k hk
theorem Fed.grown {w w1 w2 : World} {D : Nat} {hv hv' : Value} {row : Option Nat} (h : Fed w w1 D hv hv') (hg : w1.grownBy w2 row) (hr : ∀ k, row = some k → w.heap.size ≤ k) : Fed w w2 D hv hv' :=
  ⟨hg.os.trans h.os, hg.tape.trans h.tape, hg.output.trans h.output, Nat.le_trans h.size hg.size, fun k hk hd hn => by
    have h1 := h.away k hk hd hn
    exact ⟨by rw [hg.block k (Nat.lt_of_lt_of_le hk h.size) (fun e => by have := hr k e.symm; omega)]; exact h1.1, h1.2⟩⟩

theorem call_next (b : Bool) (args : Array Value) (w : World) : (callFunc (if b = true then 76 else 63) args).run Tryd.prog w = .ok (.enter (if b = true then 76 else 63) args) w := by
  cases b
  · kernel_rfl
  · kernel_rfl
set_option maxRecDepth 10000 in
set_option maxHeartbeats 2000000 in
theorem feed_any {w : World} {m : Nat} {wide : Bool} {D : Nat} {hv : Value} {s : Fr.DS} (h : DefAt w m wide D hv s) (a : Option Addr) (n cap : Nat) (xs : List UInt8) (hn : xs.length = n) (hl : n ≤ 400000) (hr : RowAt w a cap xs) (hm : m < 4294967296)
    (hsafe : Fr.safe m wide s xs) (hT : s.tal.le 500000) (hoff : xs = [] ∨ ∀ ad, a = some ad → ad.block ≠ D ∧ hv.ownBlock ≠ some ad.block) :
    Calls Tryd.prog 45 #[.pointer (some ⟨D, 0, none⟩), .slice a n cap] w fun e w' => FeedAt w w' e m wide D hv (Fr.run m wide s xs) (Fr.all m wide s xs) := by
  have Hn := Lib.hid hn
  have Hr := Lib.hid hr
  have Hs := Lib.hid hsafe
  have HT := Lib.hid hT
  have Ho := Lib.hid hoff
  have hD := h.lt
  have H := Lib.hid h
  clear hn hr hsafe hT hoff h
  have hl' : (n : Int) ≤ 400000 := by omega
  go_enter Tryd.func45, Tryd.ntmps45
  go_wp2
  go_loopw [5, 11] (fun v i wr => ∃ (k : Nat) (hvk : Value), k ≤ n ∧ i = .int .i64 (k : Int) ∧ Outs wr w.heap.size hvk v (Fr.all m wide s (xs.take k)) ∧ DefAt wr m wide D hvk (Fr.run m wide s (xs.take k)) ∧ Fed w wr D hv hvk) (fun _ i _ => n - (intOf i).toNat)
  case atStart => exact ⟨0, hv, Nat.zero_le _, rfl, outs_none _ _ _, H.out, Fed.refl _ _ _⟩
  case round =>
    obtain ⟨k, hvk, hk, rfl, ho, hd, hf⟩ := hrel
    by_cases hlt : (k : Int) < (n : Int)
    · have hk' : k < xs.length := by rw [Hn.out]; omega
      rcases (Hr.out.fed hf Ho.out).bytes with h0 | ⟨b, off, rfl, hb, hc⟩
      · rw [h0] at hk'; simp at hk'
      · have hcell := hc k hk'
        have hra := Fr.run_take m wide s xs k hk'
        have hal := Fr.all_take m wide s xs k hk'
        have hs1 := Fr.safe_take m wide s xs k Hs.out
        have hs2 := Fr.safe_take m wide s xs (k + 1) Hs.out
        rw [hra] at hs2
        have hle := Fr.run_le m wide (xs.take k) s _ HT.out
        have hall := Fr.all_len m wide (xs.take k) s
        rw [List.length_take] at hle hall
        clear hc
        obtain ⟨x, hxk⟩ : ∃ x, x = xs[k] := ⟨_, rfl⟩
        rw [← hxk] at hcell hra hal hs2
        clear hxk hk'
        generalize Fr.run m wide s (xs.take k) = st at hd hra hal hs1 hs2 hle
        generalize Fr.all m wide s (xs.take k) = L at ho hal hall
        have hnx := Lib.hid (next_any hd x hm hs1 hs2 (hle.mono (by omega)))
        have d2 : wr.cell? ⟨D, 2, none⟩ = some (fnV st.ins D) := hd.cellAt 2 _ rfl
        generalize Fr.next m wide st x = st2 at hra hs2 hnx
        generalize Fr.out m wide st x = body at hal hnx
        have Hra := Lib.hid hra
        have Hal := Lib.hid hal
        obtain ⟨av, cv, rfl⟩ := outs_slice ho
        have HO := Lib.hid ho
        clear hra hal hs1 hs2 hle hd ho
        unfold fnV at d2
        have hcf := call_next st.ins
        generalize (if st.ins = true then 76 else 63) = f at d2 hnx hcf
        have hsw := hf.size
        go_wp2_with fail
        refine hnx.out.mono ?_
        rintro e w1 ⟨hv1, p1, c1, rfl, r1, off1, h1, f1⟩
        have O1 := Lib.hid (HO.out.fed hD f1)
        have H1 := Lib.hid h1
        have F1 := Lib.hid (hf.trans f1)
        have hv0 := HO.out.lt
        clear d2 hcell h1 hnx HO
        by_cases hbd : body = []
        · have hal : Fr.all m wide s (xs.take (k + 1)) = L := by rw [Hal.out, hbd, Fr.outs_nil, List.append_nil]
          have Hal2 := Lib.hid hal
          have hbl : body.length = 0 := by rw [hbd]; rfl
          rw [hbl]
          clear hal r1 off1 hbl hbd
          go_wp2
          go_roundw
          case rel => exact ⟨k + 1, hv1, by omega, by go_num, by rw [Hal2.out]; exact O1.out, by rw [Hra.out]; exact H1.out, F1.out⟩
          case measure => simp [intOf]; omega
        · have hal : Fr.all m wide s (xs.take (k + 1)) = L ++ [body] := by rw [Hal.out, Fr.outs_some body hbd]
          have Hal2 := Lib.hid hal
          obtain ⟨q, hq⟩ : ∃ q, body.length = q := ⟨_, rfl⟩
          have hq0 : (0 : Int) < (q : Int) := by
            have : body.length ≠ 0 := fun e => hbd (List.eq_nil_of_length_eq_zero e)
            omega
          rw [hq]
          have hit := Lib.hid (items_one (B := w.heap.size) (hv := hv1) (v := .slice av L.length cv) hq r1 (fun ad e => ⟨by have := (off1 ad e).1; omega, (off1 ad e).2.1, (off1 ad e).2.2, fun e2 => by have := (hv0 _ e2).2; have := (off1 ad e).1; omega⟩))
          have hsz1 := f1.size
          have hllen : L.length + 1 ≤ 1000000 := by omega
          clear hal r1 off1 hbd hq
          go_wp2_with (at_builtin; refine wpList_append_outs rfl (.tmp 24) (.tmp 26) rfl w.heap.size hv1 (.slice av L.length cv) _ L [body] rfl rfl (O1.out.alloc hD _) hit.out (H1.out.next ((Below.refl _ _).alloc (Nat.le_refl _) _)) hD (by simp; omega) hllen ?_; intro v2 w2 o2 h2 g2 b2; have O2 := Lib.hid o2; have H2 := Lib.hid h2; have F2 := Lib.hid ((F1.out.trans (fed_below _ _ ((Below.refl _ _).alloc (Nat.le_refl _) _))).grown g2 b2); clear o2 h2 g2 b2)
          go_roundw
          case rel => exact ⟨k + 1, hv1, by omega, by go_num, by rw [Hal2.out]; exact O2.out, by rw [Hra.out]; exact H2.out, F2.out⟩
          case measure => simp [intOf]; omega
    · have hks : xs.take k = xs := List.take_of_length_le (by rw [Hn.out]; omega)
      rw [hks] at ho hd
      have HO := Lib.hid ho
      have Hd := Lib.hid hd
      clear ho hd hks
      go_wp2
      go_ret
      exact ⟨hvk, _, rfl, HO.out, Hd.out, hf⟩
end Go.Proofs.YtbbnkmhlgfoacaaDoor.S7

namespace Go.Proofs.YtbbnkmhlgfoacaaDoor.S7
open Go.RowKit

/-- Two results, the second one in a cell. -/
theorem results_tmp_cell {P : Program} {fn : Func} {q p : Tmp} {ty : TypeId} (h : fn.results = #[.tmp q, .cell p ty]) (tmps : Array Value) (w : World) (g : Nat) (t : TypeId) (cs : Array Value) (fr : Nat × Nat) (d : TypeDesc)
    (hp : tmps.getD p undef = .pointer (some ⟨g, 0, none⟩)) (hg : w.heap[g]? = some (.cells cs t fr))
    (hu : P.underlying ty = some d) (hd : (match d with | .struct _ | .array _ _ => true | _ => false) = true) (hi : (P.info? ty).map (·.size) = some cs.size) :
    (results fn tmps).run P w = .ok (.tuple #[tmps.getD q undef, .agg cs]) w := by
  have hp' : tmps[p]?.getD undef = .pointer (some ⟨g, 0, none⟩) := by simpa using hp
  simp [results, h, hp', asAddr, run_loadVar_row w g t ty cs fr d hg hu hd hi]
theorem tcells_one (t : Fr.Tal) : (tcells t).toArray.all (·.oneCell') = true := by rw [List.all_toArray]; simp [tcells, Value.oneCell']
theorem wpList_store_tally {ops : Array Oper} {rest : List Oper} {o : Oper} {a : Act} {w : World} {Q : Exit → Act → World → Prop} (hgd : o.guard = none) (x y : Operand) (ho : o.op = .store 122 x y) (R : Nat) (t : Fr.Tal) (cur : Array Value)
    (hx : a.eval x = .pointer (some ⟨R, 0, none⟩)) (hy : a.eval y = .agg (tcells t).toArray) (hR : w.heap[R]? = some (.cells cur 122 (0, 0))) (hcur : cur.size = 5)
    (h : wpList Tryd.prog ops Q rest (a.put o.dst undef) (w.setRow R (tcells t).toArray)) : wpList Tryd.prog ops Q (o :: rest) a w :=
  wpList_store_row hgd 122 x y ho R _ hx hy 122 cur hR info40 hcur (tcells_one t) h
theorem fed_row (a : World) (R : Nat) (u : Value) (cs : Array Value) : Fed a (a.setRow R cs) R u u :=
  ⟨rfl, rfl, rfl, by rw [setRow_size]; exact Nat.le_refl _, fun k _ hd hn => ⟨setRow_other _ _ _ _ hd, hn⟩⟩
theorem Outs.parts {w : World} {B : Nat} {hv v : Value} {L : List (List UInt8)} (h : Outs w B hv v L) : ∃ a c, v = .slice a L.length c ∧ PartsAt w a L := by
  obtain ⟨vs, ho, _, he⟩ := h
  rcases ho.2 with ⟨rfl, h0⟩ | ⟨g, cap, cur, rfl, hb, hg, _⟩
  · exact ⟨none, 0, by rw [h0], .inl (List.eq_nil_of_length_eq_zero h0)⟩
  · refine ⟨_, cap, rfl, .inr ⟨g, 0, rfl, lt_of_block hg, fun j hj => ?_⟩⟩
    obtain ⟨p, c, h1, h2, _⟩ := he j hj
    refine ⟨p, c, ?_, h2⟩
    have h3 := ho.cells (g := g) rfl j _ h1
    rw [Go.WideShapes.add_plain] at h3
    exact h3

/-- What All yields. -/
def AllAt (w w' : World) (e : Ending) (L : List (List UInt8)) (t : Fr.Tal) : Prop :=
  ∃ p c, e = .returned (.tuple #[.slice p L.length c, .agg (tcells t).toArray]) ∧ PartsAt w' p L ∧ Below w.heap.size w w'

theorem PartsAt.at {w : World} {a : Option Addr} {L : List (List UInt8)} (h : PartsAt w a L) (k : Nat) (hk : k < L.length) : ∃ b off p c, a = some ⟨b, off, none⟩ ∧ w.cell? ⟨b, off + k, none⟩ = some (.slice p L[k].length c) ∧ RowAt w p c L[k] := by
  rcases h with rfl | ⟨b, off, rfl, h1, h2⟩
  · simp at hk
  · obtain ⟨p, c, h3, h4⟩ := h2 k hk
    exact ⟨b, off, p, c, rfl, h3, h4⟩
theorem take_eq_step (L M : List (List UInt8)) (k : Nat) (h1 : k < L.length) (h2 : k < M.length) (h : L.take k = M.take k) : L.take (k + 1) = M.take (k + 1) ↔ L[k] = M[k] := by
  rw [List.take_succ_eq_append_getElem h1, List.take_succ_eq_append_getElem h2, h, List.append_cancel_left_eq]
  simp

end Go.Proofs.YtbbnkmhlgfoacaaDoor.S7

namespace Go.Proofs.YtbbnkmhlgfoacaaDoor.S7
open Go.RowKit
namespace Fr
/-- What Row answers. -/
def rowOf (m : Nat) (wide : Bool) (L : List (List UInt8)) : List UInt8 × Nat := if err L = 0 then (126 :: frs m wide L, 0) else ([], err L)
theorem frs_len (m : Nat) (wide : Bool) (L : List (List UInt8)) : (frs m wide L).length ≤ 2 * L.flatten.length + 9 * L.length := by
  induction L with
  | nil => simp [frs]
  | cons b L ih =>
    have h1 := fr_length m wide b
    have h2 := size_two wide
    simp only [frs, List.flatMap_cons, List.flatten_cons, List.length_append, List.length_cons] at ih ⊢
    omega
theorem rowOf_ok (m : Nat) (wide : Bool) (L : List (List UInt8)) (h : err L = 0) : rowOf m wide L = (126 :: frs m wide L, 0) := if_pos h
theorem rowOf_bad (m : Nat) (wide : Bool) (L : List (List UInt8)) (h : err L ≠ 0) : rowOf m wide L = ([], err L) := if_neg h
theorem fault_short (b : List UInt8) (h : b.length < 2) : fault b = 1 := if_pos h
theorem fault_long (b : List UInt8) (h : ¬ b.length < 2) (h2 : 65535 < b.length) : fault b = 4 := by unfold fault; rw [if_neg h, if_pos h2]
theorem fault_none (b : List UInt8) (h : ¬ b.length < 2) (h2 : ¬ 65535 < b.length) : fault b = 0 := by unfold fault; rw [if_neg h, if_neg h2]
/-- As Few counts them. -/
def cnt (L : List (List UInt8)) : Nat := (L.map fun b => min b.length 100000).sum
theorem cnt_take (L : List (List UInt8)) (k : Nat) (h : k < L.length) : cnt (L.take (k + 1)) = cnt (L.take k) + min L[k].length 100000 := by
  unfold cnt
  rw [List.take_succ_eq_append_getElem h, List.map_append, List.sum_append]; simp
theorem cnt_le (L : List (List UInt8)) : cnt L ≤ 100000 * L.length := by
  induction L with
  | nil => simp [cnt]
  | cons b L ih => simp only [cnt, List.map_cons, List.sum_cons, List.length_cons] at ih ⊢; omega
theorem cnt_flat (L : List (List UInt8)) (h : cnt L ≤ 70000) : L.flatten.length ≤ 70000 := by
  have key : ∀ L : List (List UInt8), cnt L ≤ 70000 → L.flatten.length = cnt L := by
    intro L
    induction L with
    | nil => intro _; rfl
    | cons b L ih =>
      intro h
      simp only [cnt, List.map_cons, List.sum_cons, List.flatten_cons, List.length_append] at ih h ⊢
      have := ih (by omega)
      omega
  rw [key L h]; exact h
end Fr

theorem fault_any (a : Option Addr) (n cap : Nat) (xs : List UInt8) (w : World) (hn : xs.length = n) : Calls Tryd.prog 67 #[.slice a n cap] w fun e w' => e = .returned (.int .i64 (Fr.fault xs : Nat)) ∧ w' = w := by
  by_cases h1 : xs.length < 2
  · rw [Fr.fault_short xs h1]
    have i1 : (n : Int) < 2 := by omega
    clear h1 hn
    go_enter Tryd.func67, Tryd.ntmps67
    go_wp2
    go_ret
    exact ⟨rfl, rfl⟩
  · by_cases h2 : 65535 < xs.length
    · rw [Fr.fault_long xs h1 h2]
      have i1 : ¬ (n : Int) < 2 := by omega
      have i2 : 65535 < (n : Int) := by omega
      clear h1 h2 hn
      go_enter Tryd.func67, Tryd.ntmps67
      go_wp2
      go_ret
      exact ⟨rfl, rfl⟩
    · rw [Fr.fault_none xs h1 h2]
      have i1 : ¬ (n : Int) < 2 := by omega
      have i2 : ¬ 65535 < (n : Int) := by omega
      clear h1 h2 hn
      go_enter Tryd.func67, Tryd.ntmps67
      go_wp2
      go_ret
      exact ⟨rfl, rfl⟩

/-- What Row yields. -/
def RowRes (w w' : World) (e : Ending) (A : List UInt8 × Nat) : Prop :=
  ∃ v, e = .returned (.tuple #[v, .int .i64 (A.2 : Nat)]) ∧ w'.ownsRow w.heap.size 5 1 v A.1.length (Lib.byteCells A.1) ∧ Below w.heap.size w w'
theorem Fr.fault_le (b : List UInt8) : Fr.fault b ≤ 4 := by
  unfold Fr.fault
  split
  · omega
  · split <;> omega

set_option maxRecDepth 10000 in
set_option maxHeartbeats 2000000 in
theorem row_any (m : Nat) (wide : Bool) (a : Option Addr) (cap n : Nat) (L : List (List UInt8)) (w : World) (hn : L.length = n) (hm : m < 4294967296) (h100 : n ≤ 100) (hfl : L.flatten.length ≤ 100000) (h : PartsAt w a L) :
    Calls Tryd.prog 54 #[.slice a n cap, .int .u32 (m : Int), .bool wide] w fun e w' => RowRes w w' e (Fr.rowOf m wide L) := by
  obtain ⟨i0, hi, hz0, hz1, hz2⟩ := info_parts info5
  have Hn := Lib.hid hn
  have H := Lib.hid h
  have Hfl := Lib.hid hfl
  clear hn h hfl
  have h100' : (n : Int) ≤ 100 := by omega
  go_enter Tryd.func54, Tryd.ntmps54
  go_wp2
  go_loopw [8, 15] (fun v i wr => ∃ k : Nat, k ≤ n ∧ i = .int .i64 (k : Int) ∧ Hid (Fr.err (L.take k) = 0) ∧ wr.ownsRow w.heap.size 5 1 v (126 :: Fr.frs m wide (L.take k)).length (Lib.byteCells (126 :: Fr.frs m wide (L.take k))) ∧ Below w.heap.size w wr) (fun _ i _ => n - (intOf i).toNat)
  case atStart => exact ⟨0, Nat.zero_le _, rfl, rfl, owns_built w _ 5 _ (Nat.le_refl _), (Below.refl _ _).alloc (Nat.le_refl _) _⟩
  case round =>
    obtain ⟨k, hk, rfl, He, hown, hbw⟩ := hrel
    by_cases hlt : (k : Int) < (n : Int)
    · have hk' : k < L.length := by rw [Hn.out]; omega
      obtain ⟨b, off, p, c, rfl, hcell, hrow⟩ := PartsAt.at (H.out.next hbw) k hk'
      have het := Fr.err_take L k hk' He.out
      have hft := Fr.frs_take m wide L k hk'
      have hln := Fr.frs_len m wide (L.take k)
      have hf1 := flat_le L k
      have hf2 := flat_le L (k + 1)
      rw [flat_step L k hk', List.length_append] at hf2
      have hf3 := Hfl.out
      rw [List.length_take] at hln
      obtain ⟨x, hx⟩ : ∃ x, x = L[k] := ⟨_, rfl⟩
      rw [← hx] at hcell hrow het hft hf2
      clear hx hk'
      obtain ⟨F, hF⟩ : ∃ F, F = Fr.frs m wide (L.take k) := ⟨_, rfl⟩
      rw [← hF] at hown hft hln
      clear hF
      have hFl : F.length ≤ 300000 := by omega
      have hft2 : 126 :: Fr.frs m wide (L.take (k + 1)) = (126 :: F) ++ Fr.fr m wide x := by rw [hft]; rfl
      obtain ⟨G, hG⟩ : ∃ G, G = 126 :: F := ⟨_, rfl⟩
      obtain ⟨lg, hlg⟩ : ∃ lg, G.length = lg := ⟨_, rfl⟩
      have hL3 : lg ≤ 300001 := by rw [← hlg, hG]; simp; omega
      rw [← hG] at hown hft2
      rw [hlg] at hown
      clear hG hft
      have hxl : x.length ≤ 100000 := by omega
      obtain ⟨q, hq⟩ : ∃ q, x.length = q := ⟨_, rfl⟩
      rw [hq] at hcell
      have hfa := fault_any p q c x wr hq
      by_cases hz : Fr.fault x = 0
      · rw [hz] at hfa
        have hz2' := (Fr.fault_zero x).1 hz
        have hse := fun (W : World) (h : RowAt W p c x) => seal_row p q c x wide W hq (by omega) h
        have hsl := Fc.sealed_length x wide
        obtain ⟨y, hy⟩ : ∃ y, (Fc.sealed x wide).length = y := ⟨_, rfl⟩
        obtain ⟨z, hz'⟩ : ∃ z, (St.stuff m (Fc.sealed x wide)).length = z := ⟨_, rfl⟩
        have hst := fun (W : World) (p' : Option Addr) (c' : Nat) (h : RowAt W p' c' (Fc.sealed x wide)) => stuff_row c' m y z p' (Fc.sealed x wide) W hy hm (by have := Fr.size_two wide; omega) h hz'
        have hstl := (St.stuff_le m (Fc.sealed x wide)).2
        have hsz := Fr.size_two wide
        rw [hy] at hse hsl hstl
        rw [hz'] at hstl
        rw [Fr.fr] at hft2
        generalize St.stuff m (Fc.sealed x wide) = Z at hft2 hst hz'
        generalize Fc.sealed x wide = Y at hse hst hy
        have hZl : z ≤ 300000 := by omega
        have Hz' := Lib.hid hz'
        have Hse := Lib.hid hse
        have Hst := Lib.hid hst
        have Hft := Lib.hid hft2
        have Het := Lib.hid (het.trans hz)
        have Hrow := Lib.hid hrow
        have Hfa := Lib.hid hfa
        have Hown := Lib.hid hown
        obtain ⟨av, cv, rfl⟩ := own_slice hown
        clear hse hst hft2 het hrow hfa hown hz hz2' hstl hsl hsz hln hf1 hf2 hf3 hxl hz' hy
        go_wp2_with fail
        refine Hfa.out.mono ?_
        rintro e w1 ⟨rfl, h1⟩
        rw [h1]
        clear h1 Hfa
        go_wp2_with fail
        refine (Hse.out _ Hrow.out).mono ?_
        rintro e w2 ⟨p2, c2, rfl, r2, b2⟩
        go_wp2_with fail
        refine (Hst.out _ _ _ r2).mono ?_
        rintro e w3 ⟨p3, c3, rfl, r3, b3⟩
        have o3 := Lib.hid (ownsRow_next (ownsRow_next Hown.out b2) b3)
        have b03 := Lib.hid (hbw.trans ((Below.chain b2 b3).mono hbw.size))
        have R3 := Lib.hid r3
        have hs3 := b03.out.size
        clear r2 r3 b2 b3 Hown Hse Hst
        go_wp2_with (first
          | (at_builtin; refine wpList_append_row rfl (.tmp 24) (.tmp 29) rfl w.heap.size _ _ _ rfl o3.out p3 z c3 Z rfl Hz'.out R3.out (by omega) hs3 ?_; intro v4 w4 o4 g4; have b4 := Lib.hid (Below.grown b03.out g4 hs3 (fun j hj => (o3.out.lt j hj).1)); have hs4 := b4.out.size; have O4 := Lib.hid o4; clear g4 o4)
          | (at_builtin; refine wpList_append_own _ rfl _ _ 28 rfl w.heap.size 5 i0 (.int .u8 0) 1 1 Tryd.underlying28 hi hz0 hz1 hz2 rfl (by decide) _ _ _ rfl (O4.out.alloc _) ⟨w4.heap.size, 0, none⟩ 1 1 [.int .u8 126] rfl rfl (cell_one_new _ _ _) (fun u hu => by simp at hu; subst hu; rfl) (by unfold maxLen; omega) (by omega) (by simp; omega) ?_; intro v5 w5 o5 g5 _))
        have b5 : Below w.heap.size w w5 := Below.grown (b4.out.alloc hs4 _) g5 (by simp; omega) (fun j hj => (O4.out.lt j hj).1)
        have o6 : w5.ownsRow w.heap.size 5 1 v5 (126 :: Fr.frs m wide (L.take (k + 1))).length (Lib.byteCells (126 :: Fr.frs m wide (L.take (k + 1)))) := by
          rw [Hft.out, ← List.append_assoc, List.length_append, List.length_append, hlg, Hz'.out, Lib.byteCells_append, Lib.byteCells_append]; exact o5
        go_roundw
        case rel => exact ⟨k + 1, by omega, by go_num, Het.out, o6, b5⟩
        case measure => simp [intOf]; omega
      · have hro : Fr.rowOf m wide L = ([], Fr.fault x) := by
          have h1 := Fr.err_stop L (k + 1) (by rw [het]; exact hz)
          rw [Fr.rowOf_bad m wide L (by rw [h1, het]; exact hz), h1, het]
        have hf4 := Fr.fault_le x
        have Hro := Lib.hid hro
        generalize Fr.fault x = f at hz hfa Hro hf4
        have if0 : ¬ (f : Int) = 0 := by omega
        have Hfa := Lib.hid hfa
        clear hro hfa hz hown hrow het hft2 hln hf1 hf2 hf3
        go_wp2_with fail
        refine Hfa.out.mono ?_
        rintro e w1 ⟨rfl, h1⟩
        rw [h1]
        clear h1 Hfa
        go_wp2
        go_ret2
        rw [Hro.out]
        exact ⟨.slice none 0 0, rfl, World.ownsRow_nil _ _ _ _, hbw⟩
    · have hks : L.take k = L := List.take_of_length_le (by rw [Hn.out]; omega)
      rw [hks] at hown He
      have hro := Fr.rowOf_ok m wide L He.out
      have Hro := Lib.hid hro
      have Hown := Lib.hid hown
      clear hro hown hks
      go_wp2
      go_ret2
      rw [Hro.out]
      exact ⟨_, rfl, Hown.out, hbw⟩

theorem put_any (m : Nat) (wide : Bool) (a : Option Addr) (cap n : Nat) (b : List UInt8) (w : World) (hn : b.length = n) (hm : m < 4294967296) (hl : n ≤ 100000) (h : RowAt w a cap b) :
    Calls Tryd.prog 33 #[.slice a n cap, .int .u32 (m : Int), .bool wide] w fun e w' => RowRes w w' e (Fr.rowOf m wide [b]) := by
  have hr := Lib.hid (row_any m wide _ 1 1 [b] _ rfl hm (by omega) (by simp; omega) (parts_one hn h))
  clear h
  generalize Fr.rowOf m wide [b] = A at hr ⊢
  go_enter Tryd.func33, Tryd.ntmps33
  go_wp2_with fail
  refine hr.out.mono ?_
  rintro e w1 ⟨v, rfl, o1, b1⟩
  have O1 := Lib.hid o1
  clear o1
  go_wp2
  go_ret2
  exact ⟨v, rfl, ownsRow_lower O1.out (by simp), below_alloc b1⟩

/-- What Few yields. -/
def FewAt (e : Ending) (n : Nat) (L : List (List UInt8)) : Prop := ∃ r : Bool, e = .returned (.bool r) ∧ (r = true → n ≤ 50 ∧ L.flatten.length ≤ 70000)
end Go.Proofs.YtbbnkmhlgfoacaaDoor.S7

namespace Go.Proofs.YtbbnkmhlgfoacaaDoor.S7
open Go.RowKit

/-- A list of one's own, of slices that lie anywhere. -/
def Lst (w : World) (B : Nat) (E : Nat → Prop) (v : Value) (L : List (List UInt8)) : Prop :=
  ∃ vs : List Value, w.ownsRow B 28 1 v L.length vs ∧
    ∀ j (h : j < L.length), ∃ p c, vs[j]? = some (.slice p L[j].length c) ∧ RowAt w p c L[j] ∧ ∀ ad, p = some ad → ad.block < w.heap.size ∧ v.ownBlock ≠ some ad.block ∧ E ad.block
theorem lst_none (w : World) (B : Nat) (E : Nat → Prop) : Lst w B E (.slice none 0 0) [] := ⟨[], World.ownsRow_nil _ _ _ _, (fun _ h => by simp at h)⟩
theorem lst_empty (w : World) (E : Nat → Prop) : Lst (w.alloc (.cells #[] 28)) w.heap.size E (.slice (some ⟨w.heap.size, 0, none⟩) 0 0) [] := ⟨[], World.ownsRow_made w #[] 0 (Nat.le_refl _) (Nat.zero_le _) rfl, (fun _ h => by simp at h)⟩
theorem Lst.next {w w' : World} {B : Nat} {E : Nat → Prop} {v : Value} {L : List (List UInt8)} (h : Lst w B E v L) (hb : Below w.heap.size w w') : Lst w' B E v L := by
  obtain ⟨vs, ho, he⟩ := h
  refine ⟨vs, ownsRow_next ho hb, fun j hj => ?_⟩
  obtain ⟨p, c, h1, h2, h3⟩ := he j hj
  exact ⟨p, c, h1, h2.next hb, fun ad e => ⟨Nat.lt_of_lt_of_le (h3 ad e).1 hb.size, (h3 ad e).2⟩⟩
theorem Lst.lt {w : World} {B : Nat} {E : Nat → Prop} {v : Value} {L : List (List UInt8)} (h : Lst w B E v L) (k : Nat) (hk : v.ownBlock = some k) : B ≤ k ∧ k < w.heap.size := by
  obtain ⟨vs, ho, _⟩ := h
  exact ho.lt k hk
theorem lst_slice {w : World} {B : Nat} {E : Nat → Prop} {v : Value} {L : List (List UInt8)} (h : Lst w B E v L) : ∃ a c, v = .slice a L.length c := by
  obtain ⟨vs, ho, _⟩ := h
  rcases ho.2 with ⟨rfl, h0⟩ | ⟨g, cap, cur, rfl, _⟩
  · exact ⟨none, 0, by rw [h0]⟩
  · exact ⟨_, cap, rfl⟩
theorem Lst.parts {w : World} {B : Nat} {E : Nat → Prop} {v : Value} {L : List (List UInt8)} (h : Lst w B E v L) : ∃ a c, v = .slice a L.length c ∧ PartsAt w a L := by
  obtain ⟨vs, ho, he⟩ := h
  rcases ho.2 with ⟨rfl, h0⟩ | ⟨g, cap, cur, rfl, hb, hg, _⟩
  · exact ⟨none, 0, by rw [h0], .inl (List.eq_nil_of_length_eq_zero h0)⟩
  · refine ⟨_, cap, rfl, .inr ⟨g, 0, rfl, lt_of_block hg, fun j hj => ?_⟩⟩
    obtain ⟨p, c, h1, h2, _⟩ := he j hj
    refine ⟨p, c, ?_, h2⟩
    have h3 := ho.cells (g := g) rfl j _ h1
    rw [Go.WideShapes.add_plain] at h3
    exact h3
/-- A list stays where another block is written. -/
theorem Lst.fed {w w' : World} {B T : Nat} {E : Nat → Prop} {v : Value} {L : List (List UInt8)} (h : Lst w B E v L) (hT : T < B) (hE : ∀ k, E k → k ≠ T) (hf : Fed w w' T (.slice none 0 0) (.slice none 0 0)) : Lst w' B E v L := by
  obtain ⟨vs, ho, he⟩ := h
  refine ⟨vs, ⟨ho.1, ?_⟩, fun j hj => ?_⟩
  · rcases ho.2 with h2 | ⟨g, cap, cur, rfl, hb, hg, hr⟩
    · exact .inl h2
    · refine .inr ⟨g, cap, cur, rfl, hb, ?_, hr⟩
      rw [(hf.away g (lt_of_block hg) (by omega) (by simp [Value.ownBlock])).1]; exact hg
  · obtain ⟨p, c, h1, h2, h3⟩ := he j hj
    exact ⟨p, c, h1, h2.fed hf (.inr fun ad e => ⟨hE _ (h3 ad e).2.2, by simp [Value.ownBlock]⟩), fun ad e => ⟨Nat.lt_of_lt_of_le (h3 ad e).1 hf.size, (h3 ad e).2⟩⟩
/-- What is appended to such a list. -/
def LItems (w : World) (E : Nat → Prop) (v x : Value) (M : List (List UInt8)) : Prop :=
  ∃ (p : Option Addr) (c : Nat) (ms : List Value), x = .slice p M.length c ∧ (p = none → M = [] ∧ c = 0) ∧ ms.length = M.length ∧ (∀ ad, p = some ad → ∀ j u, ms[j]? = some u → w.cell? (ad.add j) = some u) ∧
    ∀ j (h : j < M.length), ∃ p' c', ms[j]? = some (.slice p' M[j].length c') ∧ RowAt w p' c' M[j] ∧ ∀ ad, p' = some ad → ad.block < w.heap.size ∧ v.ownBlock ≠ some ad.block ∧ E ad.block
theorem litems_one {w : World} {E : Nat → Prop} {v : Value} {p : Option Addr} {c n : Nat} {body : List UInt8} (hn : body.length = n) (hr : RowAt w p c body) (hp : ∀ ad, p = some ad → ad.block < w.heap.size ∧ v.ownBlock ≠ some ad.block ∧ E ad.block) :
    LItems (w.alloc (.cells #[.slice p n c] 28)) E v (.slice (some ⟨w.heap.size, 0, none⟩) 1 1) [body] := by
  subst hn
  refine ⟨some ⟨w.heap.size, 0, none⟩, 1, [.slice p body.length c], rfl, (fun e => by cases e), rfl, fun ad e j u hu => ?_, fun j hj => ?_⟩
  · cases e
    exact cell_one_new _ _ _ j u hu
  · have : j = 0 := by simpa using hj
    subst this
    exact ⟨p, c, rfl, hr.next ((Below.refl _ _).alloc (Nat.le_refl _) _), fun ad e => ⟨by have := (hp ad e).1; simp; omega, (hp ad e).2⟩⟩
theorem items_of' {w : World} {B : Nat} {hv v x : Value} {M : List (List UInt8)} (h : Outs w B hv x M) (hv2 : ∀ k, v.ownBlock = some k → k < B) : Items w B hv v x M := by
  obtain ⟨ms, ho, _, he⟩ := h
  have hl : ms.length = M.length := by rw [ho.1, Nat.mul_one]
  rcases ho.2 with ⟨rfl, h0⟩ | ⟨g, cap, cur, rfl, hb, hg, _⟩
  · refine ⟨none, 0, ms, by rw [h0], fun _ => ⟨List.eq_nil_of_length_eq_zero h0, rfl⟩, hl, (fun _ e => by cases e), fun j hj => ?_⟩
    omega
  · refine ⟨some ⟨g, 0, none⟩, cap, ms, rfl, (fun e => by cases e), hl, fun ad e j u hu => ?_, fun j hj => ?_⟩
    · cases e
      exact ho.cells (g := g) rfl j u hu
    · obtain ⟨p, c, h1, h2, h3⟩ := he j hj
      exact ⟨p, c, h1, h2, fun ad e => ⟨(h3 ad e).1, (h3 ad e).2.1, (h3 ad e).2.2.1, fun e2 => by have := hv2 _ e2; have := (h3 ad e).1; omega⟩⟩
theorem litems_outs {w : World} {B : Nat} {E : Nat → Prop} {hv v x : Value} {M : List (List UInt8)} (h : Outs w B hv x M) (hv2 : ∀ k, v.ownBlock = some k → k < B) (hE : ∀ k, B ≤ k → E k) : LItems w E v x M := by
  obtain ⟨p, c, ms, h1, h2, h3, h4, h5⟩ := items_of' h hv2
  refine ⟨p, c, ms, h1, h2, h3, h4, fun j hj => ?_⟩
  obtain ⟨p', c', e1, e2, e3⟩ := h5 j hj
  exact ⟨p', c', e1, e2, fun ad e => ⟨(e3 ad e).2.1, (e3 ad e).2.2.2, hE _ (e3 ad e).1⟩⟩
theorem wpList_append_lst {w : World} {ops : Array Oper} {rest : List Oper} {o : Oper} {a : Act} {Q : Exit → Act → World → Prop} (hgd : o.guard = none) (s x : Operand)
    (ho : o.op = .call { callee := .builtin .append, args := #[s, x], argTypes := #[95, 95] })
    (B : Nat) (E : Nat → Prop) (v xv : Value) (L M : List (List UInt8)) (hs : a.eval s = v) (hx : a.eval x = xv) (hout : Lst w B E v L) (hit : LItems w E v xv M) (hB : B ≤ w.heap.size) (hlen : L.length + M.length ≤ 1000000)
    (h : ∀ v' w', Lst w' B E v' (L ++ M) → w.grownBy w' v.ownBlock → (∀ k, v.ownBlock = some k → B ≤ k) → wpList Tryd.prog ops Q rest (a.put o.dst v') w') : wpList Tryd.prog ops Q (o :: rest) a w := by
  obtain ⟨i0, hi, hz0, hz1, hz2⟩ := info_parts info26
  have hout' := hout
  obtain ⟨vs, hown, he⟩ := hout'
  obtain ⟨p, c, ms, rfl, hn, hml, hc, hm⟩ := hit
  have hvb : ∀ k, v.ownBlock = some k → B ≤ k := fun k hk => (hown.lt k hk).1
  cases p with
  | none =>
    obtain ⟨rfl, rfl⟩ := hn rfl
    exact wpList_append_own_none hgd s x 95 ho B 28 i0 1 Tryd.underlying95 hi v _ _ hs hown hx (h v w (by rw [List.append_nil]; exact hout) ⟨rfl, rfl, rfl, Nat.le_refl _, fun _ _ _ => rfl⟩ hvb)
  | some ad =>
    have hone : ∀ u ∈ ms, u.oneCell' = true := by
      intro u hu
      obtain ⟨j, hj, rfl⟩ := List.getElem_of_mem hu
      obtain ⟨p', c', h1, _, _⟩ := hm j (by omega)
      rw [List.getElem?_eq_getElem hj] at h1
      simp only [Option.some.injEq] at h1
      rw [h1]; rfl
    refine wpList_append_at hgd s x 95 ho B 28 i0 (.slice none 0 0) 1 24 Tryd.underlying95 hi hz0 hz1 hz2 rfl (by decide) v L.length vs hs hown ad M.length c ms hx (by rw [hml, Nat.mul_one]) (hc ad rfl) hone (by unfold maxLen; omega) (by omega) hB ?_
    intro v' w' o2 g2 p2
    have key : ∀ (p : Option Addr) (c : Nat) (b : List UInt8), RowAt w p c b → (∀ ad, p = some ad → ad.block < w.heap.size ∧ v.ownBlock ≠ some ad.block ∧ E ad.block) →
        RowAt w' p c b ∧ ∀ ad, p = some ad → ad.block < w'.heap.size ∧ v'.ownBlock ≠ some ad.block ∧ E ad.block := by
      intro p c b hr h3
      refine ⟨hr.kept g2 (fun ad e => (h3 ad e).2.1), fun ad e => ⟨Nat.lt_of_lt_of_le (h3 ad e).1 g2.size, ?_, (h3 ad e).2.2⟩⟩
      rcases p2 with p2 | p2
      · rw [p2]; exact (h3 ad e).2.1
      · intro e2; have := p2 _ e2; have := (h3 ad e).1; omega
    refine h v' w' ⟨vs ++ ms, by rw [List.length_append]; exact o2, fun j hj => ?_⟩ g2 hvb
    have hl : vs.length = L.length := by rw [hown.1, Nat.mul_one]
    by_cases hjl : j < L.length
    · obtain ⟨p, c, h1, h2, h3⟩ := he j hjl
      have := key p c _ h2 h3
      exact ⟨p, c, by rw [List.getElem?_append_left (by omega), h1, List.getElem_append_left hjl], by rw [List.getElem_append_left hjl]; exact this.1, this.2⟩
    · have hj2 : j - L.length < M.length := by rw [List.length_append] at hj; omega
      obtain ⟨p, c, h1, h2, h3⟩ := hm (j - L.length) hj2
      have := key p c _ h2 h3
      refine ⟨p, c, ?_, ?_, this.2⟩
      · rw [List.getElem?_append_right (by omega), hl, h1, List.getElem_append_right (by omega)]
      · rw [List.getElem_append_right (by omega)]; exact this.1

namespace Fr
/-- The frames as they stand, of the first i bytes; where the one that is under way begins. -/
def btw (xs : List UInt8) : Nat → List (List UInt8) × Option Nat
  | 0 => ([], none)
  | i + 1 => if (xs[i]?.map UInt8.toNat) = some 126 then ((match (btw xs i).2 with | some f => (btw xs i).1 ++ [(xs.take i).drop f] | none => (btw xs i).1), some (i + 1)) else btw xs i
theorem btw_flag_some (xs : List UInt8) (i : Nat) (h : i < xs.length) (h6 : xs[i].toNat = 126) (f : Nat) (L : List (List UInt8)) (hb : btw xs i = (L, some f)) : btw xs (i + 1) = (L ++ [(xs.take i).drop f], some (i + 1)) := by
  simp [btw, h, h6, hb]
theorem btw_flag_none (xs : List UInt8) (i : Nat) (h : i < xs.length) (h6 : xs[i].toNat = 126) (L : List (List UInt8)) (hb : btw xs i = (L, none)) : btw xs (i + 1) = (L, some (i + 1)) := by
  simp [btw, h, h6, hb]
theorem btw_byte (xs : List UInt8) (i : Nat) (h : i < xs.length) (h6 : ¬ xs[i].toNat = 126) : btw xs (i + 1) = btw xs i := by
  simp [btw, h, h6]
theorem btw_le (xs : List UInt8) : ∀ i f, (btw xs i).2 = some f → f ≤ i := by
  intro i
  induction i with
  | zero => intro f h; simp [btw] at h
  | succ i ih =>
    intro f h
    by_cases h6 : (xs[i]?.map UInt8.toNat) = some 126
    · simp only [btw, h6, if_true] at h
      simp only [Option.some.injEq] at h
      omega
    · simp only [btw, h6, if_false] at h
      have := ih f h
      omega
theorem btw_len (xs : List UInt8) : ∀ i, (btw xs i).1.length ≤ i := by
  intro i
  induction i with
  | zero => simp [btw]
  | succ i ih =>
    by_cases h6 : (xs[i]?.map UInt8.toNat) = some 126
    · simp only [btw, h6, if_true]
      split
      · simp; omega
      · omega
    · simp only [btw, h6, if_false]; omega
theorem ans_left (m : Nat) (b : List UInt8) : St.ans m (St.left m b) = St.ans m b := by unfold St.ans; rw [St.un_left]
theorem left_snoc (m : Nat) (b : List UInt8) (c : UInt8) : St.left m (b ++ [c]) = St.left m b ++ (if Ac.has m c.toNat = true then [] else [c]) := by
  unfold St.left
  rw [List.filter_append]
  congr 1
  cases hh : Ac.has m c.toNat <;> simp [hh]
/-- What the document answers of frames as they stand. -/
def bodies (m : Nat) (wide : Bool) (L : List (List UInt8)) : List (List UInt8) := L.flatMap fun b => outs (bodyOf wide (St.ans m b))
theorem bodies_snoc (m : Nat) (wide : Bool) (L : List (List UInt8)) (b : List UInt8) : bodies m wide (L ++ [b]) = bodies m wide L ++ outs (bodyOf wide (St.ans m b)) := by simp [bodies]
theorem bodies_take (m : Nat) (wide : Bool) (L : List (List UInt8)) (k : Nat) (h : k < L.length) : bodies m wide (L.take (k + 1)) = bodies m wide (L.take k) ++ outs (bodyOf wide (St.ans m L[k])) := by
  rw [List.take_succ_eq_append_getElem h, bodies_snoc]
theorem bodies_len (m : Nat) (wide : Bool) (L : List (List UInt8)) : (bodies m wide L).length ≤ L.length := by
  induction L with
  | nil => simp [bodies]
  | cons b L ih =>
    have := outs_len (bodyOf wide (St.ans m b))
    simp only [bodies, List.flatMap_cons, List.length_append, List.length_cons] at ih ⊢
    omega
theorem run_btw (m : Nat) (wide : Bool) (xs : List UInt8) : ∀ i, i ≤ xs.length → (run m wide init (xs.take i)).ins = (btw xs i).2.isSome ∧ (run m wide init (xs.take i)).held = (match (btw xs i).2 with | some f => St.left m ((xs.take i).drop f) | none => []) ∧ all m wide init (xs.take i) = bodies m wide (btw xs i).1 := by
  intro i
  induction i with
  | zero => intro _; exact ⟨rfl, rfl, rfl⟩
  | succ i ih =>
    intro hi
    have hi' : i < xs.length := by omega
    obtain ⟨h1, h2, h3⟩ := ih (by omega)
    have hle := btw_le xs i
    rw [run_take m wide init xs i hi', all_take m wide init xs i hi', h3]
    generalize run m wide init (xs.take i) = st at h1 h2
    obtain ⟨ins, held, tal⟩ := st
    simp only at h1 h2
    have htk := take_step xs i hi'
    generalize hb : btw xs i = B at h1 h2 hle
    obtain ⟨L, fr⟩ := B
    simp only at h1 h2 hle
    by_cases h6 : xs[i].toNat = 126
    · cases fr with
      | none =>
        simp only [Option.isSome_none] at h1
        subst h1
        subst h2
        rw [btw_flag_none xs i hi' h6 L hb]
        simp [next, out, h6, outs]
        rfl
      | some f =>
        simp only [Option.isSome_some] at h1
        subst h1
        subst h2
        rw [btw_flag_some xs i hi' h6 f L hb]
        simp only [bodies_snoc]
        simp [next, out, h6, ans_left]
        rfl
    · rw [btw_byte xs i hi' h6, hb]
      cases fr with
      | none =>
        simp only [Option.isSome_none] at h1
        subst h1
        subst h2
        simp [next, out, h6, outs]
      | some f =>
        simp only [Option.isSome_some] at h1
        subst h1
        have hf := hle f rfl
        have hp : (xs.take (i + 1)).drop f = (xs.take i).drop f ++ [xs[i]] := by
          rw [htk, List.drop_append_of_le_length (by rw [List.length_take]; omega)]
        simp only [hp, left_snoc]
        cases hh : Ac.has m xs[i].toNat with
        | true => simp [next, out, h6, hh, h2, outs]
        | false => simp [next, out, h6, hh, h2, outs]
theorem all_btw (m : Nat) (wide : Bool) (xs : List UInt8) : all m wide init xs = bodies m wide (btw xs xs.length).1 := by
  have := (run_btw m wide xs xs.length (Nat.le_refl _)).2.2
  rw [List.take_length] at this
  exact this
/-- Where something is left, and it can be unstuffed, something comes out. -/
theorem un_pos (m : Nat) (l : List UInt8) : ∀ (o : List UInt8) (e : Bool) (o' : List UInt8), l.foldl (St.step m) (some (o, e)) = some (o', false) → (∀ c ∈ l, Ac.has m c.toNat = false) → (e = true ∨ l ≠ [] → o.length < o'.length) ∧ o.length ≤ o'.length := by
  induction l with
  | nil =>
    intro o e o' h _
    simp only [List.foldl_nil, Option.some.injEq, Prod.mk.injEq] at h
    rw [h.1, h.2]
    simp
  | cons c l ih =>
    intro o e o' h hc
    have h1 := hc c (by simp)
    have h2 : ∀ d ∈ l, Ac.has m d.toNat = false := fun d hd => hc d (by simp [hd])
    rw [List.foldl_cons] at h
    by_cases h6 : c.toNat = 126
    · rw [St.step_flag m o e c h1 h6, St.fold_none] at h; cases h
    · cases e with
      | true =>
        rw [St.step_esc m o c h1 h6] at h
        have := (ih _ _ _ h h2).2
        rw [List.length_append, List.length_singleton] at this
        exact ⟨fun _ => by omega, by omega⟩
      | false =>
        by_cases h5 : c.toNat = 125
        · rw [St.step_7d m o c h1 h5] at h
          have := (ih _ _ _ h h2).1 (.inl rfl)
          exact ⟨fun _ => this, by omega⟩
        · rw [St.step_plain m o c h1 h6 h5] at h
          have := (ih _ _ _ h h2).2
          rw [List.length_append, List.length_singleton] at this
          exact ⟨fun _ => by omega, by omega⟩
theorem ans_pos (m : Nat) (b Y : List UInt8) (h : St.ans m b = (Y, true)) (hl : St.left m b ≠ []) : Y.length ≠ 0 := by
  rw [← ans_left] at h
  unfold St.ans at h
  split at h
  · rename_i o ho
    simp only [Prod.mk.injEq, and_true] at h
    subst h
    have := (un_pos m (St.left m b) [] false o ho (fun c hc => St.left_not m b c hc)).1 (.inr hl)
    simp at this
    omega
  · simp at h
theorem judge_left (m : Nat) (wide : Bool) (b : List UInt8) (h : St.left m b = []) : judge wide (St.ans m b) = 0 ∧ bodyOf wide (St.ans m b) = [] := by
  rw [← ans_left, h, ans_nil]
  exact ⟨judge_nil wide, by rw [bodyOf, judge_nil]; rfl⟩
end Fr
end Go.Proofs.YtbbnkmhlgfoacaaDoor.S7

namespace Go.Proofs.YtbbnkmhlgfoacaaDoor.S7
open Go.RowKit

/-- What Judge yields. -/
def JudgeAt (w w' : World) (e : Ending) (body : List UInt8) (k : Nat) : Prop :=
  ∃ p c, e = .returned (.tuple #[.slice p body.length c, .int .i64 (k : Nat)]) ∧ RowAt w' p c body ∧ (∀ ad, p = some ad → w.heap.size ≤ ad.block ∧ ad.block < w'.heap.size) ∧ Below w.heap.size w w'
theorem judgeAt_none {w w' : World} {body : List UInt8} {k k' : Nat} (hb : body = []) (hk : k = k') (h : Below w.heap.size w w') : JudgeAt w w' (.returned (.tuple #[.slice none 0 0, .int .i64 (k' : Nat)])) body k := by
  subst hb
  subst hk
  exact ⟨none, 0, rfl, rowAt_nil _, (fun _ e => by cases e), h⟩

theorem RowAt.cutAt {w : World} {b off c : Nat} {xs : List UInt8} (h : RowAt w (some ⟨b, off, none⟩) c xs) (l r : Nat) (hc : l < c) (hlr : l ≤ r) (hr : r ≤ xs.length) : RowAt w (some ⟨b, off + l, none⟩) (c - l) ((xs.take r).drop l) := by
  have h1 := h.cut l r hlr hr
  rw [if_neg (by omega)] at h1
  simpa [Go.WideShapes.add_plain] using h1

end Go.Proofs.YtbbnkmhlgfoacaaDoor.S7

namespace Go.Proofs.YtbbnkmhlgfoacaaDoor.S7
open Go.RowKit
namespace Fr
theorem btw_short (xs : List UInt8) : ∀ i, ∀ b ∈ (btw xs i).1, b.length ≤ xs.length := by
  intro i
  induction i with
  | zero => intro b hb; simp [btw] at hb
  | succ i ih =>
    intro b hb
    by_cases h6 : (xs[i]?.map UInt8.toNat) = some 126
    · simp only [btw, h6, if_true] at hb
      split at hb
      · rcases List.mem_append.1 hb with hb | hb
        · exact ih b hb
        · rw [List.mem_singleton.1 hb]
          simp
          omega
      · exact ih b hb
    · simp only [btw, h6, if_false] at hb
      exact ih b hb
theorem judge_kinds (wide : Bool) (A : List UInt8 × Bool) : judge wide A = 0 ∨ judge wide A = 1 ∨ judge wide A = 2 ∨ judge wide A = 3 ∨ judge wide A = 4 ∨ judge wide A = 5 := by
  unfold judge
  repeat' split
  all_goals simp
theorem judge_body (wide : Bool) (A : List UInt8 × Bool) (h : judge wide A = 1) : bodyOf wide A ≠ [] := by
  rw [body_good wide A h]
  have hl : ¬ A.1.length < Fc.size wide + 2 := by
    intro hl
    unfold judge at h
    split at h
    · omega
    · split at h
      · omega
      · omega
  intro e
  have := congrArg List.length e
  rw [List.length_take] at this
  simp at this
  omega
end Fr
theorem run_store_tally {w : World} {o : Oper} {a : Act} (x y : Operand) (ho : o.op = .store 122 x y) (R : Nat) (t : Fr.Tal) (cur : Array Value)
    (hx : a.eval x = .pointer (some ⟨R, 0, none⟩)) (hy : a.eval y = .agg (tcells t).toArray) (hR : w.heap[R]? = some (.cells cur 122 (0, 0))) (hcur : cur.size = 5) :
    (execOp a.eval o).run Tryd.prog w = .ok .skip (w.setRow R (tcells t).toArray) := by
  have h := run_storeVar_row (P := Tryd.prog) w R 122 122 cur (tcells t).toArray hR info40 hcur (tcells_one t)
  unfold execOp
  simp only [ho, hx, hy, Instr.storeAt, Instr.sureAddr, Sem.run_bind, Sem.run_pure, Result.andThen_ok, h]
theorem tal_cell {w : World} {T : Nat} {t : Fr.Tal} (h : w.heap[T]? = some (.cells (tcells t).toArray 122 (0, 0))) (i : Nat) (u : Value) (hu : (tcells t)[i]? = some u) : w.cell? ⟨T, i, none⟩ = some u ∧ w.frozen? ⟨T, i, none⟩ = false := by
  refine ⟨?_, frozen_of_row w T i _ 122 h⟩
  rw [cell_of_row _ _ _ _ _ _ h]; simpa using hu
theorem tal_set {w : World} {T : Nat} {t : Fr.Tal} (h : w.heap[T]? = some (.cells (tcells t).toArray 122 (0, 0))) (i k : Nat) (u : Value) (heq : (tcells t).toArray.setIfInBounds i u = (tcells (Fr.count t k)).toArray) : (w.setCell ⟨T, i, none⟩ u).heap[T]? = some (.cells (tcells (Fr.count t k)).toArray 122 (0, 0)) := by
  rw [heap_setCell_same _ _ _ _ _ _ h, heq]
/-- The state of the document's All. -/
structure RAll (wr w2 : World) (T B : Nat) (v : Value) (L : List (List UInt8)) (t : Fr.Tal) : Prop where
  lst : Lst wr B (fun j => B ≤ j) v L
  tal : wr.heap[T]? = some (.cells (tcells t).toArray 122 (0, 0))
  fed : Fed w2 wr T (.slice none 0 0) (.slice none 0 0)
theorem RAll.next {wr w' w2 : World} {T B : Nat} {v : Value} {L : List (List UInt8)} {t : Fr.Tal} (h : RAll wr w2 T B v L t) (b : Below wr.heap.size wr w') : RAll w' w2 T B v L t :=
  ⟨h.lst.next b, by rw [b.block T (lt_of_block h.tal)]; exact h.tal, h.fed.trans (fed_below _ _ b)⟩
theorem RAll.count {wr w2 : World} {T B : Nat} {v : Value} {L : List (List UInt8)} {t : Fr.Tal} (h : RAll wr w2 T B v L t) (hT : T < B) (i k : Nat) (u : Value) (heq : (tcells t).toArray.setIfInBounds i u = (tcells (Fr.count t k)).toArray) : RAll (wr.setCell ⟨T, i, none⟩ u) w2 T B v L (Fr.count t k) :=
  ⟨h.lst.fed hT (fun j hj => by omega) (fed_cell _ _ _ _ _), tal_set h.tal i k u heq, h.fed.trans (fed_cell _ _ _ _ _)⟩

end Go.Proofs.YtbbnkmhlgfoacaaDoor.S7
