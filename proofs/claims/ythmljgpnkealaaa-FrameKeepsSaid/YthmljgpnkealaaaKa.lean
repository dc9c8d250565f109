/- Lists of slices of bytes of one's own, whatever memory the slices lie in; the frames as they stand, and what the document makes of them. -/
import Derived.Test.YthmljgpnkealaaaFi
namespace Go.Proofs.Ythmljgpnkealaaa
open Go.RowKit

/-- A list of one's own, of slices that lie anywhere. -/
def Lst (w : World) (B : Nat) (E : Nat → Prop) (v : Value) (L : List (List UInt8)) : Prop :=
  ∃ vs : List Value, w.ownsRow B 26 1 v L.length vs ∧
    ∀ j (h : j < L.length), ∃ p c, vs[j]? = some (.slice p L[j].length c) ∧ RowAt w p c L[j] ∧ ∀ ad, p = some ad → ad.block < w.heap.size ∧ v.ownBlock ≠ some ad.block ∧ E ad.block
theorem lst_none (w : World) (B : Nat) (E : Nat → Prop) : Lst w B E (.slice none 0 0) [] := ⟨[], World.ownsRow_nil _ _ _ _, (fun _ h => by simp at h)⟩
theorem lst_empty (w : World) (E : Nat → Prop) : Lst (w.alloc (.cells #[] 26)) w.heap.size E (.slice (some ⟨w.heap.size, 0, none⟩) 0 0) [] := ⟨[], World.ownsRow_made w #[] 0 (Nat.le_refl _) (Nat.zero_le _) rfl, (fun _ h => by simp at h)⟩
theorem Lst.next {w w' : World} {B : Nat} {E : Nat → Prop} {v : Value} {L : List (List UInt8)} (h : Lst w B E v L) (hb : Below w.heap.size w w') : Lst w' B E v L := by
  obtain ⟨vs, ho, he⟩ := h
  refine ⟨vs, ownsRow_next ho hb, fun j hj => ?_⟩
  obtain ⟨p, c, h1, h2, h3⟩ := he j hj
  exact ⟨p, c, h1, h2.next hb, fun ad e => ⟨Nat.lt_of_lt_of_le (h3 ad e).1 hb.size, (h3 ad e).2⟩⟩
theorem Lst.lt {w : World} {B : Nat} {E : Nat → Prop} {v : Value} {L : List (List UInt8)} (h : Lst w B E v L) (k : Nat) (hk : v.ownBlock = some k) : B ≤ k ∧ k < w.heap.size := by
  obtain ⟨vs, ho, _⟩ := h
  exact ho.lt k hk
theorem lst_slice {w : World} {B : Nat} {E : Nat → Prop} {v : Value} {L : List (List UInt8)} (h : Lst w B E v L) : ∃ a c, v = .slice a L.length c := by
  obtain ⟨vs, ho, _⟩ := h
  rcases ho.2 with ⟨rfl, h0⟩ | ⟨g, cap, cur, rfl, _⟩
  · exact ⟨none, 0, by rw [h0]⟩
  · exact ⟨_, cap, rfl⟩
theorem Lst.parts {w : World} {B : Nat} {E : Nat → Prop} {v : Value} {L : List (List UInt8)} (h : Lst w B E v L) : ∃ a c, v = .slice a L.length c ∧ PartsAt w a L := by
  obtain ⟨vs, ho, he⟩ := h
  rcases ho.2 with ⟨rfl, h0⟩ | ⟨g, cap, cur, rfl, hb, hg, _⟩
  · exact ⟨none, 0, by rw [h0], .inl (List.eq_nil_of_length_eq_zero h0)⟩
  · refine ⟨_, cap, rfl, .inr ⟨g, 0, rfl, lt_of_block hg, fun j hj => ?_⟩⟩
    obtain ⟨p, c, h1, h2, _⟩ := he j hj
    refine ⟨p, c, ?_, h2⟩
    have h3 := ho.cells (g := g) rfl j _ h1
    rw [Go.WideShapes.add_plain] at h3
    exact h3
/-- A list stays where another block is written. -/
theorem Lst.fed {w w' : World} {B T : Nat} {E : Nat → Prop} {v : Value} {L : List (List UInt8)} (h : Lst w B E v L) (hT : T < B) (hE : ∀ k, E k → k ≠ T) (hf : Fed w w' T (.slice none 0 0) (.slice none 0 0)) : Lst w' B E v L := by
  obtain ⟨vs, ho, he⟩ := h
  refine ⟨vs, ⟨ho.1, ?_⟩, fun j hj => ?_⟩
  · rcases ho.2 with h2 | ⟨g, cap, cur, rfl, hb, hg, hr⟩
    · exact .inl h2
    · refine .inr ⟨g, cap, cur, rfl, hb, ?_, hr⟩
      rw [(hf.away g (lt_of_block hg) (by omega) (by simp [Value.ownBlock])).1]; exact hg
  · obtain ⟨p, c, h1, h2, h3⟩ := he j hj
    exact ⟨p, c, h1, h2.fed hf (.inr fun ad e => ⟨hE _ (h3 ad e).2.2, by simp [Value.ownBlock]⟩), fun ad e => ⟨Nat.lt_of_lt_of_le (h3 ad e).1 hf.size, (h3 ad e).2⟩⟩
/-- What is appended to such a list. -/
def LItems (w : World) (E : Nat → Prop) (v x : Value) (M : List (List UInt8)) : Prop :=
  ∃ (p : Option Addr) (c : Nat) (ms : List Value), x = .slice p M.length c ∧ (p = none → M = [] ∧ c = 0) ∧ ms.length = M.length ∧ (∀ ad, p = some ad → ∀ j u, ms[j]? = some u → w.cell? (ad.add j) = some u) ∧
    ∀ j (h : j < M.length), ∃ p' c', ms[j]? = some (.slice p' M[j].length c') ∧ RowAt w p' c' M[j] ∧ ∀ ad, p' = some ad → ad.block < w.heap.size ∧ v.ownBlock ≠ some ad.block ∧ E ad.block
theorem litems_one {w : World} {E : Nat → Prop} {v : Value} {p : Option Addr} {c n : Nat} {body : List UInt8} (hn : body.length = n) (hr : RowAt w p c body) (hp : ∀ ad, p = some ad → ad.block < w.heap.size ∧ v.ownBlock ≠ some ad.block ∧ E ad.block) :
    LItems (w.alloc (.cells #[.slice p n c] 26)) E v (.slice (some ⟨w.heap.size, 0, none⟩) 1 1) [body] := by
  subst hn
  refine ⟨some ⟨w.heap.size, 0, none⟩, 1, [.slice p body.length c], rfl, (fun e => by cases e), rfl, fun ad e j u hu => ?_, fun j hj => ?_⟩
  · cases e
    exact cell_one_new _ _ _ j u hu
  · have : j = 0 := by simpa using hj
    subst this
    exact ⟨p, c, rfl, hr.next ((Below.refl _ _).alloc (Nat.le_refl _) _), fun ad e => ⟨by have := (hp ad e).1; simp; omega, (hp ad e).2⟩⟩
theorem items_of' {w : World} {B : Nat} {hv v x : Value} {M : List (List UInt8)} (h : Outs w B hv x M) (hv2 : ∀ k, v.ownBlock = some k → k < B) : Items w B hv v x M := by
  obtain ⟨ms, ho, _, he⟩ := h
  have hl : ms.length = M.length := by rw [ho.1, Nat.mul_one]
  rcases ho.2 with ⟨rfl, h0⟩ | ⟨g, cap, cur, rfl, hb, hg, _⟩
  · refine ⟨none, 0, ms, by rw [h0], fun _ => ⟨List.eq_nil_of_length_eq_zero h0, rfl⟩, hl, (fun _ e => by cases e), fun j hj => ?_⟩
    omega
  · refine ⟨some ⟨g, 0, none⟩, cap, ms, rfl, (fun e => by cases e), hl, fun ad e j u hu => ?_, fun j hj => ?_⟩
    · cases e
      exact ho.cells (g := g) rfl j u hu
    · obtain ⟨p, c, h1, h2, h3⟩ := he j hj
      exact ⟨p, c, h1, h2, fun ad e => ⟨(h3 ad e).1, (h3 ad e).2.1, (h3 ad e).2.2.1, fun e2 => by have := hv2 _ e2; have := (h3 ad e).1; omega⟩⟩
theorem litems_outs {w : World} {B : Nat} {E : Nat → Prop} {hv v x : Value} {M : List (List UInt8)} (h : Outs w B hv x M) (hv2 : ∀ k, v.ownBlock = some k → k < B) (hE : ∀ k, B ≤ k → E k) : LItems w E v x M := by
  obtain ⟨p, c, ms, h1, h2, h3, h4, h5⟩ := items_of' h hv2
  refine ⟨p, c, ms, h1, h2, h3, h4, fun j hj => ?_⟩
  obtain ⟨p', c', e1, e2, e3⟩ := h5 j hj
  exact ⟨p', c', e1, e2, fun ad e => ⟨(e3 ad e).2.1, (e3 ad e).2.2.2, hE _ (e3 ad e).1⟩⟩
theorem wpList_append_lst {w : World} {ops : Array Oper} {rest : List Oper} {o : Oper} {a : Act} {Q : Exit → Act → World → Prop} (hgd : o.guard = none) (s x : Operand)
    (ho : o.op = .call { callee := .builtin .append, args := #[s, x], argTypes := #[22, 22] })
    (B : Nat) (E : Nat → Prop) (v xv : Value) (L M : List (List UInt8)) (hs : a.eval s = v) (hx : a.eval x = xv) (hout : Lst w B E v L) (hit : LItems w E v xv M) (hB : B ≤ w.heap.size) (hlen : L.length + M.length ≤ 1000000)
    (h : ∀ v' w', Lst w' B E v' (L ++ M) → w.grownBy w' v.ownBlock → (∀ k, v.ownBlock = some k → B ≤ k) → wpList Try.prog ops Q rest (a.put o.dst v') w') : wpList Try.prog ops Q (o :: rest) a w := by
  obtain ⟨i0, hi, hz0, hz1, hz2⟩ := info_parts info26
  have hout' := hout
  obtain ⟨vs, hown, he⟩ := hout'
  obtain ⟨p, c, ms, rfl, hn, hml, hc, hm⟩ := hit
  have hvb : ∀ k, v.ownBlock = some k → B ≤ k := fun k hk => (hown.lt k hk).1
  cases p with
  | none =>
    obtain ⟨rfl, rfl⟩ := hn rfl
    exact wpList_append_own_none hgd s x 22 ho B 26 i0 1 Try.underlying22 hi v _ _ hs hown hx (h v w (by rw [List.append_nil]; exact hout) ⟨rfl, rfl, rfl, Nat.le_refl _, fun _ _ _ => rfl⟩ hvb)
  | some ad =>
    have hone : ∀ u ∈ ms, u.oneCell' = true := by
      intro u hu
      obtain ⟨j, hj, rfl⟩ := List.getElem_of_mem hu
      obtain ⟨p', c', h1, _, _⟩ := hm j (by omega)
      rw [List.getElem?_eq_getElem hj] at h1
      simp only [Option.some.injEq] at h1
      rw [h1]; rfl
    refine wpList_append_at hgd s x 22 ho B 26 i0 (.slice none 0 0) 1 24 Try.underlying22 hi hz0 hz1 hz2 rfl (by decide) v L.length vs hs hown ad M.length c ms hx (by rw [hml, Nat.mul_one]) (hc ad rfl) hone (by unfold maxLen; omega) (by omega) hB ?_
    intro v' w' o2 g2 p2
    have key : ∀ (p : Option Addr) (c : Nat) (b : List UInt8), RowAt w p c b → (∀ ad, p = some ad → ad.block < w.heap.size ∧ v.ownBlock ≠ some ad.block ∧ E ad.block) →
        RowAt w' p c b ∧ ∀ ad, p = some ad → ad.block < w'.heap.size ∧ v'.ownBlock ≠ some ad.block ∧ E ad.block := by
      intro p c b hr h3
      refine ⟨hr.kept g2 (fun ad e => (h3 ad e).2.1), fun ad e => ⟨Nat.lt_of_lt_of_le (h3 ad e).1 g2.size, ?_, (h3 ad e).2.2⟩⟩
      rcases p2 with p2 | p2
      · rw [p2]; exact (h3 ad e).2.1
      · intro e2; have := p2 _ e2; have := (h3 ad e).1; omega
    refine h v' w' ⟨vs ++ ms, by rw [List.length_append]; exact o2, fun j hj => ?_⟩ g2 hvb
    have hl : vs.length = L.length := by rw [hown.1, Nat.mul_one]
    by_cases hjl : j < L.length
    · obtain ⟨p, c, h1, h2, h3⟩ := he j hjl
      have := key p c _ h2 h3
      exact ⟨p, c, by rw [List.getElem?_append_left (by omega), h1, List.getElem_append_left hjl], by rw [List.getElem_append_left hjl]; exact this.1, this.2⟩
    · have hj2 : j - L.length < M.length := by rw [List.length_append] at hj; omega
      obtain ⟨p, c, h1, h2, h3⟩ := hm (j - L.length) hj2
      have := key p c _ h2 h3
      refine ⟨p, c, ?_, ?_, this.2⟩
      · rw [List.getElem?_append_right (by omega), hl, h1, List.getElem_append_right (by omega)]
      · rw [List.getElem_append_right (by omega)]; exact this.1

namespace Fr
/-- The frames as they stand, of the first i bytes; where the one that is under way begins. -/
def btw (xs : List UInt8) : Nat → List (List UInt8) × Option Nat
  | 0 => ([], none)
  | i + 1 => if (xs[i]?.map UInt8.toNat) = some 126 then ((match (btw xs i).2 with | some f => (btw xs i).1 ++ [(xs.take i).drop f] | none => (btw xs i).1), some (i + 1)) else btw xs i
theorem btw_flag_some (xs : List UInt8) (i : Nat) (h : i < xs.length) (h6 : xs[i].toNat = 126) (f : Nat) (L : List (List UInt8)) (hb : btw xs i = (L, some f)) : btw xs (i + 1) = (L ++ [(xs.take i).drop f], some (i + 1)) := by
  simp [btw, h, h6, hb]
theorem btw_flag_none (xs : List UInt8) (i : Nat) (h : i < xs.length) (h6 : xs[i].toNat = 126) (L : List (List UInt8)) (hb : btw xs i = (L, none)) : btw xs (i + 1) = (L, some (i + 1)) := by
  simp [btw, h, h6, hb]
theorem btw_byte (xs : List UInt8) (i : Nat) (h : i < xs.length) (h6 : ¬ xs[i].toNat = 126) : btw xs (i + 1) = btw xs i := by
  simp [btw, h, h6]
theorem btw_le (xs : List UInt8) : ∀ i f, (btw xs i).2 = some f → f ≤ i := by
  intro i
  induction i with
  | zero => intro f h; simp [btw] at h
  | succ i ih =>
    intro f h
    by_cases h6 : (xs[i]?.map UInt8.toNat) = some 126
    · simp only [btw, h6, if_true] at h
      simp only [Option.some.injEq] at h
      omega
    · simp only [btw, h6, if_false] at h
      have := ih f h
      omega
theorem btw_len (xs : List UInt8) : ∀ i, (btw xs i).1.length ≤ i := by
  intro i
  induction i with
  | zero => simp [btw]
  | succ i ih =>
    by_cases h6 : (xs[i]?.map UInt8.toNat) = some 126
    · simp only [btw, h6, if_true]
      split
      · simp; omega
      · omega
    · simp only [btw, h6, if_false]; omega
theorem ans_left (m : Nat) (b : List UInt8) : St.ans m (St.left m b) = St.ans m b := by unfold St.ans; rw [St.un_left]
theorem left_snoc (m : Nat) (b : List UInt8) (c : UInt8) : St.left m (b ++ [c]) = St.left m b ++ (if Ac.has m c.toNat = true then [] else [c]) := by
  unfold St.left
  rw [List.filter_append]
  congr 1
  cases hh : Ac.has m c.toNat <;> simp [hh]
/-- What the document answers of frames as they stand. -/
def bodies (m : Nat) (wide : Bool) (L : List (List UInt8)) : List (List UInt8) := L.flatMap fun b => outs (bodyOf wide (St.ans m b))
theorem bodies_snoc (m : Nat) (wide : Bool) (L : List (List UInt8)) (b : List UInt8) : bodies m wide (L ++ [b]) = bodies m wide L ++ outs (bodyOf wide (St.ans m b)) := by simp [bodies]
theorem bodies_take (m : Nat) (wide : Bool) (L : List (List UInt8)) (k : Nat) (h : k < L.length) : bodies m wide (L.take (k + 1)) = bodies m wide (L.take k) ++ outs (bodyOf wide (St.ans m L[k])) := by
  rw [List.take_succ_eq_append_getElem h, bodies_snoc]
theorem bodies_len (m : Nat) (wide : Bool) (L : List (List UInt8)) : (bodies m wide L).length ≤ L.length := by
  induction L with
  | nil => simp [bodies]
  | cons b L ih =>
    have := outs_len (bodyOf wide (St.ans m b))
    simp only [bodies, List.flatMap_cons, List.length_append, List.length_cons] at ih ⊢
    omega
theorem run_btw (m : Nat) (wide : Bool) (xs : List UInt8) : ∀ i, i ≤ xs.length → (run m wide init (xs.take i)).ins = (btw xs i).2.isSome ∧ (run m wide init (xs.take i)).held = (match (btw xs i).2 with | some f => St.left m ((xs.take i).drop f) | none => []) ∧ all m wide init (xs.take i) = bodies m wide (btw xs i).1 := by
  intro i
  induction i with
  | zero => intro _; exact ⟨rfl, rfl, rfl⟩
  | succ i ih =>
    intro hi
    have hi' : i < xs.length := by omega
    obtain ⟨h1, h2, h3⟩ := ih (by omega)
    have hle := btw_le xs i
    rw [run_take m wide init xs i hi', all_take m wide init xs i hi', h3]
    generalize run m wide init (xs.take i) = st at h1 h2
    obtain ⟨ins, held, tal⟩ := st
    simp only at h1 h2
    have htk := take_step xs i hi'
    generalize hb : btw xs i = B at h1 h2 hle
    obtain ⟨L, fr⟩ := B
    simp only at h1 h2 hle
    by_cases h6 : xs[i].toNat = 126
    · cases fr with
      | none =>
        simp only [Option.isSome_none] at h1
        subst h1
        subst h2
        rw [btw_flag_none xs i hi' h6 L hb]
        simp [next, out, h6, outs]
        rfl
      | some f =>
        simp only [Option.isSome_some] at h1
        subst h1
        subst h2
        rw [btw_flag_some xs i hi' h6 f L hb]
        simp only [bodies_snoc]
        simp [next, out, h6, ans_left]
        rfl
    · rw [btw_byte xs i hi' h6, hb]
      cases fr with
      | none =>
        simp only [Option.isSome_none] at h1
        subst h1
        subst h2
        simp [next, out, h6, outs]
      | some f =>
        simp only [Option.isSome_some] at h1
        subst h1
        have hf := hle f rfl
        have hp : (xs.take (i + 1)).drop f = (xs.take i).drop f ++ [xs[i]] := by
          rw [htk, List.drop_append_of_le_length (by rw [List.length_take]; omega)]
        simp only [hp, left_snoc]
        cases hh : Ac.has m xs[i].toNat with
        | true => simp [next, out, h6, hh, h2, outs]
        | false => simp [next, out, h6, hh, h2, outs]
theorem all_btw (m : Nat) (wide : Bool) (xs : List UInt8) : all m wide init xs = bodies m wide (btw xs xs.length).1 := by
  have := (run_btw m wide xs xs.length (Nat.le_refl _)).2.2
  rw [List.take_length] at this
  exact this
/-- Where something is left, and it can be unstuffed, something comes out. -/
theorem un_pos (m : Nat) (l : List UInt8) : ∀ (o : List UInt8) (e : Bool) (o' : List UInt8), l.foldl (St.step m) (some (o, e)) = some (o', false) → (∀ c ∈ l, Ac.has m c.toNat = false) → (e = true ∨ l ≠ [] → o.length < o'.length) ∧ o.length ≤ o'.length := by
  induction l with
  | nil =>
    intro o e o' h _
    simp only [List.foldl_nil, Option.some.injEq, Prod.mk.injEq] at h
    rw [h.1, h.2]
    simp
  | cons c l ih =>
    intro o e o' h hc
    have h1 := hc c (by simp)
    have h2 : ∀ d ∈ l, Ac.has m d.toNat = false := fun d hd => hc d (by simp [hd])
    rw [List.foldl_cons] at h
    by_cases h6 : c.toNat = 126
    · rw [St.step_flag m o e c h1 h6, St.fold_none] at h; cases h
    · cases e with
      | true =>
        rw [St.step_esc m o c h1 h6] at h
        have := (ih _ _ _ h h2).2
        rw [List.length_append, List.length_singleton] at this
        exact ⟨fun _ => by omega, by omega⟩
      | false =>
        by_cases h5 : c.toNat = 125
        · rw [St.step_7d m o c h1 h5] at h
          have := (ih _ _ _ h h2).1 (.inl rfl)
          exact ⟨fun _ => this, by omega⟩
        · rw [St.step_plain m o c h1 h6 h5] at h
          have := (ih _ _ _ h h2).2
          rw [List.length_append, List.length_singleton] at this
          exact ⟨fun _ => by omega, by omega⟩
theorem ans_pos (m : Nat) (b Y : List UInt8) (h : St.ans m b = (Y, true)) (hl : St.left m b ≠ []) : Y.length ≠ 0 := by
  rw [← ans_left] at h
  unfold St.ans at h
  split at h
  · rename_i o ho
    simp only [Prod.mk.injEq, and_true] at h
    subst h
    have := (un_pos m (St.left m b) [] false o ho (fun c hc => St.left_not m b c hc)).1 (.inr hl)
    simp at this
    omega
  · simp at h
theorem judge_left (m : Nat) (wide : Bool) (b : List UInt8) (h : St.left m b = []) : judge wide (St.ans m b) = 0 ∧ bodyOf wide (St.ans m b) = [] := by
  rw [← ans_left, h, ans_nil]
  exact ⟨judge_nil wide, by rw [bodyOf, judge_nil]; rfl⟩
end Fr
end Go.Proofs.Ythmljgpnkealaaa
