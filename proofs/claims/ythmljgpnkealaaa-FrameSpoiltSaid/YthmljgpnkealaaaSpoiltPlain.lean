/- Plain mathematics of FrameSpoilt: a body with another one's check sequence is wrong, all other frames come back. No program stands in it. -/
import Derived.Test.YthmljgpnkealaaaBackPlain
namespace Go.Proofs.Ythmljgpnkealaaa
namespace Fc
theorem val_two (a b : UInt8) (l : List UInt8) : val (a :: b :: l) = a.toNat ^^^ 256 * b.toNat ^^^ 256 * (256 * val l) := by
  have h1 := apart a.toNat (val (b :: l)) a.toNat_lt
  have h2 := apart b.toNat (val l) b.toNat_lt
  have h3 := mul_xor 8 b.toNat (256 * val l)
  rw [show (2 : Nat) ^ 8 = 256 from rfl] at h3
  rw [show val (a :: b :: l) = a.toNat + 256 * val (b :: l) from rfl, h1, show val (b :: l) = b.toNat + 256 * val l from rfl, h2, h3, Nat.xor_assoc]
/-- The first two bytes, turned. -/
theorem val_turn (a b : UInt8) (l : List UInt8) (t : Nat) (ht : t < 65536) : val (a :: b :: l) = val ((a ^^^ UInt8.ofNat t) :: (b ^^^ UInt8.ofNat (t / 256)) :: l) ^^^ 2 ^ 0 * t := by
  have e1 : (UInt8.ofNat t).toNat = t % 256 := by simp
  have e2 : (UInt8.ofNat (t / 256)).toNat = t / 256 := by simp; omega
  have h1 : t = t % 256 ^^^ 256 * (t / 256) := by rw [← apart _ _ (Nat.mod_lt _ (by omega))]; omega
  have h3 := mul_xor 8 b.toNat (t / 256)
  rw [show (2 : Nat) ^ 8 = 256 from rfl] at h3
  rw [val_two, val_two, UInt8.toNat_xor, UInt8.toNat_xor, e1, e2, Nat.pow_zero, Nat.one_mul, h3]
  generalize hu : t % 256 = u at h1
  generalize hv : 256 * (t / 256) = v at h1
  rw [h1]
  generalize 256 * (256 * val l) = V
  generalize 256 * b.toNat = Bn
  generalize a.toNat = An
  have e : An ^^^ u ^^^ (Bn ^^^ v) ^^^ V ^^^ (u ^^^ v) = An ^^^ Bn ^^^ V ^^^ (u ^^^ u) ^^^ (v ^^^ v) := by ac_rfl
  rw [e, Nat.xor_self, Nat.xor_self, Nat.xor_zero, Nat.xor_zero]
theorem val_append (a b c : List UInt8) (t : Nat) (hl : a.length = b.length) (h : val a = val b ^^^ t) : val (a ++ c) = val (b ++ c) ^^^ t := by
  have key : ∀ (a c : List UInt8), val (a ++ c) = val a ^^^ 256 ^ a.length * val c := by
    intro a c
    induction a with
    | nil => simp [val]
    | cons x a ih =>
      have h1 := mul_xor 8 (val a) (256 ^ a.length * val c)
      rw [show (2 : Nat) ^ 8 = 256 from rfl] at h1
      rw [List.cons_append, show val (x :: (a ++ c)) = x.toNat + 256 * val (a ++ c) from rfl, apart _ _ x.toNat_lt, ih, h1, show val (x :: a) = x.toNat + 256 * val a from rfl, apart _ _ x.toNat_lt, List.length_cons, Nat.pow_succ, Nat.xor_assoc]
      congr 2
      rw [← Nat.mul_assoc, Nat.mul_comm 256]
  rw [key, key, h, hl]
  ac_rfl
end Fc
namespace Fr
/-- A body, its first two bytes turned. -/
def trn (t : Nat) : List UInt8 → List UInt8
  | a :: b :: l => (a ^^^ UInt8.ofNat t) :: (b ^^^ UInt8.ofNat (t / 256)) :: l
  | l => l
theorem trn_len (t : Nat) (b : List UInt8) : (trn t b).length = b.length := by
  match b with
  | [] => rfl
  | [a] => rfl
  | a :: c :: l => rfl
theorem trn_set (t : Nat) (b : List UInt8) (h : 2 ≤ b.length) : trn t b = (b.set 0 (b[0] ^^^ UInt8.ofNat t)).set 1 (b[1] ^^^ UInt8.ofNat (t / 256)) := by
  match b, h with
  | a :: c :: l, _ => rfl
/-- With another one's check sequence it isn't good. -/
theorem bad_seq (wide : Bool) (t : Nat) (b : List UInt8) (h : 2 ≤ b.length) (ht : t < 65536) (h0 : t ≠ 0) : Fc.good (b ++ Fc.seq (trn t b) wide) wide = false := by
  have hs := size_two wide
  have hg := Fc.sealed_good (trn t b) wide
  have hl : (b ++ Fc.seq (trn t b) wide).length = (Fc.sealed (trn t b) wide).length := by rw [Fc.sealed, List.length_append, List.length_append, trn_len]
  have hv : Fc.val (b ++ Fc.seq (trn t b) wide) = Fc.val (Fc.sealed (trn t b) wide) ^^^ 2 ^ 0 * t := by
    unfold Fc.sealed
    refine Fc.val_append _ _ _ _ (trn_len t b).symm ?_
    match b, h with
    | a :: c :: l, _ => exact Fc.val_turn a c l t ht
  have hw : 2 ^ 16 ≤ 2 ^ (8 * Fc.size wide) := Nat.pow_le_pow_right (by omega) (by omega)
  have hb := Fc.burst (Fc.sealed (trn t b) wide) _ wide 0 t hg hl (by rw [Fc.sealed_length]; omega) (Nat.zero_le _) (Nat.lt_of_lt_of_le (by omega) hw) hv
  rw [hb, decide_eq_false h0]
theorem trn_ne (t : Nat) (b : List UInt8) (wide : Bool) (h : 2 ≤ b.length) (ht : t < 65536) (h0 : t ≠ 0) : trn t b ≠ b := by
  intro e
  have h1 := bad_seq wide t b h ht h0
  rw [e] at h1
  have h2 := Fc.sealed_good b wide
  rw [Fc.sealed] at h2
  rw [h1] at h2
  cases h2
theorem fr_inj (m : Nat) (wide : Bool) (hm : m < 4294967296) (a b : List UInt8) (h : fr m wide a = fr m wide b) (hl : a.length = b.length) : a = b := by
  unfold fr at h
  have h1 := List.append_cancel_right h
  have h2 : St.ans m (St.stuff m (Fc.sealed a wide)) = St.ans m (St.stuff m (Fc.sealed b wide)) := by rw [h1]
  rw [ans_stuff m hm, ans_stuff m hm] at h2
  simp only [Prod.mk.injEq, and_true] at h2
  unfold Fc.sealed at h2
  exact (List.append_inj h2 hl).1
/-- A frame of one body with another one's check sequence. -/
def spl (m : Nat) (wide : Bool) (b o : List UInt8) : List UInt8 := 126 :: (St.stuff m (b ++ Fc.seq o wide) ++ [126])
theorem spl_len (m : Nat) (wide : Bool) (b o : List UInt8) : (spl m wide b o).length ≤ 2 * b.length + 10 := by
  have h1 := (St.stuff_le m (b ++ Fc.seq o wide)).2
  have h2 := size_two wide
  rw [List.length_append, Fc.seq_length] at h1
  simp only [spl, List.length_cons, List.length_append, List.length_nil]
  omega
theorem run_spl (m : Nat) (wide : Bool) (hm : m < 4294967296) (i : Bool) (tl : Tal) (t : Nat) (b : List UInt8) (h2 : 2 ≤ b.length) (h6 : b.length ≤ 65535) (ht : t < 65536) (h0 : t ≠ 0) :
    run m wide ⟨i, [], tl⟩ (spl m wide b (trn t b)) = ⟨true, [], count tl 5⟩ ∧ all m wide ⟨i, [], tl⟩ (spl m wide b (trn t b)) = [] ∧ safe m wide ⟨i, [], tl⟩ (spl m wide b (trn t b)) := by
  have hf := run_flag m wide i tl
  have hbad := bad_seq wide t b h2 ht h0
  have hlen : (b ++ Fc.seq (trn t b) wide).length = b.length + Fc.size wide := by rw [List.length_append, Fc.seq_length]
  generalize hX : b ++ Fc.seq (trn t b) wide = X at hbad hlen
  have hp := run_plain m wide (St.stuff m X) [] tl (fun c hc => St.stuff_clean m hm _ c hc)
  rw [List.nil_append] at hp
  have ha := ans_stuff m hm X
  have hs := size_two wide
  have hml := most_le wide
  have hj : judge wide (X, true) = 5 := by
    unfold judge
    simp only [hlen, hbad]
    rw [if_neg (by decide), if_neg (by omega), if_neg (by omega), if_neg (by unfold most; omega), if_neg (by decide)]
  have hb : bodyOf wide (X, true) = [] := by rw [bodyOf, hj]; rfl
  have hsl := (St.stuff_le m X).2
  unfold spl
  rw [hX]
  refine ⟨?_, ?_, Nat.zero_le _, ?_⟩
  · show run m wide (next m wide _ 126) (St.stuff m X ++ [126]) = _
    rw [hf.1, run_append, hp.1]
    show (⟨true, [], count tl (judge wide (St.ans m (St.stuff m X)))⟩ : DS) = _
    rw [ha, hj]
  · show outs (out m wide _ 126) ++ all m wide (next m wide _ 126) (St.stuff m X ++ [126]) = _
    rw [hf.1, hf.2, all_append, hp.1, hp.2]
    show outs [] ++ ([] ++ (outs (bodyOf wide (St.ans m (St.stuff m X))) ++ [])) = _
    rw [ha, hb]; rfl
  · show safe m wide (next m wide _ 126) (St.stuff m X ++ [126])
    rw [hf.1]
    refine safe_append _ _ _ _ _ (safe_len _ _ _ _ ?_) ?_
    · show 0 + _ ≤ _
      rw [hlen] at hsl
      unfold most; omega
    · rw [hp.1]
      refine ⟨?_, ?_⟩
      · show (St.stuff m X).length ≤ _
        rw [hlen] at hsl
        unfold most; omega
      · show (0 : Nat) ≤ _
        omega
/-- The row, one frame spoilt; the other bodies. -/
def sp (m : Nat) (wide : Bool) (t k : Nat) (L : List (List UInt8)) : Nat → List UInt8
  | 0 => []
  | i + 1 => sp m wide t k L i ++ (if i = k then spl m wide (L[i]?.getD []) (trn t (L[i]?.getD [])) else 126 :: fr m wide (L[i]?.getD []))
def rs (k : Nat) (L : List (List UInt8)) : Nat → List (List UInt8)
  | 0 => []
  | i + 1 => if i = k then rs k L i else rs k L i ++ [L[i]?.getD []]
theorem sp_at (m : Nat) (wide : Bool) (t k : Nat) (L : List (List UInt8)) (i : Nat) (h : i < L.length) (hk : i = k) : sp m wide t k L (i + 1) = sp m wide t k L i ++ spl m wide L[i] (trn t L[i]) := by
  show sp m wide t k L i ++ (if i = k then _ else _) = _
  rw [if_pos hk, List.getElem?_eq_getElem h]; rfl
theorem sp_not (m : Nat) (wide : Bool) (t k : Nat) (L : List (List UInt8)) (i : Nat) (h : i < L.length) (hk : ¬ i = k) : sp m wide t k L (i + 1) = sp m wide t k L i ++ (126 :: fr m wide L[i]) := by
  show sp m wide t k L i ++ (if i = k then _ else _) = _
  rw [if_neg hk, List.getElem?_eq_getElem h]; rfl
theorem rs_at (k : Nat) (L : List (List UInt8)) (i : Nat) (hk : i = k) : rs k L (i + 1) = rs k L i := if_pos hk
theorem rs_not (k : Nat) (L : List (List UInt8)) (i : Nat) (h : i < L.length) (hk : ¬ i = k) : rs k L (i + 1) = rs k L i ++ [L[i]] := by
  show (if i = k then _ else _) = _
  rw [if_neg hk, List.getElem?_eq_getElem h]; rfl
theorem rs_len (k : Nat) (L : List (List UInt8)) : ∀ i, (rs k L i).length = if k < i then i - 1 else i := by
  intro i
  induction i with
  | zero => simp [rs]
  | succ i ih =>
    show (if i = k then _ else _ : List (List UInt8)).length = _
    by_cases h : i = k
    · rw [if_pos h, ih]
      subst h
      simp
    · rw [if_neg h, List.length_append, ih, List.length_singleton]
      by_cases h2 : k < i
      · rw [if_pos h2, if_pos (by omega)]; omega
      · rw [if_neg h2, if_neg (by omega)]
theorem sp_len (m : Nat) (wide : Bool) (t k : Nat) (L : List (List UInt8)) : ∀ i, i ≤ L.length → (sp m wide t k L i).length ≤ 2 * (L.take i).flatten.length + 13 * i := by
  intro i
  induction i with
  | zero => intro _; simp [sp]
  | succ i ih =>
    intro hi
    have hi' : i < L.length := by omega
    have h1 := ih (by omega)
    have hfl : (L.take (i + 1)).flatten.length = (L.take i).flatten.length + L[i].length := by rw [List.take_succ_eq_append_getElem hi', List.flatten_append, List.length_append]; simp
    rw [hfl]
    by_cases hk : i = k
    · rw [sp_at m wide t k L i hi' hk, List.length_append]
      have := spl_len m wide L[i] (trn t L[i])
      omega
    · rw [sp_not m wide t k L i hi' hk, List.length_append, List.length_cons]
      have := fr_length m wide L[i]
      have := size_two wide
      omega
theorem run_sp (m : Nat) (wide : Bool) (hm : m < 4294967296) (t k : Nat) (ht : t < 65536) (h0 : t ≠ 0) (L : List (List UInt8)) (hL : ∀ b ∈ L, 2 ≤ b.length ∧ b.length ≤ 65535) : ∀ i, i ≤ L.length →
    (∃ b, run m wide init (sp m wide t k L i) = ⟨b, [], ⟨(rs k L i).length, 0, 0, 0, if k < i then 1 else 0⟩⟩) ∧ all m wide init (sp m wide t k L i) = rs k L i ∧ safe m wide init (sp m wide t k L i) := by
  intro i
  induction i with
  | zero => intro _; exact ⟨⟨false, by simp [sp, rs, run, init, zero]⟩, rfl, Nat.zero_le _⟩
  | succ i ih =>
    intro hi
    have hi' : i < L.length := by omega
    obtain ⟨⟨b, h1⟩, h2, h3⟩ := ih (by omega)
    have hb := hL L[i] (List.getElem_mem hi')
    by_cases hk : i = k
    · have h4 := run_spl m wide hm b ⟨(rs k L i).length, 0, 0, 0, if k < i then 1 else 0⟩ t L[i] hb.1 hb.2 ht h0
      rw [sp_at m wide t k L i hi' hk, rs_at k L i hk, run_append, all_append, h1, h2, h4.1, h4.2.1]
      refine ⟨⟨true, ?_⟩, List.append_nil _, safe_append _ _ _ _ _ h3 (by rw [h1]; exact h4.2.2)⟩
      subst hk
      simp [count]
    · have h4 := run_one m wide hm 0 b ⟨(rs k L i).length, 0, 0, 0, if k < i then 1 else 0⟩ L[i] hb.1 hb.2
      have e : one m wide 0 L[i] = 126 :: fr m wide L[i] := by simp [one]
      rw [e] at h4
      rw [sp_not m wide t k L i hi' hk, rs_not k L i hi' hk, run_append, all_append, h1, h2, h4.1, h4.2.1]
      refine ⟨⟨true, ?_⟩, rfl, safe_append _ _ _ _ _ h3 (by rw [h1]; exact h4.2.2)⟩
      have e2 : (if k < i then 1 else 0) = (if k < i + 1 then 1 else 0) := by
        by_cases h5 : k < i
        · rw [if_pos h5, if_pos (by omega)]
        · rw [if_neg h5, if_neg (by omega)]
      simp [goodN, e2]
end Fr
end Go.Proofs.Ythmljgpnkealaaa
