/- Plain mathematics of layer 9 (pcap): what is put is read as it was; what is read, put again; captures that are cut off. -/
import Derived.Test.YtfkjjolohphaoaaPlainp
namespace Go.Proofs.Ytfkjjolohphaoaa
namespace Pc

def recs (big : Bool) (l : List Rcd) : List UInt8 := (l.map (rbytes big)).flatten
theorem put_eq (m : Hdr) (l : List Rcd) : put m l = hbytes m ++ recs m.big l := rfl
theorem recs_nil (big : Bool) : recs big [] = [] := rfl
theorem recs_cons (big : Bool) (r : Rcd) (l : List Rcd) : recs big (r :: l) = rbytes big r ++ recs big l := by simp [recs]
theorem recs_append (big : Bool) (l k : List Rcd) : recs big (l ++ k) = recs big l ++ recs big k := by simp [recs]
theorem recs_len (big : Bool) (l : List Rcd) : (recs big l).length = 16 * l.length + size l := recs_length big l
theorem rbytes_eq (big : Bool) (r : Rcd) : rbytes big r = Oc.put r.sec 4 big ++ (Oc.put r.frac 4 big ++ (Oc.put r.data.length 4 big ++ (Oc.put r.len 4 big ++ r.data))) := by
  simp [rbytes, rnums, nums]
theorem num_at (A B : List UInt8) (x k : Nat) (big : Bool) (hx : x < 4294967296) (hk : A.length = k) : num (A ++ (Oc.put x 4 big ++ B)) k big = x := by
  subst hk
  unfold num
  rw [List.drop_left, List.take_append_of_le_length (by rw [Oc.put_length]; exact Nat.le_refl _), List.take_of_length_le (by rw [Oc.put_length]; exact Nat.le_refl _)]
  exact Oc.get_put x 4 big hx
theorem get2_at (A B : List UInt8) (x k : Nat) (big : Bool) (hx : x < 65536) (hk : A.length = k) : Oc.get (((A ++ (Oc.put x 2 big ++ B)).drop k).take 2) big = x := by
  subst hk
  rw [List.drop_left, List.take_append_of_le_length (by rw [Oc.put_length]; exact Nat.le_refl _), List.take_of_length_le (by rw [Oc.put_length]; exact Nat.le_refl _)]
  exact Oc.get_put x 2 big hx
theorem next_put (big : Bool) (r : Rcd) (rest : List UInt8) (hr : r.Ok) (hs : r.data.length ≤ 131072) : next (rbytes big r ++ rest) big = (r, 16 + r.data.length, 0) := by
  have e : rbytes big r ++ rest = Oc.put r.sec 4 big ++ (Oc.put r.frac 4 big ++ (Oc.put r.data.length 4 big ++ (Oc.put r.len 4 big ++ (r.data ++ rest)))) := by simp [rbytes_eq]
  have p := fun x => Oc.put_length x 4 big
  have n0 : num (rbytes big r ++ rest) 0 big = r.sec := by rw [e]; exact num_at [] _ _ 0 big hr.sec rfl
  have n4 : num (rbytes big r ++ rest) 4 big = r.frac := by rw [e]; exact num_at (Oc.put r.sec 4 big) _ _ 4 big hr.frac (p _)
  have n8 : num (rbytes big r ++ rest) 8 big = r.data.length := by
    rw [e, ← List.append_assoc]; exact num_at (Oc.put r.sec 4 big ++ Oc.put r.frac 4 big) _ _ 8 big (by omega) (by rw [List.length_append, p, p])
  have n12 : num (rbytes big r ++ rest) 12 big = r.len := by
    rw [e, ← List.append_assoc, ← List.append_assoc]; exact num_at ((Oc.put r.sec 4 big ++ Oc.put r.frac 4 big) ++ Oc.put r.data.length 4 big) _ _ 12 big hr.len (by rw [List.length_append, List.length_append, p, p, p])
  have hl : (rbytes big r ++ rest).length = 16 + r.data.length + rest.length := by rw [List.length_append, rbytes_length]
  rw [next_good _ big (by omega) (by rw [n8]; omega) (by rw [n8, hl]; omega), n0, n4, n8, n12]
  have hd : ((rbytes big r ++ rest).drop 16).take r.data.length = r.data := by
    have : rbytes big r ++ rest = rnums big r ++ (r.data ++ rest) := by simp [rbytes]
    rw [this, List.drop_left' (rnums_length big r), List.take_left' rfl]
  rw [hd]
theorem rdr_put (big : Bool) (rest : List UInt8) : ∀ (l : List Rcd) (k : Nat), (∀ r ∈ l, r.Ok) → (∀ r ∈ l, r.data.length ≤ 131072) →
    rdr (recs big l ++ rest) big k = (l ++ (rdr rest big (k + 16 * l.length + size l)).1, (rdr rest big (k + 16 * l.length + size l)).2)
  | [], k, _, _ => by simp [recs_nil, size_nil]
  | r :: l, k, h1, h2 => by
    have hn := next_put big r (recs big l ++ rest) (h1 r (by simp)) (h2 r (by simp))
    have hl := rbytes_length big r
    have ih := rdr_put big rest l (k + (16 + r.data.length)) (fun x hx => h1 x (by simp [hx])) (fun x hx => h2 x (by simp [hx]))
    rw [recs_cons, List.append_assoc, rdr_good _ big k (by rw [List.length_append]; omega) r _ hn, List.drop_left' hl, ih]
    have e : k + (16 + r.data.length) + 16 * l.length + size l = k + 16 * (r :: l).length + size (r :: l) := by rw [List.length_cons, size_cons]; omega
    rw [e]
    rfl
theorem hbytes_eq' (m : Hdr) : hbytes m = Oc.put (mark m.nano) 4 m.big ++ (Oc.put 2 2 m.big ++ (Oc.put 4 2 m.big ++ (Oc.put 0 4 m.big ++ (Oc.put 0 4 m.big ++ (Oc.put m.snap 4 m.big ++ Oc.put m.link 4 m.big))))) := by
  simp [hbytes, hparts, nums]
theorem who_take (b : List UInt8) (n : Nat) (h : 4 ≤ n) (_hb : 4 ≤ b.length) : who (b.take n) = who b := by
  unfold who
  rw [List.take_take, Nat.min_eq_left h]
theorem who_put (m : Hdr) (rest : List UInt8) : who (hbytes m ++ rest) = some (m.big, m.nano) := by
  have hl := hbytes_length m
  rw [who_iff _ (by rw [List.length_append]; omega), hbytes_eq', List.append_assoc, List.take_append_of_le_length (by rw [Oc.put_length]; exact Nat.le_refl _), List.take_of_length_le (by rw [Oc.put_length]; exact Nat.le_refl _)]
theorem head_put (m : Hdr) (rest : List UInt8) (hm : m.Ok) : head (hbytes m ++ rest) = (m, 0) := by
  have hl := hbytes_length m
  have e : hbytes m ++ rest = Oc.put (mark m.nano) 4 m.big ++ (Oc.put 2 2 m.big ++ (Oc.put 4 2 m.big ++ (Oc.put 0 4 m.big ++ (Oc.put 0 4 m.big ++ (Oc.put m.snap 4 m.big ++ (Oc.put m.link 4 m.big ++ rest)))))) := by simp [hbytes_eq']
  have p := fun x => Oc.put_length x 4 m.big
  have p2 := fun x => Oc.put_length x 2 m.big
  have n2 : Oc.get (((hbytes m ++ rest).drop 4).take 2) m.big = 2 := by rw [e]; exact get2_at _ _ 2 4 m.big (by omega) (p _)
  have n16 : num (hbytes m ++ rest) 16 m.big = m.snap := by
    rw [e]
    have e2 : Oc.put (mark m.nano) 4 m.big ++ (Oc.put 2 2 m.big ++ (Oc.put 4 2 m.big ++ (Oc.put 0 4 m.big ++ (Oc.put 0 4 m.big ++ (Oc.put m.snap 4 m.big ++ (Oc.put m.link 4 m.big ++ rest)))))) = (Oc.put (mark m.nano) 4 m.big ++ Oc.put 2 2 m.big ++ Oc.put 4 2 m.big ++ Oc.put 0 4 m.big ++ Oc.put 0 4 m.big) ++ (Oc.put m.snap 4 m.big ++ (Oc.put m.link 4 m.big ++ rest)) := by simp
    rw [e2]
    exact num_at _ _ _ 16 m.big hm.snap (by simp only [List.length_append, p, p2])
  have n20 : num (hbytes m ++ rest) 20 m.big = m.link := by
    rw [e]
    have e2 : Oc.put (mark m.nano) 4 m.big ++ (Oc.put 2 2 m.big ++ (Oc.put 4 2 m.big ++ (Oc.put 0 4 m.big ++ (Oc.put 0 4 m.big ++ (Oc.put m.snap 4 m.big ++ (Oc.put m.link 4 m.big ++ rest)))))) = (Oc.put (mark m.nano) 4 m.big ++ Oc.put 2 2 m.big ++ Oc.put 4 2 m.big ++ Oc.put 0 4 m.big ++ Oc.put 0 4 m.big ++ Oc.put m.snap 4 m.big) ++ (Oc.put m.link 4 m.big ++ rest) := by simp
    rw [e2]
    exact num_at _ _ _ 20 m.big hm.link (by simp only [List.length_append, p, p2])
  rw [head_good _ (by rw [List.length_append]; omega) (who_put m rest) (by rw [List.length_append]; omega) n2, n16, n20]
theorem read_hb (m : Hdr) (rest : List UInt8) (hm : m.Ok) : read (hbytes m ++ rest) = (m, rdr rest m.big 24) := by
  rw [read_good _ m (head_put m rest hm), List.drop_left' (hbytes_length m)]
theorem read_put (m : Hdr) (l : List Rcd) (hm : m.Ok) (h1 : ∀ r ∈ l, r.Ok) (h2 : ∀ r ∈ l, r.data.length ≤ 131072) : read (put m l) = (m, l, 0, 0) := by
  have h := rdr_put m.big [] l 24 h1 h2
  rw [List.append_nil, rdr_nil] at h
  rw [put_eq, read_hb m _ hm, h]
  simp

/-! Captures that are cut off. -/
theorem next_cut (big : Bool) (r : Rcd) (j : Nat) (_hr : r.Ok) (hs : r.data.length ≤ 131072) (hj : j < 16 + r.data.length) : next ((rbytes big r).take j) big = (rz, 0, 2) := by
  have hl := rbytes_length big r
  have hjl : ((rbytes big r).take j).length = j := by rw [List.length_take]; omega
  by_cases h16 : j < 16
  · exact next_end _ big (by omega)
  · have e : (rbytes big r).take j = Oc.put r.sec 4 big ++ (Oc.put r.frac 4 big ++ (Oc.put r.data.length 4 big ++ (Oc.put r.len 4 big ++ r.data.take (j - 16)))) := by
      have e1 : rbytes big r = rnums big r ++ r.data := rfl
      have e2 : rnums big r = Oc.put r.sec 4 big ++ (Oc.put r.frac 4 big ++ (Oc.put r.data.length 4 big ++ Oc.put r.len 4 big)) := by simp [rnums, nums]
      rw [e1, List.take_append, List.take_of_length_le (by rw [rnums_length]; omega), rnums_length, e2]
      simp
    have p := fun x => Oc.put_length x 4 big
    have n8 : num ((rbytes big r).take j) 8 big = r.data.length := by
      rw [e, ← List.append_assoc]; exact num_at (Oc.put r.sec 4 big ++ Oc.put r.frac 4 big) _ _ 8 big (by omega) (by rw [List.length_append, p, p])
    exact next_short _ big (by omega) (by rw [n8]; omega) (by rw [n8]; omega)
theorem rdr_cut (big : Bool) (r : Rcd) (j k : Nat) (hr : r.Ok) (hs : r.data.length ≤ 131072) (hj : j < 16 + r.data.length) : rdr ((rbytes big r).take j) big k = ([], if 0 < j then (k, 2) else (0, 0)) := by
  have hl := rbytes_length big r
  by_cases h0 : 0 < j
  · rw [if_pos h0]
    exact rdr_bad _ big k (by rw [List.length_take]; omega) rz 0 2 (next_cut big r j hr hs hj) (by omega)
  · rw [if_neg h0]
    have : j = 0 := by omega
    subst this
    exact rdr_nil big k
theorem read_cut (m : Hdr) (l : List Rcd) (n i : Nat) (hm : m.Ok) (h1 : ∀ r ∈ l, r.Ok) (h2 : ∀ r ∈ l, r.data.length ≤ 131072) (hi : i < l.length)
    (ha : 24 + 16 * i + size (l.take i) ≤ n) (hb : n < 24 + 16 * i + size (l.take i) + (16 + l[i].data.length)) :
    read ((put m l).take n) = (m, l.take i, if 24 + 16 * i + size (l.take i) < n then (24 + 16 * i + size (l.take i), 2) else (0, 0)) := by
  have hl := hbytes_length m
  have hrl := rbytes_length m.big l[i]
  have hsp : l = l.take i ++ (l[i] :: l.drop (i + 1)) := by rw [← List.drop_eq_getElem_cons hi, List.take_append_drop]
  have hrc : recs m.big l = recs m.big (l.take i) ++ (rbytes m.big l[i] ++ recs m.big (l.drop (i + 1))) := by
    have := congrArg (recs m.big) hsp
    rw [recs_append, recs_cons] at this
    exact this
  have hlt : (l.take i).length = i := by rw [List.length_take]; omega
  have hrl2 := recs_len m.big (l.take i)
  rw [hlt] at hrl2
  have e : (put m l).take n = hbytes m ++ (recs m.big (l.take i) ++ (rbytes m.big l[i]).take (n - (24 + 16 * i + size (l.take i)))) := by
    rw [put_eq, hrc, List.take_append, List.take_of_length_le (by omega), hl, List.take_append, List.take_of_length_le (by omega), hrl2, List.take_append_of_le_length (by omega), show n - 24 - (16 * i + size (l.take i)) = n - (24 + 16 * i + size (l.take i)) by omega]
  rw [e, read_hb m _ hm, rdr_put m.big _ (l.take i) 24 (fun r hr => h1 r (List.mem_of_mem_take hr)) (fun r hr => h2 r (List.mem_of_mem_take hr)), hlt]
  rw [rdr_cut m.big l[i] _ _ (h1 _ (List.getElem_mem hi)) (h2 _ (List.getElem_mem hi)) (by omega)]
  have e3 : (0 < n - (24 + 16 * i + size (l.take i))) = (24 + 16 * i + size (l.take i) < n) := by apply propext; omega
  simp only [e3, List.append_nil]
theorem read_short (m : Hdr) (l : List Rcd) (n : Nat) (hn : n < 24) : read ((put m l).take n) = (hz, [], 0, 2) := by
  have hl := hbytes_length m
  have hp := put_length m l
  have hln : ((put m l).take n).length = n := by rw [List.length_take]; omega
  have hh : head ((put m l).take n) = (hz, 2) := by
    by_cases h4 : n < 4
    · exact head_end _ (by omega)
    · exact head_short _ (by omega) (by rw [who_take _ n (by omega) (by omega), put_eq]; exact who_put m _) (by omega)
  exact read_bad _ 2 hz hh (by omega)

/-! What is read, put again. -/
theorem put_num (b : List UInt8) (k : Nat) (big : Bool) (h : k + 4 ≤ b.length) : Oc.put (num b k big) 4 big = (b.drop k).take 4 := by
  have h2 := Oc.put_get ((b.drop k).take 4) big
  have hl : ((b.drop k).take 4).length = 4 := by simp; omega
  rw [hl] at h2
  exact h2
theorem next_back (b : List UInt8) (big : Bool) (r : Rcd) (n : Nat) (h : next b big = (r, n, 0)) : rbytes big r = b.take n ∧ n = 16 + r.data.length ∧ n ≤ b.length ∧ r.Ok ∧ r.data.length ≤ 131072 := by
  have hk := next_known b big
  rw [h] at hk
  obtain ⟨h5, h6⟩ := hk.good rfl
  have h7 := hk.size
  simp only at h5 h6 h7
  refine ⟨?_, h5, h7, hk.ok, h6⟩
  have c1 : ¬ b.length < 16 := fun hc => by rw [next_end b big hc] at h; simp at h
  have c2 : ¬ 131072 < num b 8 big := fun hc => by rw [next_long b big c1 hc] at h; simp at h
  have c3 : ¬ b.length < 16 + num b 8 big := fun hc => by rw [next_short b big c1 c2 hc] at h; simp at h
  rw [next_good b big c1 c2 c3] at h
  simp only [Prod.mk.injEq, and_true] at h
  obtain ⟨rfl, rfl⟩ := h
  have hdl : ((b.drop 16).take (num b 8 big)).length = num b 8 big := by simp; omega
  rw [rbytes_eq]
  simp only [hdl]
  rw [put_num b 0 big (by omega), put_num b 4 big (by omega), put_num b 8 big (by omega), put_num b 12 big (by omega)]
  have t : ∀ (x y : Nat), (b.drop x).take y ++ (b.drop (x + y)) = b.drop x := fun x y => by rw [← List.drop_drop, List.take_append_drop]
  have u : ∀ (x y z : Nat), (b.drop x).take y ++ (b.drop (x + y)).take z = (b.drop x).take (y + z) := fun x y z => by
    rw [← List.drop_drop, List.take_add]
  rw [show (12 : Nat) = 8 + 4 from rfl]
  rw [show (b.drop 16) = b.drop (8 + 4 + 4) from rfl, u (8 + 4) 4 _]
  rw [u 8 4 _, show (8 : Nat) = 4 + 4 from rfl, u 4 4 _, show (b.drop 4) = b.drop (0 + 4) from rfl, u 0 4 _, List.drop_zero]
  congr 1
  omega
theorem rdr_back (big : Bool) : ∀ (f : Nat) (b : List UInt8) (k : Nat) (l : List Rcd), b.length ≤ f → rdr b big k = (l, 0, 0) → recs big l = b ∧ (∀ r ∈ l, r.Ok) ∧ (∀ r ∈ l, r.data.length ≤ 131072)
  | 0, b, k, l, hf, h => by
    have : b = [] := List.eq_nil_of_length_eq_zero (by omega)
    subst this
    rw [rdr_nil] at h
    simp only [Prod.mk.injEq, and_true] at h
    subst h
    exact ⟨rfl, (fun r hr => by simp at hr), (fun r hr => by simp at hr)⟩
  | f + 1, b, k, l, hf, h => by
    by_cases hb : b = []
    · subst hb
      rw [rdr_nil] at h
      simp only [Prod.mk.injEq, and_true] at h
      subst h
      exact ⟨rfl, (fun r hr => by simp at hr), (fun r hr => by simp at hr)⟩
    · have hpos : 0 < b.length := List.length_pos_iff.2 hb
      rcases hx : next b big with ⟨r, n, e⟩
      by_cases he : e = 0
      · subst he
        obtain ⟨q1, q2, q3, q4, q5⟩ := next_back b big r n hx
        rw [rdr_good b big k hpos r n hx] at h
        simp only [Prod.mk.injEq] at h
        obtain ⟨h1, h2⟩ := h
        have ih := rdr_back big f (b.drop n) (k + n) (rdr (b.drop n) big (k + n)).1 (by simp; omega) (by rw [← h2])
        obtain ⟨i1, i2, i3⟩ := ih
        subst h1
        refine ⟨?_, ?_, ?_⟩
        · rw [recs_cons, i1, q1, List.take_append_drop]
        · intro x hx
          simp only [List.mem_cons] at hx
          rcases hx with rfl | hx
          · exact q4
          · exact i2 x hx
        · intro x hx
          simp only [List.mem_cons] at hx
          rcases hx with rfl | hx
          · exact q5
          · exact i3 x hx
      · rw [rdr_bad b big k hpos r n e hx he] at h
        simp only [Prod.mk.injEq] at h
        exact absurd h.2.2 he
/-- What Read's fault may be. -/
theorem rdr_spot (big : Bool) : ∀ (f : Nat) (b : List UInt8) (k : Nat), b.length ≤ f → ((rdr b big k).2 = (0, 0)) ∨ ((rdr b big k).2.1 ≤ k + b.length ∧ (rdr b big k).2.2 ≠ 0 ∧ (rdr b big k).2.2 ≤ 4)
  | 0, b, k, hf => by
    have : b = [] := List.eq_nil_of_length_eq_zero (by omega)
    subst this
    exact .inl rfl
  | f + 1, b, k, hf => by
    by_cases hb : b = []
    · subst hb; exact .inl rfl
    · have hpos : 0 < b.length := List.length_pos_iff.2 hb
      have hk := next_known b big
      rcases hx : next b big with ⟨r, n, e⟩
      rw [hx] at hk
      by_cases he : e = 0
      · subst he
        obtain ⟨h5, h6⟩ := hk.good rfl
        have h7 := hk.size
        simp only at h5 h6 h7
        rw [rdr_good b big k hpos r n hx]
        have ih := rdr_spot big f (b.drop n) (k + n) (by simp; omega)
        simp only
        rcases ih with h | ⟨h1, h2, h3⟩
        · exact .inl h
        · refine .inr ⟨?_, h2, h3⟩
          rw [List.length_drop] at h1; omega
      · rw [rdr_bad b big k hpos r n e hx he]
        refine .inr ⟨by simp, he, ?_⟩
        have := hk.err
        simp only at this ⊢
        omega
structure ReadKnown (b : List UInt8) (A : Hdr × List Rcd × Nat × Nat) : Prop where
  ok : A.1.Ok
  spot : A.2.2 = (0, 0) ∨ (A.2.2.1 ≤ b.length ∧ A.2.2.2 ≠ 0 ∧ A.2.2.2 ≤ 4)
theorem read_known (b : List UInt8) : ReadKnown b (read b) := by
  have hk := head_known b
  rcases hx : head b with ⟨m, e⟩
  rw [hx] at hk
  by_cases he : e = 0
  · subst he
    rw [read_good b m hx]
    have hs := rdr_spot m.big (b.drop 24).length (b.drop 24) 24 (Nat.le_refl _)
    refine ⟨hk.ok, ?_⟩
    by_cases h24 : b.length < 24
    · have : b.drop 24 = [] := List.drop_of_length_le (by omega)
      rw [this]
      exact .inl rfl
    · rcases hs with h | ⟨h1, h2, h3⟩
      · exact .inl h
      · rw [List.length_drop] at h1
        exact .inr ⟨by simp only; omega, h2, h3⟩
  · rw [read_bad b e m hx he]
    have := hk.err
    simp only at this
    exact ⟨hz_ok, .inr ⟨Nat.zero_le _, he, by simp only; omega⟩⟩
theorem read_recs (b : List UInt8) : ∀ r ∈ (read b).2.1, r.Ok := by
  have main : ∀ (big : Bool) (f : Nat) (b : List UInt8) (k : Nat), b.length ≤ f → ∀ r ∈ (rdr b big k).1, r.Ok := by
    intro big f
    induction f with
    | zero =>
      intro b k hf r hr
      have : b = [] := List.eq_nil_of_length_eq_zero (by omega)
      subst this
      rw [rdr_nil] at hr; simp at hr
    | succ f ih =>
      intro b k hf r hr
      by_cases hb : b = []
      · subst hb; rw [rdr_nil] at hr; simp at hr
      · have hpos : 0 < b.length := List.length_pos_iff.2 hb
        have hk := next_known b big
        rcases hx : next b big with ⟨r', n, e⟩
        rw [hx] at hk
        by_cases he : e = 0
        · subst he
          have h5 := (hk.good rfl).1
          simp only at h5
          rw [rdr_good b big k hpos r' n hx] at hr
          simp only [List.mem_cons] at hr
          rcases hr with rfl | hr
          · exact hk.ok
          · exact ih (b.drop n) (k + n) (by simp; omega) r hr
        · rw [rdr_bad b big k hpos r' n e hx he] at hr; simp at hr
  rcases hx : head b with ⟨m, e⟩
  by_cases he : e = 0
  · subst he
    rw [read_good b m hx]
    exact main m.big _ _ 24 (Nat.le_refl _)
  · rw [read_bad b e m hx he]
    intro r hr; simp at hr
theorem read_back (b : List UInt8) (m : Hdr) (l : List Rcd) (h : read b = (m, l, 0, 0)) :
    24 ≤ b.length ∧ (∀ r ∈ l, r.Ok) ∧ (∀ r ∈ l, r.data.length ≤ 131072) ∧ (put m l).length = b.length ∧ (put m l).take 6 = b.take 6 ∧ (put m l).drop 16 = b.drop 16 := by
  rcases hx : head b with ⟨m', e⟩
  by_cases he : e = 0
  · subst he
    rw [read_good b m' hx] at h
    simp only [Prod.mk.injEq] at h
    obtain ⟨rfl, h⟩ := h
    obtain ⟨r1, r2, r3⟩ := rdr_back m'.big (b.drop 24).length (b.drop 24) 24 l (Nat.le_refl _) h
    have c0 : ¬ b.length < 4 := fun hc => by rw [head_end b hc] at hx; simp at hx
    cases hw : who b with
    | none => rw [head_form b c0 hw] at hx; simp at hx
    | some p =>
      obtain ⟨big, nano⟩ := p
      have c1 : ¬ b.length < 24 := fun hc => by rw [head_short b c0 hw hc] at hx; simp at hx
      have c2 : Oc.get ((b.drop 4).take 2) big = 2 := by
        by_cases hc : Oc.get ((b.drop 4).take 2) big = 2
        · exact hc
        · rw [head_two b c0 hw c1 hc] at hx; simp at hx
      rw [head_good b c0 hw c1 c2] at hx
      simp only [Prod.mk.injEq, and_true] at hx
      subst hx
      have w4 := (who_iff b (by omega) big nano).1 hw
      have g2 := Oc.put_get ((b.drop 4).take 2) big
      rw [c2, show ((b.drop 4).take 2).length = 2 by simp; omega] at g2
      have p16 := put_num b 16 big (by omega)
      have p20 := put_num b 20 big (by omega)
      have p := fun x => Oc.put_length x 4 big
      have p2 := fun x => Oc.put_length x 2 big
      have hh := hbytes_eq' ⟨big, nano, num b 16 big, num b 20 big⟩
      have hl := hbytes_length ⟨big, nano, num b 16 big, num b 20 big⟩
      simp only at hh r1
      rw [p16, p20, w4, g2] at hh
      refine ⟨by omega, r2, r3, ?_, ?_, ?_⟩
      · rw [put_eq, List.length_append, hl, r1, List.length_drop]; omega
      · rw [put_eq, List.take_append_of_le_length (by omega), hh, ← List.append_assoc]
        have : b.take 4 ++ (b.drop 4).take 2 = b.take 6 := by rw [← List.take_add]
        rw [this, List.take_append_of_le_length (by simp; omega), List.take_take, Nat.min_self]
      · rw [put_eq, r1, List.drop_append_of_le_length (by omega), hh]
        have e2 : b.take 4 ++ ((b.drop 4).take 2 ++ (Oc.put 4 2 big ++ (Oc.put 0 4 big ++ (Oc.put 0 4 big ++ ((b.drop 16).take 4 ++ (b.drop 20).take 4))))) = (b.take 4 ++ (b.drop 4).take 2 ++ Oc.put 4 2 big ++ Oc.put 0 4 big ++ Oc.put 0 4 big) ++ ((b.drop 16).take 4 ++ (b.drop 20).take 4) := by simp
        rw [e2, List.drop_left' (by simp only [List.length_append, List.length_take, List.length_drop, p, p2]; omega)]
        have e3 : (b.drop 16).take 4 ++ (b.drop 20).take 4 = (b.drop 16).take 8 := by rw [show (20 : Nat) = 16 + 4 from rfl, ← List.drop_drop, ← List.take_add]
        rw [e3, show (24 : Nat) = 16 + 8 from rfl, ← List.drop_drop, List.take_append_drop]
  · rw [read_bad b e m' hx he] at h
    simp only [Prod.mk.injEq] at h
    exact absurd h.2.2.2 he
end Pc
end Go.Proofs.Ytfkjjolohphaoaa
