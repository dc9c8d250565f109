/- Plain mathematics of layer 10 (dump): what is put is read as it was; what is read, put again; notes that are cut off. -/
import Derived.Test.YtbmlacmpiaklpaaDoorPlaind
namespace Go.Proofs.YtbmlacmpiaklpaaDoor
namespace Dm

theorem kd_one (x : Nt) (rest : List UInt8) (h : Good x) : ((kd (byt0 x :: rest) : Nat) : Int) = x.kind := by
  have h1 := h.lo
  have h2 := h.hi
  rw [kd_cons]
  simp [byt0]
  omega
theorem fm_one (x : Nt) (rest : List UInt8) (h : Good x) : fm (byt0 x :: rest) = form x.kind := by unfold fm; rw [kd_one x rest h]
theorem vl_one (x : Nt) (rest : List UInt8) (h : Good x) : vl (byt0 x :: (nbytes x ++ rest)) = num x (form x.kind) := by
  unfold vl
  rw [fm_one x _ h, List.drop_one, List.tail_cons, List.take_left' (nbytes_length x)]
  exact Oc.get_put _ _ _ h.fits
theorem next_put (x : Nt) (rest : List UInt8) (h : bad x = 0) : next (one x ++ rest) = (x, (one x).length, 0) := by
  have hg := good_of x h
  have hl := one_length x
  have e : one x ++ rest = byt0 x :: (nbytes x ++ (x.data ++ rest)) := by simp [one]
  have hf := fm_one x (nbytes x ++ (x.data ++ rest)) hg
  have hv := vl_one x (x.data ++ rest) hg
  have hk := kd_one x (nbytes x ++ (x.data ++ rest)) hg
  have hlen : (one x ++ rest).length = 1 + (form x.kind).size + x.data.length + rest.length := by rw [List.length_append, hl]
  rw [← e] at hf hv hk
  cases hd : (form x.kind).data
  · have hw := hg.word hd
    rw [next_word _ (by omega) (by rw [hf]; exact hg.known) (by rw [hf]; omega) (by rw [hf]; exact hd), hf, hv, hk, hl]
    have : num x (form x.kind) = x.n := by simp [num, hd]
    rw [this]
    obtain ⟨k, n, d⟩ := x
    simp only at hw
    subst hw
    rfl
  · obtain ⟨h0, _⟩ := hg.data hd
    have hn : num x (form x.kind) = x.data.length := by simp [num, hd]
    rw [hn] at hv
    rw [next_good _ (by omega) (by rw [hf]; exact hg.known) (by rw [hf]; omega) (by rw [hf]; exact hd) (by rw [hf, hv]; omega), hf, hv, hk, hl]
    have hdr : ((one x ++ rest).drop (1 + (form x.kind).size)).take x.data.length = x.data := by
      have e2 : one x ++ rest = (byt0 x :: nbytes x) ++ (x.data ++ rest) := by simp [one]
      rw [e2, List.drop_left' (by rw [List.length_cons, nbytes_length]; omega), List.take_left' rfl]
    rw [hdr]
    obtain ⟨k, n, d⟩ := x
    simp only at h0
    subst h0
    rfl
theorem rdr_put (rest : List UInt8) : ∀ (l : List Nt) (k : Nat), fine l →
    rdr (bytes l ++ rest) k = (l ++ (rdr rest (k + (bytes l).length)).1, (rdr rest (k + (bytes l).length)).2)
  | [], k, _ => by simp [bytes_nil]
  | x :: l, k, h => by
    have hn := next_put x (bytes l ++ rest) (h x (by simp))
    have hl := one_length x
    have ih := rdr_put rest l (k + (one x).length) (fun y hy => h y (by simp [hy]))
    rw [bytes_cons, List.append_assoc, rdr_good _ k (by rw [List.length_append]; omega) x _ hn, List.drop_left' rfl, ih, List.length_append, Nat.add_assoc]
    rfl
theorem read_put (l : List Nt) (h : fine l) : read (bytes l) = (l, 0, 0) := by
  have h := rdr_put [] l 0 h
  rw [List.append_nil, rdr_nil] at h
  rw [read, h]
  simp

/-! Notes that are cut off. -/
theorem next_off (x : Nt) (j : Nat) (h : bad x = 0) (hj : j < (one x).length) : next ((one x).take j) = (nz, 0, 2) := by
  have hg := good_of x h
  have hl := one_length x
  have hjl : ((one x).take j).length = j := by rw [List.length_take]; omega
  by_cases h0 : j = 0
  · exact next_end _ (by omega)
  · obtain ⟨i, rfl⟩ : ∃ i, j = i + 1 := ⟨j - 1, by omega⟩
    have e : (one x).take (i + 1) = byt0 x :: (nbytes x ++ x.data).take i := rfl
    have hf := fm_one x ((nbytes x ++ x.data).take i) hg
    rw [← e] at hf
    by_cases hs : i + 1 < 1 + (form x.kind).size
    · exact next_short _ (by omega) (by rw [hf]; exact hg.known) (by rw [hf]; omega)
    · have e2 : (nbytes x ++ x.data).take i = nbytes x ++ x.data.take (i - (form x.kind).size) := by
        rw [List.take_append, List.take_of_length_le (by rw [nbytes_length]; omega), nbytes_length]
      have hv := vl_one x (x.data.take (i - (form x.kind).size)) hg
      rw [← e2, ← e] at hv
      cases hd : (form x.kind).data
      · have := hg.word hd
        rw [this] at hl
        simp at hl
        omega
      · have hn : num x (form x.kind) = x.data.length := by simp [num, hd]
        rw [hn] at hv
        exact next_cut _ (by omega) (by rw [hf]; exact hg.known) (by rw [hf]; omega) (by rw [hf]; exact hd) (by rw [hf, hv]; omega)
theorem rdr_off (x : Nt) (j k : Nat) (h : bad x = 0) (hj : j < (one x).length) : rdr ((one x).take j) k = ([], if 0 < j then (k, 2) else (0, 0)) := by
  by_cases h0 : 0 < j
  · rw [if_pos h0]
    exact rdr_bad _ k (by rw [List.length_take]; omega) nz 0 2 (next_off x j h hj) (by omega)
  · rw [if_neg h0]
    have : j = 0 := by omega
    subst this
    exact rdr_nil k
theorem read_cut (l : List Nt) (n i : Nat) (h : fine l) (hi : i < l.length) (ha : (bytes (l.take i)).length ≤ n) (hb : n < (bytes (l.take i)).length + (one l[i]).length) :
    read ((bytes l).take n) = (l.take i, if (bytes (l.take i)).length < n then ((bytes (l.take i)).length, 2) else (0, 0)) := by
  have hsp : l = l.take i ++ (l[i] :: l.drop (i + 1)) := by rw [← List.drop_eq_getElem_cons hi, List.take_append_drop]
  have hrc : bytes l = bytes (l.take i) ++ (one l[i] ++ bytes (l.drop (i + 1))) := by
    have := congrArg bytes hsp
    rw [bytes_append, bytes_cons] at this
    exact this
  have e : (bytes l).take n = bytes (l.take i) ++ (one l[i]).take (n - (bytes (l.take i)).length) := by
    rw [hrc, List.take_append, List.take_of_length_le ha, List.take_append_of_le_length (by omega)]
  rw [read, e, rdr_put _ (l.take i) 0 (fun x hx => h x (List.mem_of_mem_take hx)), Nat.zero_add, rdr_off _ _ _ (h _ (List.getElem_mem hi)) (by omega)]
  have e3 : (0 < n - (bytes (l.take i)).length) = ((bytes (l.take i)).length < n) := by apply propext; omega
  simp only [e3, List.append_nil]

/-! What is read, put again. -/
structure Back (b : List UInt8) (k : Nat) (A : List Nt × Nat × Nat) : Prop where
  fine : fine A.1
  ok : ∀ x ∈ A.1, x.Ok
  size : size A.1 ≤ b.length
  many : A.1.length ≤ b.length
  none : A.2.2 = 0 → A.2.1 = 0 ∧ bytes A.1 = b
  some : A.2.2 ≠ 0 → k ≤ A.2.1 ∧ A.2.1 - k ≤ b.length ∧ bytes A.1 = b.take (A.2.1 - k) ∧ A.2.2 ≤ 7
theorem rdr_back : ∀ (f : Nat) (b : List UInt8) (k : Nat), b.length ≤ f → Back b k (rdr b k)
  | 0, b, k, hf => by
    have : b = [] := List.eq_nil_of_length_eq_zero (by omega)
    subst this
    rw [rdr_nil]
    exact ⟨fine_nil, (fun r hr => by simp at hr), Nat.le_refl _, Nat.le_refl _, fun _ => ⟨rfl, rfl⟩, fun h => absurd rfl h⟩
  | f + 1, b, k, hf => by
    by_cases hb : b = []
    · subst hb
      rw [rdr_nil]
      exact ⟨fine_nil, (fun r hr => by simp at hr), Nat.le_refl _, Nat.le_refl _, fun _ => ⟨rfl, rfl⟩, fun h => absurd rfl h⟩
    · have hpos : 0 < b.length := List.length_pos_iff.2 hb
      have hk := next_known b
      rcases hx : next b with ⟨r, n, e⟩
      rw [hx] at hk
      by_cases he : e = 0
      · subst he
        obtain ⟨q1, q2, q3⟩ := hk.good rfl
        have q4 := hk.size
        simp only at q1 q2 q3 q4
        have ih := rdr_back f (b.drop n) (k + n) (by simp; omega)
        rw [rdr_good b k hpos r n hx]
        generalize rdr (b.drop n) (k + n) = A at ih ⊢
        obtain ⟨l, at', e⟩ := A
        have hol := congrArg List.length q3
        rw [one_length, List.length_take] at hol
        have hs := ih.size
        have hm := ih.many
        rw [List.length_drop] at hs hm
        refine ⟨?_, ?_, ?_, ?_, ?_, ?_⟩
        · intro x hx
          simp only [List.mem_cons] at hx
          rcases hx with rfl | hx
          · exact q2
          · exact ih.fine x hx
        · intro x hx
          simp only [List.mem_cons] at hx
          rcases hx with rfl | hx
          · exact hk.ok
          · exact ih.ok x hx
        · simp only [size_cons] at hs ⊢; omega
        · simp only [List.length_cons] at hm ⊢; omega
        · intro h
          obtain ⟨h1, h2⟩ := ih.none h
          refine ⟨h1, ?_⟩
          simp only at h2 ⊢
          rw [bytes_cons, h2, q3, List.take_append_drop]
        · intro h
          obtain ⟨h1, h2, h3, h4⟩ := ih.some h
          rw [List.length_drop] at h2
          simp only at h1 h2 h3 ⊢
          refine ⟨by omega, by omega, ?_, h4⟩
          rw [bytes_cons, h3, q3, show at' - k = n + (at' - (k + n)) by omega, List.take_add]
      · rw [rdr_bad b k hpos r n e hx he]
        have := hk.err
        simp only at this
        refine ⟨fine_nil, (fun r hr => by simp at hr), Nat.zero_le _, Nat.zero_le _, fun h => absurd h he, fun _ => ⟨Nat.le_refl _, by simp, by simp [bytes_nil], by simp only; omega⟩⟩
theorem read_back (b : List UInt8) : Back b 0 (read b) := rdr_back b.length b 0 (Nat.le_refl _)
end Dm
end Go.Proofs.YtbmlacmpiaklpaaDoor
