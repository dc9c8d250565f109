/- Plain mathematics of FrameBack: frames in a row, with flags besides, come back. No program stands in it. -/
import Derived.Test.YthmljgpnkealaaaPlainf
namespace Go.Proofs.Ythmljgpnkealaaa
namespace Fr
/-- A frame as it is put, and flags behind it. -/
def one (m : Nat) (wide : Bool) (f : Nat) (b : List UInt8) : List UInt8 := 126 :: (fr m wide b ++ List.replicate f 126)
def strm (m : Nat) (wide : Bool) (f : Nat) (L : List (List UInt8)) : List UInt8 := L.flatMap (one m wide f)
def goodN (t : Tal) (k : Nat) : Tal := ⟨t.good + k, t.aborted, t.short, t.long, t.wrong⟩
theorem strm_take (m : Nat) (wide : Bool) (f : Nat) (L : List (List UInt8)) (k : Nat) (h : k < L.length) : strm m wide f (L.take (k + 1)) = strm m wide f (L.take k) ++ one m wide f L[k] := by
  unfold strm
  rw [List.take_succ_eq_append_getElem h, List.flatMap_append]; simp
theorem one_len (m : Nat) (wide : Bool) (f : Nat) (b : List UInt8) : (one m wide f b).length ≤ 2 * b.length + 10 + f := by
  have h1 := fr_length m wide b
  have h2 := size_two wide
  simp only [one, List.length_cons, List.length_append, List.length_replicate]
  omega
theorem strm_len (m : Nat) (wide : Bool) (f : Nat) (L : List (List UInt8)) (hf : f ≤ 3) : (strm m wide f L).length ≤ 2 * L.flatten.length + 13 * L.length := by
  induction L with
  | nil => simp [strm]
  | cons b L ih =>
    have h1 := one_len m wide f b
    simp only [strm, List.flatMap_cons, List.flatten_cons, List.length_append, List.length_cons] at ih ⊢
    omega
theorem run_flags (m : Nat) (wide : Bool) (t : Tal) (f : Nat) : run m wide ⟨true, [], t⟩ (List.replicate f 126) = ⟨true, [], t⟩ ∧ all m wide ⟨true, [], t⟩ (List.replicate f 126) = [] ∧ safe m wide ⟨true, [], t⟩ (List.replicate f 126) := by
  induction f with
  | zero => exact ⟨rfl, rfl, Nat.zero_le _⟩
  | succ f ih =>
    have hf := run_flag m wide true t
    refine ⟨?_, ?_, Nat.zero_le _, ?_⟩
    · show run m wide (next m wide _ 126) (List.replicate f 126) = _
      rw [hf.1]; exact ih.1
    · show outs (out m wide _ 126) ++ all m wide (next m wide _ 126) (List.replicate f 126) = _
      rw [hf.1, hf.2, ih.2.1]; rfl
    · show safe m wide (next m wide _ 126) (List.replicate f 126)
      rw [hf.1]; exact ih.2.2
theorem run_one (m : Nat) (wide : Bool) (hm : m < 4294967296) (f : Nat) (i : Bool) (t : Tal) (b : List UInt8) (h2 : 2 ≤ b.length) (h6 : b.length ≤ 65535) :
    run m wide ⟨i, [], t⟩ (one m wide f b) = ⟨true, [], goodN t 1⟩ ∧ all m wide ⟨i, [], t⟩ (one m wide f b) = [b] ∧ safe m wide ⟨i, [], t⟩ (one m wide f b) := by
  have hf := run_flag m wide i t
  have h1 := run_fr m wide hm t b h2 h6
  have h3 := run_flags m wide (count t 1) f
  have h4 := safe_fr m wide t b hm h6
  refine ⟨?_, ?_, Nat.zero_le _, ?_⟩
  · show run m wide (next m wide _ 126) (fr m wide b ++ List.replicate f 126) = _
    rw [hf.1, run_append, h1.1, h3.1]; rfl
  · show outs (out m wide _ 126) ++ all m wide (next m wide _ 126) (fr m wide b ++ List.replicate f 126) = _
    rw [hf.1, hf.2, all_append, h1.1, h1.2, h3.2.1]; rfl
  · show safe m wide (next m wide _ 126) (fr m wide b ++ List.replicate f 126)
    rw [hf.1]
    exact safe_append _ _ _ _ _ h4 (by rw [h1.1]; exact h3.2.2)
theorem run_strm (m : Nat) (wide : Bool) (hm : m < 4294967296) (f : Nat) (L : List (List UInt8)) : ∀ (i : Bool) (t : Tal), (∀ b ∈ L, 2 ≤ b.length ∧ b.length ≤ 65535) →
    (run m wide ⟨i, [], t⟩ (strm m wide f L)).tal = goodN t L.length ∧ all m wide ⟨i, [], t⟩ (strm m wide f L) = L ∧ safe m wide ⟨i, [], t⟩ (strm m wide f L) := by
  induction L with
  | nil => intro i t _; exact ⟨rfl, rfl, Nat.zero_le _⟩
  | cons b L ih =>
    intro i t hb
    have h1 := hb b (by simp)
    have h2 := run_one m wide hm f i t b h1.1 h1.2
    have h3 := ih true (goodN t 1) (fun c hc => hb c (by simp [hc]))
    have e : strm m wide f (b :: L) = one m wide f b ++ strm m wide f L := by simp [strm]
    rw [e, run_append, all_append, h2.1, h2.2.1, h3.1, h3.2.1]
    refine ⟨?_, rfl, safe_append _ _ _ _ _ h2.2.2 (by rw [h2.1]; exact h3.2.2)⟩
    simp only [goodN, List.length_cons]
    congr 1
    omega
theorem err_zero (L : List (List UInt8)) : err L = 0 → ∀ b ∈ L, 2 ≤ b.length ∧ b.length ≤ 65535 := by
  induction L with
  | nil => intro _ b hb; simp at hb
  | cons c L ih =>
    intro h b hb
    simp only [err] at h
    split at h
    · rename_i hc
      rcases List.mem_cons.1 hb with rfl | hb
      · exact (fault_zero b).1 hc
      · exact ih h b hb
    · rename_i hc; exact absurd h hc
/-- Without flags. -/
def noFlag (xs : List UInt8) : List UInt8 := xs.filter fun c => decide (¬ c.toNat = 126)
theorem noFlag_take (xs : List UInt8) (k : Nat) (h : k < xs.length) : noFlag (xs.take (k + 1)) = noFlag (xs.take k) ++ (if xs[k].toNat = 126 then [] else [xs[k]]) := by
  rw [List.take_succ_eq_append_getElem h, noFlag, List.filter_append, ← noFlag]
  congr 1
  by_cases h6 : xs[k].toNat = 126 <;> simp [h6]
theorem noFlag_len (xs : List UInt8) : (noFlag xs).length ≤ xs.length := List.length_filter_le ..
theorem noFlag_not (xs : List UInt8) (c : UInt8) (h : c ∈ noFlag xs) : ¬ c.toNat = 126 := by
  have := (List.mem_filter.1 h).2
  simpa using this
/-- All of it. -/
theorem run_back (m : Nat) (wide : Bool) (hm : m < 4294967296) (f : Nat) (A : List UInt8) (L : List (List UInt8)) (hA : ∀ c ∈ A, ¬ c.toNat = 126) (hAl : A.length ≤ 2000) (hL : ∀ b ∈ L, 2 ≤ b.length ∧ b.length ≤ 65535) :
    (run m wide init (A ++ strm m wide f L)).tal = ⟨L.length, 0, 0, 0, 0⟩ ∧ all m wide init (A ++ strm m wide f L) = L ∧ safe m wide init (A ++ strm m wide f L) := by
  have h1 := run_ahead m wide A [] zero hA
  have h2 := run_strm m wide hm f L false zero hL
  have hi : init = ⟨false, [], zero⟩ := rfl
  have hml := most_le wide
  rw [hi, run_append, all_append, h1.1, h1.2, h2.1, h2.2.1]
  refine ⟨?_, rfl, safe_append _ _ _ _ _ (safe_len _ _ _ _ (by show 0 + _ ≤ _; omega)) (by rw [h1.1]; exact h2.2.2)⟩
  simp [goodN, zero]
end Fr
end Go.Proofs.Ythmljgpnkealaaa
