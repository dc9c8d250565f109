/- Plain mathematics of layer 1 (digits), fifth part: words of texts that are joined by blanks. No program stands in it. -/
import Derived.Test.YtiiaahhdlgoklaaDoorPlainc
namespace Go.Proofs.YtiiaahhdlgoklaaDoor
namespace Dg

theorem wd_join : ∀ (l cur t : List UInt8), wd cur (l ++ 32 :: t) = wd cur l ++ words t
  | [], cur, t => by rw [List.nil_append, wd_blank, wd]; rfl
  | c :: l, cur, t => by
    by_cases h : c = 32
    · subst h
      rw [List.cons_append, wd_blank, wd_blank, wd_join l [] t, List.append_assoc]
    · rw [List.cons_append, wd_other cur c _ h, wd_other cur c _ h, wd_join l _ t]
theorem words_blanks (k : Nat) (x : List UInt8) : words (List.replicate k 32 ++ x) = words x := by
  induction k with
  | zero => simp
  | succ k ih =>
    rw [List.replicate_succ, List.cons_append]
    show wd [] _ = _
    rw [wd_blank]
    show one [] ++ words _ = _
    rw [ih]
    rfl
/-- Behind a blank the words go on. -/
theorem words_join (acc x : List UInt8) (k : Nat) : words (acc ++ List.replicate (k + 1) 32 ++ x) = words acc ++ words x := by
  rw [List.append_assoc, List.replicate_succ, List.cons_append]
  show wd [] _ = _
  rw [wd_join, words_blanks]
  rfl
end Dg
end Go.Proofs.YtiiaahhdlgoklaaDoor
