/- Plain mathematics of layer 1 (digits), third part: the words of a text. No program stands in it. -/
import Derived.Test.YtiiaahhdlgoklaaDoorPlain
namespace Go.Proofs.YtiiaahhdlgoklaaDoor
namespace Dg

/-- A word, if it isn't empty. -/
def one (x : List UInt8) : List (List UInt8) := if x = [] then [] else [x]
/-- The words of a text that goes on behind cur. -/
def wd : List UInt8 → List UInt8 → List (List UInt8)
  | cur, [] => one cur
  | cur, c :: t => if c = 32 then one cur ++ wd [] t else wd (cur ++ [c]) t
/-- The words of a text. -/
def words (l : List UInt8) : List (List UInt8) := wd [] l

theorem wd_blank (cur : List UInt8) (t : List UInt8) : wd cur (32 :: t) = one cur ++ wd [] t := by simp [wd]
theorem wd_other (cur : List UInt8) (c : UInt8) (t : List UInt8) (h : c ≠ 32) : wd cur (c :: t) = wd (cur ++ [c]) t := by simp [wd, h]
theorem wd_seg : ∀ (seg cur t : List UInt8), (∀ c ∈ seg, c ≠ 32) → wd cur (seg ++ t) = wd (cur ++ seg) t
  | [], cur, t, _ => by simp
  | c :: seg, cur, t, h => by
    rw [List.cons_append, wd_other cur c _ (h c (by simp)), wd_seg seg (cur ++ [c]) t (fun d hd => h d (by simp [hd]))]
    simp
theorem one_length (x : List UInt8) : (one x).length ≤ 1 := by unfold one; split <;> simp

theorem get_lt (s : ByteArray) (j : Nat) (h : j < s.size) : s.get! j = s[j]'h := by
  have := get_at s j h
  simpa using this

/-- Behind a rune's first byte, if that isn't ASCII, stand no ASCII bytes, as far as it goes. -/
theorem decode_skip (s : ByteArray) (pos : Nat) (h : pos < s.size) (ha : 128 ≤ (s[pos]'h).toNat) :
    1 ≤ (Utf8.decode s pos).2 ∧ pos + (Utf8.decode s pos).2 ≤ s.size ∧ ∀ j, pos ≤ j → j < pos + (Utf8.decode s pos).2 → 128 ≤ (s.get! j).toNat := by
  have hn : ¬ (s[pos]'h).toNat < 128 := by omega
  have h0 : 128 ≤ (s.get! pos).toNat := by rw [get_lt s pos h]; exact ha
  have small : ∀ k : Nat, k = 1 → 1 ≤ k ∧ pos + k ≤ s.size ∧ ∀ j, pos ≤ j → j < pos + k → 128 ≤ (s.get! j).toNat := by
    rintro k rfl
    exact ⟨Nat.le_refl _, h, fun j h1 h2 => by rw [show j = pos by omega]; exact h0⟩
  simp only [Utf8.decode, get_at s pos h, hn, if_false]
  split
  · rename_i h1
    simp only [Bool.and_eq_true, decide_eq_true_eq, beq_iff_eq] at h1
    split
    · refine ⟨by simp, by simp; omega, fun j h2 h3 => ?_⟩
      simp only at h3
      rcases Nat.lt_or_ge pos j with h4 | h4
      · obtain rfl : j = pos + 1 := by omega
        omega
      · obtain rfl : j = pos := by omega
        exact h0
    · exact small 1 rfl
  · split
    · rename_i h1
      simp only [Bool.and_eq_true, decide_eq_true_eq, beq_iff_eq] at h1
      split
      · refine ⟨by simp, by simp; omega, fun j h2 h3 => ?_⟩
        simp only at h3
        rcases (by omega : j = pos ∨ j = pos + 1 ∨ j = pos + 2) with rfl | rfl | rfl
        · exact h0
        · omega
        · omega
      · exact small 1 rfl
    · split
      · rename_i h1
        simp only [Bool.and_eq_true, decide_eq_true_eq, beq_iff_eq] at h1
        split
        · refine ⟨by simp, by simp; omega, fun j h2 h3 => ?_⟩
          simp only at h3
          rcases (by omega : j = pos ∨ j = pos + 1 ∨ j = pos + 2 ∨ j = pos + 3) with rfl | rfl | rfl | rfl
          · exact h0
          · omega
          · omega
          · omega
        · exact small 1 rfl
      · exact small 1 rfl

/-- A piece of a text. -/
def seg (s : ByteArray) (a b : Nat) : List UInt8 := (s.data.toList.drop a).take (b - a)
theorem seg_data (s : ByteArray) (a b : Nat) : s.extract a b = ⟨(seg s a b).toArray⟩ := by
  apply ByteArray.ext
  apply Array.toList_inj.1
  rw [Lib.extract_data]
  rfl
theorem ext_le (s : ByteArray) (a b : Nat) : (s.extract a b).size ≤ s.size := by
  rw [Lib.size_eq, Lib.extract_data, Lib.size_eq s, List.length_take, List.length_drop]; omega
theorem seg_self (s : ByteArray) (a : Nat) : seg s a a = [] := by simp [seg]
theorem seg_split (s : ByteArray) (a b c : Nat) (h1 : a ≤ b) (h2 : b ≤ c) : seg s a c = seg s a b ++ seg s b c := by
  unfold seg
  rw [show c - a = (b - a) + (c - b) by omega, List.take_add, List.drop_drop, show a + (b - a) = b by omega]
theorem drop_seg (s : ByteArray) (a b : Nat) (h : a ≤ b) : s.data.toList.drop a = seg s a b ++ s.data.toList.drop b := by
  unfold seg
  have := List.take_append_drop (b - a) (s.data.toList.drop a)
  rw [List.drop_drop, show a + (b - a) = b by omega] at this
  exact this.symm
theorem seg_get (s : ByteArray) (a b j : Nat) (h : j < (seg s a b).length) : (seg s a b)[j] = s.get! (a + j) := by
  have h1 : a + j < s.size := by
    unfold seg at h
    simp at h
    have : s.size = s.data.size := rfl
    omega
  rw [get_lt s (a + j) h1]
  simp [seg]
  rfl

/-- On behind a blank. -/
theorem words_blank (s : ByteArray) (W : List (List UInt8)) (beg pos : Nat) (h : pos < s.size) (hc : (s[pos]'h).toNat = 32)
    (hW : W ++ wd (seg s beg pos) (s.data.toList.drop pos) = words s.data.toList) : (W ++ one (seg s beg pos)) ++ wd (seg s (pos + 1) (pos + 1)) (s.data.toList.drop (pos + 1)) = words s.data.toList := by
  rw [← hW, drop_at s pos h, show (s[pos]'h) = 32 from UInt8.toNat_inj.1 hc, wd_blank, seg_self, List.append_assoc]
/-- On behind bytes that are no blanks. -/
theorem words_seg (s : ByteArray) (W : List (List UInt8)) (beg pos q : Nat) (h1 : beg ≤ pos) (h2 : pos ≤ q) (hc : ∀ j, pos ≤ j → j < q → (s.get! j).toNat ≠ 32)
    (hW : W ++ wd (seg s beg pos) (s.data.toList.drop pos) = words s.data.toList) : W ++ wd (seg s beg q) (s.data.toList.drop q) = words s.data.toList := by
  rw [← hW, drop_seg s pos q h2, wd_seg, ← seg_split s beg pos q h1 h2]
  intro c hc2
  obtain ⟨j, hj, rfl⟩ := List.mem_iff_getElem.1 hc2
  have hj2 : j < q - pos := by unfold seg at hj; simp at hj; omega
  rw [seg_get]
  intro e
  exact hc (pos + j) (by omega) (by omega) (by rw [e]; rfl)
theorem words_end (s : ByteArray) (W : List (List UInt8)) (beg pos : Nat) (h : ¬ pos < s.size)
    (hW : W ++ wd (seg s beg pos) (s.data.toList.drop pos) = words s.data.toList) : W ++ one (seg s beg s.size) = words s.data.toList := by
  rw [← hW, drop_end s pos h, wd]
  have : seg s beg s.size = seg s beg pos := by
    unfold seg
    rw [List.take_of_length_le (by rw [List.length_drop, ← Lib.size_eq]; omega), List.take_of_length_le (by rw [List.length_drop, ← Lib.size_eq]; omega)]
  rw [this]

end Dg
end Go.Proofs.YtiiaahhdlgoklaaDoor
