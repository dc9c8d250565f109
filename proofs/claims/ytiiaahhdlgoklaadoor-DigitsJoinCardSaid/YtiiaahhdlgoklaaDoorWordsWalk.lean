/- DigitsWords: the walk. -/
import Derived.Test.YtiiaahhdlgoklaaDoorRb
import Derived.Test.YtiiaahhdlgoklaaDoorPutsWalk
namespace Go.Proofs.YtiiaahhdlgoklaaDoor
open Go.RowKit Go.Sort

theorem Dg.one_wd_length : ∀ (l cur : List UInt8), (Dg.wd cur l).length ≤ l.length + 1
  | [], cur => by rw [Dg.wd]; have := Dg.one_length cur; simpa using this
  | c :: t, cur => by
    rw [Dg.wd]
    split
    · have h1 := Dg.one_length cur
      have h2 := Dg.one_wd_length t []
      rw [List.length_append, List.length_cons]
      omega
    · have h2 := Dg.one_wd_length t (cur ++ [c])
      rw [List.length_cons]
      omega
theorem Dg.words_length (l : List UInt8) : (Dg.words l).length ≤ l.length + 1 := Dg.one_wd_length l []

set_option maxHeartbeats 2000000 in
set_option maxRecDepth 100000 in
theorem words_walk (s : ByteArray) (w : World) (hs : s.size ≤ maxLen) (ht : Tabs w) :
    Calls Tryd.prog 7 #[.string s] w fun e w' => e = .returned (.bool true) ∧ Below w.heap.size w w' := by
  unfold maxLen at hs
  have HT := Lib.hid ht
  clear ht
  by_cases hg : (2000 : Int) < (s.size : Int)
  · go_enter Tryd.func7, Tryd.ntmps7
    go_wp2_with fail
    refine (awake_any _ HT.out).mono ?_
    rintro e w1 ⟨rfl, b1⟩
    go_wp2_with fail
    refine (awake_any _ (HT.out.next b1)).mono ?_
    rintro e w2 ⟨rfl, b2⟩
    go_wp2_with fail
    go_ret
    exact ⟨rfl, Below.chain b1 b2⟩
  · have hsz : s.size ≤ 2000 := by omega
    go_enter Tryd.func7, Tryd.ntmps7
    go_wp2_with fail
    refine (awake_any _ HT.out).mono ?_
    rintro e w1 ⟨rfl, b1⟩
    go_wp2_with fail
    refine (words_any s _ (by omega)).mono ?_
    rintro e w2 ⟨v1, rfl, o2, b2⟩
    have S2 := Lib.hid (strsAt_own o2)
    clear o2
    go_wp2_with fail
    refine (refWords_any s _ (by omega)).mono ?_
    rintro e w3 ⟨v2, rfl, o3, b3⟩
    have S3 := Lib.hid (strsAt_own o3)
    clear o3
    go_wp2_with fail
    refine (same_any (Dg.words s.data.toList) v1 v2 _ (by have := Dg.words_length s.data.toList; rw [← Lib.size_eq] at this; omega) (S2.out.below b3) S3.out).mono ?_
    rintro e w4 ⟨rfl, b4⟩
    go_wp2_with fail
    refine (plain_any s _).mono ?_
    rintro e w5 ⟨rfl, b5⟩
    go_wp2_with fail
    refine (refPlain_any s _ (by omega)).mono ?_
    rintro e w6 ⟨rfl, rfl⟩
    go_wp2_with fail
    go_ret
    exact ⟨rfl, Below.chain (Below.chain (Below.chain (Below.chain b1 b2) b3) b4) b5⟩
end Go.Proofs.YtiiaahhdlgoklaaDoor
