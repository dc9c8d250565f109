/- Contract of the document's Few. -/
import Derived.Test.YtfkjjolohphaoaaRs
namespace Go.Proofs.Ytfkjjolohphaoaa
open Go.RowKit

/-- How many bytes the Data have, each told as 200000 at most. -/
def Pc.msum (L : List Pc.Rcd) : Nat := (L.map fun r => min r.data.length 200000).sum
theorem Pc.msum_next (L : List Pc.Rcd) (k : Nat) (h : k < L.length) : Pc.msum (L.take (k + 1)) = Pc.msum (L.take k) + min L[k].data.length 200000 := by
  unfold Pc.msum
  rw [List.take_succ_eq_append_getElem h, List.map_append, List.sum_append]; simp
theorem Pc.msum_le : ∀ L : List Pc.Rcd, Pc.msum L ≤ 200000 * L.length
  | [] => by simp [Pc.msum]
  | r :: L => by
    have h := Pc.msum_le L
    have e : Pc.msum (r :: L) = min r.data.length 200000 + Pc.msum L := by simp [Pc.msum]
    rw [e, List.length_cons]; omega
theorem Pc.msum_size : ∀ L : List Pc.Rcd, Pc.msum L ≤ 140000 → Pc.size L ≤ 140000 ∧ Pc.size L = Pc.msum L
  | [], _ => by simp [Pc.msum, Pc.size]
  | r :: L, h => by
    have e : Pc.msum (r :: L) = min r.data.length 200000 + Pc.msum L := by simp [Pc.msum]
    rw [e] at h
    have h2 := Pc.msum_size L (by omega)
    rw [Pc.size_cons, e]
    omega

/-- What Few answers. -/
def FewRes (w w' : World) (e : Ending) (n : Nat) (L : List Pc.Rcd) : Prop := ∃ r : Bool, e = .returned (.bool r) ∧ w' = w ∧ (r = true → n ≤ 50 ∧ Pc.size L ≤ 140000)
set_option maxRecDepth 100000 in
set_option maxHeartbeats 2000000 in
theorem few_any (a : Option Addr) (n cap : Nat) (L : List Pc.Rcd) (w : World) (hn : L.length = n) (h : RecsAt w a L) :
    Calls Try.prog 10 #[.slice a n cap] w fun e w' => FewRes w w' e n L := by
  have H := Lib.hid h
  have Hn := Lib.hid hn
  clear h hn
  go_enter Try.func10, Try.ntmps10
  go_wp2
  go_loopw [3, 4] (fun s i wr => ∃ k : Nat, i = .int .i64 (k : Int) ∧ k ≤ n ∧ k ≤ 100 ∧ s = .int .i64 (Pc.msum (L.take k) : Nat) ∧ wr = w) (fun _ i _ => 100 - (intOf i).toNat)
  case atStart => exact ⟨0, rfl, Nat.zero_le _, by omega, rfl, rfl⟩
  case round =>
    obtain ⟨k, rfl, hk, hk100, rfl, rfl⟩ := hrel
    have hms := Pc.msum_le (L.take k)
    have hms2 : (L.take k).length ≤ 100 := by rw [List.length_take]; omega
    by_cases hlt : k < n ∧ k < 100
    · have i1 : (k : Int) < (n : Int) := by omega
      have i2 : (k : Int) < 100 := by omega
      have hkL : k < L.length := by rw [Hn.out]; omega
      obtain ⟨b, off, p, c, rfl, r1⟩ := RecsAt.at H.out k hkL
      have hnx := Pc.msum_next L k hkL
      have x4 := r1.data
      have hrl := r1.row.le
      have hrm := r1.row.max
      generalize L[k] = r at *
      generalize Pc.msum (L.take k) = s at *
      have HN := Lib.hid hnx
      clear hnx r1 hkL
      by_cases hm : 200000 < r.data.length
      · have j1 : (200000 : Int) < (r.data.length : Int) := by omega
        have j2 : min r.data.length 200000 = 200000 := by omega
        go_wp2
        go_roundw
        case rel => exact ⟨k + 1, by simp, by omega, by omega, by rw [HN.out, j2]; simp, trivial⟩
        case measure => simp [intOf]; omega
      · have j1 : ¬ (200000 : Int) < (r.data.length : Int) := by omega
        have j2 : min r.data.length 200000 = r.data.length := by omega
        go_wp2
        go_roundw
        case rel => exact ⟨k + 1, by simp, by omega, by omega, by rw [HN.out, j2]; simp, trivial⟩
        case measure => simp [intOf]; omega
    · have hfin : n ≤ 50 → Pc.msum (L.take k) ≤ 140000 → Pc.size L ≤ 140000 := fun h50 h14 => by
        have e : k = n := by omega
        rw [List.take_of_length_le (by rw [Hn.out]; omega)] at h14
        exact (Pc.msum_size L h14).1
      generalize Pc.msum (L.take k) = s at *
      have HF := Lib.hid hfin
      clear hfin
      by_cases hkn : k < n
      · have i1 : (k : Int) < (n : Int) := by omega
        have i2 : ¬ (k : Int) < 100 := by omega
        by_cases h50 : n ≤ 50
        · have i3 : (n : Int) ≤ 50 := by omega
          by_cases h14 : s ≤ 140000
          · have i4 : (s : Int) ≤ 140000 := by omega
            go_wp2
            go_ret
            exact ⟨true, rfl, rfl, fun _ => ⟨h50, HF.out h50 h14⟩⟩
          · have i4 : ¬ (s : Int) ≤ 140000 := by omega
            go_wp2
            go_ret
            exact ⟨false, rfl, rfl, fun e => by cases e⟩
        · have i3 : ¬ (n : Int) ≤ 50 := by omega
          go_wp2
          go_ret
          exact ⟨false, rfl, rfl, fun e => by cases e⟩
      · have i1 : ¬ (k : Int) < (n : Int) := by omega
        by_cases h50 : n ≤ 50
        · have i3 : (n : Int) ≤ 50 := by omega
          by_cases h14 : s ≤ 140000
          · have i4 : (s : Int) ≤ 140000 := by omega
            go_wp2
            go_ret
            exact ⟨true, rfl, rfl, fun _ => ⟨h50, HF.out h50 h14⟩⟩
          · have i4 : ¬ (s : Int) ≤ 140000 := by omega
            go_wp2
            go_ret
            exact ⟨false, rfl, rfl, fun e => by cases e⟩
        · have i3 : ¬ (n : Int) ≤ 50 := by omega
          go_wp2
          go_ret
          exact ⟨false, rfl, rfl, fun e => by cases e⟩
end Go.Proofs.Ytfkjjolohphaoaa
