/- Contract of the document's Few. -/
import Derived.Test.YtbmlacmpiaklpaaDoorRs
namespace Go.Proofs.YtbmlacmpiaklpaaDoor
open Go.RowKit

/-- How many bytes the Data have, each told as 100000 at most. -/
def Dm.msum (L : List Dm.Nt) : Nat := (L.map fun r => min r.data.length 100000).sum
theorem Dm.msum_next (L : List Dm.Nt) (k : Nat) (h : k < L.length) : Dm.msum (L.take (k + 1)) = Dm.msum (L.take k) + min L[k].data.length 100000 := by
  unfold Dm.msum
  rw [List.take_succ_eq_append_getElem h, List.map_append, List.sum_append]; simp
theorem Dm.msum_le : ∀ L : List Dm.Nt, Dm.msum L ≤ 100000 * L.length
  | [] => by simp [Dm.msum]
  | r :: L => by
    have h := Dm.msum_le L
    have e : Dm.msum (r :: L) = min r.data.length 100000 + Dm.msum L := by simp [Dm.msum]
    rw [e, List.length_cons]; omega
theorem Dm.msum_size : ∀ L : List Dm.Nt, Dm.msum L ≤ 70000 → Dm.size L ≤ 70000 ∧ Dm.size L = Dm.msum L
  | [], _ => by simp [Dm.msum, Dm.size]
  | r :: L, h => by
    have e : Dm.msum (r :: L) = min r.data.length 100000 + Dm.msum L := by simp [Dm.msum]
    rw [e] at h
    have h2 := Dm.msum_size L (by omega)
    rw [Dm.size_cons, e]
    omega

/-- What Few answers. -/
def FewRes (w w' : World) (e : Ending) (n : Nat) (L : List Dm.Nt) : Prop := ∃ r : Bool, e = .returned (.bool r) ∧ w' = w ∧ (r = true → n ≤ 50 ∧ Dm.size L ≤ 70000)
set_option maxRecDepth 100000 in
set_option maxHeartbeats 1000000 in
theorem few_any (a : Option Addr) (n cap : Nat) (L : List Dm.Nt) (w : World) (hn : L.length = n) (h : NtsAt w a L) :
    Calls Tryd.prog 10 #[.slice a n cap] w fun e w' => FewRes w w' e n L := by
  have H := Lib.hid h
  have Hn := Lib.hid hn
  clear h hn
  go_enter Tryd.func10, Tryd.ntmps10
  go_wp2
  go_loopw [3, 4] (fun s i wr => ∃ k : Nat, i = .int .i64 (k : Int) ∧ k ≤ n ∧ k ≤ 100 ∧ s = .int .i64 (Dm.msum (L.take k) : Nat) ∧ wr = w) (fun _ i _ => 100 - (intOf i).toNat)
  case atStart => exact ⟨0, rfl, Nat.zero_le _, by omega, rfl, rfl⟩
  case round =>
    obtain ⟨k, rfl, hk, hk100, rfl, rfl⟩ := hrel
    have hms := Dm.msum_le (L.take k)
    have hms2 : (L.take k).length ≤ 100 := by rw [List.length_take]; omega
    by_cases hlt : k < n ∧ k < 100
    · have i1 : (k : Int) < (n : Int) := by omega
      have i2 : (k : Int) < 100 := by omega
      have hkL : k < L.length := by rw [Hn.out]; omega
      obtain ⟨b, off, p, c, rfl, r1, _⟩ := NtsAt.at H.out k hkL
      have hnx := Dm.msum_next L k hkL
      have x4 := r1.data
      have hrl := r1.row.le
      have hrm := r1.row.max
      generalize L[k] = r at *
      generalize Dm.msum (L.take k) = s at *
      have HN := Lib.hid hnx
      clear hnx r1 hkL
      by_cases hm : 100000 < r.data.length
      · have j1 : (100000 : Int) < (r.data.length : Int) := by omega
        have j2 : min r.data.length 100000 = 100000 := by omega
        go_wp2
        go_roundw
        case rel => exact ⟨k + 1, by simp, by omega, by omega, by rw [HN.out, j2]; simp, trivial⟩
        case measure => simp [intOf]; omega
      · have j1 : ¬ (100000 : Int) < (r.data.length : Int) := by omega
        have j2 : min r.data.length 100000 = r.data.length := by omega
        go_wp2
        go_roundw
        case rel => exact ⟨k + 1, by simp, by omega, by omega, by rw [HN.out, j2]; simp, trivial⟩
        case measure => simp [intOf]; omega
    · have hfin : n ≤ 50 → Dm.msum (L.take k) ≤ 70000 → Dm.size L ≤ 70000 := fun h50 h14 => by
        have e : k = n := by omega
        rw [List.take_of_length_le (by rw [Hn.out]; omega)] at h14
        exact (Dm.msum_size L h14).1
      generalize Dm.msum (L.take k) = s at *
      have HF := Lib.hid hfin
      clear hfin
      by_cases hkn : k < n
      · have i1 : (k : Int) < (n : Int) := by omega
        have i2 : ¬ (k : Int) < 100 := by omega
        by_cases h50 : n ≤ 50
        · have i3 : (n : Int) ≤ 50 := by omega
          by_cases h14 : s ≤ 70000
          · have i4 : (s : Int) ≤ 70000 := by omega
            go_wp2
            go_ret
            exact ⟨true, rfl, rfl, fun _ => ⟨h50, HF.out h50 h14⟩⟩
          · have i4 : ¬ (s : Int) ≤ 70000 := by omega
            go_wp2
            go_ret
            exact ⟨false, rfl, rfl, fun e => by cases e⟩
        · have i3 : ¬ (n : Int) ≤ 50 := by omega
          go_wp2
          go_ret
          exact ⟨false, rfl, rfl, fun e => by cases e⟩
      · have i1 : ¬ (k : Int) < (n : Int) := by omega
        by_cases h50 : n ≤ 50
        · have i3 : (n : Int) ≤ 50 := by omega
          by_cases h14 : s ≤ 70000
          · have i4 : (s : Int) ≤ 70000 := by omega
            go_wp2
            go_ret
            exact ⟨true, rfl, rfl, fun _ => ⟨h50, HF.out h50 h14⟩⟩
          · have i4 : ¬ (s : Int) ≤ 70000 := by omega
            go_wp2
            go_ret
            exact ⟨false, rfl, rfl, fun e => by cases e⟩
        · have i3 : ¬ (n : Int) ≤ 50 := by omega
          go_wp2
          go_ret
          exact ⟨false, rfl, rfl, fun e => by cases e⟩
end Go.Proofs.YtbmlacmpiaklpaaDoor
