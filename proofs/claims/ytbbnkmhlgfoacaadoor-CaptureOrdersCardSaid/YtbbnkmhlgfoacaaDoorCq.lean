/- Contract of the document's Few. -/
import Derived.Test.YtbbnkmhlgfoacaaDoorCa
namespace Go.Proofs.YtbbnkmhlgfoacaaDoor
open Go.RowKit
open S10

/-- How many bytes the Data have, each told as 100000 at most. -/
def Cp.msum (L : List Cp.It) : Nat := (L.map fun r => min r.data.length 100000).sum
theorem Cp.msum_next (L : List Cp.It) (k : Nat) (h : k < L.length) : Cp.msum (L.take (k + 1)) = Cp.msum (L.take k) + min L[k].data.length 100000 := by
  unfold Cp.msum
  rw [List.take_succ_eq_append_getElem h, List.map_append, List.sum_append]; simp
theorem Cp.msum_le : ∀ L : List Cp.It, Cp.msum L ≤ 100000 * L.length
  | [] => by simp [Cp.msum]
  | r :: L => by
    have h := Cp.msum_le L
    have e : Cp.msum (r :: L) = min r.data.length 100000 + Cp.msum L := by simp [Cp.msum]
    rw [e, List.length_cons]; omega
theorem Cp.msum_size : ∀ L : List Cp.It, Cp.msum L ≤ 70000 → Cp.tot L ≤ 70000 ∧ Cp.tot L = Cp.msum L
  | [], _ => by simp [Cp.msum, Cp.tot]
  | r :: L, h => by
    have e : Cp.msum (r :: L) = min r.data.length 100000 + Cp.msum L := by simp [Cp.msum]
    rw [e] at h
    have h2 := Cp.msum_size L (by omega)
    rw [Cp.tot_cons, e]
    omega

/-- What Few answers. -/
def FewRes (w w' : World) (e : Ending) (n : Nat) (L : List Cp.It) : Prop := ∃ r : Bool, e = .returned (.bool r) ∧ w' = w ∧ (r = true → n ≤ 60 ∧ Cp.tot L ≤ 70000)
set_option maxRecDepth 100000 in
set_option maxHeartbeats 1000000 in
theorem itfew_any (a : Option Addr) (n cap : Nat) (L : List Cp.It) (w : World) (hn : L.length = n) (h : ItsAt w a L) :
    Calls Tryd.prog 7 #[.slice a n cap] w fun e w' => FewRes w w' e n L := by
  have H := Lib.hid h
  have Hn := Lib.hid hn
  clear h hn
  go_enter Tryd.func7, Tryd.ntmps7
  go_wp2
  go_loopw [3, 4] (fun s i wr => ∃ k : Nat, i = .int .i64 (k : Int) ∧ k ≤ n ∧ k ≤ 100 ∧ s = .int .i64 (Cp.msum (L.take k) : Nat) ∧ wr = w) (fun _ i _ => 100 - (intOf i).toNat)
  case atStart => exact ⟨0, rfl, Nat.zero_le _, by omega, rfl, rfl⟩
  case round =>
    obtain ⟨k, rfl, hk, hk100, rfl, rfl⟩ := hrel
    have hms := Cp.msum_le (L.take k)
    have hms2 : (L.take k).length ≤ 100 := by rw [List.length_take]; omega
    by_cases hlt : k < n ∧ k < 100
    · have i1 : (k : Int) < (n : Int) := by omega
      have i2 : (k : Int) < 100 := by omega
      have hkL : k < L.length := by rw [Hn.out]; omega
      obtain ⟨b, off, p, c, rfl, r1, _⟩ := ItsAt.at H.out k hkL
      have hnx := Cp.msum_next L k hkL
      have x4 := r1.data
      have hrl := r1.row.le
      have hrm := r1.row.max
      generalize L[k] = r at *
      generalize Cp.msum (L.take k) = s at *
      have HN := Lib.hid hnx
      clear hnx r1 hkL
      by_cases hm : 100000 < r.data.length
      · have j1 : (100000 : Int) < (r.data.length : Int) := by omega
        have j2 : min r.data.length 100000 = 100000 := by omega
        go_wp2
        go_roundw
        case rel => exact ⟨k + 1, by simp, by omega, by omega, by rw [HN.out, j2]; simp, trivial⟩
        case measure => simp [intOf]; omega
      · have j1 : ¬ (100000 : Int) < (r.data.length : Int) := by omega
        have j2 : min r.data.length 100000 = r.data.length := by omega
        go_wp2
        go_roundw
        case rel => exact ⟨k + 1, by simp, by omega, by omega, by rw [HN.out, j2]; simp, trivial⟩
        case measure => simp [intOf]; omega
    · have hfin : n ≤ 60 → Cp.msum (L.take k) ≤ 70000 → Cp.tot L ≤ 70000 := fun h60 h14 => by
        have e : k = n := by omega
        rw [List.take_of_length_le (by rw [Hn.out]; omega)] at h14
        exact (Cp.msum_size L h14).1
      generalize Cp.msum (L.take k) = s at *
      have HF := Lib.hid hfin
      clear hfin
      by_cases hkn : k < n
      · have i1 : (k : Int) < (n : Int) := by omega
        have i2 : ¬ (k : Int) < 100 := by omega
        by_cases h60 : n ≤ 60
        · have i3 : (n : Int) ≤ 60 := by omega
          by_cases h14 : s ≤ 70000
          · have i4 : (s : Int) ≤ 70000 := by omega
            go_wp2
            go_ret
            exact ⟨true, rfl, rfl, fun _ => ⟨h60, HF.out h60 h14⟩⟩
          · have i4 : ¬ (s : Int) ≤ 70000 := by omega
            go_wp2
            go_ret
            exact ⟨false, rfl, rfl, fun e => by cases e⟩
        · have i3 : ¬ (n : Int) ≤ 60 := by omega
          go_wp2
          go_ret
          exact ⟨false, rfl, rfl, fun e => by cases e⟩
      · have i1 : ¬ (k : Int) < (n : Int) := by omega
        by_cases h60 : n ≤ 60
        · have i3 : (n : Int) ≤ 60 := by omega
          by_cases h14 : s ≤ 70000
          · have i4 : (s : Int) ≤ 70000 := by omega
            go_wp2
            go_ret
            exact ⟨true, rfl, rfl, fun _ => ⟨h60, HF.out h60 h14⟩⟩
          · have i4 : ¬ (s : Int) ≤ 70000 := by omega
            go_wp2
            go_ret
            exact ⟨false, rfl, rfl, fun e => by cases e⟩
        · have i3 : ¬ (n : Int) ≤ 60 := by omega
          go_wp2
          go_ret
          exact ⟨false, rfl, rfl, fun e => by cases e⟩
end Go.Proofs.YtbbnkmhlgfoacaaDoor
