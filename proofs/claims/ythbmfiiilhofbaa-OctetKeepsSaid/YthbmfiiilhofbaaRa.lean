/- Contracts of the document's Cut, Behind and Join. -/
import Derived.Test.YthbmfiiilhofbaaWd
namespace Go.Proofs.Ythbmfiiilhofbaa
open Go.RowKit

theorem refCut_bad (a : Option Addr) (len cap : Nat) (l m : Int) (w : World) (h : l < 0 ∨ m < 0 ∨ (len : Int) < l) :
    Calls Try.prog 17 #[.slice a len cap, .int .i64 l, .int .i64 m] w fun e w' => e = .returned (.tuple #[.slice none 0 0, .bool false]) ∧ w' = w := by
  by_cases h1 : l < 0
  · go_enter Try.func17, Try.ntmps17
    go_wp2
    go_ret2
    exact ⟨rfl, rfl⟩
  · by_cases h2 : m < 0
    · go_enter Try.func17, Try.ntmps17
      go_wp2
      go_ret2
      exact ⟨rfl, rfl⟩
    · have h3 : (len : Int) < l := by omega
      clear h
      go_enter Try.func17, Try.ntmps17
      go_wp2
      go_ret2
      exact ⟨rfl, rfl⟩

theorem take_next (xs : List UInt8) (l k : Nat) (h : l + k < xs.length) : (xs.drop l).take (k + 1) = (xs.drop l).take k ++ [xs[l + k]] := by
  rw [List.take_succ_eq_append_getElem (by simp; omega)]
  simp
theorem take_len (xs : List UInt8) (l k : Nat) (h : l + k ≤ xs.length) : ((xs.drop l).take k).length = k := by simp; omega

set_option maxHeartbeats 2000000 in
set_option maxRecDepth 100000 in
theorem refCut_some (b off cap : Nat) (xs : List UInt8) (l : Nat) (m : Int) (w : World) (hx : xs.length ≤ 100000) (hl : l ≤ xs.length) (hm : 0 ≤ m) (hm2 : m ≤ 9223372036854775807) (hb : b < w.heap.size) (hc : ∀ j (h : j < xs.length), w.cell? ⟨b, off + j, none⟩ = some (.int .u8 (xs[j].toNat : Int))) :
    Calls Try.prog 17 #[.slice (some ⟨b, off, none⟩) xs.length cap, .int .i64 (l : Int), .int .i64 m] w fun e w' => Below w.heap.size w w' ∧
      (((l : Int) + m ≤ xs.length ∧ ∃ v, e = .returned (.tuple #[v, .bool true]) ∧ w'.ownsRow w.heap.size 5 1 v m.toNat (Lib.byteCells ((xs.drop l).take m.toNat))) ∨ ((xs.length : Int) < l + m ∧ e = .returned (.tuple #[.slice none 0 0, .bool false]))) := by
  obtain ⟨i0, hi, hz0, hz1, hz2⟩ := info_parts info5
  have Hc := Lib.hid hc
  clear hc
  have h1 : ¬ (l : Int) < 0 := by omega
  have h2 : ¬ m < 0 := by omega
  have h3 : ¬ (xs.length : Int) < (l : Int) := by omega
  go_enter Try.func17, Try.ntmps17
  go_wp2
  go_loopw [8, 9] (fun v i wr => ∃ k : Nat, l + k ≤ xs.length ∧ (k : Int) ≤ m ∧ i = .int .i64 ((l + k : Nat) : Int) ∧ wr.ownsRow w.heap.size 5 1 v k (Lib.byteCells ((xs.drop l).take k)) ∧ Below w.heap.size w wr) (fun _ i _ => xs.length - (intOf i).toNat)
  case atStart => exact ⟨0, by omega, hm, rfl, World.ownsRow_nil _ _ _ _, Below.refl _ _⟩
  case round =>
    obtain ⟨k, hk, hkm, rfl, hown, hbw⟩ := hrel
    have hbs := hbw.size
    obtain ⟨pa, pc, rfl, hrow⟩ := rowAt_own (take_len xs l k hk) hown
    clear hrow
    by_cases hlt : ((l + k : Nat) : Int) < (xs.length : Int)
    · by_cases hkm2 : (k : Int) < m
      · have hk' : l + k < xs.length := by omega
        have hcell : wr.cell? ⟨b, off + (l + k), none⟩ = some (.int .u8 (xs[l + k].toNat : Int)) := by rw [hbw.cell (p := ⟨b, off + (l + k), none⟩) hb]; exact Hc.out (l + k) hk'
        have hnx := take_next xs l k hk'
        have Hnx := Lib.hid hnx
        clear hnx
        go_wp2_with (at_builtin; refine wpList_append_own _ rfl _ _ 24 rfl w.heap.size 5 i0 (.int .u8 0) 1 1 Try.underlying24 hi hz0 hz1 hz2 rfl (by decide) _ _ _ rfl (hown.alloc _) ⟨wr.heap.size, 0, none⟩ 1 1 [.int .u8 (xs[l + k].toNat : Int)] rfl rfl (cell_one_new _ _ _) (fun u hu => by simp at hu; subst hu; rfl) (by unfold maxLen; omega) (by omega) (by simp; omega) ?_; intro v2 w2 hown2 hgr2 _)
        have hbw2 : Below w.heap.size w w2 := Below.grown (hbw.alloc hbw.size _) hgr2 (by simp; omega) (fun j hj => (hown.lt j hj).1)
        go_roundw
        case rel => exact ⟨k + 1, by omega, by omega, by go_num, by rw [Hnx.out, Lib.byteCells_append]; exact hown2, hbw2⟩
        case measure => simp [intOf]; omega
      · have hkm3 : (k : Int) = m := by omega
        go_wp2
        go_ret2
        refine ⟨hbw, .inl ⟨by omega, _, rfl, ?_⟩⟩
        have e : m.toNat = k := by omega
        rw [e]; exact hown
    · by_cases hkm2 : (k : Int) < m
      · go_wp2
        go_ret2
        exact ⟨hbw, .inr ⟨by omega, rfl⟩⟩
      · have hkm3 : (k : Int) = m := by omega
        go_wp2
        go_ret2
        refine ⟨hbw, .inl ⟨by omega, _, rfl, ?_⟩⟩
        have e : m.toNat = k := by omega
        rw [e]; exact hown

theorem refCut_none (a : Option Addr) (cap : Nat) (m : Int) (w : World) (hm : 0 ≤ m) :
    Calls Try.prog 17 #[.slice a 0 cap, .int .i64 0, .int .i64 m] w fun e w' => w' = w ∧ ((m ≤ 0 ∧ e = .returned (.tuple #[.slice none 0 0, .bool true])) ∨ (0 < m ∧ e = .returned (.tuple #[.slice none 0 0, .bool false]))) := by
  have h2 : ¬ m < 0 := by omega
  by_cases h : 0 < m
  · go_enter Try.func17, Try.ntmps17
    go_wp2
    refine wp_loop_rounds 1 ?_
    rw [rounds_succ]
    go_wp2
    go_ret2
    exact ⟨rfl, .inr ⟨h, rfl⟩⟩
  · go_enter Try.func17, Try.ntmps17
    go_wp2
    refine wp_loop_rounds 1 ?_
    rw [rounds_succ]
    go_wp2
    go_ret2
    exact ⟨rfl, .inl ⟨by omega, rfl⟩⟩

theorem refCut_at (a : Option Addr) (cap : Nat) (xs : List UInt8) (l : Nat) (m : Int) (w : World) (hx : xs.length ≤ 100000) (hl : l ≤ xs.length) (hm : 0 ≤ m) (hm2 : m ≤ 9223372036854775807) (h : BytesAt w a xs) :
    Calls Try.prog 17 #[.slice a xs.length cap, .int .i64 (l : Int), .int .i64 m] w fun e w' => Below w.heap.size w w' ∧
      (((l : Int) + m ≤ xs.length ∧ ∃ v, e = .returned (.tuple #[v, .bool true]) ∧ w'.ownsRow w.heap.size 5 1 v m.toNat (Lib.byteCells ((xs.drop l).take m.toNat))) ∨ ((xs.length : Int) < l + m ∧ e = .returned (.tuple #[.slice none 0 0, .bool false]))) := by
  rcases h with rfl | ⟨b, off, rfl, hb, hc⟩
  · obtain rfl : l = 0 := by simpa using hl
    refine (refCut_none a cap m w hm).mono ?_
    rintro e w' ⟨rfl, ⟨h, rfl⟩ | ⟨h, rfl⟩⟩
    · obtain rfl : m = 0 := by omega
      exact ⟨Below.refl _ _, .inl ⟨by simp, _, rfl, World.ownsRow_nil _ _ _ _⟩⟩
    · exact ⟨Below.refl _ _, .inr ⟨by simpa using h, rfl⟩⟩
  · exact refCut_some b off cap xs l m w hx hl hm hm2 hb hc

theorem behind_step (xs : List UInt8) (t k : Nat) (h : k < xs.length) (ht : t ≤ k) : (xs.take (k + 1)).drop t = (xs.take k).drop t ++ [xs[k]] := by
  rw [List.take_succ_eq_append_getElem h, List.drop_append_of_le_length (by simp; omega)]
theorem behind_skip (xs : List UInt8) (t k : Nat) (ht : k < t) : (xs.take (k + 1)).drop t = (xs.take k).drop t := by
  rw [List.drop_of_length_le (by simp; omega), List.drop_of_length_le (by simp; omega)]
set_option maxHeartbeats 2000000 in
set_option maxRecDepth 100000 in
theorem refBehind_some (b off cap : Nat) (xs : List UInt8) (i : Int) (w : World) (hx : xs.length ≤ 100000) (hb : b < w.heap.size) (hc : ∀ j (h : j < xs.length), w.cell? ⟨b, off + j, none⟩ = some (.int .u8 (xs[j].toNat : Int))) :
    Calls Try.prog 19 #[.slice (some ⟨b, off, none⟩) xs.length cap, .int .i64 i] w fun e w' => ∃ v, e = .returned v ∧ w'.ownsRow w.heap.size 5 1 v (xs.drop i.toNat).length (Lib.byteCells (xs.drop i.toNat)) ∧ Below w.heap.size w w' := by
  obtain ⟨i0, hi, hz0, hz1, hz2⟩ := info_parts info5
  have Hc := Lib.hid hc
  clear hc
  obtain ⟨F, hF⟩ : ∃ F, F = xs.drop i.toNat := ⟨_, rfl⟩
  rw [← hF]
  have HF := Lib.hid hF
  clear hF
  obtain ⟨t, ht⟩ : ∃ t, t = i.toNat := ⟨_, rfl⟩
  go_enter Try.func19, Try.ntmps19
  go_wp2
  go_loopw [5, 6] (fun v j wr => ∃ (k : Nat) (ys : List UInt8), k ≤ xs.length ∧ j = .int .i64 (k : Int) ∧ ys.length ≤ k ∧ Hid (ys = (xs.take k).drop t) ∧ wr.ownsRow w.heap.size 5 1 v ys.length (Lib.byteCells ys) ∧ Below w.heap.size w wr) (fun _ j _ => xs.length - (intOf j).toNat)
  case atStart => exact ⟨0, [], Nat.zero_le _, rfl, Nat.le_refl _, (by simp : [] = (xs.take 0).drop t), World.ownsRow_nil _ _ _ _, Below.refl _ _⟩
  case round =>
    obtain ⟨k, ys, hk, rfl, hyk, Hys, hown, hbw⟩ := hrel
    have hbs := hbw.size
    by_cases hlt : (k : Int) < (xs.length : Int)
    · have hk' : k < xs.length := by omega
      by_cases hge : i ≤ (k : Int)
      · have hcell : wr.cell? ⟨b, off + k, none⟩ = some (.int .u8 (xs[k].toNat : Int)) := by rw [hbw.cell (p := ⟨b, off + k, none⟩) hb]; exact Hc.out k hk'
        have Hnx : Hid (ys ++ [xs[k]] = (xs.take (k + 1)).drop t) := by show _ = _; rw [behind_step xs t k hk' (by omega), Hys.out]
        go_wp2_with (at_builtin; refine wpList_append_own _ rfl _ _ 24 rfl w.heap.size 5 i0 (.int .u8 0) 1 1 Try.underlying24 hi hz0 hz1 hz2 rfl (by decide) _ _ _ rfl (hown.alloc _) ⟨wr.heap.size, 0, none⟩ 1 1 [.int .u8 (xs[k].toNat : Int)] rfl rfl (cell_one_new _ _ _) (fun u hu => by simp at hu; subst hu; rfl) (by unfold maxLen; omega) (by omega) (by simp; omega) ?_; intro v2 w2 hown2 hgr2 _)
        have hbw2 : Below w.heap.size w w2 := Below.grown (hbw.alloc hbw.size _) hgr2 (by simp; omega) (fun j hj => (hown.lt j hj).1)
        go_roundw
        case rel => exact ⟨k + 1, ys ++ [xs[k]], by omega, by go_num, by simp; omega, Hnx, by rw [Lib.byteCells_append, List.length_append]; exact hown2, hbw2⟩
        case measure => simp [intOf]; omega
      · have Hnx : Hid (ys = (xs.take (k + 1)).drop t) := by show _ = _; rw [behind_skip xs t k (by omega), Hys.out]
        go_wp2
        go_roundw
        case rel => exact ⟨k + 1, ys, by omega, by go_num, by omega, Hnx, hown, hbw⟩
        case measure => simp [intOf]; omega
    · have hF : ys = F := by rw [HF.out, Hys.out, List.take_of_length_le (by omega), ht]
      subst hF
      go_wp2
      go_ret
      exact ⟨_, rfl, hown, hbw⟩

theorem refBehind_none (a : Option Addr) (cap : Nat) (i : Int) (w : World) :
    Calls Try.prog 19 #[.slice a 0 cap, .int .i64 i] w fun e w' => e = .returned (.slice none 0 0) ∧ w' = w := by
  go_enter Try.func19, Try.ntmps19
  go_wp2
  refine wp_loop_rounds 1 ?_
  rw [rounds_succ]
  go_wp2
  go_ret
  exact ⟨rfl, rfl⟩

theorem refBehind_at (a : Option Addr) (cap : Nat) (xs : List UInt8) (i : Int) (w : World) (hx : xs.length ≤ 100000) (h : BytesAt w a xs) :
    Calls Try.prog 19 #[.slice a xs.length cap, .int .i64 i] w fun e w' => ∃ v, e = .returned v ∧ w'.ownsRow w.heap.size 5 1 v (xs.drop i.toNat).length (Lib.byteCells (xs.drop i.toNat)) ∧ Below w.heap.size w w' := by
  rcases h with rfl | ⟨b, off, rfl, hb, hc⟩
  · refine (refBehind_none a cap i w).mono ?_
    rintro e w' ⟨rfl, rfl⟩
    rw [List.drop_nil]
    exact ⟨_, rfl, World.ownsRow_nil _ _ _ _, Below.refl _ _⟩
  · exact refBehind_some b off cap xs i w hx hb hc

theorem refJoin_none (a : Option Addr) (cap : Nat) (w : World) :
    Calls Try.prog 21 #[.slice a 0 cap] w fun e w' => e = .returned (.slice none 0 0) ∧ w' = w := by
  go_enter Try.func21, Try.ntmps21
  go_wp2
  refine wp_loop_rounds 1 ?_
  rw [rounds_succ]
  go_wp2
  go_ret
  exact ⟨rfl, rfl⟩

set_option maxHeartbeats 2000000 in
set_option maxRecDepth 100000 in
theorem refJoin_some (b off cap : Nat) (L : List (List UInt8)) (F : List UInt8) (w : World) (HF : Hid (L.flatten = F)) (hL : L.length ≤ 100000) (hsum : F.length ≤ 100000) (hb : b < w.heap.size)
    (hc : ∀ j (h : j < L.length), ∃ p c, w.cell? ⟨b, off + j, none⟩ = some (.slice p L[j].length c) ∧ RowAt w p c L[j]) :
    Calls Try.prog 21 #[.slice (some ⟨b, off, none⟩) L.length cap] w fun e w' => ∃ v, e = .returned v ∧ w'.ownsRow w.heap.size 5 1 v F.length (Lib.byteCells F) ∧ Below w.heap.size w w' := by
  have Hc := Lib.hid hc
  clear hc
  go_enter Try.func21, Try.ntmps21
  go_wp2
  go_loopw [3, 4] (fun v i wr => ∃ k : Nat, k ≤ L.length ∧ i = .int .i64 (k : Int) ∧ wr.ownsRow w.heap.size 5 1 v (L.take k).flatten.length (Lib.byteCells (L.take k).flatten) ∧ Below w.heap.size w wr) (fun _ i _ => L.length - (intOf i).toNat)
  case atStart => exact ⟨0, Nat.zero_le _, rfl, World.ownsRow_nil _ _ _ _, Below.refl _ _⟩
  case round =>
    obtain ⟨k, hk, rfl, hown, hbw⟩ := hrel
    have hle := flat_le L k
    rw [HF.out] at hle
    by_cases hlt : (k : Int) < (L.length : Int)
    · have hk' : k < L.length := by omega
      obtain ⟨p, c, hcell0, hrow0⟩ := Hc.out k hk'
      have hcell : wr.cell? ⟨b, off + k, none⟩ = some (.slice p L[k].length c) := by rw [hbw.cell (p := ⟨b, off + k, none⟩) hb]; exact hcell0
      have hrow := hrow0.next hbw
      have Hrow := Lib.hid hrow
      clear hcell0 hrow0 hrow
      have hle2 := flat_le L (k + 1)
      rw [flat_step L k hk', List.length_append, HF.out] at hle2
      go_wp2_with (at_builtin; refine wpList_append_row rfl _ _ rfl w.heap.size _ _ _ rfl hown p L[k].length c L[k] rfl rfl Hrow.out (by omega) hbw.size ?_; intro v2 w2 hown2 hgr2)
      have hbw2 : Below w.heap.size w w2 := Below.grown hbw hgr2 hbw.size (fun j hj => (hown.lt j hj).1)
      go_roundw
      case rel => exact ⟨k + 1, by omega, by go_num, by rw [flat_step L k hk', Lib.byteCells_append, List.length_append]; exact hown2, hbw2⟩
      case measure => simp [intOf]; omega
    · have hkl : k = L.length := by omega
      subst hkl
      rw [List.take_length, HF.out] at hown
      go_wp2
      go_ret
      exact ⟨_, rfl, hown, hbw⟩

theorem refJoin_at (a : Option Addr) (cap : Nat) (L : List (List UInt8)) (F : List UInt8) (w : World) (hF : L.flatten = F) (hL : L.length ≤ 100000) (hsum : F.length ≤ 100000) (h : PartsAt w a L) :
    Calls Try.prog 21 #[.slice a L.length cap] w fun e w' => ∃ v, e = .returned v ∧ w'.ownsRow w.heap.size 5 1 v F.length (Lib.byteCells F) ∧ Below w.heap.size w w' := by
  rcases h with rfl | ⟨b, off, rfl, hb, hc⟩
  · refine (refJoin_none a cap w).mono ?_
    rintro e w' ⟨rfl, rfl⟩
    subst hF
    exact ⟨_, rfl, World.ownsRow_nil _ _ _ _, Below.refl _ _⟩
  · exact refJoin_some b off cap L F w hF hL hsum hb hc
end Go.Proofs.Ythbmfiiilhofbaa
