/- Contracts of octet's calls, of slices.Grow and slices.Concat, and of the document's Put. -/
import Derived.Test.YtnhjpbhndckfgaaBa
import Derived.Test.YtnhjpbhndckfgaaPlainoc
namespace Go.Proofs.Ytnhjpbhndckfgaa.S2
open Go.RowKit

theorem ret_u64b {a b : Int} {c d : Bool} (h : a = b) (g : c = d) : Ending.returned (.tuple #[.int .u64 a, .bool c]) = .returned (.tuple #[.int .u64 b, .bool d]) := by rw [h, g]

/-- The lists of bytes that a slice of slices holds. -/
def PartsAt (w : World) (a : Option Addr) (L : List (List UInt8)) : Prop :=
  L = [] ∨ ∃ b off, a = some ⟨b, off, none⟩ ∧ b < w.heap.size ∧ ∀ j (h : j < L.length), ∃ p c, w.cell? ⟨b, off + j, none⟩ = some (.slice p L[j].length c) ∧ RowAt w p c L[j]
theorem PartsAt.next {w w' : World} {a : Option Addr} {L : List (List UInt8)} (h : PartsAt w a L) (hb : Below w.heap.size w w') : PartsAt w' a L := by
  rcases h with rfl | ⟨b, off, rfl, h1, h2⟩
  · exact .inl rfl
  · refine .inr ⟨b, off, rfl, Nat.lt_of_lt_of_le h1 hb.size, fun j hj => ?_⟩
    obtain ⟨p, c, h3, h4⟩ := h2 j hj
    exact ⟨p, c, by rw [hb.cell (p := ⟨b, off + j, none⟩) h1]; exact h3, h4.next hb⟩

theorem flat_step (L : List (List UInt8)) (k : Nat) (h : k < L.length) : (L.take (k + 1)).flatten = (L.take k).flatten ++ L[k] := by
  rw [List.take_succ_eq_append_getElem h, List.flatten_append]; simp
/-- How many bytes the first parts have. -/
def tot (L : List (List UInt8)) (k : Nat) : Nat := (L.take k).flatten.length
theorem tot_step (L : List (List UInt8)) (k : Nat) (h : k < L.length) : tot L (k + 1) = tot L k + L[k].length := by unfold tot; rw [flat_step L k h, List.length_append]
theorem tot_all (L : List (List UInt8)) : tot L L.length = L.flatten.length := by unfold tot; rw [List.take_length]
theorem flat_le (L : List (List UInt8)) (k : Nat) : (L.take k).flatten.length ≤ L.flatten.length := by
  have h : L.flatten = (L.take k).flatten ++ (L.drop k).flatten := by rw [← List.flatten_append, List.take_append_drop]
  rw [h, List.length_append]; omega

theorem tot_le (L : List (List UInt8)) (k : Nat) : tot L k ≤ L.flatten.length := flat_le L k

theorem parts_one {w : World} {p : Option Addr} {c n : Nat} {ys : List UInt8} (hn : ys.length = n) (h : RowAt w p c ys) : PartsAt (w.alloc (.cells #[.slice p n c] 22)) (some ⟨w.heap.size, 0, none⟩) [ys] := by
  subst hn
  refine .inr ⟨w.heap.size, 0, rfl, by simp, fun j hj => ?_⟩
  have : j = 0 := by simpa using hj
  subst this
  exact ⟨p, c, by simp only [World.cell?, heap_alloc_new]; rfl, h.next ((Below.refl _ _).alloc (Nat.le_refl _) _)⟩

/-- A slice of one's own stays when another one is written. -/
theorem row_kept {w w0 w' : World} {B B5 n m : Nat} {v v5 : Value} {xs ys : List UInt8} (hn : xs.length = n) (h : w.ownsRow B 5 1 v n (Lib.byteCells xs)) (h5 : w0.ownsRow B5 5 1 v5 m (Lib.byteCells ys)) (hB : w0.heap.size ≤ B) (hg : w.grownBy w' v5.ownBlock) :
    ∃ a c, v = .slice a n c ∧ RowAt w' a c xs := by
  refine rowAt_own hn (h.kept hg ?_)
  cases hv : v.ownBlock with
  | none => exact .inl rfl
  | some k =>
    right
    intro e
    have h1 := (h.lt k hv).1
    have h2 := (h5.lt k e.symm).2
    omega
theorem fits_any (n : Nat) (size : Int) (w : World) :
    Calls Try.prog 52 #[.int .u64 (n : Int), .int .i64 size] w fun e w' => e = .returned (.bool (Oc.fits n size)) ∧ w' = w := by
  by_cases h1 : 1 ≤ size
  · by_cases h2 : size ≤ 8
    · obtain ⟨s, rfl⟩ := Int.eq_ofNat_of_zero_le (by omega : 0 ≤ size)
      go_enter Try.func52, Try.ntmps52
      go_wp2
      go_ret
      refine ⟨ret_bool ?_, rfl⟩
      rw [Oc.fits_in n s (by omega) (by omega), Oc.shr_test]
    · go_enter Try.func52, Try.ntmps52
      go_wp2
      go_ret
      exact ⟨ret_bool (by simp [Oc.fits]; omega), rfl⟩
  · go_enter Try.func52, Try.ntmps52
    go_wp2
    go_ret
    exact ⟨ret_bool (by simp [Oc.fits]; omega), rfl⟩

theorem place_any (i size : Nat) (big : Bool) (w : World) (h : i < size) (hs : size ≤ 1000) :
    Calls Try.prog 53 #[.int .i64 (i : Int), .int .i64 (size : Int), .bool big] w fun e w' => e = .returned (.int .i64 (Oc.at' i size big : Nat)) ∧ w' = w := by
  have i1 : (i : Int) < (size : Int) := by omega
  have i2 : (size : Int) ≤ 1000 := by omega
  cases big
  · go_enter Try.func53, Try.ntmps53
    go_wp2
    go_ret
    exact ⟨rfl, rfl⟩
  · go_enter Try.func53, Try.ntmps53
    go_wp2
    go_ret
    exact ⟨ret_int (by unfold Oc.at'; rw [if_pos rfl]; omega), rfl⟩

theorem get_few (a : Option Addr) (len cap : Nat) (big : Bool) (w : World) (h : len < 1 ∨ 8 < len) :
    Calls Try.prog 51 #[.slice a len cap, .bool big] w fun e w' => e = .returned (.tuple #[.int .u64 0, .bool false]) ∧ w' = w := by
  rcases h with h | h
  · have i1 : (len : Int) < 1 := by omega
    go_enter Try.func51, Try.ntmps51
    go_wp2
    go_ret2
    exact ⟨rfl, rfl⟩
  · have i1 : ¬ (len : Int) < 1 := by omega
    have i2 : 8 < (len : Int) := by omega
    go_enter Try.func51, Try.ntmps51
    go_wp2
    go_ret2
    exact ⟨rfl, rfl⟩

set_option maxHeartbeats 1000000 in
theorem get_some (b off cap : Nat) (xs : List UInt8) (big : Bool) (w : World) (h1 : 1 ≤ xs.length) (h8 : xs.length ≤ 8) (hc : ∀ j (h : j < xs.length), w.cell? ⟨b, off + j, none⟩ = some (.int .u8 (xs[j].toNat : Int))) :
    Calls Try.prog 51 #[.slice (some ⟨b, off, none⟩) xs.length cap, .bool big] w fun e w' => e = .returned (.tuple #[.int .u64 (Oc.get xs big : Nat), .bool true]) ∧ w' = w := by
  have Hc := Lib.hid hc
  clear hc
  have i1 : ¬ (xs.length : Int) < 1 := by omega
  have i2 : ¬ 8 < (xs.length : Int) := by omega
  go_enter Try.func51, Try.ntmps51
  go_wp2
  go_loop [7, 18] (fun n i => ∃ k : Nat, k ≤ xs.length ∧ i = .int .i64 (k : Int) ∧ n = .int .u64 (Oc.val ((Oc.turn big xs).take k) : Nat)) (fun _ i => xs.length - (intOf i).toNat)
  case atStart => exact ⟨0, Nat.zero_le _, rfl, rfl⟩
  case round =>
    obtain ⟨k, hk, rfl, rfl⟩ := hrel
    by_cases hlt : (k : Int) < (xs.length : Int)
    · have hk' : k < xs.length := by omega
      have hat := Oc.at_lt k xs.length big hk'
      have hat' : ((Oc.at' k xs.length big : Nat) : Int) < (xs.length : Int) := by omega
      have hcell := Hc.out (Oc.at' k xs.length big) hat
      obtain ⟨x, hx⟩ : ∃ x, x = xs[Oc.at' k xs.length big] := ⟨_, rfl⟩
      rw [← hx] at hcell
      have hvl : Oc.val ((Oc.turn big xs).take k) < 256 ^ k := by
        have := Oc.val_lt ((Oc.turn big xs).take k)
        rw [List.length_take, Oc.turn_length, Nat.min_eq_left hk] at this
        exact this
      have hor := Oc.or_join (Oc.val ((Oc.turn big xs).take k)) x k (by omega) hvl
      have hst : Oc.val ((Oc.turn big xs).take k) + x.toNat * 256 ^ k = Oc.val ((Oc.turn big xs).take (k + 1)) := by
        have e : (Oc.turn big xs).take (k + 1) = (Oc.turn big xs).take k ++ [x] := by
          rw [List.take_add_one, Oc.turn_get big xs k hk', List.getElem?_eq_getElem hat, ← hx]; rfl
        rw [e, Oc.val_snoc, List.length_take, Oc.turn_length, Nat.min_eq_left hk]
      have Hst := Lib.hid hst
      clear hst hx hvl
      go_wp2_with (go_at_call 53; refine (place_any k xs.length big _ hk' (by omega)).mono ?_; rintro e w' ⟨rfl, rfl⟩)
      go_round
      case rel => exact ⟨k + 1, by omega, by go_num, by rw [← Hst.out, Oc.shl2 x k (by omega), hor]⟩
      case measure => simp [intOf]; omega
    · go_wp2
      go_ret2
      exact ⟨ret_u64b (by rw [List.take_of_length_le (by rw [Oc.turn_length]; omega)]; rfl) rfl, rfl⟩

theorem get_at (a : Option Addr) (cap : Nat) (xs : List UInt8) (big : Bool) (w : World) (h1 : 1 ≤ xs.length) (h8 : xs.length ≤ 8) (h : BytesAt w a xs) :
    Calls Try.prog 51 #[.slice a xs.length cap, .bool big] w fun e w' => e = .returned (.tuple #[.int .u64 (Oc.get xs big : Nat), .bool true]) ∧ w' = w := by
  rcases h with rfl | ⟨b, off, rfl, hb, hc⟩
  · simp at h1
  · exact get_some b off cap xs big w h1 h8 hc

set_option maxHeartbeats 1000000 in
theorem refGet_some (b off cap : Nat) (xs : List UInt8) (big : Bool) (w : World) (h8 : xs.length ≤ 8) (hc : ∀ j (h : j < xs.length), w.cell? ⟨b, off + j, none⟩ = some (.int .u8 (xs[j].toNat : Int))) :
    Calls Try.prog 28 #[.slice (some ⟨b, off, none⟩) xs.length cap, .bool big] w fun e w' => e = .returned (.int .u64 (Oc.get xs big : Nat)) ∧ w' = w := by
  have Hc := Lib.hid hc
  clear hc
  have i2 : (xs.length : Int) ≤ 8 := by omega
  go_enter Try.func28, Try.ntmps28
  go_wp2
  go_loop [5, 6] (fun n i => ∃ k : Nat, k ≤ xs.length ∧ i = .int .i64 (k : Int) ∧ n = .int .u64 (Oc.hor ((Oc.turn (!big) xs).take k) : Nat)) (fun _ i => xs.length - (intOf i).toNat)
  case atStart => exact ⟨0, Nat.zero_le _, rfl, rfl⟩
  case round =>
    obtain ⟨k, hk, rfl, rfl⟩ := hrel
    by_cases hlt : (k : Int) < (xs.length : Int)
    · have hk' : k < xs.length := by omega
      have hat := Oc.at_lt k xs.length (!big) hk'
      have hcell := Hc.out (Oc.at' k xs.length (!big)) hat
      obtain ⟨x, hx⟩ : ∃ x, x = xs[Oc.at' k xs.length (!big)] := ⟨_, rfl⟩
      rw [← hx] at hcell
      have hxl := x.toNat_lt
      have hst : 256 * Oc.hor ((Oc.turn (!big) xs).take k) + x.toNat = Oc.hor ((Oc.turn (!big) xs).take (k + 1)) := by
        have e : (Oc.turn (!big) xs).take (k + 1) = (Oc.turn (!big) xs).take k ++ [x] := by
          rw [List.take_add_one, Oc.turn_get (!big) xs k hk', List.getElem?_eq_getElem hat, ← hx]; rfl
        rw [e, Oc.hor_snoc]
      have hbd : Oc.hor ((Oc.turn (!big) xs).take (k + 1)) < 18446744073709551616 := by
        have := Oc.hor_lt ((Oc.turn (!big) xs).take (k + 1))
        rw [List.length_take, Oc.turn_length, Nat.min_eq_left hk'] at this
        exact Nat.lt_of_lt_of_le this (Oc.pow_le (k + 1) (by omega))
      have Hst := Lib.hid hst
      rw [← hst] at hbd
      clear hst hx
      obtain ⟨m, hm⟩ : ∃ m, m = Oc.hor ((Oc.turn (!big) xs).take k) := ⟨_, rfl⟩
      rw [← hm] at hbd Hst ⊢
      clear hm
      cases big
      · have hai : Oc.at' k xs.length (!false) = xs.length - 1 - k := rfl
        rw [hai] at hcell
        have hpos : ((xs.length - 1 - k : Nat) : Int) = (xs.length : Int) - 1 - (k : Int) := by omega
        go_wp2
        go_round
        case rel => exact ⟨k + 1, by omega, by go_num, by rw [← Hst.out]; simp⟩
        case measure => simp [intOf]; omega
      · have hai : Oc.at' k xs.length (!true) = k := rfl
        rw [hai] at hcell
        go_wp2
        go_round
        case rel => exact ⟨k + 1, by omega, by go_num, by rw [← Hst.out]; simp⟩
        case measure => simp [intOf]; omega
    · go_wp2
      go_ret
      exact ⟨ret_int (by rw [List.take_of_length_le (by rw [Oc.turn_length]; omega), Oc.get_hor]), rfl⟩
theorem put_not (n : Nat) (size : Int) (big : Bool) (w : World) (h : Oc.fits n size = false) :
    Calls Try.prog 46 #[.int .u64 (n : Int), .int .i64 size, .bool big] w fun e w' => e = .returned (.tuple #[.slice none 0 0, .bool false]) ∧ w' = w := by
  go_enter Try.func46, Try.ntmps46
  go_wp2_with (go_at_call 52; refine (fits_any n size _).mono ?_; rintro e w' ⟨rfl, rfl⟩)
  go_ret2
  exact ⟨rfl, rfl⟩

set_option maxHeartbeats 1000000 in
set_option maxRecDepth 100000 in
theorem put_fits (n s : Nat) (big : Bool) (w : World) (h1 : 1 ≤ s) (h8 : s ≤ 8) (h : n < 256 ^ s) :
    Calls Try.prog 46 #[.int .u64 (n : Int), .int .i64 (s : Int), .bool big] w fun e w' => ∃ v, e = .returned (.tuple #[v, .bool true]) ∧ w'.ownsRow w.heap.size 5 1 v s (Lib.byteCells (Oc.put n s big)) ∧ Below w.heap.size w w' := by
  obtain ⟨i0, hi, hz0, hz1, hz2⟩ := info_parts info5
  have hf : Oc.fits n (s : Int) = true := by rw [Oc.fits_in n s h1 h8]; exact decide_eq_true h
  have Hf := Lib.hid hf
  clear h
  go_enter Try.func46, Try.ntmps46
  go_wp2_with (first | (go_at_call 52; refine (fits_any n s _).mono ?_; rintro e w' ⟨rfl, rfl⟩) | (at_make; refine wpList_make_full _ rfl _ _ 22 rfl w'.heap.size 5 i0 (.int .u8 0) 1 Try.underlying22 hi hz0 hz1 .i64 .i64 _ _ s rfl rfl (by omega) (by omega) (by rw [hz2]; omega) (by unfold maxLen; omega) (Nat.le_refl _) ?_; intro w1 hown hgr))
  have hbw : Below w'.heap.size w' w1 := (Below.refl _ _).grown hgr (Nat.le_refl _) (fun k h => by cases h)
  have hown0 : w1.ownsRow w'.heap.size 5 1 (.slice (some ⟨w'.heap.size, 0, none⟩) s s) s (Lib.byteCells (Oc.turn big (Oc.part n s 0))) := by
    have e : Lib.byteCells (Oc.turn big (Oc.part n s 0)) = (madeCells (Value.int .u8 0).cells (s * 1)).toList := by
      rw [Oc.turn_zero, Nat.mul_one, show (Value.int .u8 0).cells = #[.int .u8 0] from rfl, toList_madeCells_one]; simp [Lib.byteCells]
    rw [e]; exact hown
  clear hgr hown
  go_loopw [17] (fun i wr => ∃ k : Nat, k ≤ s ∧ i = .int .i64 (k : Int) ∧ wr.ownsRow w'.heap.size 5 1 (.slice (some ⟨w'.heap.size, 0, none⟩) s s) s (Lib.byteCells (Oc.turn big (Oc.part n s k))) ∧ Below w'.heap.size w' wr) (fun i _ => s - (intOf i).toNat)
  case atStart => exact ⟨0, Nat.zero_le _, rfl, hown0, hbw⟩
  case round =>
    obtain ⟨k, hk, rfl, hown, hbw⟩ := hrel
    clear hown0
    by_cases hlt : (k : Int) < (s : Int)
    · have hk' : k < s := by omega
      have hat := Oc.at_lt k s big hk'
      have hat' : ((Oc.at' k s big : Nat) : Int) < (s : Int) := by omega
      have hcell := hown.cellAt (Oc.at' k s big) (by omega)
      have hfz := hown.frozenAt (Oc.at' k s big)
      have hps := Oc.part_step n s k big hk'
      obtain ⟨u, hu⟩ : ∃ u, (Lib.byteCells (Oc.turn big (Oc.part n s k)))[Oc.at' k s big]? = some u := ⟨_, List.getElem?_eq_getElem (by rw [Lib.byteCells_length, Oc.turn_length, Oc.part_length]; exact hat)⟩
      rw [hu] at hcell
      have Hps := Lib.hid hps
      clear hps
      have hw8 : IntKind.i64.wrap (8 * (k : Int)) = 8 * (k : Int) := by rw [IntKind.wrap_i64]; omega
      have hk0 : ¬ 8 * (k : Int) < 0 := by omega
      have hsh := Oc.shr n k (by omega)
      go_wp2
      go_region_with (go_at_call 53; refine (place_any k s big _ hk' (by omega)).mono ?_; rintro e w2 ⟨rfl, rfl⟩)
      all_goals
        go_wp2
        go_roundw
        case rel =>
          refine ⟨k + 1, by omega, by go_num, ?_, ?_⟩
          · show (wr.setCell ⟨w'.heap.size, Oc.at' k s big, none⟩ (.int .u8 ((n : Int) / 2 ^ (8 * k) % 256))).ownsRow _ _ _ _ _ _
            rw [Oc.dg_int, ← Hps.out, cells_set]
            exact (hown.stored (Oc.at' k s big) (.int .u8 ((Oc.dg n k).toNat : Int))).1
          · exact (hbw.setCell (Nat.le_refl _) _).drew
        case measure => simp [intOf]; omega
    · have hks : k = s := by omega
      subst hks
      rw [Oc.put_part] at hown
      go_wp2
      go_ret2
      exact ⟨_, rfl, hown, hbw⟩

set_option maxHeartbeats 1000000 in
set_option maxRecDepth 100000 in
theorem refPut_any (n s : Nat) (big : Bool) (w : World) (hn : n < 18446744073709551616) (h8 : s ≤ 8) :
    Calls Try.prog 33 #[.int .u64 (n : Int), .int .i64 (s : Int), .bool big] w fun e w' => ∃ v, e = .returned v ∧ w'.ownsRow w.heap.size 5 1 v s (Lib.byteCells (Oc.put n s big)) ∧ Below w.heap.size w w' := by
  obtain ⟨i0, hi, hz0, hz1, hz2⟩ := info_parts info5
  have i8 : (s : Int) ≤ 8 := by omega
  go_enter Try.func33, Try.ntmps33
  go_wp2
  go_loopw [0, 7, 8] (fun mm v i wr => ∃ k m : Nat, k ≤ s ∧ i = .int .i64 (k : Int) ∧ mm = .int .u64 (m : Int) ∧ m < 18446744073709551616 ∧ Hid (m = n / 256 ^ k) ∧ wr.ownsRow w.heap.size 5 1 v k (Lib.byteCells (Oc.put n k big)) ∧ Below w.heap.size w wr) (fun _ _ i _ => s - (intOf i).toNat)
  case atStart => exact ⟨0, n, Nat.zero_le _, rfl, rfl, hn, (by simp : n = n / 256 ^ 0), by rw [Oc.put_zero]; exact World.ownsRow_nil _ _ _ _, Below.refl _ _⟩
  case round =>
    obtain ⟨k, m, hk, rfl, rfl, hm, Hm, hown, hbw⟩ := hrel
    by_cases hlt : (k : Int) < (s : Int)
    · have hd : (m : Int) % 256 = ((Oc.dg n k).toNat : Int) := by rw [Oc.dg_nat, ← Hm.out]; simp
      have hnx : m / 256 = n / 256 ^ (k + 1) := by rw [Nat.pow_succ, ← Nat.div_div_eq_div_mul, ← Hm.out]
      have Hd := Lib.hid hd
      have Hnx := Lib.hid hnx
      clear hd hnx
      cases big
      · go_wp2_with (at_builtin; refine wpList_append_own _ rfl _ _ 22 rfl w.heap.size 5 i0 (.int .u8 0) 1 1 Try.underlying22 hi hz0 hz1 hz2 rfl (by decide) _ _ _ rfl (hown.alloc _) ⟨wr.heap.size, 0, none⟩ 1 1 [.int .u8 ((m : Int) % 256)] rfl rfl (cell_one_new _ _ _) (fun u hu => by simp at hu; subst hu; rfl) (by unfold maxLen; omega) (by omega) (by have := hbw.size; simp; omega) ?_; intro v2 w2 hown2 hgr2 _)
        have hbw2 : Below w.heap.size w w2 := Below.grown (hbw.alloc hbw.size _) hgr2 (by have := hbw.size; simp; omega) (fun j hj => (hown.lt j hj).1)
        go_roundw
        case rel => exact ⟨k + 1, m / 256, by omega, by go_num, by simp, by omega, Hnx.out, by rw [Oc.put_little, Lib.byteCells_append]; rw [Hd.out] at hown2; exact hown2, hbw2⟩
        case measure => simp [intOf]; omega
      · go_wp2_with (at_builtin; refine wpList_append_owns rfl _ _ 22 rfl w.heap.size w.heap.size 5 i0 (.int .u8 0) 1 1 Try.underlying22 hi hz0 hz1 hz2 rfl (by decide) _ _ _ rfl (owns_built _ _ _ _ hbw.size) _ _ _ rfl (hown.alloc _) (cells_one _) (by unfold maxLen; omega) (by omega) (by have := hbw.size; simp; omega) ?_; intro v2 w2 hown2 hgr2)
        have hbw2 : Below w.heap.size w w2 := Below.grown (hbw.alloc hbw.size _) hgr2 (by have := hbw.size; simp; omega) (fun j hj => ((owns_built wr w.heap.size 5 (.int .u8 ((m : Int) % 256)) hbw.size).lt j hj).1)
        go_roundw
        case rel => exact ⟨k + 1, m / 256, by omega, by go_num, by simp, by omega, Hnx.out, by rw [Oc.put_big, Lib.byteCells_append, Nat.add_comm k 1]; rw [Hd.out] at hown2; exact hown2, hbw2⟩
        case measure => simp [intOf]; omega
    · have hks : k = s := by omega
      subst hks
      go_wp2
      go_ret
      exact ⟨_, rfl, hown, hbw⟩
theorem grow_zero (w : World) : Calls Try.prog 56 #[.slice none 0 0, .int .i64 0] w fun e w' => e = .returned (.slice none 0 0) ∧ w' = w := by
  go_enter Try.func56, Try.ntmps56
  go_wp2
  go_ret
  exact ⟨rfl, rfl⟩

set_option maxHeartbeats 1000000 in
theorem grow_some (n : Nat) (w : World) (h1 : 0 < n) (hn : n ≤ 1000000) :
    Calls Try.prog 56 #[.slice none 0 0, .int .i64 (n : Int)] w fun e w' => ∃ v, e = .returned v ∧ w'.ownsRow w.heap.size 5 1 v 0 [] ∧ Below w.heap.size w w' := by
  obtain ⟨i0, hi, hz0, hz1, hz2⟩ := info_parts info5
  have i1 : ¬ (n : Int) < 0 := by omega
  have i2 : (0 : Int) < (n : Int) := by omega
  have hrz : ∀ ty, (Builtin.append_ #[22, 3] ty #[.slice none 0 0, .int .i64 (n : Int)]).run Try.prog w =
      .ok (.slice (some ⟨w.heap.size, 0, none⟩) n (grownCap w n 0 5)) (w.drew.alloc (.cells (Builtin.zeroCells (Value.int .u8 0).cells n ++ Builtin.zeroCells (Value.int .u8 0).cells (grownCap w n 0 5 - n)) 5)) := fun ty =>
    Lib.run_append_nil_zeros w 22 3 ty 5 i0 (.int .u8 0) .i64 .i64 Try.underlying22 Try.underlying3 hi hz0 n h1 (by omega) (by omega) (by rw [hz2]; omega)
  have hG := grownCap_ge w n 0 5
  have hGm := grownCap_le_maxLen w n 0 5 (by unfold maxLen; omega)
  have hown := World.ownsRow_made (base := w.heap.size) (e := 5) (size := 1) w.drew (Builtin.zeroCells (Value.int .u8 0).cells n ++ Builtin.zeroCells (Value.int .u8 0).cells (grownCap w n 0 5 - n)) (grownCap w n 0 5) (Nat.le_refl _) hGm (by rw [Array.size_append, size_zeroCells, size_zeroCells]; simp [Value.cells]; omega)
  have hbw : Below w.heap.size w (w.drew.alloc (.cells (Builtin.zeroCells (Value.int .u8 0).cells n ++ Builtin.zeroCells (Value.int .u8 0).cells (grownCap w n 0 5 - n)) 5)) := (Below.refl _ _).drew.alloc (Nat.le_refl _) _
  have Hown := Lib.hid hown
  have Hbw := Lib.hid hbw
  clear hown hbw
  go_enter Try.func56, Try.ntmps56
  go_wp2_with (at_builtin; refine Lib.wpList_append_run _ rfl _ _ _ _ rfl _ _ rfl rfl _ _ (hrz _) ?_)
  go_ret
  exact ⟨_, rfl, Hown.out, Hbw.out⟩

theorem grow_any (n : Nat) (w : World) (hn : n ≤ 1000000) :
    Calls Try.prog 56 #[.slice none 0 0, .int .i64 (n : Int)] w fun e w' => ∃ v, e = .returned v ∧ w'.ownsRow w.heap.size 5 1 v 0 [] ∧ Below w.heap.size w w' := by
  rcases Nat.eq_zero_or_pos n with rfl | h
  · refine (grow_zero w).mono ?_
    rintro e w' ⟨rfl, rfl⟩
    exact ⟨_, rfl, World.ownsRow_nil _ _ _ _, Below.refl _ _⟩
  · exact grow_some n w h hn

theorem concat_none (a : Option Addr) (cap : Nat) (w : World) :
    Calls Try.prog 55 #[.slice a 0 cap] w fun e w' => e = .returned (.slice none 0 0) ∧ w' = w := by
  go_enter Try.func55, Try.ntmps55
  go_wp2
  refine wp_loop_rounds 1 ?_
  rw [rounds_succ]
  go_wp2_with (go_at_call 56; refine (grow_zero _).mono ?_; rintro e w' ⟨rfl, rfl⟩)
  refine wp_loop_rounds 1 ?_
  rw [rounds_succ]
  go_wp2
  go_ret
  exact ⟨rfl, rfl⟩

set_option maxHeartbeats 2000000 in
set_option maxRecDepth 100000 in
theorem concat_some (b off cap : Nat) (L : List (List UInt8)) (F : List UInt8) (w : World) (HF : Hid (L.flatten = F)) (hL : L.length ≤ 300000) (hsum : F.length ≤ 300000) (hb : b < w.heap.size)
    (hc : ∀ j (h : j < L.length), ∃ p c, w.cell? ⟨b, off + j, none⟩ = some (.slice p L[j].length c) ∧ RowAt w p c L[j]) :
    Calls Try.prog 55 #[.slice (some ⟨b, off, none⟩) L.length cap] w fun e w' => ∃ v, e = .returned v ∧ w'.ownsRow w.heap.size 5 1 v F.length (Lib.byteCells F) ∧ Below w.heap.size w w' := by
  have Hc := Lib.hid hc
  clear hc
  go_enter Try.func55, Try.ntmps55
  go_wp2
  go_loop [3, 11] (fun n i => ∃ k : Nat, k ≤ L.length ∧ i = .int .i64 (k : Int) ∧ n = .int .i64 (tot L k : Nat)) (fun _ i => L.length - (intOf i).toNat)
  case atStart => exact ⟨0, Nat.zero_le _, rfl, rfl⟩
  case round =>
    obtain ⟨k, hk, rfl, rfl⟩ := hrel
    have hle := tot_le L k
    rw [HF.out] at hle
    by_cases hlt : (k : Int) < (L.length : Int)
    · have hk' : k < L.length := by omega
      obtain ⟨p, c, hcell, hrow⟩ := Hc.out k hk'
      clear hrow
      have hle2 := tot_le L (k + 1)
      have hst := tot_step L k hk'
      rw [hst, HF.out] at hle2
      have hs1 : ¬ (tot L k : Int) + (L[k].length : Int) < 0 := by omega
      have Hst := Lib.hid hst
      clear hst
      go_wp2
      go_round
      case rel => exact ⟨k + 1, by omega, by go_num, by rw [Hst.out]; go_num⟩
      case measure => simp [intOf]; omega
    · have hkl : k = L.length := by omega
      subst hkl
      go_wp2_with (go_at_call 56; refine (grow_any _ _ (by omega)).mono ?_; rintro e w1 ⟨v1, rfl, hown1, hb1⟩)
      go_loopw [6, 27] (fun v i wr => ∃ k : Nat, k ≤ L.length ∧ i = .int .i64 (k : Int) ∧ wr.ownsRow w.heap.size 5 1 v (L.take k).flatten.length (Lib.byteCells (L.take k).flatten) ∧ Below w.heap.size w wr) (fun _ i _ => L.length - (intOf i).toNat)
      case atStart => exact ⟨0, Nat.zero_le _, rfl, hown1, hb1⟩
      case round =>
        obtain ⟨k, hk, rfl, hown, hbw⟩ := hrel
        have hle := flat_le L k
        rw [HF.out] at hle
        by_cases hlt : (k : Int) < (L.length : Int)
        · have hk' : k < L.length := by omega
          obtain ⟨p, c, hcell0, hrow0⟩ := Hc.out k hk'
          have hcell : wr.cell? ⟨b, off + k, none⟩ = some (.slice p L[k].length c) := by rw [hbw.cell (p := ⟨b, off + k, none⟩) hb]; exact hcell0
          have hrow := hrow0.next hbw
          have Hrow := Lib.hid hrow
          clear hcell0 hrow0 hrow
          have hle2 := flat_le L (k + 1)
          rw [flat_step L k hk', List.length_append, HF.out] at hle2
          go_wp2_with (at_builtin; refine wpList_append_row rfl _ _ rfl w.heap.size _ _ _ rfl hown p L[k].length c L[k] rfl rfl Hrow.out (by omega) hbw.size ?_; intro v2 w2 hown2 hgr2)
          have hbw2 : Below w.heap.size w w2 := Below.grown hbw hgr2 hbw.size (fun j hj => (hown.lt j hj).1)
          go_roundw
          case rel => exact ⟨k + 1, by omega, by go_num, by rw [flat_step L k hk', Lib.byteCells_append, List.length_append]; exact hown2, hbw2⟩
          case measure => simp [intOf]; omega
        · have hkl : k = L.length := by omega
          subst hkl
          rw [List.take_length, HF.out] at hown
          go_wp2
          go_ret
          exact ⟨_, rfl, hown, hbw⟩

theorem concat_at (a : Option Addr) (cap : Nat) (L : List (List UInt8)) (w : World) (hL : L.length ≤ 300000) (hsum : L.flatten.length ≤ 300000) (h : PartsAt w a L) :
    Calls Try.prog 55 #[.slice a L.length cap] w fun e w' => ∃ v, e = .returned v ∧ w'.ownsRow w.heap.size 5 1 v L.flatten.length (Lib.byteCells L.flatten) ∧ Below w.heap.size w w' := by
  rcases h with rfl | ⟨b, off, rfl, hb, hc⟩
  · refine (concat_none a cap w).mono ?_
    rintro e w' ⟨rfl, rfl⟩
    exact ⟨_, rfl, World.ownsRow_nil _ _ _ _, Below.refl _ _⟩
  · exact concat_some b off cap L L.flatten w rfl hL hsum hb hc

theorem join_at (a : Option Addr) (n cap : Nat) (L : List (List UInt8)) (F : List UInt8) (w : World) (hn : L.length = n) (hF : L.flatten = F) (hL : L.length ≤ 300000) (hsum : F.length ≤ 300000) (h : PartsAt w a L) :
    Calls Try.prog 54 #[.slice a n cap] w fun e w' => ∃ v, e = .returned v ∧ w'.ownsRow w.heap.size 5 1 v F.length (Lib.byteCells F) ∧ Below w.heap.size w w' := by
  subst hn
  have H := Lib.hid (hF ▸ concat_at a cap L w hL (by rw [hF]; exact hsum) h)
  clear h
  go_enter Try.func54, Try.ntmps54
  go_wp2_with (go_at_call 55; refine H.out.mono ?_; rintro e w' ⟨v, rfl, h1, h2⟩)
  go_ret
  exact ⟨v, rfl, h1, h2⟩
end Go.Proofs.Ytnhjpbhndckfgaa.S2
