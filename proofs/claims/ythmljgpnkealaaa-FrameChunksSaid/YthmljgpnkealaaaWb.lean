/- Contracts of Size, ones, shifted, table and bytes.Equal, and of the document's Size and ones. -/
import Derived.Test.YthmljgpnkealaaaWa
import Derived.Deep.WholeRow
namespace Go.Proofs.Ythmljgpnkealaaa
open Go.RowKit
namespace Fc
theorem and1 (m : Nat) (h : m < 4294967296) : bits .and .u32 (m : Int) 1 = ((m % 2 : Nat) : Int) := by
  have := and32 m 1 h (by omega)
  rw [show ((1 : Nat) : Int) = 1 from rfl] at this
  rw [this, show (1 : Nat) = 2 ^ 1 - 1 from rfl, Nat.and_two_pow_sub_one_eq_mod]
theorem xor8 (a b : Nat) (ha : a < 256) (hb : b < 256) : bits .xor .u8 (a : Int) (b : Int) = ((a ^^^ b : Nat) : Int) := by
  have ha' : a % 2 ^ 8 = a := Nat.mod_eq_of_lt ha
  have hb' : b % 2 ^ 8 = b := Nat.mod_eq_of_lt hb
  have hx : a ^^^ b < 2 ^ 8 := Nat.xor_lt_two_pow ha hb
  have hx' : ((a ^^^ b : Nat) : Int) < 2 ^ 8 := by exact_mod_cast hx
  simp only [bits, BitVec.ofInt_natCast, BitVec.toNat_xor, BitVec.toNat_ofNat, show IntKind.u8.bits = 8 from rfl, ha', hb']
  rw [IntKind.wrap_u8]; omega
theorem step_odd (p m : Nat) (h : m % 2 = 1) : step p m = m / 2 ^^^ p := if_pos h
theorem step_even (p m : Nat) (h : ¬ m % 2 = 1) : step p m = m / 2 := if_neg h
theorem run_lt32 (p w k : Nat) (hp : p < 4294967296) (hw : w < 4294967296) : run p k w < 4294967296 := run_lt p w 32 k hp hw
theorem poly_lt32 (wide : Bool) : poly wide < 4294967296 := by cases wide <;> decide
theorem ones_lt32 (wide : Bool) : ones wide < 4294967296 := by cases wide <;> decide
end Fc
theorem ret_u32 {a b : Int} (h : a = b) : Ending.returned (.int .u32 a) = .returned (.int .u32 b) := by rw [h]

theorem size_any (wide : Bool) (w : World) : Calls Try.prog 44 #[.bool wide] w fun e w' => e = .returned (.int .i64 (Fc.size wide : Nat)) ∧ w' = w := by
  go_enter Try.func44, Try.ntmps44
  cases wide
  · go_wp2
    go_ret
    exact ⟨rfl, rfl⟩
  · go_wp2
    go_ret
    exact ⟨rfl, rfl⟩
theorem refSize_any (wide : Bool) (w : World) : Calls Try.prog 35 #[.bool wide] w fun e w' => e = .returned (.int .i64 (Fc.size wide : Nat)) ∧ w' = w := by
  go_enter Try.func35, Try.ntmps35
  cases wide
  · go_wp2
    go_ret
    exact ⟨rfl, rfl⟩
  · go_wp2
    go_ret
    exact ⟨rfl, rfl⟩
theorem ones_any (wide : Bool) (w : World) : Calls Try.prog 54 #[.bool wide] w fun e w' => e = .returned (.int .u32 (Fc.ones wide : Nat)) ∧ w' = w := by
  go_enter Try.func54, Try.ntmps54
  cases wide
  · go_wp2
    go_ret
    exact ⟨rfl, rfl⟩
  · go_wp2
    go_ret
    exact ⟨rfl, rfl⟩
theorem refOnes_any (wide : Bool) (w : World) : Calls Try.prog 46 #[.bool wide] w fun e w' => e = .returned (.int .u32 (Fc.ones wide : Nat)) ∧ w' = w := by
  go_enter Try.func46, Try.ntmps46
  cases wide
  · go_wp2
    go_ret
    exact ⟨rfl, rfl⟩
  · go_wp2
    go_ret
    exact ⟨rfl, rfl⟩

theorem shifted_any (m p : Nat) (w : World) (hm : m < 4294967296) (hp : p < 4294967296) :
    Calls Try.prog 61 #[.int .u32 (m : Int), .int .u32 (p : Int)] w fun e w' => e = .returned (.int .u32 (Fc.run p 8 m : Nat)) ∧ w' = w := by
  go_enter Try.func61, Try.ntmps61
  go_wp2
  go_loop [0, 5] (fun r i => ∃ k : Nat, k ≤ 8 ∧ i = .int .i64 (k : Int) ∧ r = .int .u32 (Fc.run p k m : Nat)) (fun _ i => 8 - (intOf i).toNat)
  case atStart => exact ⟨0, Nat.zero_le _, rfl, rfl⟩
  case round =>
    obtain ⟨k, hk, rfl, rfl⟩ := hrel
    have hl := Fc.run_lt32 p m k hp hm
    by_cases hlt : (k : Int) < 8
    · have hst : Fc.run p (k + 1) m = Fc.step p (Fc.run p k m) := rfl
      obtain ⟨q, hq⟩ : ∃ q, q = Fc.run p k m := ⟨_, rfl⟩
      rw [← hq] at hl hst ⊢
      have hand := Fc.and1 q hl
      clear hq
      by_cases h2 : q % 2 = 1
      · rw [Fc.step_odd p q h2] at hst
        rw [h2] at hand
        have hx := Fc.xor32 (q / 2) p (by omega) hp
        have Hst := Lib.hid hst
        have Hx := Lib.hid hx
        clear hst hx
        go_wp2
        go_round
        case rel => exact ⟨k + 1, by omega, by go_num, by rw [Hst.out, ← Hx.out]; congr 1⟩
        case measure => simp [intOf]; omega
      · rw [Fc.step_even p q h2] at hst
        rw [show q % 2 = 0 by omega] at hand
        have Hst := Lib.hid hst
        clear hst
        go_wp2
        go_round
        case rel => exact ⟨k + 1, by omega, by go_num, by rw [Hst.out]; congr 1⟩
        case measure => simp [intOf]; omega
    · have hks : k = 8 := by omega
      subst hks
      go_wp2
      go_ret
      exact ⟨rfl, rfl⟩

namespace Fc
def uc (l : List Nat) : List Value := l.map fun (n : Nat) => Value.int .u32 (n : Int)
theorem uc_length (l : List Nat) : (uc l).length = l.length := by simp [uc]
theorem uc_set (l : List Nat) (i n : Nat) : uc (l.set i n) = (uc l).set i (.int .u32 (n : Int)) := by simp [uc, List.map_set]
theorem uc_one (l : List Nat) : (uc l).toArray.all (·.oneCell') = true := by
  rw [List.all_toArray]
  simp [uc, Value.oneCell']
/-- The words of the table that are there already. -/
def tpart (p k : Nat) : List Nat := (List.range 256).map fun i => if i < k then run p 8 i else 0
def tab (p : Nat) : List Nat := (List.range 256).map fun i => run p 8 i
theorem tpart_length (p k : Nat) : (tpart p k).length = 256 := by simp [tpart]
theorem tab_length (p : Nat) : (tab p).length = 256 := by simp [tab]
theorem tab_get (p i : Nat) (h : i < 256) : (tab p)[i]? = some (run p 8 i) := by simp [tab, h]
theorem tpart_zero (p : Nat) : tpart p 0 = List.replicate 256 0 := by
  unfold tpart
  rw [List.eq_replicate_iff]
  refine ⟨by rw [List.length_map, List.length_range], fun b hb => ?_⟩
  rw [List.mem_map] at hb
  obtain ⟨i, _, rfl⟩ := hb
  exact if_neg (Nat.not_lt_zero i)
/-- The cells of a table of noughts. -/
def zs : Array Value := (uc (List.replicate 256 0)).toArray
theorem zs_size : zs.size = 256 := by unfold zs; rw [List.size_toArray, uc_length, List.length_replicate]
theorem zs_eq (p : Nat) : (uc (tpart p 0)).toArray = zs := by rw [tpart_zero]; rfl
theorem tpart_all (p : Nat) : tpart p 256 = tab p := by
  apply List.ext_getElem
  · simp [tpart, tab]
  · intro i h1 h2
    have : i < 256 := by simpa [tpart] using h1
    simp [tpart, tab, this]
theorem tpart_set (p k : Nat) : (tpart p k).set k (run p 8 k) = tpart p (k + 1) := by
  apply List.ext_getElem
  · simp [tpart]
  · intro i h1 h2
    rw [List.getElem_set]
    simp only [tpart, List.getElem_map, List.getElem_range]
    by_cases e : k = i
    · subst e; rw [if_pos rfl, if_pos (by omega)]
    · rw [if_neg e]
      by_cases h : i < k
      · rw [if_pos h, if_pos (by omega)]
      · rw [if_neg h, if_neg (by omega)]
end Fc
theorem info38 : (Try.prog.info? 78).map (·.size) = some 256 := by kernel_rfl
theorem below_setRow {w w' : World} {B g : Nat} (h : Below B w w') (hg : B ≤ g) (cs : Array Value) : Below B w (w'.setRow g cs) :=
  ⟨h.os, h.tape, h.output, by rw [setRow_size]; exact h.size, fun k hk => by rw [setRow_other _ _ _ _ (by omega)]; exact h.block k hk⟩

theorem run_alloc38 (ρ : Operand → Value) (o : Oper) (ho : o.op = .alloc 78) (w : World) : (execOp ρ o).run Try.prog w = .ok (.value (.pointer (some ⟨w.heap.size, 0, none⟩))) (w.alloc (.cells Fc.zs 78)) := by
  unfold execOp
  rw [ho]
  kernel_rfl

/-- A new table of noughts. -/
theorem wpList_alloc38 {ops : Array Oper} {rest : List Oper} {o : Oper} {a : Act} {w : World} {Q : Exit → Act → World → Prop} (hg : o.guard = none) (ho : o.op = .alloc 78)
    (h : wpList Try.prog ops Q rest (a.put o.dst (.pointer (some ⟨w.heap.size, 0, none⟩))) (w.alloc (.cells Fc.zs 78))) : wpList Try.prog ops Q (o :: rest) a w := by
  refine wpList_plain hg fun K hK => ?_
  unfold Oper.wp
  rw [run_alloc38 _ _ ho, Oper.upon_value]
  exact hK _ _ h

/-- The table under way: its own block, the result's block. -/
structure TabAt (wr w : World) (p k : Nat) : Prop where
  row : wr.heap[w.heap.size + 1]? = some (.cells (Fc.uc (Fc.tpart p k)).toArray 78 (0, 0))
  res : wr.heap[w.heap.size]? = some (.cells Fc.zs 78 (0, 0))
  bel : Below w.heap.size w wr
theorem tabAt_start (w : World) (p : Nat) : TabAt ((w.alloc (.cells Fc.zs 78)).alloc (.cells Fc.zs 78)) w p 0 :=
  ⟨by rw [heap_alloc2_new, Fc.zs_eq], by rw [heap_alloc2_old], ((Below.refl _ _).alloc (Nat.le_refl _) _).alloc (by simp) _⟩

theorem TabAt.store {wr w : World} {p k : Nat} (h : TabAt wr w p k) : TabAt (wr.setCell ⟨w.heap.size + 1, k, none⟩ (.int .u32 (Fc.run p 8 k : Nat))) w p (k + 1) := by
  refine ⟨?_, ?_, h.bel.setCell (by simp) _⟩
  · rw [heap_setCell_same _ _ _ _ _ _ h.row, ← Fc.tpart_set, Fc.uc_set]
    simp
  · rw [heap_setCell_other _ _ _ _ (by simp)]; exact h.res

set_option maxHeartbeats 1000000 in
theorem table_narrow (w : World) :
    Calls Try.prog 59 #[.bool false] w fun e w' => e = .returned (.agg (Fc.uc (Fc.tab 33800)).toArray) ∧ Below w.heap.size w w' := by
  have hst := tabAt_start w 33800
  obtain ⟨T, hT⟩ : ∃ T, T = (Fc.uc (Fc.tab 33800)).toArray := ⟨_, rfl⟩
  rw [← hT]
  have HT := Lib.hid hT
  clear hT
  go_enter Try.func59, Try.ntmps59
  go_wp2_with (refine wpList_alloc38 rfl rfl ?_)
  go_loopw [5, 7] (fun _ i wr => ∃ k : Nat, k ≤ 256 ∧ i = .int .i64 (k : Int) ∧ TabAt wr w 33800 k) (fun _ i _ => 256 - (intOf i).toNat)
  case atStart => exact ⟨0, by omega, rfl, hst⟩
  case round =>
    obtain ⟨k, hk, rfl, ht⟩ := hrel
    by_cases hlt : (k : Int) < 256
    · have h27 := shifted_any k 33800 wr (by omega) (by omega)
      rw [show ((33800 : Nat) : Int) = 33800 from rfl] at h27
      obtain ⟨old, hcx⟩ : ∃ u, wr.cell? ⟨w.heap.size + 1, k, none⟩ = some u := by
        rw [cell_of_row _ _ _ _ _ _ ht.row]
        exact ⟨_, Array.getElem?_eq_getElem (by rw [List.size_toArray, Fc.uc_length, Fc.tpart_length]; omega)⟩
      have hfz := frozen_of_row wr (w.heap.size + 1) k _ 78 ht.row
      have hki : (k : Int) % 4294967296 = (k : Int) := by omega
      have Ht := Lib.hid ht.store
      obtain ⟨R, hR⟩ : ∃ R, R = Fc.run 33800 8 k := ⟨_, rfl⟩
      rw [← hR] at h27 Ht
      clear ht hst hR
      go_wp2_with (go_at_call 61; refine h27.mono ?_; rintro e w' ⟨rfl, rfl⟩)
      go_roundw
      case rel => exact ⟨k + 1, by omega, by go_num, Ht.out⟩
      case measure => simp [intOf]; omega
    · have hk64 : k = 256 := by omega
      subst hk64
      have hx := ht.row
      rw [Fc.tpart_all] at hx
      have hz := ht.res
      have hbw := ht.bel
      have hsz : (Try.prog.info? 78).map (·.size) = some (Fc.uc (Fc.tab 33800)).toArray.size := by rw [info38, List.size_toArray, Fc.uc_length, Fc.tab_length]
      have hold : Fc.zs.size = (Fc.uc (Fc.tab 33800)).toArray.size := by rw [Fc.zs_size, List.size_toArray, Fc.uc_length, Fc.tab_length]
      have hone := Fc.uc_one (Fc.tab 33800)
      rw [← HT.out] at hx hsz hold hone
      have Hsz := Lib.hid hsz
      have Hold := Lib.hid hold
      have Hx := Lib.hid hx
      have Hz := Lib.hid hz
      have Hone := Lib.hid hone
      clear hsz hold hx hz ht hst hone
      go_wp2_with (first | (refine wpList_load_row rfl 78 _ rfl (w.heap.size + 1) rfl 78 _ _ _ Hx.out Try.underlying78 rfl Hsz.out ?_) | (refine wpList_store_row rfl 78 _ _ rfl w.heap.size _ rfl rfl 78 _ Hz.out Hsz.out Hold.out Hone.out ?_))
      refine bodyPost_ret (v := .agg T) ?_ rfl ⟨rfl, ?_⟩
      · exact results_cell_row Try.results59 _ _ w.heap.size 78 _ _ _ rfl (setRow_heap _ _ _ _ _ _ Hz.out) Try.underlying78 rfl Hsz.out
      · exact below_setRow hbw (Nat.le_refl _) _

set_option maxHeartbeats 1000000 in
theorem table_wide (w : World) :
    Calls Try.prog 59 #[.bool true] w fun e w' => e = .returned (.agg (Fc.uc (Fc.tab 3988292384)).toArray) ∧ Below w.heap.size w w' := by
  have hst := tabAt_start w 3988292384
  obtain ⟨T, hT⟩ : ∃ T, T = (Fc.uc (Fc.tab 3988292384)).toArray := ⟨_, rfl⟩
  rw [← hT]
  have HT := Lib.hid hT
  clear hT
  go_enter Try.func59, Try.ntmps59
  go_wp2_with (refine wpList_alloc38 rfl rfl ?_)
  go_loopw [5, 7] (fun _ i wr => ∃ k : Nat, k ≤ 256 ∧ i = .int .i64 (k : Int) ∧ TabAt wr w 3988292384 k) (fun _ i _ => 256 - (intOf i).toNat)
  case atStart => exact ⟨0, by omega, rfl, hst⟩
  case round =>
    obtain ⟨k, hk, rfl, ht⟩ := hrel
    by_cases hlt : (k : Int) < 256
    · have h27 := shifted_any k 3988292384 wr (by omega) (by omega)
      rw [show ((3988292384 : Nat) : Int) = 3988292384 from rfl] at h27
      obtain ⟨old, hcx⟩ : ∃ u, wr.cell? ⟨w.heap.size + 1, k, none⟩ = some u := by
        rw [cell_of_row _ _ _ _ _ _ ht.row]
        exact ⟨_, Array.getElem?_eq_getElem (by rw [List.size_toArray, Fc.uc_length, Fc.tpart_length]; omega)⟩
      have hfz := frozen_of_row wr (w.heap.size + 1) k _ 78 ht.row
      have hki : (k : Int) % 4294967296 = (k : Int) := by omega
      have Ht := Lib.hid ht.store
      obtain ⟨R, hR⟩ : ∃ R, R = Fc.run 3988292384 8 k := ⟨_, rfl⟩
      rw [← hR] at h27 Ht
      clear ht hst hR
      go_wp2_with (go_at_call 61; refine h27.mono ?_; rintro e w' ⟨rfl, rfl⟩)
      go_roundw
      case rel => exact ⟨k + 1, by omega, by go_num, Ht.out⟩
      case measure => simp [intOf]; omega
    · have hk64 : k = 256 := by omega
      subst hk64
      have hx := ht.row
      rw [Fc.tpart_all] at hx
      have hz := ht.res
      have hbw := ht.bel
      have hsz : (Try.prog.info? 78).map (·.size) = some (Fc.uc (Fc.tab 3988292384)).toArray.size := by rw [info38, List.size_toArray, Fc.uc_length, Fc.tab_length]
      have hold : Fc.zs.size = (Fc.uc (Fc.tab 3988292384)).toArray.size := by rw [Fc.zs_size, List.size_toArray, Fc.uc_length, Fc.tab_length]
      have hone := Fc.uc_one (Fc.tab 3988292384)
      rw [← HT.out] at hx hsz hold hone
      have Hsz := Lib.hid hsz
      have Hold := Lib.hid hold
      have Hx := Lib.hid hx
      have Hz := Lib.hid hz
      have Hone := Lib.hid hone
      clear hsz hold hx hz ht hst hone
      go_wp2_with (first | (refine wpList_load_row rfl 78 _ rfl (w.heap.size + 1) rfl 78 _ _ _ Hx.out Try.underlying78 rfl Hsz.out ?_) | (refine wpList_store_row rfl 78 _ _ rfl w.heap.size _ rfl rfl 78 _ Hz.out Hsz.out Hold.out Hone.out ?_))
      refine bodyPost_ret (v := .agg T) ?_ rfl ⟨rfl, ?_⟩
      · exact results_cell_row Try.results59 _ _ w.heap.size 78 _ _ _ rfl (setRow_heap _ _ _ _ _ _ Hz.out) Try.underlying78 rfl Hsz.out
      · exact below_setRow hbw (Nat.le_refl _) _

theorem table_any (wide : Bool) (w : World) :
    Calls Try.prog 59 #[.bool wide] w fun e w' => e = .returned (.agg (Fc.uc (Fc.tab (Fc.poly wide))).toArray) ∧ Below w.heap.size w w' := by
  cases wide
  · exact table_narrow w
  · exact table_wide w
end Go.Proofs.Ythmljgpnkealaaa
