/- Contracts of Put and of the document's Put. -/
import Derived.Test.YtbmlacmpiaklpaaDoorWa
import Derived.Deep.RegionLaw
import Derived.Lib.Bytes
import Derived.Laws.AppendOwnNone
namespace Go.Proofs.YtbmlacmpiaklpaaDoor
open Go.RowKit

theorem info5 : (Tryd.prog.info? 5).map (fun i => (i.zero, i.size, i.bytes)) = some (some (.int .u8 0), 1, 1) := by kernel_rfl
theorem info25 : (Tryd.prog.info? 25).map (fun i => (i.zero, i.size, i.bytes)) = some (some (.slice none 0 0), 1, 24) := by kernel_rfl

theorem cells_set (l : List UInt8) (j : Nat) (x : UInt8) : Lib.byteCells (l.set j x) = (Lib.byteCells l).set j (.int .u8 (x.toNat : Int)) := by
  simp [Lib.byteCells, List.map_set]
theorem cells_one (l : List UInt8) : ∀ u ∈ Lib.byteCells l, u.oneCell' = true := by
  intro u hu
  simp only [Lib.byteCells, List.mem_map] at hu
  obtain ⟨x, _, rfl⟩ := hu
  rfl

/-- A slice that was built of one value. -/
theorem owns_built (w : World) (base : Nat) (e : TypeId) (u : Value) (hb : base ≤ w.heap.size) : (w.alloc (.cells #[u] e)).ownsRow base e 1 (.slice (some ⟨w.heap.size, 0, none⟩) 1 1) 1 [u] :=
  ⟨rfl, .inr ⟨w.heap.size, 1, #[u], rfl, hb, heap_alloc_new w _, Nat.le_refl _, by unfold maxLen; omega, rfl, rfl⟩⟩

/-- append of a slice of one's own onto a slice of one's own, whether it is nil or not. -/
theorem wpList_append_owns {P : Program} {w : World} {ops : Array Oper} {rest : List Oper} {o : Oper} {a : Act} {Q : Exit → Act → World → Prop} (hgd : o.guard = none) (s x : Operand) (t : TypeId)
    (ho : o.op = .call { callee := .builtin .append, args := #[s, x], argTypes := #[t, t] })
    (base base2 : Nat) (e : TypeId) (i : TypeInfo) (z : Value) (size bytes : Nat) (ht : P.underlying t = some (.slice e)) (hi : P.info? e = some i) (hz : i.zero = some z)
    (hsize : i.size = size) (hby : i.bytes = bytes) (hzs : z.cells.size = size) (hsz : 0 < size)
    (v : Value) (n : Nat) (xs : List Value) (hs : a.eval s = v) (hown : w.ownsRow base e size v n xs)
    (vx : Value) (m : Nat) (news : List Value) (hx : a.eval x = vx) (hownx : w.ownsRow base2 e size vx m news) (h1 : ∀ u ∈ news, u.oneCell' = true)
    (h63 : n + m ≤ maxLen) (hbytes : (n + m) * bytes ≤ 140737488355328) (hbase : base ≤ w.heap.size)
    (h : ∀ v' w', w'.ownsRow base e size v' (n + m) (xs ++ news) → w.grownBy w' v.ownBlock → wpList P ops Q rest (a.put o.dst v') w') : wpList P ops Q (o :: rest) a w := by
  rcases hownx.2 with ⟨h0, rfl⟩ | ⟨g, cap, cur, h0, _⟩
  · have hn : news = [] := List.eq_nil_of_length_eq_zero (by rw [hownx.1]; simp)
    subst hn
    exact wpList_append_own_none hgd s x t ho base e i size ht hi v n xs hs hown (by rw [hx, h0]) (h v w (by simpa using hown) ⟨rfl, rfl, rfl, Nat.le_refl _, fun _ _ _ => rfl⟩)
  · exact wpList_append_own w hgd s x t ho base e i z size bytes ht hi hz hsize hby hzs hsz v n xs hs hown ⟨g, 0, none⟩ m cap news (by rw [hx, h0]) hownx.1 (hownx.cells (by rw [h0]; rfl)) h1 h63 hbytes hbase (fun v' w' a1 a2 _ => h v' w' a1 a2)

theorem put_not (n : Nat) (size : Int) (big : Bool) (w : World) (h : Oc.fits n size = false) :
    Calls Tryd.prog 28 #[.int .u64 (n : Int), .int .i64 size, .bool big] w fun e w' => e = .returned (.tuple #[.slice none 0 0, .bool false]) ∧ w' = w := by
  go_enter Tryd.func28, Tryd.ntmps28
  go_wp2_with (go_at_call 27; refine (fits_any n size _).mono ?_; rintro e w' ⟨rfl, rfl⟩)
  go_ret2
  exact ⟨rfl, rfl⟩

set_option maxHeartbeats 1000000 in
set_option maxRecDepth 100000 in
theorem put_fits (n s : Nat) (big : Bool) (w : World) (h1 : 1 ≤ s) (h8 : s ≤ 8) (h : n < 256 ^ s) :
    Calls Tryd.prog 28 #[.int .u64 (n : Int), .int .i64 (s : Int), .bool big] w fun e w' => ∃ v, e = .returned (.tuple #[v, .bool true]) ∧ w'.ownsRow w.heap.size 5 1 v s (Lib.byteCells (Oc.put n s big)) ∧ Below w.heap.size w w' := by
  obtain ⟨i0, hi, hz0, hz1, hz2⟩ := info_parts info5
  have hf : Oc.fits n (s : Int) = true := by rw [Oc.fits_in n s h1 h8]; exact decide_eq_true h
  have Hf := Lib.hid hf
  clear h
  go_enter Tryd.func28, Tryd.ntmps28
  go_wp2_with (first | (go_at_call 27; refine (fits_any n s _).mono ?_; rintro e w' ⟨rfl, rfl⟩) | (at_make; refine wpList_make_full _ rfl _ _ 25 rfl w'.heap.size 5 i0 (.int .u8 0) 1 Tryd.underlying25 hi hz0 hz1 .i64 .i64 _ _ s rfl rfl (by omega) (by omega) (by rw [hz2]; omega) (by unfold maxLen; omega) (Nat.le_refl _) ?_; intro w1 hown hgr))
  have hbw : Below w'.heap.size w' w1 := (Below.refl _ _).grown hgr (Nat.le_refl _) (fun k h => by cases h)
  have hown0 : w1.ownsRow w'.heap.size 5 1 (.slice (some ⟨w'.heap.size, 0, none⟩) s s) s (Lib.byteCells (Oc.turn big (Oc.part n s 0))) := by
    have e : Lib.byteCells (Oc.turn big (Oc.part n s 0)) = (madeCells (Value.int .u8 0).cells (s * 1)).toList := by
      rw [Oc.turn_zero, Nat.mul_one, show (Value.int .u8 0).cells = #[.int .u8 0] from rfl, toList_madeCells_one]; simp [Lib.byteCells]
    rw [e]; exact hown
  clear hgr hown
  go_loopw [17] (fun i wr => ∃ k : Nat, k ≤ s ∧ i = .int .i64 (k : Int) ∧ wr.ownsRow w'.heap.size 5 1 (.slice (some ⟨w'.heap.size, 0, none⟩) s s) s (Lib.byteCells (Oc.turn big (Oc.part n s k))) ∧ Below w'.heap.size w' wr) (fun i _ => s - (intOf i).toNat)
  case atStart => exact ⟨0, Nat.zero_le _, rfl, hown0, hbw⟩
  case round =>
    obtain ⟨k, hk, rfl, hown, hbw⟩ := hrel
    clear hown0
    by_cases hlt : (k : Int) < (s : Int)
    · have hk' : k < s := by omega
      have hat := Oc.at_lt k s big hk'
      have hat' : ((Oc.at' k s big : Nat) : Int) < (s : Int) := by omega
      have hcell := hown.cellAt (Oc.at' k s big) (by omega)
      have hfz := hown.frozenAt (Oc.at' k s big)
      have hps := Oc.part_step n s k big hk'
      obtain ⟨u, hu⟩ : ∃ u, (Lib.byteCells (Oc.turn big (Oc.part n s k)))[Oc.at' k s big]? = some u := ⟨_, List.getElem?_eq_getElem (by rw [Lib.byteCells_length, Oc.turn_length, Oc.part_length]; exact hat)⟩
      rw [hu] at hcell
      have Hps := Lib.hid hps
      clear hps
      have hw8 : IntKind.i64.wrap (8 * (k : Int)) = 8 * (k : Int) := by rw [IntKind.wrap_i64]; omega
      have hk0 : ¬ 8 * (k : Int) < 0 := by omega
      have hsh := Oc.shr n k (by omega)
      go_wp2
      go_region_with (go_at_call 31; refine (place_any k s big _ hk' (by omega)).mono ?_; rintro e w2 ⟨rfl, rfl⟩)
      all_goals
        go_wp2
        go_roundw
        case rel =>
          refine ⟨k + 1, by omega, by go_num, ?_, ?_⟩
          · show (wr.setCell ⟨w'.heap.size, Oc.at' k s big, none⟩ (.int .u8 ((n : Int) / 2 ^ (8 * k) % 256))).ownsRow _ _ _ _ _ _
            rw [Oc.dg_int, ← Hps.out, cells_set]
            exact (hown.stored (Oc.at' k s big) (.int .u8 ((Oc.dg n k).toNat : Int))).1
          · exact (hbw.setCell (Nat.le_refl _) _).drew
        case measure => simp [intOf]; omega
    · have hks : k = s := by omega
      subst hks
      rw [Oc.put_part] at hown
      go_wp2
      go_ret2
      exact ⟨_, rfl, hown, hbw⟩

set_option maxHeartbeats 1000000 in
set_option maxRecDepth 100000 in
theorem refPut_any (n s : Nat) (big : Bool) (w : World) (hn : n < 18446744073709551616) (h8 : s ≤ 8) :
    Calls Tryd.prog 30 #[.int .u64 (n : Int), .int .i64 (s : Int), .bool big] w fun e w' => ∃ v, e = .returned v ∧ w'.ownsRow w.heap.size 5 1 v s (Lib.byteCells (Oc.put n s big)) ∧ Below w.heap.size w w' := by
  obtain ⟨i0, hi, hz0, hz1, hz2⟩ := info_parts info5
  have i8 : (s : Int) ≤ 8 := by omega
  go_enter Tryd.func30, Tryd.ntmps30
  go_wp2
  go_loopw [0, 7, 8] (fun mm v i wr => ∃ k m : Nat, k ≤ s ∧ i = .int .i64 (k : Int) ∧ mm = .int .u64 (m : Int) ∧ m < 18446744073709551616 ∧ Hid (m = n / 256 ^ k) ∧ wr.ownsRow w.heap.size 5 1 v k (Lib.byteCells (Oc.put n k big)) ∧ Below w.heap.size w wr) (fun _ _ i _ => s - (intOf i).toNat)
  case atStart => exact ⟨0, n, Nat.zero_le _, rfl, rfl, hn, (by simp : n = n / 256 ^ 0), by rw [Oc.put_zero]; exact World.ownsRow_nil _ _ _ _, Below.refl _ _⟩
  case round =>
    obtain ⟨k, m, hk, rfl, rfl, hm, Hm, hown, hbw⟩ := hrel
    by_cases hlt : (k : Int) < (s : Int)
    · have hd : (m : Int) % 256 = ((Oc.dg n k).toNat : Int) := by rw [Oc.dg_nat, ← Hm.out]; simp
      have hnx : m / 256 = n / 256 ^ (k + 1) := by rw [Nat.pow_succ, ← Nat.div_div_eq_div_mul, ← Hm.out]
      have Hd := Lib.hid hd
      have Hnx := Lib.hid hnx
      clear hd hnx
      cases big
      · go_wp2_with (at_builtin; refine wpList_append_own _ rfl _ _ 25 rfl w.heap.size 5 i0 (.int .u8 0) 1 1 Tryd.underlying25 hi hz0 hz1 hz2 rfl (by decide) _ _ _ rfl (hown.alloc _) ⟨wr.heap.size, 0, none⟩ 1 1 [.int .u8 ((m : Int) % 256)] rfl rfl (cell_one_new _ _ _) (fun u hu => by simp at hu; subst hu; rfl) (by unfold maxLen; omega) (by omega) (by have := hbw.size; simp; omega) ?_; intro v2 w2 hown2 hgr2 _)
        have hbw2 : Below w.heap.size w w2 := Below.grown (hbw.alloc hbw.size _) hgr2 (by have := hbw.size; simp; omega) (fun j hj => (hown.lt j hj).1)
        go_roundw
        case rel => exact ⟨k + 1, m / 256, by omega, by go_num, by simp, by omega, Hnx.out, by rw [Oc.put_little, Lib.byteCells_append]; rw [Hd.out] at hown2; exact hown2, hbw2⟩
        case measure => simp [intOf]; omega
      · go_wp2_with (at_builtin; refine wpList_append_owns rfl _ _ 25 rfl w.heap.size w.heap.size 5 i0 (.int .u8 0) 1 1 Tryd.underlying25 hi hz0 hz1 hz2 rfl (by decide) _ _ _ rfl (owns_built _ _ _ _ hbw.size) _ _ _ rfl (hown.alloc _) (cells_one _) (by unfold maxLen; omega) (by omega) (by have := hbw.size; simp; omega) ?_; intro v2 w2 hown2 hgr2)
        have hbw2 : Below w.heap.size w w2 := Below.grown (hbw.alloc hbw.size _) hgr2 (by have := hbw.size; simp; omega) (fun j hj => ((owns_built wr w.heap.size 5 (.int .u8 ((m : Int) % 256)) hbw.size).lt j hj).1)
        go_roundw
        case rel => exact ⟨k + 1, m / 256, by omega, by go_num, by simp, by omega, Hnx.out, by rw [Oc.put_big, Lib.byteCells_append, Nat.add_comm k 1]; rw [Hd.out] at hown2; exact hown2, hbw2⟩
        case measure => simp [intOf]; omega
    · have hks : k = s := by omega
      subst hks
      go_wp2
      go_ret
      exact ⟨_, rfl, hown, hbw⟩
end Go.Proofs.YtbmlacmpiaklpaaDoor
