/- Contracts of loginData and of the closure that tells an option. -/
import Derived.Test.YtnhjpbhndckfgaaTi
namespace Go.Proofs.Ytnhjpbhndckfgaa
open Go.RowKit S2 S12

namespace Tm
/-- What octet.Put tells of a number. -/
def bytesOf (u s : Nat) : List UInt8 := if u < 256 ^ s then Oc.put u s true else []
theorem bytesOf_le (u s : Nat) : (bytesOf u s).length ≤ s := by
  unfold bytesOf
  split
  · rw [Oc.put_length]; exact Nat.le_refl _
  · simp
theorem bytesOf_mru (m : Int) (h1 : -9223372036854775808 ≤ m) (h2 : m ≤ 9223372036854775807) : bytesOf (m % 18446744073709551616).toNat 2 = mruD m := by
  unfold bytesOf mruD
  by_cases h : 0 ≤ m ∧ m ≤ 65535
  · rw [if_pos h, if_pos (by omega)]
    congr 1
    omega
  · rw [if_neg h, if_neg (by omega)]
theorem bytesOf_magic {m : Nat} (h : m < 4294967296) : bytesOf m 4 = Oc.put m 4 true := if_pos h
theorem bytesOf_report : bytesOf 49189 2 = [192, 37] := by decide
theorem bytesOf_pap : bytesOf 49187 2 = [192, 35] := by decide
theorem bytesOf_chap : bytesOf 49699 2 = [194, 35] := by decide
end Tm
theorem oput_any (u s : Nat) (w : World) (h1 : 1 ≤ s) (h8 : s ≤ 8) :
    Calls Try.prog 46 #[.int .u64 (u : Int), .int .i64 (s : Int), .bool true] w fun e w' => ∃ v b, e = .returned (.tuple #[v, .bool b]) ∧ w'.ownsRow w.heap.size 5 1 v (Tm.bytesOf u s).length (Lib.byteCells (Tm.bytesOf u s)) ∧ Below w.heap.size w w' := by
  unfold Tm.bytesOf
  by_cases h : u < 256 ^ s
  · rw [if_pos h]
    refine (put_fits u s true w h1 h8 h).mono ?_
    rintro e w1 ⟨v, rfl, o, b⟩
    exact ⟨v, true, rfl, by rw [Oc.put_length]; exact o, b⟩
  · rw [if_neg h]
    refine (put_not u s true w ?_).mono ?_
    · rw [Oc.fits_in u s h1 h8]; exact decide_eq_false h
    · rintro e w1 ⟨rfl, rfl⟩
      exact ⟨_, false, rfl, World.ownsRow_nil _ _ _ _, Below.refl _ _⟩
theorem two_parts {w : World} {p1 p2 : Option Addr} {c1 c2 n1 n2 : Nat} {y1 y2 : List UInt8} (e1 : y1.length = n1) (e2 : y2.length = n2) (h1 : RowAt w p1 c1 y1) (h2 : RowAt w p2 c2 y2) :
    PartsAt (w.alloc (.cells #[.slice p1 n1 c1, .slice p2 n2 c2] 22)) (some ⟨w.heap.size, 0, none⟩) [y1, y2] := by
  subst e1; subst e2
  have hg := heap_alloc_new w (.cells #[.slice p1 y1.length c1, .slice p2 y2.length c2] 22)
  refine .inr ⟨w.heap.size, 0, rfl, by simp, fun j hj => ?_⟩
  have hj2 : j = 0 ∨ j = 1 := by simp at hj; omega
  rcases hj2 with rfl | rfl
  · exact ⟨p1, c1, cell_of_row _ _ _ _ _ _ hg, rowAt_alloc h1 _⟩
  · exact ⟨p2, c2, cell_of_row _ _ _ _ _ _ hg, rowAt_alloc h2 _⟩
set_option maxRecDepth 100000 in
set_option maxHeartbeats 1000000 in
theorem loginData_any (g : Int) (w : World) (h1 : -9223372036854775808 ≤ g) (h2 : g ≤ 9223372036854775807) :
    Calls Try.prog 47 #[.int .i64 g] w fun e w' => ∃ v, e = .returned v ∧ w'.ownsRow w.heap.size 5 1 v (Tm.loginD g).length (Lib.byteCells (Tm.loginD g)) ∧ Below w.heap.size w w' := by
  by_cases e1 : g = 49187
  · subst e1
    have C1 := Lib.hid (oput_any 49187 2 w (by omega) (by omega))
    rw [Tm.bytesOf_pap] at C1
    rw [show Tm.loginD 49187 = [192, 35] from rfl]
    go_enter Try.func47, Try.ntmps47
    go_wp2_with fail
    refine C1.out.mono ?_
    rintro e w1 ⟨v, b, rfl, o1, b1⟩
    have O1 := Lib.hid o1
    have B1 := Lib.hid b1
    clear o1 b1 C1
    go_wp2
    go_ret
    exact ⟨_, rfl, O1.out, B1.out⟩
  by_cases e2 : g = 49699
  · subst e2
    have C1 := Lib.hid (oput_any 49699 2 w (by omega) (by omega))
    rw [Tm.bytesOf_chap] at C1
    rw [show Tm.loginD 49699 = [194, 35, 5] from rfl]
    clear e1
    go_enter Try.func47, Try.ntmps47
    go_wp2_with fail
    refine C1.out.mono ?_
    rintro e w1 ⟨v, b, rfl, o1, b1⟩
    obtain ⟨a1, c1, rfl, r1⟩ := rowAt_own rfl o1
    have hp := two_parts (y1 := [194, 35]) (y2 := [5]) (n1 := 2) (n2 := 1) rfl rfl (rowAt_alloc r1 (.cells #[.int .u8 5] 5)) (one_built w1 5 5 rfl)
    have C2 := Lib.hid (join_at (some ⟨(w1.alloc (.cells #[.int .u8 5] 5)).heap.size, 0, none⟩) 2 2 [[194, 35], [5]] [194, 35, 5] _ rfl rfl (by simp) (by simp) hp)
    rw [show (w1.alloc (.cells #[.int .u8 5] 5)).heap.size = w1.heap.size + 1 by simp] at C2
    have BB := Lib.hid (Below.chain (Below.chain b1 (below_one w1 (.cells #[.int .u8 5] 5))) (below_one (w1.alloc (.cells #[.int .u8 5] 5)) (.cells #[.slice a1 2 c1, .slice (some ⟨w1.heap.size, 0, none⟩) 1 1] 22)))
    clear o1 b1 r1 hp C1
    go_wp2_with fail
    refine C2.out.mono ?_
    rintro e w4 ⟨v4, rfl, o4, b4⟩
    have O4 := Lib.hid (ownsRow_lower o4 BB.out.size)
    have B4 := Lib.hid (Below.chain BB.out b4)
    clear o4 b4 C2 BB
    go_wp2
    go_ret
    exact ⟨_, rfl, O4.out, B4.out⟩
  · have hl : Tm.loginD g = [] := by unfold Tm.loginD; rw [if_neg e1, if_neg e2]
    rw [hl]
    obtain ⟨u, hu⟩ : ∃ u : Nat, IntKind.u64.wrap g = (u : Int) := Int.eq_ofNat_of_zero_le (by rw [IntKind.wrap_u64]; omega)
    have C1 := Lib.hid (oput_any u 2 w (by omega) (by omega))
    clear hl h1 h2
    go_enter Try.func47, Try.ntmps47
    go_wp2_with fail
    refine C1.out.mono ?_
    rintro e w1 ⟨v, b, rfl, o1, b1⟩
    have B1 := Lib.hid b1
    clear o1 b1 C1
    go_wp2
    go_ret
    exact ⟨_, rfl, World.ownsRow_nil _ _ _ _, B1.out⟩

/-- A list that a variable holds, in a block of its own. -/
def VarAt (w : World) (V B : Nat) (L : List Ot.O) : Prop := ∃ v, w.heap[V]? = some (.cells #[v] 28 (0, 0)) ∧ Lopts False w w B v L
theorem Lopts.any {w W0 W1 : World} {B : Nat} {v : Value} {L : List Ot.O} (h : Lopts False w W0 B v L) : Lopts False w W1 B v L := by
  obtain ⟨xs, ho, he⟩ := h
  refine ⟨xs, ho, fun j hj => ?_⟩
  obtain ⟨d, h1, h2⟩ := he j hj
  rcases h2 with h2 | h2
  · exact ⟨d, h1, .inl h2⟩
  · exact h2.1.elim
theorem VarAt.next {w w' : World} {V B : Nat} {L : List Ot.O} (h : VarAt w V B L) (hb : Below w.heap.size w w') : VarAt w' V B L := by
  obtain ⟨v, h1, h2⟩ := h
  exact ⟨v, block_next h1 hb, (h2.next hb).any⟩
/-- What telling an option leaves. -/
structure TellRes (w w' : World) (V B : Nat) (L : List Ot.O) : Prop where
  var : VarAt w' V B L
  below : Below V w w'
  rows : ∀ d n (xs : List Value), w.ownsRow B 5 1 d n xs → w'.ownsRow B 5 1 d n xs
set_option maxRecDepth 100000 in
set_option maxHeartbeats 1000000 in
theorem tell_any (has : Bool) (kind : Int) (p : Option Addr) (m c V B : Nat) (ys : List UInt8) (L : List Ot.O) (w : World) (hm : ys.length = m) (hV : VarAt w V B L) (hVB : V < B) (hL : L.length ≤ 100) (hd : w.ownsRow B 5 1 (.slice p m c) m (Lib.byteCells ys)) (hB : B ≤ w.heap.size) :
    Calls Try.prog 45 #[.bool has, .int .i64 kind, .slice p m c, .pointer (some ⟨V, 0, none⟩)] w fun e w' => e = .returned (.tuple #[]) ∧ TellRes w w' V B (L ++ Tm.pick has ⟨kind, ys⟩) := by
  cases has with
  | false =>
    rw [show Tm.pick false ⟨kind, ys⟩ = [] from rfl, List.append_nil]
    go_enter Try.func45, Try.ntmps45
    go_wp2
    exact bodyPost_end (results_none Try.results45 _ _ _) rfl (⟨rfl, hV, Below.refl _ _, fun _ _ _ h => h⟩ : _ ∧ _)
  | true =>
    rw [show Tm.pick true ⟨kind, ys⟩ = [⟨kind, ys⟩] from rfl]
    obtain ⟨v, hv, hl⟩ := hV
    obtain ⟨pl, cl, rfl⟩ := hl.slice
    have k0 : w.cell? ⟨V, 0, none⟩ = some (.slice pl L.length cl) := cell_of_row _ _ _ _ _ _ hv
    have hVw := lt_of_block hv
    have HG := Lib.hid (heap_alloc_new w (.cells #[.int .i64 kind, .slice p m c] 24))
    have LL := Lib.hid (hl.next (below_one w (.cells #[.int .i64 kind, .slice p m c] 24)))
    have DD : Hid (DataIs False (w.alloc (.cells #[.int .i64 kind, .slice p m c] 24)) w B (.slice p m c) ys) := .inl (by rw [hm]; exact ownsRow_next hd (below_one w _))
    have BA := Lib.hid ((below_one w (.cells #[.int .i64 kind, .slice p m c] 24)).mono (Nat.le_of_lt hVw))
    have HV := Lib.hid hv
    have HLT := Lib.hid hl.lt
    have HR := Lib.hid (fun (d : Value) (n : Nat) (xs : List Value) (h : w.ownsRow B 5 1 d n xs) => ownsRow_next h (below_one w (.cells #[.int .i64 kind, .slice p m c] 24)))
    have HAP := Lib.hid (fun (W : World) (d : Value) (n : Nat) (xs : List Value) (h : W.ownsRow B 5 1 d n xs) (hL : Lopts False W w B (.slice pl L.length cl) L) => (by obtain ⟨ys, ho, _⟩ := hL; exact own_apart ho h (by decide) : d.ownBlock = none ∨ d.ownBlock ≠ (Value.slice pl L.length cl).ownBlock))
    clear hl hd hv
    go_enter Try.func45, Try.ntmps45
    go_wp2_with (at_builtin; refine wpList_append_lopts rfl (.tmp 8) (.tmp 12) rfl B (.slice pl L.length cl) L ⟨kind, ys⟩ (.slice p m c) w.heap.size rfl rfl LL.out DD.out HG.out (by simp; omega) (by omega) ?_; intro v5 w5 L5 g5 x5; clear x5; have f5 : w5.heap[V]? = some (.cells #[.slice pl L.length cl] 28 (0, 0)) := (g5.block V (by simp; omega) (fun e => by have := HLT.out V e.symm; omega)).trans (((below_one w _).block V hVw).trans HV.out); have k5 := cell_of_row _ _ 0 _ _ _ f5; have z5 := frozen_of_row _ _ 0 _ _ f5; obtain ⟨p5, c5, e5⟩ := L5.slice; generalize (L ++ [(⟨kind, ys⟩ : Ot.O)]).length = n5 at e5; subst e5)
    have b5 : Below V w w5 := Below.grown BA.out g5 (by simp; omega) (fun j hj => by have := HLT.out j hj; omega)
    refine bodyPost_end (results_none Try.results45 _ _ _) rfl (⟨rfl, ⟨_, heap_setCell_same _ _ _ _ _ _ f5, ?_⟩, b5.setCell (p := ⟨V, 0, none⟩) (Nat.le_refl _) _, fun d n xs h => ?_⟩ : _ ∧ _)
    · obtain ⟨xs, ho, he⟩ := L5
      refine ⟨xs, ownsRow_setCell_below ho hVB _, fun j hj => ?_⟩
      obtain ⟨d, h1, h2⟩ := he j hj
      refine ⟨d, h1, ?_⟩
      rcases h2 with h2 | h2
      · exact .inl (ownsRow_setCell_below h2 hVB _)
      · exact h2.1.elim
    · exact ownsRow_setCell_below ((HR.out d n xs h).kept g5 (HAP.out _ d n xs (HR.out d n xs h) LL.out)) hVB _
end Go.Proofs.Ytnhjpbhndckfgaa
