/- Contracts of sequence, Seal, bytes.Equal, Good and Open. -/
import Derived.Test.YthmljgpnkealaaaWc
import Derived.Test.YthmljgpnkealaaaHeld
namespace Go.Proofs.Ythmljgpnkealaaa
open Go.RowKit
namespace Fc
/-- A number's bytes, as far as they are there, in room for s. -/
def lpart (s v k : Nat) : List UInt8 := le k v ++ List.replicate (s - k) 0
theorem lpart_zero (s v : Nat) : lpart s v 0 = List.replicate s 0 := by simp [lpart, le]
theorem lpart_all (s v : Nat) : lpart s v s = le s v := by simp [lpart]
theorem lpart_length (s v k : Nat) (h : k ≤ s) : (lpart s v k).length = s := by simp [lpart, le_length]; omega
theorem lpart_set (s v k : Nat) (h : k < s) : (lpart s v k).set k (UInt8.ofNat (v / 256 ^ k)) = lpart s v (k + 1) := by
  unfold lpart
  rw [List.set_append_right _ _ (by rw [le_length]; omega), le_length, Nat.sub_self, le_snoc, show s - k = (s - (k + 1)) + 1 by omega, List.replicate_succ, List.set_cons_zero, List.append_assoc]
  rfl
theorem byte_int (v k : Nat) : (v : Int) / 2 ^ (8 * k) % 256 = ((UInt8.ofNat (v / 256 ^ k)).toNat : Int) := by
  rw [pow256]; simp
theorem size_le (wide : Bool) : size wide ≤ 4 := by cases wide <;> decide
theorem size_pos (wide : Bool) : 2 ≤ size wide := by cases wide <;> decide
end Fc

set_option maxRecDepth 10000 in
set_option maxHeartbeats 1000000 in
theorem sequence_any (a : Option Addr) (n cap : Nat) (xs : List UInt8) (wide : Bool) (w : World) (hn : xs.length = n) (hl : n ≤ 100000) (hc : RowAt w a cap xs) :
    Calls Try.prog 32 #[.slice a n cap, .bool wide] w fun e w' => ∃ a' c', e = .returned (.slice a' (Fc.size wide) c') ∧ RowAt w' a' c' (Fc.seq xs wide) ∧ Below w.heap.size w w' := by
  obtain ⟨i0, hi, hz0, hz1, hz2⟩ := info_parts info5
  have ho := of_any a n cap xs wide w hn hl hc
  have hs := Fc.size_le wide
  have hs2 := Fc.size_pos wide
  have hsz := fun w => size_any wide w
  unfold Fc.seq
  generalize Fc.of xs wide = v at ho ⊢
  generalize Fc.size wide = s at hs hs2 hsz ⊢
  clear hc
  go_enter Try.func32, Try.ntmps32
  go_wp2_with (first | (go_at_call 43; refine ho.mono ?_; rintro e w1 ⟨rfl, b1⟩) | (go_at_call 44; refine (hsz _).mono ?_; rintro e w' ⟨rfl, h⟩; rw [h]; clear h) | (at_make; refine wpList_make_full _ rfl _ _ 26 rfl w1.heap.size 5 i0 (.int .u8 0) 1 Try.underlying26 hi hz0 hz1 .i64 .i64 _ _ s rfl rfl (by omega) (by omega) (by rw [hz2]; omega) (by unfold maxLen; omega) (Nat.le_refl _) ?_; intro w2 hown hgr))
  have hbw : Below w.heap.size w w2 := Below.chain b1 ((Below.refl _ _).grown hgr (Nat.le_refl _) (fun k h => by cases h))
  have hown0 : w2.ownsRow w1.heap.size 5 1 (.slice (some ⟨w1.heap.size, 0, none⟩) s s) s (Lib.byteCells (Fc.lpart s v 0)) := by
    have e : Lib.byteCells (Fc.lpart s v 0) = (madeCells (Value.int .u8 0).cells (s * 1)).toList := by
      rw [Fc.lpart_zero, Nat.mul_one, show (Value.int .u8 0).cells = #[.int .u8 0] from rfl, toList_madeCells_one]; simp [Lib.byteCells]
    rw [e]; exact hown
  have hgl := b1.size
  generalize w1.heap.size = g at hown0 hgl ⊢
  clear hgr hown ho hsz
  go_loopw [7, 16] (fun _ i wr => ∃ k : Nat, k ≤ s ∧ i = .int .i64 (k : Int) ∧ wr.ownsRow g 5 1 (.slice (some ⟨g, 0, none⟩) s s) s (Lib.byteCells (Fc.lpart s v k)) ∧ Below w.heap.size w wr) (fun _ i _ => s - (intOf i).toNat)
  case atStart => exact ⟨0, Nat.zero_le _, rfl, hown0, hbw⟩
  case round =>
    obtain ⟨k, hk, rfl, hown, hbw⟩ := hrel
    clear hown0
    by_cases hlt : (k : Int) < (s : Int)
    · have hk' : k < s := by omega
      have hcell := hown.cellAt k (by omega)
      have hfz := hown.frozenAt k
      have hps := Fc.lpart_set s v k hk'
      obtain ⟨u, hu⟩ : ∃ u, (Lib.byteCells (Fc.lpart s v k))[k]? = some u := ⟨_, List.getElem?_eq_getElem (by rw [Lib.byteCells_length, Fc.lpart_length _ _ _ hk]; exact hk')⟩
      rw [hu] at hcell
      have Hps := Lib.hid hps
      have Hown := Lib.hid hown
      clear hps hown
      have hw8 : IntKind.i64.wrap (8 * (k : Int)) = 8 * (k : Int) := by rw [IntKind.wrap_i64]; omega
      have hk0 : ¬ 8 * (k : Int) < 0 := by omega
      go_wp2
      go_roundw
      case rel =>
        refine ⟨k + 1, by omega, by go_num, ?_, hbw.setCell hgl _⟩
        show (wr.setCell ⟨g, k, none⟩ (.int .u8 ((v : Int) / 2 ^ (8 * k) % 256))).ownsRow _ _ _ _ _ _
        rw [Fc.byte_int, ← Hps.out, cells_set]
        exact (Hown.out.stored k (.int .u8 ((UInt8.ofNat (v / 256 ^ k)).toNat : Int))).1
      case measure => simp [intOf]; omega
    · have hks : k = s := by omega
      subst hks
      rw [Fc.lpart_all] at hown
      go_wp2
      go_ret
      obtain ⟨a', c', h1, h2⟩ := rowAt_own (Fc.le_length _ _) hown
      exact ⟨a', c', congrArg Ending.returned h1, h2, hbw⟩

theorem RowAt.head {w : World} {a : Option Addr} {c : Nat} {xs : List UInt8} (h : RowAt w a c xs) (r : Nat) : RowAt w a c (xs.take r) :=
  ⟨Nat.le_trans (by simp; omega) h.le, h.max, h.nil, fun ad e j u hu => h.cell ad e j u (by
    simp only [Lib.byteCells, List.getElem?_map, List.getElem?_take] at hu ⊢
    split at hu
    · exact hu
    · simp at hu)⟩
theorem below_drewN' {B : Nat} {a w : World} (h : Below B a w) (n : Nat) : Below B a (w.drewN n) := h.trans ⟨rfl, rfl, rfl, Nat.le_refl _, fun _ _ => rfl⟩
theorem RowAt.drawn {w : World} {a : Option Addr} {c : Nat} {xs : List UInt8} (h : RowAt w a c xs) : RowAt w.drew a c xs := h.next (Below.refl _ _).drew
theorem RowAt.draws {w : World} {a : Option Addr} {c : Nat} {xs : List UInt8} (h : RowAt w a c xs) (m : Nat) : RowAt (w.drewN m) a c xs := h.next (below_drewN' (Below.refl _ _) m)
theorem parts_two {w : World} {p1 p2 : Option Addr} {c1 c2 n1 n2 : Nat} {y1 y2 : List UInt8} (e1 : y1.length = n1) (e2 : y2.length = n2) (h1 : RowAt w p1 c1 y1) (h2 : RowAt w p2 c2 y2) :
    PartsAt (w.alloc (.cells #[.slice p1 n1 c1, .slice p2 n2 c2] 26)) (some ⟨w.heap.size, 0, none⟩) [y1, y2] := by
  subst e1; subst e2
  refine .inr ⟨w.heap.size, 0, rfl, by simp, fun j hj => ?_⟩
  have hj4 : j = 0 ∨ j = 1 := by simp at hj; omega
  have hb := (Below.refl w.heap.size w).alloc (Nat.le_refl _) (.cells #[.slice p1 y1.length c1, .slice p2 y2.length c2] 26)
  rcases hj4 with rfl | rfl
  · exact ⟨p1, c1, by simp only [World.cell?, heap_alloc_new]; rfl, h1.next hb⟩
  · exact ⟨p2, c2, by simp only [World.cell?, heap_alloc_new]; rfl, h2.next hb⟩

theorem seal_any (a : Option Addr) (n cap : Nat) (xs : List UInt8) (wide : Bool) (w : World) (hn : xs.length = n) (hl : n ≤ 90000) (hc : RowAt w a cap xs) :
    Calls Try.prog 22 #[.slice a n cap, .bool wide] w fun e w' => ∃ v, e = .returned v ∧ w'.ownsRow w.heap.size 5 1 v (Fc.sealed xs wide).length (Lib.byteCells (Fc.sealed xs wide)) ∧ Below w.heap.size w w' := by
  have hq := sequence_any a n cap xs wide w hn (by omega) hc
  have hsl := Fc.seq_length xs wide
  have hs := Fc.size_le wide
  have hse : [xs, Fc.seq xs wide].flatten = Fc.sealed xs wide := by simp [Fc.sealed]
  generalize Fc.sealed xs wide = Z at hse ⊢
  generalize Fc.seq xs wide = S at hq hsl hse
  have Hse := Lib.hid hse
  have Hc := Lib.hid hc
  clear hse hc
  go_enter Try.func22, Try.ntmps22
  go_wp2_with fail
  refine hq.mono ?_
  rintro e w1 ⟨a', c', rfl, r1, b1⟩
  have hp := parts_two hn hsl (Hc.out.next b1) r1
  have hcc := concat_at _ 2 _ _ (by simp) (by rw [Hse.out, ← Hse.out]; simp; omega) hp
  rw [Hse.out] at hcc
  have Hb1 := Lib.hid b1
  clear hp r1 b1 hq
  go_wp2_with fail
  refine hcc.mono ?_
  rintro e w2 ⟨v, rfl, o2, b2⟩
  go_wp2
  go_ret
  have b3 := below_alloc b2
  exact ⟨v, rfl, ownsRow_lower o2 (Nat.le_trans Hb1.out.size (by simp)), Below.chain Hb1.out b3⟩

theorem equal_any (a a' : Option Addr) (n n' c c' : Nat) (xs ys : List UInt8) (w : World) (hn : xs.length = n) (hn' : ys.length = n') (hx : RowAt w a c xs) (hy : RowAt w a' c' ys) :
    Calls Try.prog 63 #[.slice a n c, .slice a' n' c'] w fun e w' => e = .returned (.bool (xs == ys)) ∧ w' = w := by
  have h1 := conv_row hn hx
  have h2 := conv_row hn' hy
  clear hx hy
  go_enter Try.func63, Try.ntmps63
  go_wp2
  go_ret
  exact ⟨rfl, rfl⟩

theorem good_short (a : Option Addr) (n cap : Nat) (wide : Bool) (w : World) (hs : n < Fc.size wide) :
    Calls Try.prog 62 #[.slice a n cap, .bool wide] w fun e w' => e = .returned (.bool false) ∧ Below w.heap.size w w' := by
  have hsz := fun w => size_any wide w
  have hs4 := Fc.size_le wide
  generalize Fc.size wide = s at hs hs4 hsz
  have hw : IntKind.i64.wrap ((n : Int) - (s : Int)) = (n : Int) - (s : Int) := by rw [IntKind.wrap_i64]; omega
  have hd : decide ((n : Int) - (s : Int) ≥ 0) = false := decide_eq_false (by omega)
  have hd2 : decide ((0 : Int) ≤ (n : Int) - (s : Int)) = false := decide_eq_false (by omega)
  have hd3 : ¬ (0 : Int) ≤ (n : Int) - (s : Int) := by omega
  go_enter Try.func62, Try.ntmps62
  go_wp2_with (go_at_call 44; refine (hsz _).mono ?_; rintro e w' ⟨rfl, h⟩; rw [h]; clear h)
  generalize (n : Int) - (s : Int) = d at hd hd2 hd3 ⊢
  go_quiet (fail)
  go_wp2
  go_ret
  exact ⟨rfl, (below_drewN' (Below.refl _ _) _)⟩

set_option maxRecDepth 100000 in
set_option maxHeartbeats 2000000 in
theorem good_long (a : Option Addr) (n cap : Nat) (xs : List UInt8) (wide : Bool) (w : World) (hn : xs.length = n) (hl : n ≤ 100000) (hs : Fc.size wide ≤ n) (hc : RowAt w a cap xs) :
    Calls Try.prog 62 #[.slice a n cap, .bool wide] w fun e w' => e = .returned (.bool (Fc.good xs wide)) ∧ Below w.heap.size w w' := by
  have hsz := fun w => size_any wide w
  have hs4 := Fc.size_le wide
  have hs2 := Fc.size_pos wide
  have hg : Fc.good xs wide = (xs.drop (n - Fc.size wide) == Fc.seq (xs.take (n - Fc.size wide)) wide) := by
    unfold Fc.good
    rw [hn, decide_eq_true hs, Bool.true_and]
  have hsl := Fc.seq_length (xs.take (n - Fc.size wide)) wide
  have hle := hc.le
  rw [hn] at hle
  have hcut := hc.cut (n - Fc.size wide) n (by omega) (by omega)
  rw [← hn, List.take_length, hn] at hcut
  have hhead := hc.head (n - Fc.size wide)
  have hq : ∀ W : World, RowAt W a cap (xs.take (n - Fc.size wide)) → _ := fun W h => sequence_any a (n - Fc.size wide) cap (xs.take (n - Fc.size wide)) wide W (by rw [List.length_take]; omega) (by omega) h
  generalize Fc.seq (xs.take (n - Fc.size wide)) wide = S at hg hsl hq
  rw [hg]
  clear hg
  obtain ⟨t, ht⟩ : ∃ t, t = n - Fc.size wide := ⟨_, rfl⟩
  rw [← ht] at hcut hhead hq ⊢
  generalize hss : Fc.size wide = s at hs hs4 hs2 hsz hsl hq ht
  have hdl : (xs.drop t).length = s := by rw [List.length_drop]; omega
  have hw : IntKind.i64.wrap ((n : Int) - (s : Int)) = (t : Int) := by rw [IntKind.wrap_i64]; omega
  have hcn : ¬ cap = t := by omega
  rw [if_neg hcn] at hcut
  generalize xs.drop t = X at hcut hdl ⊢
  generalize xs.take t = Y at hhead hq
  have H1 := Lib.hid hcut
  have H2 := Lib.hid hhead
  have htc : (t : Int) ≤ (cap : Int) := by omega
  have htn : (t : Int) ≤ (n : Int) := by omega
  have hnc : (n : Int) ≤ (cap : Int) := by omega
  have hnt : n - t = s := by omega
  have htc2 : t ≤ cap := by omega
  have htn2 : t ≤ n := by omega
  clear hcut hhead hc ht hn
  go_enter Try.func62, Try.ntmps62
  go_wp2_with (go_at_call 44; refine (hsz _).mono ?_; rintro e w' ⟨rfl, h⟩; rw [h]; clear h)
  have hS0 : RowAt w.drew (a.map (·.add t)) (cap - t) X ∧ RowAt w.drew a cap Y := ⟨H1.out.drawn, H2.out.drawn⟩
  refine held_start (S := fun W => RowAt W (a.map (·.add t)) (cap - t) X ∧ RowAt W a cap Y) 14 (by kernel_rfl) rfl ?_
  refine held_take 0 (v := ?_) rfl (by kernel_rfl) (by kernel_rfl) (by kernel_rfl) (fun _ _ _ h => h) (by assumption) (by rfl) ?_ ?_
  rotate_left
  · (intro W hW; go_simp; try with_reducible rfl)
  simp only [Act.put, List.setIfInBounds_toArray, List.set_cons_zero, List.set_cons_succ]
  refine held_take 1 (v := ?_) rfl (by kernel_rfl) (by kernel_rfl) (by kernel_rfl) (fun _ _ _ h => h) (by assumption) (by rfl) ?_ ?_
  rotate_left
  · (intro W hW; go_simp; try with_reducible rfl)
  simp only [Act.put, List.setIfInBounds_toArray, List.set_cons_zero, List.set_cons_succ]
  refine held_take 2 (v := ?_) rfl (by kernel_rfl) (by kernel_rfl) (by kernel_rfl) (fun _ _ _ h => h) (by assumption) (by rfl) ?_ ?_
  rotate_left
  · (intro W hW; go_simp; try with_reducible rfl)
  simp only [Act.put, List.setIfInBounds_toArray, List.set_cons_zero, List.set_cons_succ]
  refine held_take 3 (v := ?_) rfl (by kernel_rfl) (by kernel_rfl) (by kernel_rfl) (fun _ _ _ h => h) (by assumption) (by rfl) ?_ ?_
  rotate_left
  · (intro W hW; go_simp; try with_reducible rfl)
  simp only [Act.put, List.setIfInBounds_toArray, List.set_cons_zero, List.set_cons_succ]
  refine held_take 4 (v := ?_) rfl (by kernel_rfl) (by kernel_rfl) (by kernel_rfl) (fun _ _ _ h => h) (by assumption) (by rfl) ?_ ?_
  rotate_left
  · (intro W hW; go_simp; try with_reducible rfl)
  simp only [Act.put, List.setIfInBounds_toArray, List.set_cons_zero, List.set_cons_succ]
  refine held_take 5 (v := ?_) rfl (by kernel_rfl) (by kernel_rfl) (by kernel_rfl) (fun _ _ _ h => h) (by assumption) (by rfl) ?_ ?_
  rotate_left
  · (intro W hW; go_simp; try with_reducible rfl)
  simp only [Act.put, List.setIfInBounds_toArray, List.set_cons_zero, List.set_cons_succ]
  refine held_take 6 (v := ?_) rfl (by kernel_rfl) (by kernel_rfl) (by kernel_rfl) (fun _ _ _ h => h) (by assumption) (by rfl) ?_ ?_
  rotate_left
  · (intro W hW; go_simp; try with_reducible rfl)
  simp only [Act.put, List.setIfInBounds_toArray, List.set_cons_zero, List.set_cons_succ]
  refine held_take 7 (v := ?_) rfl (by kernel_rfl) (by kernel_rfl) (by kernel_rfl) (fun _ _ _ h => h) (by assumption) (by rfl) ?_ ?_
  rotate_left
  · (intro W hW; go_simp; try with_reducible rfl)
  simp only [Act.put, List.setIfInBounds_toArray, List.set_cons_zero, List.set_cons_succ]
  refine held_take 8 (v := ?_) rfl (by kernel_rfl) (by kernel_rfl) (by kernel_rfl) (fun _ _ _ h => h) (by assumption) (by rfl) ?_ ?_
  rotate_left
  · (intro W hW; go_simp; try with_reducible rfl)
  simp only [Act.put, List.setIfInBounds_toArray, List.set_cons_zero, List.set_cons_succ]
  refine held_take 9 (v := ?_) rfl (by kernel_rfl) (by kernel_rfl) (by kernel_rfl) (fun _ _ _ h => h) (by assumption) (by rfl) ?_ ?_
  rotate_left
  · (intro W hW; go_simp; try with_reducible rfl)
  simp only [Act.put, List.setIfInBounds_toArray, List.set_cons_zero, List.set_cons_succ]
  refine held_call 10 (f := 32) (args := #[.slice a t cap, .bool wide]) rfl (by kernel_rfl) (by rfl) (by go_simp) ?_
  refine (hq _ hS0.2).mono ?_
  rintro e w6 ⟨a6, c6, rfl, r6, b6⟩
  have hS1 : RowAt w6 (a.map (·.add t)) (cap - t) X ∧ RowAt w6 a cap Y := ⟨hS0.1.next b6, hS0.2.next b6⟩
  refine ⟨_, rfl, hS1, ?_⟩
  simp only [Act.put, List.setIfInBounds_toArray, List.set_cons_zero, List.set_cons_succ]
  have b06 : Below w.heap.size w w6 := Below.chain ((Below.refl _ _).drew) b6
  refine held_call 11 (f := 63) (args := #[.slice (a.map (·.add t)) s (cap - t), .slice a6 s c6]) rfl (by kernel_rfl) (by rfl) (by go_simp) ?_
  refine (equal_any _ _ _ _ _ _ X S w6 hdl hsl hS1.1 r6).mono ?_
  rintro e w7 ⟨rfl, rfl⟩
  refine ⟨_, rfl, hS1, ?_⟩
  simp only [Act.put, List.setIfInBounds_toArray, List.set_cons_zero, List.set_cons_succ]
  refine held_take 12 (v := ?_) rfl (by kernel_rfl) (by kernel_rfl) (by kernel_rfl) (fun _ _ _ h => h) (by assumption) (by rfl) ?_ ?_
  rotate_left
  · (intro W hW; go_simp; try with_reducible rfl)
  simp only [Act.put, List.setIfInBounds_toArray, List.set_cons_zero, List.set_cons_succ]
  refine held_take 13 (v := ?_) rfl (by kernel_rfl) (by kernel_rfl) (by kernel_rfl) (fun _ _ _ h => h) (by assumption) (by rfl) ?_ ?_
  rotate_left
  · (intro W hW; go_simp; try with_reducible rfl)
  simp only [Act.put, List.setIfInBounds_toArray, List.set_cons_zero, List.set_cons_succ]
  refine held_done (by kernel_rfl) ?_
  go_wp2
  go_ret
  exact ⟨rfl, b06⟩

theorem good_any (a : Option Addr) (n cap : Nat) (xs : List UInt8) (wide : Bool) (w : World) (hn : xs.length = n) (hl : n ≤ 100000) (hc : RowAt w a cap xs) :
    Calls Try.prog 62 #[.slice a n cap, .bool wide] w fun e w' => e = .returned (.bool (Fc.good xs wide)) ∧ Below w.heap.size w w' := by
  by_cases hs : Fc.size wide ≤ n
  · exact good_long a n cap xs wide w hn hl hs hc
  · have : Fc.good xs wide = false := by unfold Fc.good; rw [hn, decide_eq_false hs, Bool.false_and]
    rw [this]
    exact good_short a n cap wide w (by omega)

theorem open_bad (a : Option Addr) (n cap : Nat) (xs : List UInt8) (wide : Bool) (w : World) (hn : xs.length = n) (hl : n ≤ 100000) (hc : RowAt w a cap xs) (hg : Fc.good xs wide = false) :
    Calls Try.prog 60 #[.slice a n cap, .bool wide] w fun e w' => e = .returned (.tuple #[.slice none 0 0, .bool false]) ∧ Below w.heap.size w w' := by
  have h := good_any a n cap xs wide w hn hl hc
  rw [hg] at h
  clear hc hg
  go_enter Try.func60, Try.ntmps60
  go_wp2_with (go_at_call 62; refine h.mono ?_; rintro e w1 ⟨rfl, b1⟩)
  go_ret2
  exact ⟨rfl, b1⟩

set_option maxHeartbeats 1000000 in
theorem open_good (a : Option Addr) (n cap : Nat) (xs : List UInt8) (wide : Bool) (w : World) (hn : xs.length = n) (hl : n ≤ 100000) (hc : RowAt w a cap xs) (hg : Fc.good xs wide = true) :
    Calls Try.prog 60 #[.slice a n cap, .bool wide] w fun e w' => ∃ v, e = .returned (.tuple #[v, .bool true]) ∧ w'.ownsRow w.heap.size 5 1 v (n - Fc.size wide) (Lib.byteCells (xs.take (n - Fc.size wide))) ∧ Below w.heap.size w w' := by
  have h := good_any a n cap xs wide w hn hl hc
  rw [hg] at h
  have hs : Fc.size wide ≤ n := by
    unfold Fc.good at hg
    rw [Bool.and_eq_true, decide_eq_true_eq, hn] at hg
    exact hg.1
  have hsz := fun w => size_any wide w
  have hle := hc.le
  rw [hn] at hle
  have hhead := hc.head (n - Fc.size wide)
  have hyl : (xs.take (n - Fc.size wide)).length = n - Fc.size wide := by rw [List.length_take]; omega
  generalize xs.take (n - Fc.size wide) = Y at hhead hyl ⊢
  obtain ⟨t, ht⟩ : ∃ t, t = n - Fc.size wide := ⟨_, rfl⟩
  rw [← ht] at hyl ⊢
  generalize Fc.size wide = s at hs hsz ht
  have hw : IntKind.i64.wrap ((n : Int) - (s : Int)) = (t : Int) := by rw [IntKind.wrap_i64]; omega
  have htc2 : t ≤ cap := by omega
  have htn2 : t ≤ n := by omega
  have htc : (t : Int) ≤ (cap : Int) := by omega
  have H2 := Lib.hid hhead
  have Hyl := Lib.hid hyl
  clear hhead hc hg hn ht hyl
  go_enter Try.func60, Try.ntmps60
  go_wp2_with (first | (go_at_call 62; refine h.mono ?_; rintro e w1 ⟨rfl, b1⟩) | (go_at_call 44; refine (hsz _).mono ?_; rintro e w' ⟨rfl, h'⟩; rw [h']; clear h'))
  have hp := parts_one Hyl.out (H2.out.next b1)
  have hcc := concat_at _ 1 _ _ (by simp) (by simp; have := Hyl.out; omega) hp
  have hfl : [Y].flatten = Y := by simp
  rw [hfl, Hyl.out] at hcc
  refine hcc.mono ?_
  rintro e w2 ⟨v, rfl, o2, b2⟩
  have b3 : Below w.heap.size w w2 := Below.chain b1 (below_alloc b2)
  have o3 := ownsRow_lower o2 (show w.heap.size ≤ _ from Nat.le_trans b1.size (by simp))
  have O3 := Lib.hid o3
  clear hp hcc o2 b2 o3
  go_wp2
  go_ret2
  exact ⟨v, rfl, O3.out, b3⟩
end Go.Proofs.Ythmljgpnkealaaa
