/- Contracts of the document's Seal and Open. -/
import Derived.Test.YthmljgpnkealaaaWd
import Derived.Maps.AppendAt
namespace Go.Proofs.Ythmljgpnkealaaa
open Go.RowKit
namespace Fc
theorem low_int (m : Nat) : (m : Int) % 256 = ((UInt8.ofNat m).toNat : Int) := by simp
theorem good_again (xs : List UInt8) (wide : Bool) (n t : Nat) (hn : xs.length = n) (hs : size wide ≤ n) (ht : t = n - size wide) : (sealed (xs.take t) wide == xs) = good xs wide := by
  subst ht
  subst hn
  rw [Bool.eq_iff_iff, beq_iff_eq]
  constructor
  · intro h
    rw [← h]
    exact sealed_good _ _
  · intro h
    exact (good_split xs wide h).symm
end Fc
set_option maxRecDepth 10000 in
set_option maxHeartbeats 1000000 in
theorem refSeal_any (a : Option Addr) (n cap : Nat) (xs : List UInt8) (wide : Bool) (w : World) (hn : xs.length = n) (hl : n ≤ 90000) (hc : RowAt w a cap xs) :
    Calls Try.prog 24 #[.slice a n cap, .bool wide] w fun e w' => ∃ v, e = .returned v ∧ w'.ownsRow w.heap.size 5 1 v (Fc.sealed xs wide).length (Lib.byteCells (Fc.sealed xs wide)) ∧ Below w.heap.size w w' := by
  obtain ⟨i0, hi, hz0, hz1, hz2⟩ := info_parts info5
  have ho : ∀ W : World, RowAt W a cap xs → _ := fun W h => refOf_any a n cap xs wide W hn (by omega) h
  have hvl := Fc.of_lt32 xs wide
  have hs := Fc.size_le wide
  have hsz := fun w => refSize_any wide w
  rw [Fc.sealed_length, hn]
  unfold Fc.sealed Fc.seq
  generalize Fc.of xs wide = v at ho hvl ⊢
  generalize Fc.size wide = s at hs hsz ⊢
  have Hc := Lib.hid hc
  clear hc
  go_enter Try.func24, Try.ntmps24
  go_wp2_with (at_builtin; refine wpList_append_row rfl _ _ rfl w.heap.size _ 0 [] rfl (World.ownsRow_nil _ _ _ _) a n cap xs rfl hn Hc.out (by omega) (Nat.le_refl _) ?_; intro v1 w1 o1 g1)
  have b1 : Below w.heap.size w w1 := Below.grown (Below.refl _ _) g1 (Nat.le_refl _) (fun j hj => by cases hj)
  rw [List.nil_append, Nat.zero_add] at o1
  refine (ho _ (Hc.out.next b1)).mono ?_
  rintro e w2 ⟨rfl, rfl⟩
  clear ho g1 Hc
  go_wp2_with fail
  go_loopw [5, 6, 7] (fun vv mm i wr => ∃ k m : Nat, k ≤ s ∧ i = .int .i64 (k : Int) ∧ mm = .int .u32 (m : Int) ∧ m < 4294967296 ∧ Hid (m = v / 256 ^ k) ∧ wr.ownsRow w.heap.size 5 1 vv (n + k) (Lib.byteCells (xs ++ Fc.le k v)) ∧ Below w.heap.size w wr) (fun _ _ i _ => s - (intOf i).toNat)
  case atStart => exact ⟨0, v, Nat.zero_le _, rfl, rfl, hvl, (by simp : v = v / 256 ^ 0), by simpa [Fc.le] using o1, b1⟩
  case round =>
    obtain ⟨k, m, hk, rfl, rfl, hm, Hm, hown, hbw⟩ := hrel
    clear o1
    by_cases hlt : (k : Int) < (s : Int)
    · have hd := Fc.low_int m
      have hsn := Fc.le_snoc k v
      rw [← Hm.out] at hsn
      have hnx : m / 256 = v / 256 ^ (k + 1) := by rw [Nat.pow_succ, ← Nat.div_div_eq_div_mul, ← Hm.out]
      have Hd := Lib.hid hd
      have Hnx := Lib.hid hnx
      have Hsn := Lib.hid hsn
      clear hd hnx hsn
      go_wp2_with (first | (go_at_call 35; refine (hsz _).mono ?_; rintro e w' ⟨rfl, h⟩; rw [h]; clear h) | (at_builtin; refine wpList_append_own _ rfl _ _ 26 rfl w.heap.size 5 i0 (.int .u8 0) 1 1 Try.underlying26 hi hz0 hz1 hz2 rfl (by decide) _ _ _ rfl (hown.alloc _) ⟨wr.heap.size, 0, none⟩ 1 1 [.int .u8 ((m : Int) % 256)] rfl rfl (cell_one_new _ _ _) (fun u hu => by simp at hu; subst hu; rfl) (by unfold maxLen; omega) (by omega) (by have := hbw.size; simp; omega) ?_; intro v2 w2 hown2 hgr2 _))
      have hbw2 : Below w.heap.size w w2 := Below.grown (hbw.alloc hbw.size _) hgr2 (by have := hbw.size; simp; omega) (fun j hj => (hown.lt j hj).1)
      go_roundw
      case rel => exact ⟨k + 1, m / 256, by omega, by go_num, by simp, by omega, Hnx.out, by rw [Hsn.out, ← List.append_assoc, Lib.byteCells_append]; rw [Hd.out] at hown2; exact hown2, hbw2⟩
      case measure => simp [intOf]; omega
    · have hks : k = s := by omega
      subst hks
      go_wp2_with (go_at_call 35; refine (hsz _).mono ?_; rintro e w' ⟨rfl, h⟩; rw [h]; clear h)
      go_ret
      exact ⟨_, rfl, hown, hbw⟩

theorem refOpen_short (a : Option Addr) (n cap : Nat) (wide : Bool) (w : World) (hs : n < Fc.size wide) :
    Calls Try.prog 39 #[.slice a n cap, .bool wide] w fun e w' => e = .returned (.tuple #[.slice none 0 0, .bool false]) ∧ Below w.heap.size w w' := by
  have hsz := fun w => refSize_any wide w
  have hs4 := Fc.size_le wide
  generalize Fc.size wide = s at hs hs4 hsz
  have hw : IntKind.i64.wrap ((n : Int) - (s : Int)) = (n : Int) - (s : Int) := by rw [IntKind.wrap_i64]; omega
  have hd : (n : Int) - (s : Int) < 0 := by omega
  go_enter Try.func39, Try.ntmps39
  go_wp2_with (go_at_call 35; refine (hsz _).mono ?_; rintro e w' ⟨rfl, h⟩; rw [h]; clear h)
  go_ret2
  exact ⟨rfl, Below.refl _ _⟩

/-- What Open yields. -/
def OpenedAt (w w' : World) (e : Ending) (g : Bool) (Y : List UInt8) : Prop := ∃ v, e = .returned (.tuple #[v, .bool g]) ∧ w'.ownsRow w.heap.size 5 1 v Y.length (Lib.byteCells Y) ∧ Below w.heap.size w w'

set_option maxRecDepth 100000 in
set_option maxHeartbeats 2000000 in
theorem refOpen_long (a : Option Addr) (n cap : Nat) (xs : List UInt8) (wide : Bool) (w : World) (hn : xs.length = n) (hl : n ≤ 90000) (hs : Fc.size wide ≤ n) (hc : RowAt w a cap xs) (g : Bool) (hg : Fc.good xs wide = g) :
    Calls Try.prog 39 #[.slice a n cap, .bool wide] w fun e w' => OpenedAt w w' e g (if g = true then xs.take (n - Fc.size wide) else []) := by
  have hsz := fun w => refSize_any wide w
  have hs4 := Fc.size_le wide
  have hle := hc.le
  rw [hn] at hle
  have hhead := hc.head (n - Fc.size wide)
  have hyl : (xs.take (n - Fc.size wide)).length = n - Fc.size wide := by rw [List.length_take]; omega
  have hq : ∀ W : World, RowAt W a cap (xs.take (n - Fc.size wide)) → _ := fun W h => refSeal_any a (n - Fc.size wide) cap (xs.take (n - Fc.size wide)) wide W (by rw [List.length_take]; omega) (by omega) h
  have hge := Fc.good_again xs wide n _ hn hs rfl
  rw [hg] at hge
  generalize Fc.sealed (xs.take (n - Fc.size wide)) wide = Z at hq hge
  obtain ⟨t, ht⟩ : ∃ t, t = n - Fc.size wide := ⟨_, rfl⟩
  rw [← ht] at hyl hhead hq ⊢
  generalize Fc.size wide = s at hs hs4 hsz ht
  have hw : IntKind.i64.wrap ((n : Int) - (s : Int)) = (t : Int) := by rw [IntKind.wrap_i64]; omega
  generalize xs.take t = Y at hhead hyl hq ⊢
  have H1 := Lib.hid hc
  have H2 := Lib.hid hhead
  have Hn := Lib.hid hn
  have Hyl := Lib.hid hyl
  have Hge := Lib.hid hge
  have htc : (t : Int) ≤ (cap : Int) := by omega
  have htc2 : t ≤ cap := by omega
  have htn2 : t ≤ n := by omega
  have htl : t ≤ 90000 := by omega
  clear hhead hc ht hn hg hge hyl
  go_enter Try.func39, Try.ntmps39
  go_wp2_with (go_at_call 35; refine (hsz _).mono ?_; rintro e w' ⟨rfl, h⟩; rw [h]; clear h)
  have hS0 : RowAt w.drew a cap xs ∧ RowAt w.drew a cap Y := ⟨H1.out.drawn, H2.out.drawn⟩
  refine held_start (S := fun W => RowAt W a cap xs ∧ RowAt W a cap Y) 9 (by kernel_rfl) rfl ?_
  refine held_take 0 (v := ?_) rfl (by kernel_rfl) (by kernel_rfl) (by kernel_rfl) (fun _ _ _ h => h) (by assumption) (by rfl) ?_ ?_
  rotate_left
  · (intro W hW; go_simp; try with_reducible rfl)
  simp only [Act.put, List.setIfInBounds_toArray, List.set_cons_zero, List.set_cons_succ]
  refine held_take 1 (v := ?_) rfl (by kernel_rfl) (by kernel_rfl) (by kernel_rfl) (fun _ _ _ h => h) (by assumption) (by rfl) ?_ ?_
  rotate_left
  · (intro W hW; go_simp; try with_reducible rfl)
  simp only [Act.put, List.setIfInBounds_toArray, List.set_cons_zero, List.set_cons_succ]
  refine held_take 2 (v := ?_) rfl (by kernel_rfl) (by kernel_rfl) (by kernel_rfl) (fun _ _ _ h => h) (by assumption) (by rfl) ?_ ?_
  rotate_left
  · (intro W hW; go_simp; try with_reducible rfl)
  simp only [Act.put, List.setIfInBounds_toArray, List.set_cons_zero, List.set_cons_succ]
  refine held_take 3 (v := ?_) rfl (by kernel_rfl) (by kernel_rfl) (by kernel_rfl) (fun _ _ _ h => h) (by assumption) (by rfl) ?_ ?_
  rotate_left
  · (intro W hW; go_simp; try with_reducible rfl)
  simp only [Act.put, List.setIfInBounds_toArray, List.set_cons_zero, List.set_cons_succ]
  refine held_take 6 (v := ?_) rfl (by kernel_rfl) (by kernel_rfl) (by kernel_rfl) (fun _ _ _ h => h) (by assumption) (by rfl) ?_ ?_
  rotate_left
  · (intro W hW; go_simp; try with_reducible rfl)
  simp only [Act.put, List.setIfInBounds_toArray, List.set_cons_zero, List.set_cons_succ]
  refine held_take 7 (v := ?_) rfl (by kernel_rfl) (by kernel_rfl) (by kernel_rfl) (fun _ _ _ h => h) (by assumption) (by rfl) ?_ ?_
  rotate_left
  · (intro W hW; have hcv := conv_row Hn.out hW.1; go_simp; try with_reducible rfl)
  simp only [Act.put, List.setIfInBounds_toArray, List.set_cons_zero, List.set_cons_succ]
  refine held_call 4 (f := 24) (args := #[.slice a t cap, .bool wide]) rfl (by kernel_rfl) (by rfl) (by go_simp) ?_
  refine (hq _ hS0.2).mono ?_
  rintro e w6 ⟨v6, rfl, o6, b6⟩
  obtain ⟨a6, c6, rfl, r6⟩ := rowAt_own rfl o6
  have hS1 : RowAt w6 a cap xs ∧ RowAt w6 a cap Y := ⟨hS0.1.next b6, hS0.2.next b6⟩
  refine ⟨_, rfl, hS1, ?_⟩
  simp only [Act.put, List.setIfInBounds_toArray, List.set_cons_zero, List.set_cons_succ]
  refine held_more (S' := fun W => RowAt W a6 c6 Z ∧ RowAt W a cap xs ∧ RowAt W a cap Y) (fun _ h => h.2) _ _ _ _ ?_
  have hS2 : RowAt w6 a6 c6 Z ∧ RowAt w6 a cap xs ∧ RowAt w6 a cap Y := ⟨r6, hS1⟩
  have b06 : Below w.heap.size w w6 := Below.chain ((Below.refl _ _).drew) b6
  clear o6 r6 hS0 hS1 b6 hq
  refine held_take 5 (v := ?_) rfl (by kernel_rfl) (by kernel_rfl) (by kernel_rfl) (fun _ _ _ h => h) (by assumption) (by rfl) ?_ ?_
  rotate_left
  · (intro W hW; have hcv := conv_row rfl hW.1; go_simp; try with_reducible rfl)
  simp only [Act.put, List.setIfInBounds_toArray, List.set_cons_zero, List.set_cons_succ]
  refine held_take 8 (v := ?_) rfl (by kernel_rfl) (by kernel_rfl) (by kernel_rfl) (fun _ _ _ h => h) (by assumption) (by rfl) ?_ ?_
  rotate_left
  · (intro W hW; go_simp; try with_reducible rfl)
  simp only [Act.put, List.setIfInBounds_toArray, List.set_cons_zero, List.set_cons_succ]
  refine held_done (by kernel_rfl) ?_
  rw [Hge.out]
  have H6 := Lib.hid hS2.2.2
  clear hS2 Hge
  cases g
  · go_wp2
    go_ret2
    exact ⟨_, rfl, World.ownsRow_nil _ _ _ _, b06⟩
  · go_wp2_with (at_builtin; refine wpList_append_row rfl _ _ rfl w.heap.size _ 0 [] rfl (World.ownsRow_nil _ _ _ _) a t cap Y rfl Hyl.out H6.out (by omega) b06.size ?_; intro v1 w1 o1 g1)
    have b1 : Below w.heap.size w w1 := Below.grown b06 g1 b06.size (fun j hj => by cases hj)
    rw [List.nil_append, Nat.zero_add] at o1
    have O1 := Lib.hid o1
    clear o1 g1
    go_ret2
    exact ⟨_, rfl, by rw [Hyl.out]; exact O1.out, b1⟩

/-- What was sealed, or nothing. -/
def Fc.opened (xs : List UInt8) (wide : Bool) : List UInt8 := if Fc.good xs wide = true then xs.take (xs.length - Fc.size wide) else []

theorem refOpen_any (a : Option Addr) (n cap : Nat) (xs : List UInt8) (wide : Bool) (w : World) (hn : xs.length = n) (hl : n ≤ 90000) (hc : RowAt w a cap xs) :
    Calls Try.prog 39 #[.slice a n cap, .bool wide] w fun e w' => ∃ p c, e = .returned (.tuple #[.slice p (Fc.opened xs wide).length c, .bool (Fc.good xs wide)]) ∧ RowAt w' p c (Fc.opened xs wide) ∧ Below w.heap.size w w' := by
  by_cases hs : Fc.size wide ≤ n
  · refine (refOpen_long a n cap xs wide w hn hl hs hc _ rfl).mono ?_
    rintro e w' ⟨v, rfl, o, b⟩
    have hY2 : (if Fc.good xs wide = true then xs.take (n - Fc.size wide) else []) = Fc.opened xs wide := by rw [Fc.opened, hn]
    rw [hY2] at o
    obtain ⟨p, c, rfl, r⟩ := rowAt_own rfl o
    exact ⟨p, c, rfl, r, b⟩
  · have hg : Fc.good xs wide = false := by unfold Fc.good; rw [hn, decide_eq_false hs, Bool.false_and]
    have ho : Fc.opened xs wide = [] := by unfold Fc.opened; rw [hg]; rfl
    rw [hg, ho]
    refine (refOpen_short a n cap wide w (by omega)).mono ?_
    rintro e w' ⟨rfl, b⟩
    exact ⟨none, 0, rfl, rowAt_nil _, b⟩

theorem open_any (a : Option Addr) (n cap : Nat) (xs : List UInt8) (wide : Bool) (w : World) (hn : xs.length = n) (hl : n ≤ 90000) (hc : RowAt w a cap xs) :
    Calls Try.prog 60 #[.slice a n cap, .bool wide] w fun e w' => ∃ p c, e = .returned (.tuple #[.slice p (Fc.opened xs wide).length c, .bool (Fc.good xs wide)]) ∧ RowAt w' p c (Fc.opened xs wide) ∧ Below w.heap.size w w' := by
  cases hg : Fc.good xs wide with
  | false =>
    have ho : Fc.opened xs wide = [] := by unfold Fc.opened; rw [hg]; rfl
    rw [ho]
    refine (open_bad a n cap xs wide w hn (by omega) hc hg).mono ?_
    rintro e w' ⟨rfl, b⟩
    exact ⟨none, 0, rfl, rowAt_nil _, b⟩
  | true =>
    have ho : Fc.opened xs wide = xs.take (n - Fc.size wide) := by unfold Fc.opened; rw [hg, hn]; rfl
    have hl2 : (xs.take (n - Fc.size wide)).length = n - Fc.size wide := by rw [List.length_take]; omega
    rw [ho]
    refine (open_good a n cap xs wide w hn (by omega) hc hg).mono ?_
    rintro e w' ⟨v, rfl, o, b⟩
    obtain ⟨p, c, rfl, r⟩ := rowAt_own hl2 o
    exact ⟨p, c, by rw [hl2], r, b⟩
theorem seal_row (a : Option Addr) (n cap : Nat) (xs : List UInt8) (wide : Bool) (w : World) (hn : xs.length = n) (hl : n ≤ 90000) (hc : RowAt w a cap xs) :
    Calls Try.prog 22 #[.slice a n cap, .bool wide] w fun e w' => ∃ p c, e = .returned (.slice p (Fc.sealed xs wide).length c) ∧ RowAt w' p c (Fc.sealed xs wide) ∧ Below w.heap.size w w' := by
  refine (seal_any a n cap xs wide w hn hl hc).mono ?_
  rintro e w' ⟨v, rfl, o, b⟩
  obtain ⟨p, c, rfl, r⟩ := rowAt_own rfl o
  exact ⟨p, c, rfl, r, b⟩
theorem refSeal_row (a : Option Addr) (n cap : Nat) (xs : List UInt8) (wide : Bool) (w : World) (hn : xs.length = n) (hl : n ≤ 90000) (hc : RowAt w a cap xs) :
    Calls Try.prog 24 #[.slice a n cap, .bool wide] w fun e w' => ∃ p c, e = .returned (.slice p (Fc.sealed xs wide).length c) ∧ RowAt w' p c (Fc.sealed xs wide) ∧ Below w.heap.size w w' := by
  refine (refSeal_any a n cap xs wide w hn hl hc).mono ?_
  rintro e w' ⟨v, rfl, o, b⟩
  obtain ⟨p, c, rfl, r⟩ := rowAt_own rfl o
  exact ⟨p, c, rfl, r, b⟩
end Go.Proofs.Ythmljgpnkealaaa
