/- Contracts of open and end. -/
import Derived.Test.YthmljgpnkealaaaFd
import Derived.Test.YthmljgpnkealaaaRe
namespace Go.Proofs.Ythmljgpnkealaaa
open Go.RowKit

theorem dopen_good {w : World} {m : Nat} {wide : Bool} {D : Nat} {hv : Value} {s : Fr.DS} (h : DefAt w m wide D hv s) (a : Option Addr) (n cap : Nat) (xs : List UInt8) (hn : xs.length = n) (hl : n ≤ 100000) (hr : RowAt w a cap xs) (hT : s.tal.le 1000000) (hg : Fc.good xs wide = true) :
    Calls Try.prog 57 #[.pointer (some ⟨D, 0, none⟩), .slice a n cap] w fun e w' => ∃ v, e = .returned v ∧ w'.ownsRow w.heap.size 5 1 v (n - Fc.size wide) (Lib.byteCells (xs.take (n - Fc.size wide))) ∧ DefAt w' m wide D hv ⟨s.ins, s.held, Fr.count s.tal 1⟩ ∧ Fed w w' D hv hv := by
  have hc1 : w.cell? ⟨D, 1, none⟩ = some (.bool wide) := h.cellAt 1 _ rfl
  have hb := h.lt
  have ho := open_good a n cap xs wide w hn hl hr hg
  have i5 : (s.tal.good : Int) ≤ 1000000 := by have := hT.1; omega
  have H := Lib.hid h
  clear h hr hg hT
  go_enter Try.func57, Try.ntmps57
  go_wp2_with fail
  refine ho.mono ?_
  rintro e w1 ⟨v, rfl, o1, b1⟩
  have h1 := Lib.hid (H.out.next b1)
  have c5 : w1.cell? ⟨D, 5, none⟩ = some (.int .i64 (s.tal.good : Int)) := h1.out.cellAt 5 _ rfl
  have f5 := h1.out.free 5
  obtain ⟨p, c, rfl⟩ := own_slice o1
  have O1 := Lib.hid o1
  have B1 := Lib.hid b1
  clear o1 ho hc1 b1
  go_wp2
  go_ret
  exact ⟨_, rfl, ownsRow_setCell_below O1.out hb _, h1.out.set 5 _ rfl h1.out.own, (fed_below D hv B1.out).trans (fed_cell _ _ _ _ _)⟩
theorem dopen_bad {w : World} {m : Nat} {wide : Bool} {D : Nat} {hv : Value} {s : Fr.DS} (h : DefAt w m wide D hv s) (a : Option Addr) (n cap : Nat) (xs : List UInt8) (hn : xs.length = n) (hl : n ≤ 100000) (hr : RowAt w a cap xs) (hT : s.tal.le 1000000) (hg : Fc.good xs wide = false) :
    Calls Try.prog 57 #[.pointer (some ⟨D, 0, none⟩), .slice a n cap] w fun e w' => e = .returned (.slice none 0 0) ∧ DefAt w' m wide D hv ⟨s.ins, s.held, Fr.count s.tal 5⟩ ∧ Fed w w' D hv hv := by
  have hc1 : w.cell? ⟨D, 1, none⟩ = some (.bool wide) := h.cellAt 1 _ rfl
  have ho := open_bad a n cap xs wide w hn hl hr hg
  have i5 : (s.tal.wrong : Int) ≤ 1000000 := by have := hT.2.2.2.2; omega
  have H := Lib.hid h
  clear h hr hg hT
  go_enter Try.func57, Try.ntmps57
  go_wp2_with fail
  refine ho.mono ?_
  rintro e w1 ⟨rfl, b1⟩
  have h1 := Lib.hid (H.out.next b1)
  have c9 : w1.cell? ⟨D, 9, none⟩ = some (.int .i64 (s.tal.wrong : Int)) := h1.out.cellAt 9 _ rfl
  have f9 := h1.out.free 9
  have B1 := Lib.hid b1
  clear ho hc1 b1
  go_wp2
  go_ret
  exact ⟨rfl, h1.out.set 9 _ rfl h1.out.own, (fed_below D hv B1.out).trans (fed_cell _ _ _ _ _)⟩

/-- What a byte, or a frame's end, leaves: the body that is answered, in new memory; the deframer. -/
def NextAt (w w' : World) (e : Ending) (m : Nat) (wide : Bool) (D : Nat) (hv : Value) (s' : Fr.DS) (body : List UInt8) : Prop :=
  ∃ hv' p c, e = .returned (.slice p body.length c) ∧ RowAt w' p c body ∧ (∀ ad, p = some ad → w.heap.size ≤ ad.block ∧ ad.block < w'.heap.size ∧ hv'.ownBlock ≠ some ad.block) ∧ DefAt w' m wide D hv' s' ∧ Fed w w' D hv hv'
theorem nextAt_none {w w' : World} {m : Nat} {wide : Bool} {D : Nat} {hv hv' : Value} {s' : Fr.DS} {body : List UInt8} (hb : body = []) (h : DefAt w' m wide D hv' s') (f : Fed w w' D hv hv') : NextAt w w' (.returned (.slice none 0 0)) m wide D hv s' body := by
  subst hb
  exact ⟨hv', none, 0, rfl, rowAt_nil _, (fun _ e => by cases e), h, f⟩

namespace Fr
theorem judge_aborted (wide : Bool) (A : List UInt8 × Bool) (h : A.2 = false) : judge wide A = 2 := if_pos h
theorem judge_zero (wide : Bool) (A : List UInt8 × Bool) (h : A.2 = true) (h0 : A.1.length = 0) : judge wide A = 0 := by unfold judge; rw [if_neg (by rw [h]; decide), if_pos h0]
theorem judge_short (wide : Bool) (A : List UInt8 × Bool) (h : A.2 = true) (h0 : ¬ A.1.length = 0) (h1 : A.1.length < Fc.size wide + 2) : judge wide A = 3 := by unfold judge; rw [if_neg (by rw [h]; decide), if_neg h0, if_pos h1]
theorem judge_long (wide : Bool) (A : List UInt8 × Bool) (h : A.2 = true) (h0 : ¬ A.1.length = 0) (h1 : ¬ A.1.length < Fc.size wide + 2) (h2 : most wide < A.1.length) : judge wide A = 4 := by unfold judge; rw [if_neg (by rw [h]; decide), if_neg h0, if_neg h1, if_pos h2]
theorem judge_one (wide : Bool) (A : List UInt8 × Bool) (h : A.2 = true) (h0 : ¬ A.1.length = 0) (h1 : ¬ A.1.length < Fc.size wide + 2) (h2 : ¬ most wide < A.1.length) (hg : Fc.good A.1 wide = true) : judge wide A = 1 := by unfold judge; rw [if_neg (by rw [h]; decide), if_neg h0, if_neg h1, if_neg h2, if_pos hg]
theorem judge_wrong (wide : Bool) (A : List UInt8 × Bool) (h : A.2 = true) (h0 : ¬ A.1.length = 0) (h1 : ¬ A.1.length < Fc.size wide + 2) (h2 : ¬ most wide < A.1.length) (hg : Fc.good A.1 wide = false) : judge wide A = 5 := by unfold judge; rw [if_neg (by rw [h]; decide), if_neg h0, if_neg h1, if_neg h2, if_neg (by rw [hg]; decide)]
theorem body_not (wide : Bool) (A : List UInt8 × Bool) (h : judge wide A ≠ 1) : bodyOf wide A = [] := if_neg h
theorem body_good (wide : Bool) (A : List UInt8 × Bool) (h : judge wide A = 1) : bodyOf wide A = A.1.take (A.1.length - Fc.size wide) := if_pos h
end Fr

set_option maxRecDepth 10000 in
set_option maxHeartbeats 2000000 in
theorem end_any {w : World} {m : Nat} {wide : Bool} {D : Nat} {hv : Value} {s : Fr.DS} (h : DefAt w m wide D hv s) (hm : m < 4294967296) (hl : s.held.length ≤ 2 * Fr.most wide) (hT : s.tal.le 1000000) :
    Calls Try.prog 48 #[.pointer (some ⟨D, 0, none⟩)] w fun e w' => NextAt w w' e m wide D hv ⟨s.ins, [], Fr.count s.tal (Fr.judge wide (St.ans m s.held))⟩ (Fr.bodyOf wide (St.ans m s.held)) := by
  have hml := Fr.most_le wide
  have hmd : Fr.most wide = Fc.size wide + 65535 := rfl
  have hs2 := Fr.size_two wide
  have hAl := St.ans_len m s.held
  have hu := fun (W : World) (a : Option Addr) (cap : Nat) (h : RowAt W a cap s.held) => unstuff_own cap m s.held.length a s.held W rfl hm (by omega) h.bytes
  generalize St.ans m s.held = A at hu hAl ⊢
  obtain ⟨Y, ok⟩ := A
  simp only at hu hAl
  obtain ⟨y, hy⟩ : ∃ y, Y.length = y := ⟨_, rfl⟩
  rw [hy] at hAl
  simp only [hy] at hu
  have Hy := Lib.hid hy
  have Hu := Lib.hid hu
  have HT := Lib.hid hT
  clear hu hy hT
  obtain ⟨a, cap, rfl⟩ := own_slice h.own
  have hb := h.lt
  have hd : DefAt w.drew m wide D (.slice a s.held.length cap) s := h.next (Below.refl _ _).drew
  have hfd : Fed w w.drew D (.slice a s.held.length cap) (.slice a s.held.length cap) := fed_below _ _ (Below.refl _ _).drew
  have hsz0 : w.drew.heap.size = w.heap.size := rfl
  clear h
  go_enter Try.func48, Try.ntmps48
  go_wp2_with fail
  refine held_start (S := fun W => DefAt W m wide D (.slice a s.held.length cap) s) 14 (by kernel_rfl) rfl ?_
  generalize w.drew = w1 at hd hfd hsz0 ⊢
  refine held_take 0 (v := ?_) rfl (by kernel_rfl) (by kernel_rfl) (by kernel_rfl) (fun _ _ _ h => h) (by assumption) (by rfl) ?_ ?_
  rotate_left
  · (intro W hW; go_simp; try with_reducible rfl)
  simp only [Act.put, List.setIfInBounds_toArray, List.set_cons_zero, List.set_cons_succ]
  refine held_take 1 (v := ?_) rfl (by kernel_rfl) (by kernel_rfl) (by kernel_rfl) (fun _ _ _ h => h) (by assumption) (by rfl) ?_ ?_
  rotate_left
  · (intro W hW; go_simp; try with_reducible rfl)
  simp only [Act.put, List.setIfInBounds_toArray, List.set_cons_zero, List.set_cons_succ]
  refine held_take 2 (v := ?_) rfl (by kernel_rfl) (by kernel_rfl) (by kernel_rfl) (fun _ _ _ h => h) (by assumption) (by rfl) ?_ ?_
  rotate_left
  · (intro W hW; go_simp; try with_reducible rfl)
  simp only [Act.put, List.setIfInBounds_toArray, List.set_cons_zero, List.set_cons_succ]
  refine held_take 3 (v := ?_) rfl (by kernel_rfl) (by kernel_rfl) (by kernel_rfl) (fun _ _ _ h => h) (by assumption) (by rfl) ?_ ?_
  rotate_left
  · (intro W hW; have d3 : W.cell? ⟨D, 3, none⟩ = some (.slice a s.held.length cap) := hW.cellAt 3 _ rfl; clear hW; go_simp; try with_reducible rfl)
  simp only [Act.put, List.setIfInBounds_toArray, List.set_cons_zero, List.set_cons_succ]
  refine held_take 4 (v := ?_) rfl (by kernel_rfl) (by kernel_rfl) (by kernel_rfl) (fun _ _ _ h => h) (by assumption) (by rfl) ?_ ?_
  rotate_left
  · (intro W hW; go_simp; try with_reducible rfl)
  simp only [Act.put, List.setIfInBounds_toArray, List.set_cons_zero, List.set_cons_succ]
  refine held_take 5 (v := ?_) rfl (by kernel_rfl) (by kernel_rfl) (by kernel_rfl) (fun _ _ _ h => h) (by assumption) (by rfl) ?_ ?_
  rotate_left
  · (intro W hW; go_simp; try with_reducible rfl)
  simp only [Act.put, List.setIfInBounds_toArray, List.set_cons_zero, List.set_cons_succ]
  refine held_take 6 (v := ?_) rfl (by kernel_rfl) (by kernel_rfl) (by kernel_rfl) (fun _ _ _ h => h) (by assumption) (by rfl) ?_ ?_
  rotate_left
  · (intro W hW; go_simp; try with_reducible rfl)
  simp only [Act.put, List.setIfInBounds_toArray, List.set_cons_zero, List.set_cons_succ]
  refine held_take 7 (v := ?_) rfl (by kernel_rfl) (by kernel_rfl) (by kernel_rfl) (fun _ _ _ h => h) (by assumption) (by rfl) ?_ ?_
  rotate_left
  · (intro W hW; have d0 : W.cell? ⟨D, 0, none⟩ = some (.int .u32 (m : Int)) := hW.cellAt 0 _ rfl; clear hW; go_simp; try with_reducible rfl)
  simp only [Act.put, List.setIfInBounds_toArray, List.set_cons_zero, List.set_cons_succ]
  refine held_call 8 (f := 55) (args := #[.slice a s.held.length cap, .int .u32 (m : Int)]) rfl (by kernel_rfl) (by rfl) (by go_simp) ?_
  obtain ⟨a', cap', he, hrow⟩ := rowAt_own rfl hd.own
  simp only [Value.slice.injEq, true_and] at he
  obtain ⟨rfl, rfl⟩ := he
  refine (Hu.out _ _ _ hrow).mono ?_
  rintro e w2 ⟨v2, rfl, o2, b2⟩
  obtain ⟨a2, c2, rfl⟩ := own_slice o2
  replace hd := hd.next b2
  replace hfd := hfd.trans (fed_below _ _ b2)
  have O2 := Lib.hid o2
  have hs12 := b2.size
  clear b2 o2 hrow
  refine ⟨_, rfl, hd, ?_⟩
  simp only [Act.put, List.setIfInBounds_toArray, List.set_cons_zero, List.set_cons_succ]
  refine held_take 9 (v := ?_) rfl (by kernel_rfl) (by kernel_rfl) (by kernel_rfl) (fun _ _ _ h => h) (by assumption) (by rfl) ?_ ?_
  rotate_left
  · (intro W hW; go_simp; try with_reducible rfl)
  simp only [Act.put, List.setIfInBounds_toArray, List.set_cons_zero, List.set_cons_succ]
  refine held_take 10 (v := ?_) rfl (by kernel_rfl) (by kernel_rfl) (by kernel_rfl) (fun _ _ _ h => h) (by assumption) (by rfl) ?_ ?_
  rotate_left
  · (intro W hW; go_simp; try with_reducible rfl)
  simp only [Act.put, List.setIfInBounds_toArray, List.set_cons_zero, List.set_cons_succ]
  refine held_take 11 (v := ?_) rfl (by kernel_rfl) (by kernel_rfl) (by kernel_rfl) (fun _ _ _ h => h) (by assumption) (by rfl) ?_ ?_
  rotate_left
  · (intro W hW; go_simp; try with_reducible rfl)
  simp only [Act.put, List.setIfInBounds_toArray, List.set_cons_zero, List.set_cons_succ]
  refine held_take 12 (v := ?_) rfl (by kernel_rfl) (by kernel_rfl) (by kernel_rfl) (fun _ _ _ h => h) (by assumption) (by rfl) ?_ ?_
  rotate_left
  · (intro W hW; go_simp; try with_reducible rfl)
  simp only [Act.put, List.setIfInBounds_toArray, List.set_cons_zero, List.set_cons_succ]
  refine held_take 13 (v := ?_) rfl (by kernel_rfl) (by kernel_rfl) (by kernel_rfl) (fun _ _ _ h => h) (by assumption) (by rfl) ?_ ?_
  rotate_left
  · (intro W hW; go_simp; try with_reducible rfl)
  simp only [Act.put, List.setIfInBounds_toArray, List.set_cons_zero, List.set_cons_succ]
  refine held_done (by kernel_rfl) ?_
  have h3 : DefAt (w2.setCell ⟨D, 3, none⟩ (.slice none 0 0)) m wide D (.slice none 0 0) ⟨s.ins, [], s.tal⟩ := hd.set 3 _ rfl (World.ownsRow_nil _ _ _ _)
  have h4 : DefAt ((w2.setCell ⟨D, 3, none⟩ (.slice none 0 0)).setCell ⟨D, 4, none⟩ (.int .i64 0)) m wide D (.slice none 0 0) ⟨s.ins, [], s.tal⟩ := h3.set 4 _ rfl (World.ownsRow_nil _ _ _ _)
  have f4 : Fed w ((w2.setCell ⟨D, 3, none⟩ (.slice none 0 0)).setCell ⟨D, 4, none⟩ (.int .i64 0)) D (.slice a s.held.length cap) (.slice none 0 0) := ((hfd.trans (fed_cell _ _ _ _ _)).trans (fed_cell _ _ _ _ _)).drop
  have o4 := ownsRow_setCell_below (ownsRow_setCell_below O2.out (a := ⟨D, 3, none⟩) (by show D < _; omega) (.slice none 0 0)) (a := ⟨D, 4, none⟩) (by show D < _; omega) (.int .i64 0)
  obtain ⟨a', c', he, hrow4⟩ := rowAt_own Hy.out o4
  simp only [Value.slice.injEq, true_and] at he
  obtain ⟨rfl, rfl⟩ := he
  have H4 := Lib.hid h4
  have F4 := Lib.hid f4
  have R4 := Lib.hid hrow4
  have d3 : w2.cell? ⟨D, 3, none⟩ = some (.slice a s.held.length cap) := hd.cellAt 3 _ rfl
  have d4 : w2.cell? ⟨D, 4, none⟩ = some (.int .i64 0) := hd.cellAt 4 _ rfl
  have e3 := hd.free 3
  have e4 := hd.free 4
  have e4' := h3.free 4
  have d4' : (w2.setCell ⟨D, 3, none⟩ (.slice none 0 0)).cell? ⟨D, 4, none⟩ = some (.int .i64 0) := h3.cellAt 4 _ rfl
  clear h3 h4 f4 o4 hrow4 O2 Hu hfd
  have hy5 : (y : Int) ≤ 200000 := by omega
  cases ok with
  | false =>
    have i6 : (s.tal.aborted : Int) ≤ 1000000 := by have := HT.out.2.1; omega
    have d6 : ((w2.setCell ⟨D, 3, none⟩ (.slice none 0 0)).setCell ⟨D, 4, none⟩ (.int .i64 0)).cell? ⟨D, 6, none⟩ = some (.int .i64 (s.tal.aborted : Int)) := H4.out.cellAt 6 _ rfl
    have e6 := H4.out.free 6
    clear hd
    go_wp2
    go_ret
    exact nextAt_none (Fr.body_not _ _ (by rw [Fr.judge_aborted _ _ rfl]; decide)) (by rw [Fr.judge_aborted _ _ rfl]; exact H4.out.set 6 _ rfl H4.out.own) (F4.out.trans (fed_cell _ _ _ _ _))
  | true =>
    have d1 : ((w2.setCell ⟨D, 3, none⟩ (.slice none 0 0)).setCell ⟨D, 4, none⟩ (.int .i64 0)).cell? ⟨D, 1, none⟩ = some (.bool wide) := H4.out.cellAt 1 _ rfl
    have hsz := fun w => size_any wide w
    have hmo := Lib.hid (most_any H4.out)
    have Hmd := Lib.hid hmd
    clear hmd hd
    by_cases hy0 : y = 0
    · have i0 : (y : Int) = 0 := by omega
      have hj := Fr.judge_zero wide (Y, true) rfl (by rw [← hy0]; exact Hy.out)
      have Hj := Lib.hid hj
      clear hj hy0
      go_wp2
      go_ret
      exact nextAt_none (Fr.body_not _ _ (by rw [Hj.out]; decide)) (by rw [Hj.out]; exact H4.out) F4.out
    · have i0 : ¬ (y : Int) = 0 := by omega
      have hn0 : ¬ (Y, true).1.length = 0 := by show ¬ Y.length = 0; rw [Hy.out]; exact hy0
      by_cases h1 : y < Fc.size wide + 2
      · have hj := Fr.judge_short wide (Y, true) rfl hn0 (by show Y.length < _; rw [Hy.out]; exact h1)
        have i1 : (y : Int) < (Fc.size wide : Int) + 2 := by omega
        have i7 : (s.tal.short : Int) ≤ 1000000 := by have := HT.out.2.2.1; omega
        have d7 : ((w2.setCell ⟨D, 3, none⟩ (.slice none 0 0)).setCell ⟨D, 4, none⟩ (.int .i64 0)).cell? ⟨D, 7, none⟩ = some (.int .i64 (s.tal.short : Int)) := H4.out.cellAt 7 _ rfl
        have e7 := H4.out.free 7
        have Hj := Lib.hid hj
        clear hj hn0 hy0
        go_wp2_with (go_at_call 44; refine (hsz _).mono ?_; rintro e w' ⟨rfl, h⟩; rw [h]; clear h)
        go_ret
        exact nextAt_none (Fr.body_not _ _ (by rw [Hj.out]; decide)) (by rw [Hj.out]; exact H4.out.set 7 _ rfl H4.out.own) (F4.out.trans (fed_cell _ _ _ _ _))
      · have hn1 : ¬ (Y, true).1.length < Fc.size wide + 2 := by show ¬ Y.length < _; rw [Hy.out]; exact h1
        have i1 : ¬ (y : Int) < (Fc.size wide : Int) + 2 := by omega
        by_cases h2 : Fr.most wide < y
        · have hj := Fr.judge_long wide (Y, true) rfl hn0 hn1 (by show _ < Y.length; rw [Hy.out]; exact h2)
          have i2 : (Fr.most wide : Int) < (y : Int) := by omega
          have i8 : (s.tal.long : Int) ≤ 1000000 := by have := HT.out.2.2.2.1; omega
          have d8 : ((w2.setCell ⟨D, 3, none⟩ (.slice none 0 0)).setCell ⟨D, 4, none⟩ (.int .i64 0)).cell? ⟨D, 8, none⟩ = some (.int .i64 (s.tal.long : Int)) := H4.out.cellAt 8 _ rfl
          have e8 := H4.out.free 8
          have Hj := Lib.hid hj
          clear hj hn0 hn1 hy0 h1
          go_wp2_with (first | (go_at_call 44; refine (hsz _).mono ?_; rintro e w' ⟨rfl, h⟩; rw [h]; clear h) | (go_at_call 56; refine hmo.out.mono ?_; rintro e w' ⟨rfl, h⟩; rw [h]; clear h))
          go_ret
          exact nextAt_none (Fr.body_not _ _ (by rw [Hj.out]; decide)) (by rw [Hj.out]; exact H4.out.set 8 _ rfl H4.out.own) (F4.out.trans (fed_cell _ _ _ _ _))
        · have hn2 : ¬ Fr.most wide < (Y, true).1.length := by show ¬ _ < Y.length; rw [Hy.out]; exact h2
          have i2 : ¬ (Fr.most wide : Int) < (y : Int) := by omega
          have hd1 := fun hg => dopen_good H4.out a2 y c2 Y Hy.out (by omega) R4.out HT.out hg
          have hd2 := fun hg => dopen_bad H4.out a2 y c2 Y Hy.out (by omega) R4.out HT.out hg
          cases hg : Fc.good Y wide with
          | true =>
            have hj := Fr.judge_one wide (Y, true) rfl hn0 hn1 hn2 hg
            have hd3 := Lib.hid (hd1 hg)
            have Hj := Lib.hid hj
            clear hj hn0 hn1 hn2 hy0 h1 h2 hd1 hd2 hg
            go_wp2_with (first | (go_at_call 44; refine (hsz _).mono ?_; rintro e w' ⟨rfl, h⟩; rw [h]; clear h) | (go_at_call 56; refine hmo.out.mono ?_; rintro e w' ⟨rfl, h⟩; rw [h]; clear h) | (go_at_call 57; refine hd3.out.mono ?_; rintro e w5 ⟨v5, rfl, o5, h5, f5⟩; have O5 := Lib.hid o5; have H5 := Lib.hid h5; have F5 := Lib.hid f5; clear o5 h5 f5))
            go_ret
            rw [Fr.body_good _ _ Hj.out, Hj.out]
            have hbl : ((Y, true).1.take ((Y, true).1.length - Fc.size wide)).length = y - Fc.size wide := by
              show (Y.take (Y.length - Fc.size wide)).length = _
              rw [List.length_take, Hy.out]; omega
            have o6 := O5.out
            rw [show Y.take (y - Fc.size wide) = (Y, true).1.take ((Y, true).1.length - Fc.size wide) by show _ = Y.take (Y.length - _); rw [Hy.out]] at o6
            obtain ⟨p, c, rfl, r6⟩ := rowAt_own hbl o6
            refine ⟨_, p, c, by rw [hbl]; rfl, r6, fun ad he => ?_, H5.out, F4.out.trans F5.out⟩
            have h6 := o6.lt ad.block (by rw [he]; rfl)
            have h7 := F4.out.size
            exact ⟨by omega, h6.2, by simp [Value.ownBlock]⟩
          | false =>
            have hj := Fr.judge_wrong wide (Y, true) rfl hn0 hn1 hn2 hg
            have hd3 := Lib.hid (hd2 hg)
            have Hj := Lib.hid hj
            clear hj hn0 hn1 hn2 hy0 h1 h2 hd1 hd2 hg
            go_wp2_with (first | (go_at_call 44; refine (hsz _).mono ?_; rintro e w' ⟨rfl, h⟩; rw [h]; clear h) | (go_at_call 56; refine hmo.out.mono ?_; rintro e w' ⟨rfl, h⟩; rw [h]; clear h) | (go_at_call 57; refine hd3.out.mono ?_; rintro e w5 ⟨rfl, h5, f5⟩; have H5 := Lib.hid h5; have F5 := Lib.hid f5; clear h5 f5))
            go_ret
            exact nextAt_none (Fr.body_not _ _ (by rw [Hj.out]; decide)) (by rw [Hj.out]; exact H5.out) (F4.out.trans F5.out)
end Go.Proofs.Ythmljgpnkealaaa
