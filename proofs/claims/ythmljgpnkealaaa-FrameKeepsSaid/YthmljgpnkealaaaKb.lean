/- Contracts of the document's Judge and Between. -/
import Derived.Test.YthmljgpnkealaaaKa
import Derived.Test.YthmljgpnkealaaaSe
namespace Go.Proofs.Ythmljgpnkealaaa
open Go.RowKit

/-- What Judge yields. -/
def JudgeAt (w w' : World) (e : Ending) (body : List UInt8) (k : Nat) : Prop :=
  ∃ p c, e = .returned (.tuple #[.slice p body.length c, .int .i64 (k : Nat)]) ∧ RowAt w' p c body ∧ (∀ ad, p = some ad → w.heap.size ≤ ad.block ∧ ad.block < w'.heap.size) ∧ Below w.heap.size w w'
theorem judgeAt_none {w w' : World} {body : List UInt8} {k k' : Nat} (hb : body = []) (hk : k = k') (h : Below w.heap.size w w') : JudgeAt w w' (.returned (.tuple #[.slice none 0 0, .int .i64 (k' : Nat)])) body k := by
  subst hb
  subst hk
  exact ⟨none, 0, rfl, rowAt_nil _, (fun _ e => by cases e), h⟩

set_option maxRecDepth 10000 in
set_option maxHeartbeats 2000000 in
theorem refJudge_any (m : Nat) (wide : Bool) (a : Option Addr) (n cap : Nat) (xs : List UInt8) (w : World) (hn : xs.length = n) (hm : m < 4294967296) (hl : n ≤ 3000) (hr : RowAt w a cap xs) :
    Calls Try.prog 28 #[.slice a n cap, .int .u32 (m : Int), .bool wide] w fun e w' => JudgeAt w w' e (Fr.bodyOf wide (St.ans m xs)) (Fr.judge wide (St.ans m xs)) := by
  have c37 := refLeft_own cap m n a xs w hn hm (by omega) hr.bytes
  have c38 := fun (W : World) (h : RowAt W a cap xs) => refUnstuff_own cap m n a xs W hn hm (by omega) h.bytes
  have hal := St.ans_len m xs
  rw [hn] at hal
  have hjl := Fr.judge_left m wide xs
  have hpos := Fr.ans_pos m xs
  generalize St.ans m xs = A at c38 hal hjl hpos ⊢
  generalize St.left m xs = F at c37 hjl hpos
  obtain ⟨Y, ok⟩ := A
  obtain ⟨f, hf⟩ : ∃ f, F.length = f := ⟨_, rfl⟩
  obtain ⟨y, hy⟩ : ∃ y, Y.length = y := ⟨_, rfl⟩
  rw [hf] at c37
  simp only [hy] at c38 hal
  have C37 := Lib.hid c37
  have C38 := Lib.hid c38
  have Hr := Lib.hid hr
  have Hy := Lib.hid hy
  clear c37 c38 hr hy hn
  by_cases h0 : F = []
  · obtain ⟨h1, h2⟩ := hjl h0
    have hf0 : f = 0 := by rw [← hf, h0]; rfl
    have Hj := Lib.hid h1
    have Hb := Lib.hid h2
    rw [hf0] at C37
    clear hjl hpos h1 h2 h0 hf hf0 C38
    go_enter Try.func28, Try.ntmps28
    go_wp2_with fail
    refine C37.out.mono ?_
    rintro e w1 ⟨v1, rfl, o1, b1⟩
    obtain ⟨a1, c1, rfl⟩ := own_slice o1
    clear o1
    go_wp2
    go_ret2
    exact judgeAt_none Hb.out Hj.out b1
  · have hf0 : ¬ (f : Int) = 0 := by
      have : F.length ≠ 0 := fun e => h0 (List.eq_nil_of_length_eq_zero e)
      omega
    have Hpos := Lib.hid (fun e => hpos Y e h0)
    clear hjl hpos h0 hf
    go_enter Try.func28, Try.ntmps28
    go_wp2_with fail
    refine C37.out.mono ?_
    rintro e w1 ⟨v1, rfl, o1, b1⟩
    obtain ⟨a1, c1, rfl⟩ := own_slice o1
    have B1 := Lib.hid b1
    have R1 := Lib.hid (Hr.out.next b1)
    clear o1 b1 C37
    go_wp2_with fail
    refine (C38.out _ R1.out).mono ?_
    rintro e w2 ⟨v2, rfl, o2, b2⟩
    obtain ⟨a2, c2, rfl, r2⟩ := rowAt_own Hy.out o2
    have B2 := Lib.hid (Below.chain B1.out b2)
    have R2 := Lib.hid r2
    clear o2 b2 r2 B1 R1 C38
    cases ok with
    | false =>
      go_wp2
      go_ret2
      exact judgeAt_none (Fr.body_not _ _ (by rw [Fr.judge_aborted _ _ rfl]; decide)) (Fr.judge_aborted _ _ rfl) B2.out
    | true =>
      have hsz := fun w => refSize_any wide w
      have hs2 := Fr.size_two wide
      have hn0 : ¬ (Y, true).1.length = 0 := Hpos.out rfl
      by_cases h1 : y < Fc.size wide + 2
      · have hj := Lib.hid (Fr.judge_short wide (Y, true) rfl hn0 (by show Y.length < _; rw [Hy.out]; exact h1))
        have i1 : (y : Int) < (Fc.size wide : Int) + 2 := by omega
        clear hn0 h1
        go_wp2_with (go_at_call 35; refine (hsz _).mono ?_; rintro e w' ⟨rfl, h⟩; rw [h]; clear h)
        go_ret2
        exact judgeAt_none (Fr.body_not _ _ (by rw [hj.out]; decide)) hj.out B2.out
      · have hn1 : ¬ (Y, true).1.length < Fc.size wide + 2 := by show ¬ Y.length < _; rw [Hy.out]; exact h1
        have hn2 : ¬ Fr.most wide < (Y, true).1.length := by have := Fr.most_le wide; show ¬ _ < Y.length; rw [Hy.out]; omega
        have i1 : ¬ (y : Int) < (Fc.size wide : Int) + 2 := by omega
        have i2 : ¬ (Fc.size wide : Int) + 65535 < (y : Int) := by omega
        cases hg : Fc.good Y wide with
        | true =>
          have hj := Lib.hid (Fr.judge_one wide (Y, true) rfl hn0 hn1 hn2 hg)
          have ho := Lib.hid (refOpen_long a2 y c2 Y wide w2 Hy.out (by omega) (by omega) R2.out true hg)
          clear hn0 hn1 hn2 h1 hg
          go_wp2_with (first | (go_at_call 35; refine (hsz _).mono ?_; rintro e w' ⟨rfl, h⟩; rw [h]; clear h) | (go_at_call 39; refine ho.out.mono ?_; rintro e w3 ⟨v3, rfl, o3, b3⟩; have O3 := Lib.hid o3; have B3 := Lib.hid (Below.chain B2.out b3); have hs3 := B2.out.size; clear o3 b3))
          go_ret2
          have hbo : Fr.bodyOf wide (Y, true) = Y.take (y - Fc.size wide) := by rw [Fr.body_good _ _ hj.out]; show Y.take (Y.length - _) = _; rw [Hy.out]
          have o4 := O3.out
          rw [if_pos trivial, ← hbo] at o4
          obtain ⟨p, c, rfl, r4⟩ := rowAt_own rfl o4
          rw [hj.out]
          refine ⟨p, c, rfl, r4, fun ad e => ?_, B3.out⟩
          have h5 := o4.lt ad.block (by rw [e]; rfl)
          omega
        | false =>
          have hj := Lib.hid (Fr.judge_wrong wide (Y, true) rfl hn0 hn1 hn2 hg)
          have ho := Lib.hid (refOpen_long a2 y c2 Y wide w2 Hy.out (by omega) (by omega) R2.out false hg)
          clear hn0 hn1 hn2 h1 hg
          go_wp2_with (first | (go_at_call 35; refine (hsz _).mono ?_; rintro e w' ⟨rfl, h⟩; rw [h]; clear h) | (go_at_call 39; refine ho.out.mono ?_; rintro e w3 ⟨v3, rfl, o3, b3⟩; obtain ⟨a3, c3, rfl⟩ := own_slice o3; have B3 := Lib.hid (Below.chain B2.out b3); clear o3 b3))
          go_ret2
          exact judgeAt_none (Fr.body_not _ _ (by rw [hj.out]; decide)) hj.out B3.out

theorem RowAt.cutAt {w : World} {b off c : Nat} {xs : List UInt8} (h : RowAt w (some ⟨b, off, none⟩) c xs) (l r : Nat) (hc : l < c) (hlr : l ≤ r) (hr : r ≤ xs.length) : RowAt w (some ⟨b, off + l, none⟩) (c - l) ((xs.take r).drop l) := by
  have h1 := h.cut l r hlr hr
  rw [if_neg (by omega)] at h1
  simpa [Go.WideShapes.add_plain] using h1

set_option maxRecDepth 10000 in
set_option maxHeartbeats 2000000 in
theorem refBetween_any (a : Option Addr) (n cap : Nat) (xs : List UInt8) (w : World) (E : Nat) (hn : xs.length = n) (hl : n ≤ 3000) (hr : RowAt w a cap xs) (hE : xs = [] ∨ ∀ ad, a = some ad → ad.block < E) (hEw : E ≤ w.heap.size) :
    Calls Try.prog 27 #[.slice a n cap] w fun e w' => ∃ v, e = .returned v ∧ Lst w' w.heap.size (fun k => k < E) v (Fr.btw xs n).1 ∧ Below w.heap.size w w' := by
  have Hn := Lib.hid hn
  have Hr := Lib.hid hr
  have HE := Lib.hid hE
  have hcap := hr.le
  rw [hn] at hcap
  clear hn hr hE
  have hl' : (n : Int) ≤ 3000 := by omega
  go_enter Try.func27, Try.ntmps27
  go_wp2
  go_loopw [3, 4, 5] (fun v fr i wr => ∃ k : Nat, k ≤ n ∧ i = .int .i64 (k : Int) ∧ fr = .int .i64 (match (Fr.btw xs k).2 with | some f => (f : Int) | none => -1) ∧ Lst wr w.heap.size (fun k => k < E) v (Fr.btw xs k).1 ∧ Below w.heap.size w wr) (fun _ _ i _ => n - (intOf i).toNat)
  case atStart => exact ⟨0, Nat.zero_le _, rfl, rfl, lst_none _ _ _, Below.refl _ _⟩
  case round =>
    obtain ⟨k, hk, rfl, rfl, ho, hbw⟩ := hrel
    by_cases hlt : (k : Int) < (n : Int)
    · have hk' : k < xs.length := by rw [Hn.out]; omega
      rcases (Hr.out.next hbw).bytes with h0 | ⟨b, off, rfl, hb, hc⟩
      · rw [h0] at hk'; simp at hk'
      · have hcell := hc k hk'
        have hble := Fr.btw_le xs k
        have hbln := Fr.btw_len xs k
        have hbE : b < E := by
          rcases HE.out with h0 | h0
          · rw [h0] at hk'; simp at hk'
          · exact h0 _ rfl
        clear hc
        by_cases h6 : xs[k].toNat = 126
        · have i6 : (xs[k].toNat : Int) = 126 := by omega
          have hfs := Fr.btw_flag_some xs k hk' h6
          have hfn := Fr.btw_flag_none xs k hk' h6
          rw [i6] at hcell
          generalize Fr.btw xs k = Bk at ho hble hbln hfs hfn ⊢
          obtain ⟨L, fr⟩ := Bk
          simp only at ho hble hbln
          cases fr with
          | none =>
            have hst := Lib.hid (hfn L rfl)
            have HO := Lib.hid ho
            clear hfs hfn h6 i6 ho
            simp only []
            go_wp2
            go_roundw
            case rel => exact ⟨k + 1, by omega, by go_num, by rw [hst.out]; go_num, by rw [hst.out]; exact HO.out, hbw⟩
            case measure => simp [intOf]; omega
          | some f =>
            have hst := Lib.hid (hfs f L rfl)
            have hfk := hble f rfl
            have hcut := (Hr.out.next hbw).cutAt f k (by omega) hfk (by omega)
            have hcl : ((xs.take k).drop f).length = k - f := by simp; omega
            generalize (xs.take k).drop f = Z at hst hcut hcl
            obtain ⟨c', hc'⟩ : ∃ c', cap - f = c' := ⟨_, rfl⟩
            obtain ⟨q, hq⟩ : ∃ q, k - f = q := ⟨_, rfl⟩
            rw [hc'] at hcut
            rw [hq] at hcl
            obtain ⟨av, cv, rfl⟩ := lst_slice ho
            have hvb := ho.lt
            have HO := Lib.hid ho
            have hs := hbw.size
            have hit := Lib.hid (litems_one (E := fun k => k < E) (v := .slice av L.length cv) hcl hcut (fun ad e => by cases e; exact ⟨hb, fun e2 => by have := (hvb _ e2).1; simp only at this; omega, hbE⟩))
            have i1 : (f : Int) ≤ (k : Int) := by omega
            have i2 : (k : Int) ≤ (cap : Int) := by omega
            have ic : ¬ cap = f := by omega
            have hbln2 : L.length + 1 ≤ 1000000 := by omega
            clear hfs hfn h6 i6 ho hcut hcl hvb
            simp only []
            go_wp2_with (at_builtin; refine wpList_append_lst rfl (.tmp 19) (.tmp 24) rfl w.heap.size (fun k => k < E) (.slice av L.length cv) _ L [Z] rfl rfl (HO.out.next ((Below.refl _ _).alloc (Nat.le_refl _) _)) hit.out (by simp; omega) hbln2 ?_; intro v2 w2 o2 g2 b2; have O2 := Lib.hid o2; have B2 := Lib.hid (Below.grown (hbw.alloc hs (.cells #[.slice (some ⟨b, off + f, none⟩) q c'] 26)) g2 (by simp; omega) b2); clear o2 g2 b2)
            go_roundw
            case rel => exact ⟨k + 1, by omega, by go_num, by rw [hst.out]; go_num, by rw [hst.out]; exact O2.out, B2.out⟩
            case measure => simp [intOf]; omega
        · have i6 : ¬ (xs[k].toNat : Int) = 126 := by omega
          have hst := Lib.hid (Fr.btw_byte xs k hk' h6)
          have HO := Lib.hid ho
          obtain ⟨x, hx⟩ : ∃ x, x = xs[k].toNat := ⟨_, rfl⟩
          rw [← hx] at hcell i6
          clear h6 ho hx hk' hble hbln
          generalize hfv : (match (Fr.btw xs k).2 with | some f => (f : Int) | none => -1) = fv
          have Hfv := Lib.hid hfv
          clear hfv
          go_wp2
          go_roundw
          case rel => exact ⟨k + 1, by omega, by go_num, by rw [hst.out, ← Hfv.out], by rw [hst.out]; exact HO.out, hbw⟩
          case measure => simp [intOf]; omega
    · have hkn : k = n := by omega
      subst hkn
      have HO := Lib.hid ho
      clear ho
      generalize (match (Fr.btw xs k).2 with | some f => (f : Int) | none => -1) = fv
      go_wp2
      go_ret
      exact ⟨_, rfl, HO.out, hbw⟩
end Go.Proofs.Ythmljgpnkealaaa
