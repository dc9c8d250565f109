/- Contract of Unstuff. -/
import Derived.Test.YthmljgpnkealaaaSb
namespace Go.Proofs.Ythmljgpnkealaaa
open Go.RowKit

theorem own_cut {w : World} {B g n cap j : Nat} {ys : List UInt8} (h : w.ownsRow B 5 1 (.slice (some ⟨g, 0, none⟩) n cap) n (Lib.byteCells ys)) (hj : j ≤ n) (hl : ys.length = n) : w.ownsRow B 5 1 (.slice (some ⟨g, 0, none⟩) j cap) (ys.take j).length (Lib.byteCells (ys.take j)) := by
  have hlj : (ys.take j).length = j := by rw [List.length_take]; omega
  rw [hlj]
  obtain ⟨h1, h2⟩ := h
  refine ⟨by rw [Lib.byteCells_length, hlj, Nat.mul_one], ?_⟩
  rcases h2 with ⟨h2, _⟩ | ⟨g', cap', cur, a, b, c, d, e, f, i⟩
  · cases h2
  · simp only [Value.slice.injEq, Option.some.injEq, Addr.mk.injEq, true_and, and_true] at a
    obtain ⟨rfl, rfl⟩ := a
    refine .inr ⟨g, cap, cur, rfl, b, c, by omega, e, f, ?_⟩
    rw [Nat.mul_one] at i ⊢
    have : cur.toList.take j = (cur.toList.take n).take j := by rw [List.take_take, Nat.min_eq_left hj]
    rw [this, i]
    simp [Lib.byteCells, List.map_take]
/-- What stands in the room, behind one byte more. -/
theorem take_set (o ys : List UInt8) (n : Nat) (c : UInt8) (hl : ys.length = n) (ho : o.length < n) (ht : ys.take o.length = o) : (ys.set o.length c).take (o ++ [c]).length = o ++ [c] := by
  rw [List.length_append, List.length_singleton, List.take_add_one, List.take_set, List.set_eq_of_length_le (by simp; omega), ht, List.getElem?_set_self (by omega)]
  rfl

set_option maxRecDepth 10000 in
set_option maxHeartbeats 2000000 in
theorem unstuff_own (cap m n : Nat) (a : Option Addr) (xs : List UInt8) (w : World) (hn : xs.length = n) (hm : m < 4294967296) (hx : n ≤ 200000) (hr : BytesAt w a xs) :
    Calls Try.prog 55 #[.slice a n cap, .int .u32 (m : Int)] w fun e w' => ∃ v, e = .returned (.tuple #[v, .bool (St.ans m xs).2]) ∧ w'.ownsRow w.heap.size 5 1 v (St.ans m xs).1.length (Lib.byteCells (St.ans m xs).1) ∧ Below w.heap.size w w' := by
  obtain ⟨i0, hi, hz0, hz1, hz2⟩ := info_parts info5
  have Hr := Lib.hid hr
  have Hn := Lib.hid hn
  have A1 := Lib.hid (St.ans_none m xs)
  have A2 := Lib.hid (St.ans_esc m xs)
  have A3 := Lib.hid (St.ans_ok m xs)
  clear hr hn
  generalize St.ans m xs = A at A1 A2 A3 ⊢
  have hx' : (n : Int) ≤ 200000 := by omega
  go_enter Try.func55, Try.ntmps55
  go_wp2_with (at_make; refine wpList_make_full _ rfl _ _ 26 rfl w.heap.size 5 i0 (.int .u8 0) 1 Try.underlying26 hi hz0 hz1 .i64 .i64 _ _ n rfl rfl (by omega) (by omega) (by rw [hz2]; omega) (by unfold maxLen; omega) (Nat.le_refl _) ?_; intro w1 hown hgr)
  have b1 : Below w.heap.size w w1 := (Below.refl _ _).grown hgr (Nat.le_refl _) (fun k h => by cases h)
  have ho := Lib.hid (made_row hown)
  clear hown hgr
  refine (writer_any _ _ _ _ ho.out).mono ?_
  rintro e w2 ⟨rfl, hw2, b2, _⟩
  have hBn : w.heap.size ≤ w1.heap.size + 1 := by have := b1.size; omega
  have B2 : Below w.heap.size w w2 := b1.trans (b2.mono b1.size)
  clear b1 b2
  generalize w1.heap.size + 1 = Bn at hw2 hBn ⊢
  generalize w1.heap.size = Br at hw2 ⊢
  unfold wrV
  have Hw2 := Lib.hid hw2
  clear hw2
  go_wp2_with fail
  go_loopw [8, 9, 19] (fun nv ev i wr => ∃ (k : Nat) (o : List UInt8) (e : Bool) (ys : List UInt8), k ≤ n ∧ i = .int .i64 (k : Int) ∧ nv = .int .i64 (o.length : Int) ∧ ev = .bool e ∧ o.length ≤ k ∧ Hid (St.un m (xs.take k) = some (o, e) ∧ ys.length = n ∧ ys.take o.length = o ∧ WrAt wr w.heap.size Br Bn (.slice (some ⟨w.heap.size, 0, none⟩) n n) o.length ys) ∧ Below w.heap.size w wr) (fun _ _ i _ => n - (intOf i).toNat)
  case atStart => exact ⟨0, [], false, List.replicate n 0, Nat.zero_le _, rfl, rfl, rfl, Nat.le_refl _, ⟨rfl, by simp, rfl, Hw2.out⟩, B2⟩
  case round =>
    obtain ⟨k, o, e, ys, hk, rfl, rfl, rfl, hok, HW, hbw⟩ := hrel
    clear Hw2 B2
    by_cases hlt : (k : Int) < (n : Int)
    · have hk' : k < xs.length := by rw [Hn.out]; omega
      rcases Hr.out with h0 | ⟨b, off, rfl, hb, hc⟩
      · rw [h0] at hk'; simp at hk'
      · have hcell : wr.cell? ⟨b, off + k, none⟩ = some (.int .u8 (xs[k].toNat : Int)) := by rw [hbw.cell (p := ⟨b, off + k, none⟩) hb]; exact hc k hk'
        have hst := St.un_take m xs k hk'
        rw [HW.out.1] at hst
        have Hst := Lib.hid hst
        clear hst hc
        obtain ⟨x, hxk⟩ : ∃ x, x = xs[k] := ⟨_, rfl⟩
        rw [← hxk] at hcell Hst
        clear hxk hk'
        have hh9 := has_any m x.toNat wr hm
        cases hhas : Ac.has m x.toNat with
        | true =>
          rw [hhas] at hh9
          have H1 := Lib.hid (St.step_has m (some (o, e)) x hhas)
          have H9 := Lib.hid hh9
          clear hhas hh9
          go_wp2_with fail
          refine H9.out.mono ?_
          rintro e1 w3 ⟨rfl, h2⟩
          rw [h2]
          clear h2 H9
          go_wp2
          go_roundw
          case rel => exact ⟨k + 1, o, e, ys, by omega, by go_num, rfl, rfl, by omega, ⟨by rw [Hst.out, H1.out], HW.out.2⟩, hbw⟩
          case measure => simp [intOf]; omega
        | false =>
          rw [hhas] at hh9
          have H9 := Lib.hid hh9
          clear hh9
          by_cases h6 : x.toNat = 126
          · have H1 := Lib.hid (St.step_flag m o e x hhas h6)
            have i6 : (x.toNat : Int) = 126 := by omega
            have hh := H9.out
            rw [i6] at hh
            have H9' := Lib.hid hh
            clear hhas h6 hh H9
            go_wp2_with fail
            refine H9'.out.mono ?_
            rintro e1 w3 ⟨rfl, h2⟩
            rw [h2]
            clear h2 H9'
            go_wp2
            go_ret2
            refine ⟨.slice none 0 0, ?_, ?_, hbw⟩
            · rw [A1.out (St.un_none m xs (k + 1) (by rw [Hst.out, H1.out]))]; rfl
            · rw [A1.out (St.un_none m xs (k + 1) (by rw [Hst.out, H1.out]))]; exact World.ownsRow_nil _ _ _ _
          · have i6 : ¬ (x.toNat : Int) = 126 := by omega
            cases e with
            | true =>
              have H1 := Lib.hid (St.step_esc m o x hhas h6)
              clear hhas h6
              go_wp2_with fail
              refine H9.out.mono ?_
              rintro e1 w3 ⟨rfl, h2⟩
              rw [h2]
              clear h2 H9
              have hx32 := St.tn_int x
              obtain ⟨x2, hx2⟩ : ∃ x2, x2 = St.tn x := ⟨_, rfl⟩
              rw [← hx2] at hx32
              have Hx2 := Lib.hid hx2
              clear hx2
              go_wp2_with fail
              refine (write_any w.heap.size Br Bn w.heap.size o.length _ ys x2 wr HW.out.2.2.2 (by rw [HW.out.2.1]; omega) (by omega) (Nat.le_refl _) hBn).mono ?_
              rintro e1 w4 ⟨rfl, hw4, b4⟩
              have H4 := Lib.hid hw4
              clear hw4
              go_wp2
              go_roundw
              case rel => exact ⟨k + 1, o ++ [x2], false, ys.set o.length x2, by omega, by go_num, by rw [List.length_append]; rfl, rfl, by rw [List.length_append]; simp; omega, ⟨by rw [Hst.out, H1.out, Hx2.out], by rw [List.length_set]; exact HW.out.2.1, take_set o ys n x2 HW.out.2.1 (by omega) HW.out.2.2.1, by rw [List.length_append]; exact H4.out⟩, hbw.trans b4⟩
              case measure => simp [intOf]; omega
            | false =>
              by_cases h5 : x.toNat = 125
              · have H1 := Lib.hid (St.step_7d m o x hhas h5)
                have i5 : (x.toNat : Int) = 125 := by omega
                have hh := H9.out
                rw [i5] at hh
                have H9' := Lib.hid hh
                clear hhas h6 h5 hh H9
                go_wp2_with fail
                refine H9'.out.mono ?_
                rintro e1 w3 ⟨rfl, h2⟩
                rw [h2]
                clear h2 H9'
                go_wp2
                go_roundw
                case rel => exact ⟨k + 1, o, true, ys, by omega, by go_num, rfl, rfl, by omega, ⟨by rw [Hst.out, H1.out], HW.out.2⟩, hbw⟩
                case measure => simp [intOf]; omega
              · have H1 := Lib.hid (St.step_plain m o x hhas h6 h5)
                have i5 : ¬ (x.toNat : Int) = 125 := by omega
                clear hhas h6 h5
                go_wp2_with fail
                refine H9.out.mono ?_
                rintro e1 w3 ⟨rfl, h2⟩
                rw [h2]
                clear h2 H9
                go_wp2_with fail
                refine (write_any w.heap.size Br Bn w.heap.size o.length _ ys x wr HW.out.2.2.2 (by rw [HW.out.2.1]; omega) (by omega) (Nat.le_refl _) hBn).mono ?_
                rintro e1 w4 ⟨rfl, hw4, b4⟩
                have H4 := Lib.hid hw4
                clear hw4
                go_wp2
                go_roundw
                case rel => exact ⟨k + 1, o ++ [x], false, ys.set o.length x, by omega, by go_num, by rw [List.length_append]; rfl, rfl, by rw [List.length_append]; simp; omega, ⟨by rw [Hst.out, H1.out], by rw [List.length_set]; exact HW.out.2.1, take_set o ys n x HW.out.2.1 (by omega) HW.out.2.2.1, by rw [List.length_append]; exact H4.out⟩, hbw.trans b4⟩
                case measure => simp [intOf]; omega
    · have hks : k = n := by omega
      have hun : St.un m xs = some (o, e) := by
        have h := HW.out.1
        rw [hks, List.take_of_length_le (by rw [Hn.out]; exact Nat.le_refl _)] at h
        exact h
      have Hun := Lib.hid hun
      clear hun
      have hon : (o.length : Int) ≤ (n : Int) := by omega
      cases e with
      | true =>
        go_wp2
        go_ret2
        refine ⟨.slice none 0 0, ?_, ?_, hbw⟩
        · rw [A2.out o Hun.out]; rfl
        · rw [A2.out o Hun.out]; exact World.ownsRow_nil _ _ _ _
      | false =>
        have hcut := own_cut (j := o.length) (HW.out.2.2.2.own |> fun h => by rw [HW.out.2.1] at h; exact h) (by omega) HW.out.2.1
        rw [HW.out.2.2.1] at hcut
        have Hcut := Lib.hid hcut
        clear hcut
        go_wp2
        go_ret2
        refine ⟨.slice (some ⟨w.heap.size, 0, none⟩) o.length n, ?_, ?_, hbw⟩
        · rw [A3.out o Hun.out]; rfl
        · rw [A3.out o Hun.out]; exact Hcut.out
theorem unstuff_row (cap m n : Nat) (a : Option Addr) (xs : List UInt8) (w : World) (hn : xs.length = n) (hm : m < 4294967296) (hx : n ≤ 200000) (hr : RowAt w a cap xs) (A : List UInt8 × Bool) (hA : St.ans m xs = A) (q : Nat) (hq : A.1.length = q) :
    Calls Try.prog 55 #[.slice a n cap, .int .u32 (m : Int)] w fun e w' => ∃ a' c', e = .returned (.tuple #[.slice a' q c', .bool A.2]) ∧ RowAt w' a' c' A.1 ∧ Below w.heap.size w w' := by
  subst hA
  refine (unstuff_own cap m n a xs w hn hm hx hr.bytes).mono ?_
  rintro e w' ⟨v, rfl, o, b⟩
  obtain ⟨a', c', rfl, r⟩ := rowAt_own rfl o
  exact ⟨a', c', by rw [hq], r, b⟩
end Go.Proofs.Ythmljgpnkealaaa
