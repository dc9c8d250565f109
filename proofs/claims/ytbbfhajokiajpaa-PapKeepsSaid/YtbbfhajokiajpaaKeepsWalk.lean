/- The law of what stays. -/
import Derived.Test.YtbbfhajokiajpaaSf
namespace Go.Proofs.Ytbbfhajokiajpaa
open Go.RowKit

theorem LgAt.kept {w w' : World} {g : Nat} {row : Option Nat} {s u : List UInt8} (h : LgAt w g s u) (hg : w.grownBy w' row) (hq : some g ≠ row) : LgAt w' g s u := (hg.block g (lt_of_block h) hq).trans h
theorem keeps_long (a : Option Addr) (n cap : Nat) (w : World) (i1 : (3000 : Int) < (n : Int)) :
    Calls Try.prog 7 #[.slice a n cap] w fun e w' => e = .returned (.bool true) ∧ Below w.heap.size w w' := by
  go_enter Try.func7, Try.ntmps7
  go_wp2_with fail
  refine (awake_any _).mono ?_
  rintro e w1 ⟨rfl, b1⟩
  go_wp2_with fail
  refine (awake_any _).mono ?_
  rintro e w2 ⟨rfl, b2⟩
  go_wp2
  go_ret
  exact ⟨rfl, Below.chain b1 b2⟩
set_option maxRecDepth 100000 in
set_option maxHeartbeats 2000000 in
theorem keeps_short (a : Option Addr) (n cap : Nat) (xs : List UInt8) (w : World) (hn : xs.length = n) (h : RowAt w a cap xs) (i1 : (n : Int) ≤ 3000) :
    Calls Try.prog 7 #[.slice a n cap] w fun e w' => e = .returned (.bool true) ∧ Below w.heap.size w w' := by
  have H := Lib.hid h
  have HN := Lib.hid hn
  have i2 : n ≤ 300000 := by omega
  rcases hA : Pp.ask xs with ⟨s, u, k⟩
  rcases hS : Pp.say xs with ⟨t, m⟩
  have HA := Lib.hid hA
  have HS := Lib.hid hS
  clear hA hS h hn
  go_enter Try.func7, Try.ntmps7
  go_wp2_with fail
  refine (awake_any _).mono ?_
  rintro e w1 ⟨rfl, b1⟩
  have H1 := Lib.hid (H.out.next b1)
  go_wp2_with (at_builtin; refine wpList_append_row rfl (.tmp 21) (.tmp 22) rfl w1.heap.size _ 0 [] rfl (World.ownsRow_made w1 #[] 0 (Nat.le_refl _) (Nat.zero_le _) rfl) a n cap xs rfl HN.out (rowAt_alloc H1.out _) (by omega) (by simp) ?_; intro v2 w2 o2 g2; rw [Nat.zero_add, List.nil_append] at o2; obtain ⟨a2, c2, rfl, r2⟩ := rowAt_own HN.out o2)
  have b2 : Below w1.heap.size w1 w2 := Below.grown ((Below.refl _ _).alloc (Nat.le_refl _) _) g2 (by simp) (fun j hj => ((World.ownsRow_made (base := w1.heap.size) (e := 5) (size := 1) w1 #[] 0 (Nat.le_refl _) (Nat.zero_le _) rfl).lt j hj).1)
  have B2 := Lib.hid (Below.chain b1 b2)
  have s1 := b1.size
  have R2 := Lib.hid r2
  have O2 := Lib.hid o2
  have HQ2 : Hid (∀ q, (Value.slice a2 n c2).ownBlock = some q → q < w2.heap.size) := fun q hq => (o2.lt q hq).2
  clear r2 o2 g2 b2 b1 H1
  refine (readAsk_any a2 n c2 xs w2 HN.out i2 R2.out).mono ?_
  intro e w3 p3
  obtain ⟨rfl, b3⟩ := p3.at HA.out rfl
  have B3 := Lib.hid b3
  have s3 := b3.size
  clear p3 b3
  go_wp2_with (refine wpList_lgIn (w := w3) rfl (.tmp 4) (.tmp 27) rfl s u rfl rfl ?_; intro W4 l4 b4; have L4 := Lib.hid l4; have B4 := Lib.hid (Below.chain B3.out b4); clear l4 b4 B3)
  refine (readSay_any a2 n c2 xs W4 HN.out i2 (R2.out.next B4.out)).mono ?_
  intro e w5 p5
  obtain ⟨rfl, b5⟩ := p5.at HS.out rfl
  have B5 := Lib.hid (Below.chain B4.out b5)
  have L5 := Lib.hid (L4.out.next b5)
  have BB5 := Lib.hid (Below.chain B2.out B5.out)
  have O5 := Lib.hid (ownsRow_next O2.out B5.out)
  have y1 : (convert 25 9 (.slice a2 n c2)).run Try.prog w5 = .ok (.string ⟨xs.toArray⟩) w5 := conv_row HN.out (R2.out.next B5.out)
  have y2 : (convert 25 9 (.slice a n cap)).run Try.prog w5 = .ok (.string ⟨xs.toArray⟩) w5 := conv_row HN.out (H.out.next BB5.out)
  generalize (⟨xs.toArray⟩ : ByteArray) = Z at y1 y2
  clear p5 b5 B4 L4 B5 R2 O2 B2
  go_wp2_with fail
  clear y1 y2
  generalize w3.heap.size = U at *
  go_loopw [8] (fun i wr => ∃ (k : Nat) (ys : List UInt8), k ≤ n ∧ i = .int .i64 (k : Int) ∧ ys.length = n ∧ wr.ownsRow w1.heap.size 5 1 (.slice a2 n c2) n (Lib.byteCells ys) ∧ w5.grownBy wr (Value.slice a2 n c2).ownBlock ∧ Below w1.heap.size w5 wr) (fun i _ => n - (intOf i).toNat)
  case atStart => exact ⟨0, xs, Nat.zero_le _, rfl, HN.out, O5.out, ⟨rfl, rfl, rfl, Nat.le_refl _, fun _ _ _ => rfl⟩, Below.refl _ _⟩
  case round =>
    obtain ⟨j, ys, hk, rfl, hyl, hown, hgr, hbw⟩ := hrel
    by_cases hlt : (j : Int) < (n : Int)
    · have hk' : j < n := by omega
      rcases hown.2 with ⟨hv, h0⟩ | ⟨g, c', cur, hv, hB', _, _, _, _, _⟩
      · omega
      · simp only [Value.slice.injEq, true_and] at hv
        obtain ⟨rfl, rfl⟩ := hv
        have hcell := hown.cellAt j (by omega)
        have hfz := hown.frozenAt j
        have hyk : (Lib.byteCells ys)[j]? = some (.int .u8 ((ys[j]'(by omega)).toNat : Int)) := by simp [Lib.byteCells, hyl, hk']
        rw [hyk] at hcell
        clear hyk
        obtain ⟨y, hy⟩ : ∃ y, y = ys[j]'(by omega) := ⟨_, rfl⟩
        rw [← hy] at hcell
        have hy255 := y.toNat_lt
        clear hy
        have hst := hown.stored j (.int .u8 ((y + 1).toNat : Int))
        rw [← cells_set] at hst
        have Hst := Lib.hid hst
        have hvy : ((y + 1).toNat : Int) = ((y.toNat : Int) + 1) % 256 := by simp
        have Hvy := Lib.hid hvy
        clear hst hvy
        go_wp2
        go_roundw
        case rel => exact ⟨j + 1, ys.set j (y + 1), by omega, by go_num, by simpa using hyl, by rw [← Hvy.out]; exact Hst.out.1, by rw [← Hvy.out]; exact grownBy_trans hgr Hst.out.2, by rw [← Hvy.out]; exact hbw.setCell hB' _⟩
        case measure => simp [intOf]; omega
    · have BR := Lib.hid (BB5.out.trans (hbw.mono s1))
      have LR := Lib.hid (L5.out.kept hgr (fun e => by have := HQ2.out U e.symm; omega))
      clear hgr hbw hown BB5 L5 O5
      go_wp2_with fail
      refine (refAsk_any a n cap xs wr HN.out i2 (H.out.next BR.out)).mono ?_
      intro e w6 p6
      obtain ⟨rfl, b6⟩ := p6.at HA.out rfl
      have B6 := Lib.hid (Below.chain BR.out b6)
      have L6 := Lib.hid (LR.out.next b6)
      clear p6 b6 BR LR
      go_wp2_with (refine wpList_lgIn (w := w6) rfl (.tmp 9) (.tmp 56) rfl s u rfl rfl ?_; intro W7 l7 b7; have M7 := Lib.hid l7; have L7 := Lib.hid (L6.out.next b7); have B7 := Lib.hid (Below.chain B6.out b7); clear l7 b7 B6 L6)
      refine (refSay_any a n cap xs W7 HN.out i2 (H.out.next B7.out)).mono ?_
      intro e w8 p8
      obtain ⟨rfl, b8⟩ := p8.at HS.out rfl
      have B8 := Lib.hid (Below.chain B7.out b8)
      have L8 := Lib.hid (L7.out.next b8)
      have M8 := Lib.hid (M7.out.next b8)
      clear p8 b8 B7 L7 M7
      go_wp2_with (first
        | (refine wpList_value (by rfl) (run_load_lg (.tmp 4) rfl U s u rfl L8.out) ?_)
        | (refine wpList_value (by rfl) (run_load_lg (.tmp 9) rfl w6.heap.size s u rfl M8.out) ?_)
        | (refine wpList_value (by rfl) (run_eql_lg (.tmp 63) (.tmp 64) rfl s u rfl rfl _) ?_))
      go_ret
      exact ⟨rfl, B8.out⟩
theorem keeps_walk (a : Option Addr) (n cap : Nat) (xs : List UInt8) (w : World) (hn : xs.length = n) (h : RowAt w a cap xs) :
    Calls Try.prog 7 #[.slice a n cap] w fun e w' => e = .returned (.bool true) ∧ Below w.heap.size w w' := by
  by_cases hb : (3000 : Int) < (n : Int)
  · exact keeps_long a n cap w hb
  · exact keeps_short a n cap xs w hn h (by omega)
end Go.Proofs.Ytbbfhajokiajpaa
