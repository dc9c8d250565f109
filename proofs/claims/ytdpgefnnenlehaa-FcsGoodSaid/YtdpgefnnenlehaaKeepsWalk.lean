/- FcsKeeps: the walk. -/
import Derived.Test.YtdpgefnnenlehaaWh
namespace Go.Proofs.Ytdpgefnnenlehaa
open Go.RowKit

theorem ownsRow_below {w w' : World} {base B : Nat} {e : TypeId} {size : Nat} {v : Value} {n : Nat} {xs : List Value} (h : w.ownsRow base e size v n xs) (hb : Below B w w') (hB : ∀ g, v.ownBlock = some g → g < B) : w'.ownsRow base e size v n xs := by
  obtain ⟨h1, h2⟩ := h
  refine ⟨h1, ?_⟩
  rcases h2 with h2 | ⟨g, cap, cur, a, b, c, d⟩
  · exact .inl h2
  · exact .inr ⟨g, cap, cur, a, b, by rw [hb.block g (hB g (by rw [a]; rfl))]; exact c, d⟩
theorem ownsRow_next {w w' : World} {base : Nat} {e : TypeId} {size : Nat} {v : Value} {n : Nat} {xs : List Value} (h : w.ownsRow base e size v n xs) (hb : Below w.heap.size w w') : w'.ownsRow base e size v n xs :=
  ownsRow_below h hb fun g hg => (h.lt g hg).2
/-- A slice of one's own stays when another one is written. -/
theorem row_kept {w w0 w' : World} {B B5 n m : Nat} {v v5 : Value} {xs ys : List UInt8} (hn : xs.length = n) (h : w.ownsRow B 5 1 v n (Lib.byteCells xs)) (h5 : w0.ownsRow B5 5 1 v5 m (Lib.byteCells ys)) (hB : w0.heap.size ≤ B) (hg : w.grownBy w' v5.ownBlock) :
    ∃ a c, v = .slice a n c ∧ RowAt w' a c xs := by
  refine rowAt_own hn (h.kept hg ?_)
  cases hv : v.ownBlock with
  | none => exact .inl rfl
  | some k =>
    right
    intro e
    have h1 := (h.lt k hv).1
    have h2 := (h5.lt k e.symm).2
    omega
theorem grownBy_trans {a b c : World} {r : Option Nat} (h : a.grownBy b r) (k : b.grownBy c r) : a.grownBy c r :=
  ⟨k.os.trans h.os, k.tape.trans h.tape, k.output.trans h.output, Nat.le_trans h.size k.size, fun i hi hr => (k.block i (Nat.lt_of_lt_of_le hi h.size) hr).trans (h.block i hi hr)⟩

theorem own_kept {w w0 w' : World} {B B5 n m : Nat} {v v5 : Value} {xs ys : List Value} (h : w.ownsRow B 5 1 v n xs) (h5 : w0.ownsRow B5 5 1 v5 m ys) (hB : w0.heap.size ≤ B) (hg : w.grownBy w' v5.ownBlock) : w'.ownsRow B 5 1 v n xs := by
  refine h.kept hg ?_
  cases hv : v.ownBlock with
  | none => exact .inl rfl
  | some k =>
    right
    intro e
    have h1 := (h.lt k hv).1
    have h2 := (h5.lt k e.symm).2
    omega

set_option maxRecDepth 10000 in
set_option maxHeartbeats 1000000 in
theorem keeps_long (a : Option Addr) (cap n : Nat) (wide : Bool) (w : World) (hg : (2000 : Int) < (n : Int)) :
    Calls Try.prog 8 #[.slice a n cap, .bool wide] w fun e w' => e = .returned (.bool true) ∧ Below w.heap.size w w' := by
  go_enter Try.func8, Try.ntmps8
  go_wp2_with fail
  refine (awake_any _).mono ?_
  rintro e w1 ⟨rfl, b1⟩
  go_wp2_with fail
  refine (awake_any _).mono ?_
  rintro e w2 ⟨rfl, b2⟩
  go_wp2
  go_ret
  exact ⟨rfl, Below.chain b1 b2⟩



set_option maxRecDepth 100000 in
set_option maxHeartbeats 4000000 in
theorem keeps_short (a : Option Addr) (cap : Nat) (xs : List UInt8) (n : Nat) (wide : Bool) (w : World) (hn : xs.length = n) (h : RowAt w a cap xs) (hg : ¬ (2000 : Int) < (n : Int)) :
    Calls Try.prog 8 #[.slice a n cap, .bool wide] w fun e w' => e = .returned (.bool true) ∧ Below w.heap.size w w' := by
  have hZl : (Fc.sealed xs wide).length = n + Fc.size wide := by rw [Fc.sealed_length, hn]
  have hs4 := Fc.size_le wide
  have hZg := Fc.sealed_good xs wide
  have hZt : (Fc.sealed xs wide).take (n + Fc.size wide - Fc.size wide) = xs := by
    rw [Nat.add_sub_cancel, ← hn]; unfold Fc.sealed; exact List.take_left
  have c19 : ∀ (a : Option Addr) (cap : Nat) (W : World), RowAt W a cap xs → _ := fun a cap W h => seal_any a n cap xs wide W hn (by omega) h
  have c16 : ∀ (a : Option Addr) (cap : Nat) (W : World), RowAt W a cap (Fc.sealed xs wide) → _ := fun a cap W h => open_good a (n + Fc.size wide) cap (Fc.sealed xs wide) wide W hZl (by omega) h hZg
  simp only [hZl] at c19
  simp only [hZt] at c16
  simp only [Nat.add_sub_cancel] at c16
  clear hZt hZg
  generalize Fc.sealed xs wide = Z at c19 c16 hZl
  have hz1 : n + Fc.size wide ≤ 3000 := by omega
  generalize n + Fc.size wide = z at c19 c16 hZl hz1
  have H := Lib.hid h
  have Hn := Lib.hid hn
  have HZl := Lib.hid hZl
  have C19 := Lib.hid c19
  have C16 := Lib.hid c16
  have hnz : (n : Int) ≤ 2000 := by omega
  clear h hn hZl c19 c16 hs4
  go_enter Try.func8, Try.ntmps8
  go_wp2_with fail
  refine (awake_any _).mono ?_
  rintro e w1 ⟨rfl, b1⟩
  have H1 := Lib.hid (H.out.next b1)
  go_wp2_with (at_builtin; refine wpList_append_row rfl _ _ rfl w1.heap.size _ 0 [] rfl (World.ownsRow_made w1 #[] 0 (Nat.le_refl _) (Nat.zero_le _) rfl) a n cap xs rfl Hn.out (H1.out.next ((Below.refl _ _).alloc (Nat.le_refl _) _)) (by omega) (by simp) ?_; intro v5 w5 o5 g5; rw [Nat.zero_add, List.nil_append] at o5; obtain ⟨a5, c5, rfl, r5⟩ := rowAt_own Hn.out o5)
  have b5 : Below w1.heap.size w1 w5 := Below.grown ((Below.refl _ _).alloc (Nat.le_refl _) _) g5 (by simp) (fun j hj => ((World.ownsRow_made (base := w1.heap.size) (e := 5) (size := 1) w1 #[] 0 (Nat.le_refl _) (Nat.zero_le _) rfl).lt j hj).1)
  have b05 := Below.chain b1 b5
  have s1 := b1.size
  have s5 := b5.size
  have R5 := Lib.hid r5
  have O5 := Lib.hid o5
  clear r5 o5 g5 b5 b1 H1
  refine (C19.out a5 c5 w5 R5.out).mono ?_
  rintro e w6 ⟨v6, rfl, o6, b6⟩
  obtain ⟨a6, c6, rfl, r6⟩ := rowAt_own HZl.out o6
  have O6 := Lib.hid o6
  have R6 := Lib.hid r6
  clear o6 r6
  go_wp2_with fail
  refine (C16.out a6 c6 w6 R6.out).mono ?_
  rintro e w7 ⟨v7, rfl, o7, b7⟩
  have O7 := Lib.hid o7
  have b57 := Below.chain b6 b7
  have b07 := Below.chain b05 b57
  have s6 := b6.size
  have O5w := Lib.hid (ownsRow_next O5.out b57)
  have O6w := Lib.hid (ownsRow_next O6.out b7)
  have hcv5 := conv_row Hn.out (R5.out.next b57)
  have hcva := conv_row Hn.out (H.out.next b07)
  clear o7 b6 b7 R5 R6
  go_wp2_with fail
  clear hcv5 hcva
  go_loopw [9] (fun i wr => ∃ (k : Nat) (ys : List UInt8), k ≤ n ∧ i = .int .i64 (k : Int) ∧ ys.length = n ∧ wr.ownsRow w1.heap.size 5 1 (.slice a5 n c5) n (Lib.byteCells ys) ∧ w7.grownBy wr (Value.slice a5 n c5).ownBlock ∧ Below w1.heap.size w7 wr) (fun i _ => n - (intOf i).toNat)
  case atStart => exact ⟨0, xs, Nat.zero_le _, rfl, Hn.out, O5w.out, ⟨rfl, rfl, rfl, Nat.le_refl _, fun _ _ _ => rfl⟩, Below.refl _ _⟩
  case round =>
    obtain ⟨k, ys, hk, rfl, hyl, hown, hgr, hbw⟩ := hrel
    by_cases hlt : (k : Int) < (n : Int)
    · have hk' : k < n := by omega
      rcases hown.2 with ⟨hv, h0⟩ | ⟨g, c', cur, hv, hB, _, _, _, _, _⟩
      · omega
      · simp only [Value.slice.injEq, true_and] at hv
        obtain ⟨rfl, rfl⟩ := hv
        have hcell := hown.cellAt k (by omega)
        have hfz := hown.frozenAt k
        have hyk : (Lib.byteCells ys)[k]? = some (.int .u8 ((ys[k]'(by omega)).toNat : Int)) := by simp [Lib.byteCells, hyl, hk']
        rw [hyk] at hcell
        clear hyk
        obtain ⟨y, hy⟩ : ∃ y, y = ys[k]'(by omega) := ⟨_, rfl⟩
        rw [← hy] at hcell
        have hy255 := y.toNat_lt
        clear hy
        have hst := hown.stored k (.int .u8 ((y + 1).toNat : Int))
        rw [← cells_set] at hst
        have Hst := Lib.hid hst
        have hvy : ((y + 1).toNat : Int) = ((y.toNat : Int) + 1) % 256 := by simp
        have Hvy := Lib.hid hvy
        have Hyl := Lib.hid hyl
        clear hst hvy hyl
        go_wp2
        go_roundw
        case rel => exact ⟨k + 1, ys.set k (y + 1), by omega, by go_num, by simpa using Hyl.out, by rw [← Hvy.out]; exact Hst.out.1, by rw [← Hvy.out]; exact grownBy_trans hgr Hst.out.2, by rw [← Hvy.out]; exact hbw.setCell hB _⟩
        case measure => simp [intOf]; omega
    · have hkl : k = n := by omega
      subst hkl
      have b0r : Below w.heap.size w wr := b07.trans (hbw.mono s1)
      have O6r := Lib.hid (own_kept O6w.out O5.out (Nat.le_refl _) hgr)
      have O7r := Lib.hid (own_kept O7.out O5.out s6 hgr)
      have B0r := Lib.hid b0r
      clear hbw hgr hown hyl b0r O6w O5w
      go_wp2_with fail
      go_loopw [10] (fun i wq => ∃ (j : Nat) (ys : List UInt8), j ≤ z ∧ i = .int .i64 (j : Int) ∧ ys.length = z ∧ wq.ownsRow w5.heap.size 5 1 (.slice a6 z c6) z (Lib.byteCells ys) ∧ wr.grownBy wq (Value.slice a6 z c6).ownBlock ∧ Below w.heap.size wr wq) (fun i _ => z - (intOf i).toNat)
      case atStart => exact ⟨0, Z, Nat.zero_le _, rfl, HZl.out, O6r.out, ⟨rfl, rfl, rfl, Nat.le_refl _, fun _ _ _ => rfl⟩, Below.refl _ _⟩
      case round =>
        obtain ⟨j, ys, hj, rfl, hyl, hown, hgr, hbw⟩ := hrel
        by_cases hlt : (j : Int) < (z : Int)
        · have hj' : j < z := by omega
          rcases hown.2 with ⟨hv, h0⟩ | ⟨g, c', cur, hv, hB, _, _, _, _, _⟩
          · omega
          · simp only [Value.slice.injEq, true_and] at hv
            obtain ⟨rfl, rfl⟩ := hv
            have hcell := hown.cellAt j (by omega)
            have hfz := hown.frozenAt j
            have hyk : (Lib.byteCells ys)[j]? = some (.int .u8 ((ys[j]'(by omega)).toNat : Int)) := by simp [Lib.byteCells, hyl, hj']
            rw [hyk] at hcell
            clear hyk
            obtain ⟨y, hy⟩ : ∃ y, y = ys[j]'(by omega) := ⟨_, rfl⟩
            rw [← hy] at hcell
            have hy255 := y.toNat_lt
            clear hy
            have hst := hown.stored j (.int .u8 ((y + 1).toNat : Int))
            rw [← cells_set] at hst
            have Hst := Lib.hid hst
            have hvy : ((y + 1).toNat : Int) = ((y.toNat : Int) + 1) % 256 := by simp
            have Hvy := Lib.hid hvy
            have Hyl := Lib.hid hyl
            clear hst hvy hyl
            go_wp2
            go_roundw
            case rel => exact ⟨j + 1, ys.set j (y + 1), by omega, by go_num, by simpa using Hyl.out, by rw [← Hvy.out]; exact Hst.out.1, by rw [← Hvy.out]; exact grownBy_trans hgr Hst.out.2, by rw [← Hvy.out]; exact hbw.setCell (Nat.le_trans s1 (Nat.le_trans s5 hB)) _⟩
            case measure => simp [intOf]; omega
        · have hjl : j = z := by omega
          subst hjl
          have b0q : Below w.heap.size w wr := B0r.out.trans hbw
          obtain ⟨a7, c7, rfl, r7⟩ := row_kept Hn.out O7r.out O6.out (Nat.le_refl _) hgr
          have hcv7 := conv_row Hn.out r7
          have hcva := conv_row Hn.out (H.out.next b0q)
          clear hbw hgr hown hyl r7
          go_wp2
          go_ret
          exact ⟨rfl, b0q⟩

theorem keeps_walk (a : Option Addr) (cap : Nat) (xs : List UInt8) (wide : Bool) (w : World) (h : RowAt w a cap xs) :
    Calls Try.prog 8 #[.slice a xs.length cap, .bool wide] w fun e w' => e = .returned (.bool true) ∧ Below w.heap.size w w' := by
  by_cases hg : (2000 : Int) < (xs.length : Int)
  · exact keeps_long a cap xs.length wide w hg
  · exact keeps_short a cap xs xs.length wide w rfl h hg
end Go.Proofs.Ytdpgefnnenlehaa
