/- HeadKeeps: the walk. -/
import Derived.Test.YtphamnpafafpkaaReadsWalk
namespace Go.Proofs.Ytphamnpafafpkaa
open Go.RowKit

theorem keeps_long (a : Option Addr) (len cap : Nat) (w : World) (hg : (1000 : Int) < (len : Int)) :
    Calls Try.prog 7 #[.slice a len cap] w fun e w' => e = .returned (.bool true) ∧ Below w.heap.size w w' := by
  go_enter Try.func7, Try.ntmps7
  go_wp2_with fail
  refine (awake_any _).mono ?_
  rintro e w1 ⟨rfl, b1⟩
  go_wp2_with fail
  refine (awake_any _).mono ?_
  rintro e w2 ⟨rfl, b2⟩
  go_wp2
  go_ret
  exact ⟨rfl, Below.chain b1 b2⟩

set_option maxRecDepth 100000 in
set_option maxHeartbeats 4000000 in
theorem keeps_short (a : Option Addr) (cap n : Nat) (xs : List UInt8) (w : World) (hn : xs.length = n) (h : RowAt w a cap xs) (hg : ¬ (1000 : Int) < (n : Int)) :
    Calls Try.prog 7 #[.slice a n cap] w fun e w' => e = .returned (.bool true) ∧ Below w.heap.size w w' := by
  have c15 := fun A C W (h : RowAt W A C xs) => body_any A C n xs W hn (by omega) h
  generalize (Hd.read xs).1 = p at c15
  generalize (Hd.read xs).2.2 = r at c15
  generalize Hd.body xs = X at c15
  obtain ⟨x, hx⟩ : ∃ x, X.length = x := ⟨_, rfl⟩
  have H := Lib.hid h
  have Hx := Lib.hid hx
  have C15 := Lib.hid c15
  have Hn := Lib.hid hn
  clear h c15 hx hn
  go_enter Try.func7, Try.ntmps7
  go_wp2_with fail
  refine (awake_any _).mono ?_
  rintro e w1 ⟨rfl, b1⟩
  have H1 := Lib.hid (H.out.next b1)
  go_wp2_with (at_builtin; refine wpList_append_row rfl (.tmp 19) (.tmp 20) rfl w1.heap.size _ 0 [] rfl (World.ownsRow_made w1 #[] 0 (Nat.le_refl _) (Nat.zero_le _) rfl) a n cap xs rfl Hn.out (rowAt_alloc H1.out _) (by omega) (by simp) ?_; intro v2 w2 o2 g2; rw [Nat.zero_add, List.nil_append] at o2; obtain ⟨a2, c2, rfl, r2⟩ := rowAt_own Hn.out o2)
  have b2 : Below w1.heap.size w1 w2 := Below.grown ((Below.refl _ _).alloc (Nat.le_refl _) _) g2 (by simp) (fun j hj => ((World.ownsRow_made (base := w1.heap.size) (e := 5) (size := 1) w1 #[] 0 (Nat.le_refl _) (Nat.zero_le _) rfl).lt j hj).1)
  have B2 := Lib.hid (Below.chain b1 b2)
  have s1 := b1.size
  have R2 := Lib.hid r2
  have O2 := Lib.hid o2
  clear r2 o2 g2 b2 b1 H1
  refine (C15.out _ _ _ R2.out).mono ?_
  intro e w3 h3
  obtain ⟨a3, c3, rfl, _, o3, b3⟩ := h3.row Hx.out
  have B3 := Lib.hid (Below.chain B2.out b3)
  have O3 := Lib.hid o3
  have O2w := Lib.hid (ownsRow_next O2.out b3)
  have y1 : (convert 23 9 (.slice a2 n c2)).run Try.prog w3 = .ok (.string ⟨xs.toArray⟩) w3 := conv_row Hn.out (R2.out.next b3)
  have y2 : (convert 23 9 (.slice a n cap)).run Try.prog w3 = .ok (.string ⟨xs.toArray⟩) w3 := conv_row Hn.out (H.out.next B3.out)
  generalize (⟨xs.toArray⟩ : ByteArray) = Z at y1 y2
  clear h3 o3 b3 R2 B2
  go_wp2_with fail
  clear y1 y2
  go_loopw [7] (fun i wr => ∃ (k : Nat) (ys : List UInt8), k ≤ n ∧ i = .int .i64 (k : Int) ∧ ys.length = n ∧ wr.ownsRow w1.heap.size 5 1 (.slice a2 n c2) n (Lib.byteCells ys) ∧ w3.grownBy wr (Value.slice a2 n c2).ownBlock ∧ Below w1.heap.size w3 wr) (fun i _ => n - (intOf i).toNat)
  case atStart => exact ⟨0, xs, Nat.zero_le _, rfl, Hn.out, O2w.out, ⟨rfl, rfl, rfl, Nat.le_refl _, fun _ _ _ => rfl⟩, Below.refl _ _⟩
  case round =>
    obtain ⟨k, ys, hk, rfl, hyl, hown, hgr, hbw⟩ := hrel
    by_cases hlt : (k : Int) < (n : Int)
    · have hk' : k < n := by omega
      rcases hown.2 with ⟨hv, h0⟩ | ⟨g, c', cur, hv, hB, _, _, _, _, _⟩
      · omega
      · simp only [Value.slice.injEq, true_and] at hv
        obtain ⟨rfl, rfl⟩ := hv
        have hcell := hown.cellAt k (by omega)
        have hfz := hown.frozenAt k
        have hyk : (Lib.byteCells ys)[k]? = some (.int .u8 ((ys[k]'(by omega)).toNat : Int)) := by simp [Lib.byteCells, hyl, hk']
        rw [hyk] at hcell
        clear hyk
        obtain ⟨y, hy⟩ : ∃ y, y = ys[k]'(by omega) := ⟨_, rfl⟩
        rw [← hy] at hcell
        have hy255 := y.toNat_lt
        clear hy
        have hst := hown.stored k (.int .u8 ((y + 1).toNat : Int))
        rw [← cells_set] at hst
        have Hst := Lib.hid hst
        have hvy : ((y + 1).toNat : Int) = ((y.toNat : Int) + 1) % 256 := by simp
        have Hvy := Lib.hid hvy
        clear hst hvy
        go_wp2
        go_roundw
        case rel => exact ⟨k + 1, ys.set k (y + 1), by omega, by go_num, by simpa using hyl, by rw [← Hvy.out]; exact Hst.out.1, by rw [← Hvy.out]; exact grownBy_trans hgr Hst.out.2, by rw [← Hvy.out]; exact hbw.setCell hB _⟩
        case measure => simp [intOf]; omega
    · have hkl : k = n := by omega
      subst hkl
      have b0r : Below w.heap.size w wr := B3.out.trans (hbw.mono s1)
      have B4 := Lib.hid b0r
      obtain ⟨a4, c4, e4, r4⟩ := row_kept Hx.out O3.out O2.out (Nat.le_refl _) hgr
      simp only [Value.slice.injEq, true_and] at e4
      obtain ⟨rfl, rfl⟩ := e4
      have R4 := Lib.hid r4
      clear O2 O2w O3 hown hgr hbw b0r r4 hlt
      go_wp2_with fail
      refine (C15.out _ _ _ (H.out.next B4.out)).mono ?_
      intro e w5 h5
      obtain ⟨a5, c5, rfl, r5, _, b5⟩ := h5.row Hx.out
      have B5 := Lib.hid (Below.chain B4.out b5)
      have y1 : (convert 23 9 (.slice a3 x c3)).run Try.prog w5 = .ok (.string ⟨X.toArray⟩) w5 := conv_row Hx.out (R4.out.next b5)
      have y2 : (convert 23 9 (.slice a5 x c5)).run Try.prog w5 = .ok (.string ⟨X.toArray⟩) w5 := conv_row Hx.out r5
      generalize (⟨X.toArray⟩ : ByteArray) = Z2 at y1 y2
      clear h5 r5 b5 R4 B4
      go_wp2
      go_ret
      exact ⟨rfl, B5.out⟩

theorem keeps_walk (a : Option Addr) (cap : Nat) (xs : List UInt8) (w : World) (h : RowAt w a cap xs) :
    Calls Try.prog 7 #[.slice a xs.length cap] w fun e w' => e = .returned (.bool true) ∧ Below w.heap.size w w' := by
  by_cases hg : (1000 : Int) < (xs.length : Int)
  · exact keeps_long a _ cap w hg
  · exact keeps_short a cap _ xs w rfl h hg
end Go.Proofs.Ytphamnpafafpkaa
