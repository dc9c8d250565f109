/- The walk of DumpKeeps. -/
import Derived.Test.YtbmlacmpiaklpaaDoorReadsWalk
namespace Go.Proofs.YtbmlacmpiaklpaaDoor
open Go.RowKit

theorem own_kept' {w w' : World} {B e s n : Nat} {v : Value} {xs : List Value} {r : Option Nat} (h : w.ownsRow B e s v n xs) (hg : w.grownBy w' r) (hr : ∀ q, r = some q → q < B) : w'.ownsRow B e s v n xs := by
  refine h.kept hg ?_
  cases hv : v.ownBlock with
  | none => exact .inl rfl
  | some k => right; intro e1; have := (h.lt k hv).1; have := hr k e1.symm; omega
theorem Nts.kept' {w w' : World} {B : Nat} {v : Value} {L : List Dm.Nt} {r : Option Nat} (h : Nts w B v L) (hg : w.grownBy w' r) (hr : ∀ q, r = some q → q < B) : Nts w' B v L := by
  obtain ⟨xs, ho, he⟩ := h
  refine ⟨xs, own_kept' ho hg hr, fun j hj => ?_⟩
  obtain ⟨d, h1, h2⟩ := he j hj
  exact ⟨d, h1, own_kept' h2 hg hr⟩

theorem keeps_long (a : Option Addr) (len cap : Nat) (w : World) (hg : (70000 : Int) < (len : Int)) (ht : Tab w) :
    Calls Tryd.prog 8 #[.slice a len cap] w fun e w' => e = .returned (.bool true) ∧ Below w.heap.size w w' := by
  go_enter Tryd.func8, Tryd.ntmps8
  go_wp2_with fail
  refine (awake_any _ ht).mono ?_
  rintro e w1 ⟨rfl, b1⟩
  have ht1 := ht.next b1
  go_wp2_with fail
  refine (awake_any _ ht1).mono ?_
  rintro e w2 ⟨rfl, b2⟩
  go_wp2
  go_ret
  exact ⟨rfl, Below.chain b1 b2⟩

set_option maxRecDepth 100000 in
set_option maxHeartbeats 4000000 in
theorem keeps_short (a : Option Addr) (cap n : Nat) (xs : List UInt8) (w : World) (hn : xs.length = n) (h : RowAt w a cap xs) (hg : ¬ (70000 : Int) < (n : Int)) (ht : Tab w) :
    Calls Tryd.prog 8 #[.slice a n cap] w fun e w' => e = .returned (.bool true) ∧ Below w.heap.size w w' := by
  have c13 := fun A C W (h : RowAt W A C xs) t => read_any A n C xs W hn (by omega) h t
  have c14 := fun A C W (h : RowAt W A C xs) t => refRead_any A n C xs W hn (by omega) h t
  have bk := Dm.read_back xs
  have hll := bk.many
  have hok := bk.ok
  have hfi := bk.fine
  have hsz := bk.size
  have hup : (Dm.bytes (Dm.read xs).1).length ≤ n := by
    rcases Nat.eq_zero_or_pos (Dm.read xs).2.2 with h0 | h0
    · rw [(bk.none h0).2, hn]; exact Nat.le_refl _
    · rw [(bk.some (by omega)).2.2.1, List.length_take, hn]; omega
  rw [hn] at hll hsz
  generalize Dm.read xs = A at *
  obtain ⟨L, at', er⟩ := A
  simp only at hll hok hfi hsz hup
  have Hok := Lib.hid hok
  have H := Lib.hid h
  have HT := Lib.hid ht
  have C13 := Lib.hid c13
  have C14 := Lib.hid c14
  have Hn := Lib.hid hn
  have HE := Lib.hid (Dm.err_fine L hfi)
  clear h c13 c14 hn hok hfi bk ht
  go_enter Tryd.func8, Tryd.ntmps8
  go_wp2_with fail
  refine (awake_any _ HT.out).mono ?_
  rintro e w1 ⟨rfl, b1⟩
  have H1 := Lib.hid (H.out.next b1)
  go_wp2_with (at_builtin; refine wpList_append_row rfl (.tmp 20) (.tmp 21) rfl w1.heap.size _ 0 [] rfl (World.ownsRow_made w1 #[] 0 (Nat.le_refl _) (Nat.zero_le _) rfl) a n cap xs rfl Hn.out (rowAt_alloc H1.out _) (by omega) (by simp) ?_; intro v2 w2 o2 g2; rw [Nat.zero_add, List.nil_append] at o2; obtain ⟨a2, c2, rfl, r2⟩ := rowAt_own Hn.out o2)
  have b2 : Below w1.heap.size w1 w2 := Below.grown ((Below.refl _ _).alloc (Nat.le_refl _) _) g2 (by simp) (fun j hj => ((World.ownsRow_made (base := w1.heap.size) (e := 5) (size := 1) w1 #[] 0 (Nat.le_refl _) (Nat.zero_le _) rfl).lt j hj).1)
  have B2 := Lib.hid (Below.chain b1 b2)
  have s1 := b1.size
  have R2 := Lib.hid r2
  have O2 := Lib.hid o2
  clear r2 o2 g2 b2 b1 H1
  refine (C13.out _ _ _ R2.out (HT.out.next B2.out)).mono ?_
  rintro e w3 ⟨v3, rfl, rec3, b3⟩
  obtain ⟨a3, c3, rfl⟩ := nts_slice rec3
  have hq2 : ∀ q, (Value.slice a2 n c2).ownBlock = some q → q < w2.heap.size := fun q hq => (O2.out.lt q hq).2
  have HQ2 := Lib.hid hq2
  have bb : Below w2.heap.size w2 (w3.alloc (.cells #[.int .i64 (at' : Int), .int .i64 (er : Int)] 32)) := Below.chain b3 (below_one _ _)
  have B3x := Lib.hid (Below.chain B2.out bb)
  have O2x := Lib.hid (ownsRow_next O2.out bb)
  have RECx : Hid (Nts (w3.alloc (.cells #[.int .i64 (at' : Int), .int .i64 (er : Int)] 32)) w2.heap.size (.slice a3 L.length c3) L) := rec3.next (below_one _ _)
  have y1 : (convert 25 9 (.slice a2 n c2)).run Tryd.prog (w3.alloc (.cells #[.int .i64 (at' : Int), .int .i64 (er : Int)] 32)) = .ok (.string ⟨xs.toArray⟩) (w3.alloc (.cells #[.int .i64 (at' : Int), .int .i64 (er : Int)] 32)) := conv_row Hn.out (R2.out.next bb)
  have y2 : (convert 25 9 (.slice a n cap)).run Tryd.prog (w3.alloc (.cells #[.int .i64 (at' : Int), .int .i64 (er : Int)] 32)) = .ok (.string ⟨xs.toArray⟩) (w3.alloc (.cells #[.int .i64 (at' : Int), .int .i64 (er : Int)] 32)) := conv_row Hn.out (H.out.next B3x.out)
  generalize (⟨xs.toArray⟩ : ByteArray) = Z at y1 y2
  simp only [scells]
  clear b3 R2 B2 rec3 hq2 bb
  go_wp2_with fail
  clear y1 y2
  generalize w3.alloc (.cells #[.int .i64 (at' : Int), .int .i64 (er : Int)] 32) = w4 at *
  generalize w3.heap.size = U at *
  go_loopw [6] (fun i wr => ∃ (k : Nat) (ys : List UInt8), k ≤ n ∧ i = .int .i64 (k : Int) ∧ ys.length = n ∧ wr.ownsRow w1.heap.size 5 1 (.slice a2 n c2) n (Lib.byteCells ys) ∧ w4.grownBy wr (Value.slice a2 n c2).ownBlock ∧ Below w1.heap.size w4 wr) (fun i _ => n - (intOf i).toNat)
  case atStart => exact ⟨0, xs, Nat.zero_le _, rfl, Hn.out, O2x.out, ⟨rfl, rfl, rfl, Nat.le_refl _, fun _ _ _ => rfl⟩, Below.refl _ _⟩
  case round =>
    obtain ⟨k, ys, hk, rfl, hyl, hown, hgr, hbw⟩ := hrel
    by_cases hlt : (k : Int) < (n : Int)
    · skip
      have hk' : k < n := by omega
      rcases hown.2 with ⟨hv, h0⟩ | ⟨g, c', cur, hv, hB, _, _, _, _, _⟩
      · omega
      · simp only [Value.slice.injEq, true_and] at hv
        obtain ⟨rfl, rfl⟩ := hv
        have hcell := hown.cellAt k (by omega)
        have hfz := hown.frozenAt k
        have hyk : (Lib.byteCells ys)[k]? = some (.int .u8 ((ys[k]'(by omega)).toNat : Int)) := by simp [Lib.byteCells, hyl, hk']
        rw [hyk] at hcell
        clear hyk
        obtain ⟨y, hy⟩ : ∃ y, y = ys[k]'(by omega) := ⟨_, rfl⟩
        rw [← hy] at hcell
        have hy255 := y.toNat_lt
        clear hy
        have hst := hown.stored k (.int .u8 ((y + 1).toNat : Int))
        rw [← cells_set] at hst
        have Hst := Lib.hid hst
        have hvy : ((y + 1).toNat : Int) = ((y.toNat : Int) + 1) % 256 := by simp
        have Hvy := Lib.hid hvy
        clear hst hvy
        go_wp2
        go_roundw
        case rel => exact ⟨k + 1, ys.set k (y + 1), by omega, by go_num, by simpa using hyl, by rw [← Hvy.out]; exact Hst.out.1, by rw [← Hvy.out]; exact grownBy_trans hgr Hst.out.2, by rw [← Hvy.out]; exact hbw.setCell hB _⟩
        case measure => simp [intOf]; omega
    · have hkl : k = n := by omega
      subst hkl
      have b0r : Below w.heap.size w wr := B3x.out.trans (hbw.mono s1)
      have B4 := Lib.hid b0r
      obtain ⟨a4, c4, e4, ra4⟩ := (RECx.out.kept' hgr HQ2.out).at Hok.out
      simp only [Value.slice.injEq, true_and] at e4
      obtain ⟨rfl, rfl⟩ := e4
      have A4 := Lib.hid ra4
      clear ra4 b0r hgr hbw hown
      go_wp2_with fail
      refine (C14.out _ _ _ (H.out.next B4.out) (HT.out.next B4.out)).mono ?_
      rintro e w5 ⟨v5, rfl, rec5, b5⟩
      obtain ⟨a5, c5, rfl, ra5⟩ := rec5.at Hok.out
      have bb : Below wr.heap.size wr (w5.alloc (.cells #[.int .i64 (at' : Int), .int .i64 (er : Int)] 32)) := Below.chain b5 (below_one _ _)
      have A6 := Lib.hid (A4.out.next bb)
      have D6 : Hid (NtsAt (w5.alloc (.cells #[.int .i64 (at' : Int), .int .i64 (er : Int)] 32)) a5 L) := ra5.next (below_one _ _)
      have B6 := Lib.hid (Below.chain B4.out bb)
      simp only [scells]
      clear ra5 rec5 b5 bb A4 B4
      go_wp2_with fail
      generalize w5.alloc (.cells #[.int .i64 (at' : Int), .int .i64 (er : Int)] 32) = w6 at *
      generalize w5.heap.size = V at *
      refine (put_any a3 L.length c3 L w6 rfl (by omega) (by omega) A6.out (HT.out.next B6.out)).mono ?_
      intro e w7 h7
      obtain ⟨ax, cx, rfl, rx, b7, o7⟩ := put_fine h7 HE.out
      generalize hM : (Dm.bytes L).length = M at *
      have hq7 : ∀ q, (Value.slice ax M cx).ownBlock = some q → w6.heap.size ≤ q := fun q hq => (o7.lt q hq).1
      have HQ7 := Lib.hid hq7
      have O7 := Lib.hid o7
      have A7 := Lib.hid (A6.out.next b7)
      have D7 := Lib.hid (D6.out.next b7)
      have B7 := Lib.hid (Below.chain B6.out b7)
      have BL7 := Lib.hid b7
      have HM := Lib.hid hM
      have s6 := B6.out.size
      clear h7 rx b7 hq7 o7 hM
      go_wp2_with fail
      go_loopw [11] (fun i wr => ∃ (k : Nat) (ys : List UInt8), k ≤ M ∧ i = .int .i64 (k : Int) ∧ ys.length = M ∧ wr.ownsRow w6.heap.size 5 1 (.slice ax M cx) M (Lib.byteCells ys) ∧ Below w6.heap.size w6 wr) (fun i _ => M - (intOf i).toNat)
      case atStart => exact ⟨0, Dm.bytes L, Nat.zero_le _, rfl, HM.out, O7.out, BL7.out⟩
      case round =>
        obtain ⟨k, ys, hk, rfl, hyl, hown, hbw⟩ := hrel
        by_cases hlt : (k : Int) < (M : Int)
        · skip
          have hk' : k < M := by omega
          rcases hown.2 with ⟨hv, h0⟩ | ⟨g, c', cur, hv, hB, _, _, _, _, _⟩
          · omega
          · simp only [Value.slice.injEq, true_and] at hv
            obtain ⟨rfl, rfl⟩ := hv
            have hcell := hown.cellAt k (by omega)
            have hfz := hown.frozenAt k
            have hyk : (Lib.byteCells ys)[k]? = some (.int .u8 ((ys[k]'(by omega)).toNat : Int)) := by simp [Lib.byteCells, hyl, hk']
            rw [hyk] at hcell
            clear hyk
            obtain ⟨y, hy⟩ : ∃ y, y = ys[k]'(by omega) := ⟨_, rfl⟩
            rw [← hy] at hcell
            have hy255 := y.toNat_lt
            clear hy
            have hst := hown.stored k (.int .u8 ((y + 1).toNat : Int))
            rw [← cells_set] at hst
            have Hst := Lib.hid hst
            have hvy : ((y + 1).toNat : Int) = ((y.toNat : Int) + 1) % 256 := by simp
            have Hvy := Lib.hid hvy
            clear hst hvy
            go_wp2
            go_roundw
            case rel => exact ⟨k + 1, ys.set k (y + 1), by omega, by go_num, by simpa using hyl, by rw [← Hvy.out]; exact Hst.out.1, by rw [← Hvy.out]; exact hbw.setCell hB _⟩
            case measure => simp [intOf]; omega
        · have A8 := A6.out.next hbw
          have D8 := D6.out.next hbw
          have B8 := Lib.hid (Below.chain B6.out hbw)
          clear hown hbw
          go_wp2_with fail
          refine (same_any _ _ _ _ _ L _ rfl (by omega) A8 D8).mono ?_
          rintro e w9 ⟨rfl, b9⟩
          have B9 := Lib.hid (Below.chain B8.out b9)
          clear b9
          go_wp2
          go_ret
          exact ⟨rfl, B9.out⟩
theorem keeps_walk (a : Option Addr) (cap : Nat) (xs : List UInt8) (w : World) (h : RowAt w a cap xs) (ht : Tab w) :
    Calls Tryd.prog 8 #[.slice a xs.length cap] w fun e w' => e = .returned (.bool true) ∧ Below w.heap.size w w' := by
  by_cases hg : (70000 : Int) < (xs.length : Int)
  · exact keeps_long a _ cap w hg ht
  · exact keeps_short a cap _ xs w rfl h hg ht
end Go.Proofs.YtbmlacmpiaklpaaDoor
