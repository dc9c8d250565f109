/- The walk of PcapKeeps. -/
import Derived.Test.YtfkjjolohphaoaaReadsWalk
namespace Go.Proofs.Ytfkjjolohphaoaa
open Go.RowKit

theorem own_kept' {w w' : World} {B e s n : Nat} {v : Value} {xs : List Value} {r : Option Nat} (h : w.ownsRow B e s v n xs) (hg : w.grownBy w' r) (hr : ∀ q, r = some q → q < B) : w'.ownsRow B e s v n xs := by
  refine h.kept hg ?_
  cases hv : v.ownBlock with
  | none => exact .inl rfl
  | some k => right; intro e1; have := (h.lt k hv).1; have := hr k e1.symm; omega
theorem Recs.kept' {w w' : World} {B : Nat} {v : Value} {L : List Pc.Rcd} {r : Option Nat} (h : Recs w B v L) (hg : w.grownBy w' r) (hr : ∀ q, r = some q → q < B) : Recs w' B v L := by
  obtain ⟨xs, ho, he⟩ := h
  refine ⟨xs, own_kept' ho hg hr, fun j hj => ?_⟩
  obtain ⟨d, h1, h2⟩ := he j hj
  exact ⟨d, h1, own_kept' h2 hg hr⟩

theorem keeps_long (a : Option Addr) (len cap : Nat) (w : World) (hg : (140000 : Int) < (len : Int)) :
    Calls Try.prog 8 #[.slice a len cap] w fun e w' => e = .returned (.bool true) ∧ Below w.heap.size w w' := by
  go_enter Try.func8, Try.ntmps8
  go_wp2_with fail
  refine (awake_any _).mono ?_
  rintro e w1 ⟨rfl, b1⟩
  go_wp2_with fail
  refine (awake_any _).mono ?_
  rintro e w2 ⟨rfl, b2⟩
  go_wp2
  go_ret
  exact ⟨rfl, Below.chain b1 b2⟩

set_option maxRecDepth 100000 in
set_option maxHeartbeats 4000000 in
theorem keeps_short (a : Option Addr) (cap n : Nat) (xs : List UInt8) (w : World) (hn : xs.length = n) (h : RowAt w a cap xs) (hg : ¬ (140000 : Int) < (n : Int)) :
    Calls Try.prog 8 #[.slice a n cap] w fun e w' => e = .returned (.bool true) ∧ Below w.heap.size w w' := by
  have c13 := fun A C W (h : RowAt W A C xs) => read_any A n C xs W hn (by omega) h
  have c14 := fun A C W (h : RowAt W A C xs) => refRead_any A n C xs W hn (by omega) h
  have rr := Pc.read_recs xs
  have hll : (Pc.read xs).2.1.length ≤ n := by have := Pc.read_count xs; omega
  generalize Pc.read xs = A at *
  obtain ⟨m, L, at', er⟩ := A
  simp only at hll
  have Hok := Lib.hid rr
  have H := Lib.hid h
  have C13 := Lib.hid c13
  have C14 := Lib.hid c14
  have Hn := Lib.hid hn
  clear h c13 c14 hn rr
  go_enter Try.func8, Try.ntmps8
  go_wp2_with fail
  refine (awake_any _).mono ?_
  rintro e w1 ⟨rfl, b1⟩
  have H1 := Lib.hid (H.out.next b1)
  go_wp2_with (at_builtin; refine wpList_append_row rfl (.tmp 19) (.tmp 20) rfl w1.heap.size _ 0 [] rfl (World.ownsRow_made w1 #[] 0 (Nat.le_refl _) (Nat.zero_le _) rfl) a n cap xs rfl Hn.out (rowAt_alloc H1.out _) (by omega) (by simp) ?_; intro v2 w2 o2 g2; rw [Nat.zero_add, List.nil_append] at o2; obtain ⟨a2, c2, rfl, r2⟩ := rowAt_own Hn.out o2)
  have b2 : Below w1.heap.size w1 w2 := Below.grown ((Below.refl _ _).alloc (Nat.le_refl _) _) g2 (by simp) (fun j hj => ((World.ownsRow_made (base := w1.heap.size) (e := 5) (size := 1) w1 #[] 0 (Nat.le_refl _) (Nat.zero_le _) rfl).lt j hj).1)
  have B2 := Lib.hid (Below.chain b1 b2)
  have s1 := b1.size
  have R2 := Lib.hid r2
  have O2 := Lib.hid o2
  clear r2 o2 g2 b2 b1 H1
  refine (C13.out _ _ _ R2.out).mono ?_
  rintro e w3 ⟨v3, rfl, rec3, b3⟩
  have ba : ∀ o o', Below w3.heap.size w3 ((w3.alloc o).alloc o') := fun o o' => (two_blocks w3 o o').2.2
  have B3 := Lib.hid (fun o o' => Below.chain (Below.chain B2.out b3) (ba o o'))
  have O2w := Lib.hid (fun o o' => ownsRow_next O2.out (Below.chain b3 (ba o o')))
  have REC := Lib.hid (fun o o' => rec3.next (ba o o'))
  have y1 : ∀ o o', (convert 28 9 (.slice a2 n c2)).run Try.prog ((w3.alloc o).alloc o') = .ok (.string ⟨xs.toArray⟩) ((w3.alloc o).alloc o') := fun o o' => conv_row Hn.out (R2.out.next (Below.chain b3 (ba o o')))
  have y2 : ∀ o o', (convert 28 9 (.slice a n cap)).run Try.prog ((w3.alloc o).alloc o') = .ok (.string ⟨xs.toArray⟩) ((w3.alloc o).alloc o') := fun o o' => conv_row Hn.out (H.out.next (B3.out o o'))
  generalize (⟨xs.toArray⟩ : ByteArray) = Z at y1 y2
  obtain ⟨a3, c3, rfl⟩ := recs_slice rec3
  have hq2 : ∀ q, (Value.slice a2 n c2).ownBlock = some q → q < w2.heap.size := fun q hq => (O2.out.lt q hq).2
  have HQ2 := Lib.hid hq2
  simp only [hcells, scells]
  clear b3 R2 B2 rec3 ba hq2
  go_wp2_with fail
  clear y1 y2
  have B3x := Lib.hid (B3.out (.cells #[.bool m.big, .bool m.nano, .int .u32 (m.snap : Int), .int .u32 (m.link : Int)] 24) (.cells #[.int .i64 (at' : Int), .int .i64 (er : Int)] 36))
  have O2x := Lib.hid (O2w.out (.cells #[.bool m.big, .bool m.nano, .int .u32 (m.snap : Int), .int .u32 (m.link : Int)] 24) (.cells #[.int .i64 (at' : Int), .int .i64 (er : Int)] 36))
  have RECx := Lib.hid (REC.out (.cells #[.bool m.big, .bool m.nano, .int .u32 (m.snap : Int), .int .u32 (m.link : Int)] 24) (.cells #[.int .i64 (at' : Int), .int .i64 (er : Int)] 36))
  clear B3 O2w REC
  generalize (w3.alloc (.cells #[.bool m.big, .bool m.nano, .int .u32 (m.snap : Int), .int .u32 (m.link : Int)] 24)).alloc (.cells #[.int .i64 (at' : Int), .int .i64 (er : Int)] 36) = w4 at *
  go_loopw [7] (fun i wr => ∃ (k : Nat) (ys : List UInt8), k ≤ n ∧ i = .int .i64 (k : Int) ∧ ys.length = n ∧ wr.ownsRow w1.heap.size 5 1 (.slice a2 n c2) n (Lib.byteCells ys) ∧ w4.grownBy wr (Value.slice a2 n c2).ownBlock ∧ Below w1.heap.size w4 wr) (fun i _ => n - (intOf i).toNat)
  case atStart => exact ⟨0, xs, Nat.zero_le _, rfl, Hn.out, O2x.out, ⟨rfl, rfl, rfl, Nat.le_refl _, fun _ _ _ => rfl⟩, Below.refl _ _⟩
  case round =>
    obtain ⟨k, ys, hk, rfl, hyl, hown, hgr, hbw⟩ := hrel
    by_cases hlt : (k : Int) < (n : Int)
    · have hk' : k < n := by omega
      rcases hown.2 with ⟨hv, h0⟩ | ⟨g, c', cur, hv, hB, _, _, _, _, _⟩
      · omega
      · simp only [Value.slice.injEq, true_and] at hv
        obtain ⟨rfl, rfl⟩ := hv
        have hcell := hown.cellAt k (by omega)
        have hfz := hown.frozenAt k
        have hyk : (Lib.byteCells ys)[k]? = some (.int .u8 ((ys[k]'(by omega)).toNat : Int)) := by simp [Lib.byteCells, hyl, hk']
        rw [hyk] at hcell
        clear hyk
        obtain ⟨y, hy⟩ : ∃ y, y = ys[k]'(by omega) := ⟨_, rfl⟩
        rw [← hy] at hcell
        have hy255 := y.toNat_lt
        clear hy
        have hst := hown.stored k (.int .u8 ((y + 1).toNat : Int))
        rw [← cells_set] at hst
        have Hst := Lib.hid hst
        have hvy : ((y + 1).toNat : Int) = ((y.toNat : Int) + 1) % 256 := by simp
        have Hvy := Lib.hid hvy
        clear hst hvy
        go_wp2
        go_roundw
        case rel => exact ⟨k + 1, ys.set k (y + 1), by omega, by go_num, by simpa using hyl, by rw [← Hvy.out]; exact Hst.out.1, by rw [← Hvy.out]; exact grownBy_trans hgr Hst.out.2, by rw [← Hvy.out]; exact hbw.setCell hB _⟩
        case measure => simp [intOf]; omega
    · have hkl : k = n := by omega
      subst hkl
      have b0r : Below w.heap.size w wr := B3x.out.trans (hbw.mono s1)
      have B4 := Lib.hid b0r
      obtain ⟨a4, c4, e4, ra4⟩ := (RECx.out.kept' hgr HQ2.out).at Hok.out
      simp only [Value.slice.injEq, true_and] at e4
      obtain ⟨rfl, rfl⟩ := e4
      have A4 := Lib.hid ra4
      clear ra4 b0r hgr hbw hown
      go_wp2_with fail
      refine (C14.out _ _ _ (H.out.next B4.out)).mono ?_
      rintro e w5 ⟨v5, rfl, rec5, b5⟩
      obtain ⟨a5, c5, rfl, ra5⟩ := rec5.at Hok.out
      have ba : ∀ o o', Below w5.heap.size w5 ((w5.alloc o).alloc o') := fun o o' => (two_blocks w5 o o').2.2
      have A5 := Lib.hid (fun o o' => A4.out.next (Below.chain b5 (ba o o')))
      have D5 := Lib.hid (fun o o' => ra5.next (ba o o'))
      have B5 := Lib.hid (fun o o' => Below.chain (Below.chain B4.out b5) (ba o o'))
      simp only [hcells, scells]
      clear ra5 rec5 b5 ba
      go_wp2_with fail
      refine (same_any _ _ _ _ _ L _ rfl (by omega) (A5.out _ _) (D5.out _ _)).mono ?_
      rintro e w6 ⟨rfl, b6⟩
      have B6 := Lib.hid (Below.chain (B5.out _ _) b6)
      clear b6
      go_wp2
      go_ret
      exact ⟨rfl, B6.out⟩
theorem keeps_walk (a : Option Addr) (cap : Nat) (xs : List UInt8) (w : World) (h : RowAt w a cap xs) :
    Calls Try.prog 8 #[.slice a xs.length cap] w fun e w' => e = .returned (.bool true) ∧ Below w.heap.size w w' := by
  by_cases hg : (140000 : Int) < (xs.length : Int)
  · exact keeps_long a _ cap w hg
  · exact keeps_short a cap _ xs w rfl h hg
end Go.Proofs.Ytfkjjolohphaoaa
