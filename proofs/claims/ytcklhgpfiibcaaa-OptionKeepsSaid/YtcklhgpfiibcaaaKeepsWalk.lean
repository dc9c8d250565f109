/- The walk of OptionKeeps. -/
import Derived.Test.YtcklhgpfiibcaaaReadsWalk
namespace Go.Proofs.Ytcklhgpfiibcaaa
open Go.RowKit

theorem own_kept' {w w' : World} {B e s n : Nat} {v : Value} {xs : List Value} {r : Option Nat} (h : w.ownsRow B e s v n xs) (hg : w.grownBy w' r) (hr : ∀ q, r = some q → q < B) : w'.ownsRow B e s v n xs := by
  refine h.kept hg ?_
  cases hv : v.ownBlock with
  | none => exact .inl rfl
  | some k => right; intro e1; have := (h.lt k hv).1; have := hr k e1.symm; omega
theorem Opts.kept' {w w' : World} {B : Nat} {v : Value} {L : List Ot.O} {r : Option Nat} (h : Opts w B v L) (hg : w.grownBy w' r) (hr : ∀ q, r = some q → q < B) : Opts w' B v L := by
  obtain ⟨xs, ho, he⟩ := h
  refine ⟨xs, own_kept' ho hg hr, fun j hj => ?_⟩
  obtain ⟨d, h1, h2⟩ := he j hj
  exact ⟨d, h1, own_kept' h2 hg hr⟩

theorem find_short (L : List Ot.O) (t : Int) (h : ∀ x ∈ L, x.data.length ≤ 300000) : ((Ot.find L t).getD []).length ≤ 300000 := by
  induction L with
  | nil => simp [Ot.find]
  | cons x l ih =>
    rw [Ot.find]
    split
    · exact h x (by simp)
    · exact ih (fun y hy => h y (by simp [hy]))

theorem keeps_long (a : Option Addr) (len cap : Nat) (t : Int) (w : World) (hg : (3000 : Int) < (len : Int)) :
    Calls Try.prog 8 #[.slice a len cap, .int .i64 t] w fun e w' => e = .returned (.bool true) ∧ Below w.heap.size w w' := by
  go_enter Try.func8, Try.ntmps8
  go_wp2_with fail
  refine (awake_any w).mono ?_
  rintro e w1 ⟨rfl, b1⟩
  go_wp2_with fail
  refine (awake_any w1).mono ?_
  rintro e w2 ⟨rfl, b2⟩
  go_wp2
  go_ret
  exact ⟨rfl, Below.chain b1 b2⟩


set_option maxRecDepth 100000 in
set_option maxHeartbeats 2000000 in
theorem keeps_short (a : Option Addr) (cap n : Nat) (t : Int) (xs : List UInt8) (w : World) (hn : xs.length = n) (h : RowAt w a cap xs) (hg : ¬ (3000 : Int) < (n : Int)) :
    Calls Try.prog 8 #[.slice a n cap, .int .i64 t] w fun e w' => e = .returned (.bool true) ∧ Below w.heap.size w w' := by
  have c1 := fun A C W (h : RowAt W A C xs) => read_any A n C xs W hn (by omega) h
  have c2 := fun A C W (h : RowAt W A C xs) => refRead_any A n C xs W hn (by omega) h
  have tl := Ot.read_told xs
  have hll := tl.many
  have hfi := tl.fine
  have hsh := tl.short
  rw [hn] at hll
  generalize Ot.read xs = A at *
  obtain ⟨L, at', er⟩ := A
  simp only at hll hfi hsh
  have H := Lib.hid h
  have C1 := Lib.hid c1
  have C2 := Lib.hid c2
  have Hn := Lib.hid hn
  have HE := Lib.hid ((Ot.err_zero L).2 hfi)
  have hby : (Ot.bytes L).length ≤ 765000 := by have := Ot.bytes_le L hfi; omega
  have HSH : Hid (∀ x ∈ L, x.data.length ≤ 300000) := fun x hx => by have := hsh x hx; omega
  clear h c1 c2 hn hfi tl hsh
  go_enter Try.func8, Try.ntmps8
  go_wp2_with fail
  refine (awake_any w).mono ?_
  rintro e w1 ⟨rfl, b1⟩
  have H1 := Lib.hid (H.out.next b1)
  go_wp2_with (at_builtin; refine wpList_append_row rfl (.tmp 25) (.tmp 26) rfl w1.heap.size _ 0 [] rfl (World.ownsRow_made w1 #[] 0 (Nat.le_refl _) (Nat.zero_le _) rfl) a n cap xs rfl Hn.out (rowAt_alloc H1.out _) (by omega) (by simp) ?_; intro v2 w2 o2 g2; rw [Nat.zero_add, List.nil_append] at o2; obtain ⟨a2, c2, rfl, r2⟩ := rowAt_own Hn.out o2)
  have b2 : Below w1.heap.size w1 w2 := Below.grown ((Below.refl _ _).alloc (Nat.le_refl _) _) g2 (by simp) (fun j hj => ((World.ownsRow_made (base := w1.heap.size) (e := 5) (size := 1) w1 #[] 0 (Nat.le_refl _) (Nat.zero_le _) rfl).lt j hj).1)
  have B2 := Lib.hid (Below.chain b1 b2)
  have s1 := b1.size
  have R2 := Lib.hid r2
  have O2 := Lib.hid o2
  clear r2 o2 g2 b2 b1 H1
  refine (C1.out _ _ _ R2.out).mono ?_
  rintro e w3 ⟨v3, rfl, rec3, b3⟩
  obtain ⟨a3, c3, rfl⟩ := opts_slice rec3
  have hq2 : ∀ q, (Value.slice a2 n c2).ownBlock = some q → q < w2.heap.size := fun q hq => (O2.out.lt q hq).2
  have HQ2 := Lib.hid hq2
  have bb : Below w2.heap.size w2 (w3.alloc (.cells #[.int .i64 (at' : Int), .int .i64 (er : Int)] 32)) := Below.chain b3 (below_one _ _)
  have B3x := Lib.hid (Below.chain B2.out bb)
  have O2x := Lib.hid (ownsRow_next O2.out bb)
  have RECx : Hid (Opts (w3.alloc (.cells #[.int .i64 (at' : Int), .int .i64 (er : Int)] 32)) w2.heap.size (.slice a3 L.length c3) L) := rec3.next (below_one _ _)
  have y1 : (convert 25 9 (.slice a2 n c2)).run Try.prog (w3.alloc (.cells #[.int .i64 (at' : Int), .int .i64 (er : Int)] 32)) = .ok (.string ⟨xs.toArray⟩) (w3.alloc (.cells #[.int .i64 (at' : Int), .int .i64 (er : Int)] 32)) := conv_row Hn.out (R2.out.next bb)
  have y2 : (convert 25 9 (.slice a n cap)).run Try.prog (w3.alloc (.cells #[.int .i64 (at' : Int), .int .i64 (er : Int)] 32)) = .ok (.string ⟨xs.toArray⟩) (w3.alloc (.cells #[.int .i64 (at' : Int), .int .i64 (er : Int)] 32)) := conv_row Hn.out (H.out.next B3x.out)
  generalize (⟨xs.toArray⟩ : ByteArray) = Z at y1 y2
  simp only [scells]
  clear b3 R2 B2 rec3 hq2 bb
  go_wp2_with fail
  clear y1 y2
  generalize w3.alloc (.cells #[.int .i64 (at' : Int), .int .i64 (er : Int)] 32) = w4 at *
  generalize w3.heap.size = U at *
  go_loopw [8] (fun i wr => ∃ (k : Nat) (ys : List UInt8), k ≤ n ∧ i = .int .i64 (k : Int) ∧ ys.length = n ∧ wr.ownsRow w1.heap.size 5 1 (.slice a2 n c2) n (Lib.byteCells ys) ∧ w4.grownBy wr (Value.slice a2 n c2).ownBlock ∧ Below w1.heap.size w4 wr) (fun i _ => n - (intOf i).toNat)
  case atStart => exact ⟨0, xs, Nat.zero_le _, rfl, Hn.out, O2x.out, ⟨rfl, rfl, rfl, Nat.le_refl _, fun _ _ _ => rfl⟩, Below.refl _ _⟩
  case round =>
    obtain ⟨k, ys, hk, rfl, hyl, hown, hgr, hbw⟩ := hrel
    by_cases hlt : (k : Int) < (n : Int)
    · skip
      have hk' : k < n := by omega
      rcases hown.2 with ⟨hv, h0⟩ | ⟨g, c', cur, hv, hB, _, _, _, _, _⟩
      · omega
      · simp only [Value.slice.injEq, true_and] at hv
        obtain ⟨rfl, rfl⟩ := hv
        have hcell := hown.cellAt k (by omega)
        have hfz := hown.frozenAt k
        have hyk : (Lib.byteCells ys)[k]? = some (.int .u8 ((ys[k]'(by omega)).toNat : Int)) := by simp [Lib.byteCells, hyl, hk']
        rw [hyk] at hcell
        clear hyk
        obtain ⟨y, hy⟩ : ∃ y, y = ys[k]'(by omega) := ⟨_, rfl⟩
        rw [← hy] at hcell
        have hy255 := y.toNat_lt
        clear hy
        have hst := hown.stored k (.int .u8 ((y + 1).toNat : Int))
        rw [← cells_set] at hst
        have Hst := Lib.hid hst
        have hvy : ((y + 1).toNat : Int) = ((y.toNat : Int) + 1) % 256 := by simp
        have Hvy := Lib.hid hvy
        clear hst hvy
        go_wp2
        go_roundw
        case rel => exact ⟨k + 1, ys.set k (y + 1), by omega, by go_num, by simpa using hyl, by rw [← Hvy.out]; exact Hst.out.1, by rw [← Hvy.out]; exact grownBy_trans hgr Hst.out.2, by rw [← Hvy.out]; exact hbw.setCell hB _⟩
        case measure => simp [intOf]; omega
    · have hkl : k = n := by omega
      subst hkl
      have b0r : Below w.heap.size w wr := B3x.out.trans (hbw.mono s1)
      have B4 := Lib.hid b0r
      obtain ⟨a4, c4, e4, ra4⟩ := (RECx.out.kept' hgr HQ2.out).at
      simp only [Value.slice.injEq, true_and] at e4
      obtain ⟨rfl, rfl⟩ := e4
      have A4 := Lib.hid ra4
      clear ra4 b0r hgr hbw hown
      go_wp2_with fail
      refine (C2.out _ _ _ (H.out.next B4.out)).mono ?_
      rintro e w5 ⟨v5, rfl, rec5, b5⟩
      obtain ⟨a5, c5, rfl, ra5⟩ := rec5.at
      have bb : Below wr.heap.size wr (w5.alloc (.cells #[.int .i64 (at' : Int), .int .i64 (er : Int)] 32)) := Below.chain b5 (below_one _ _)
      have A6 := Lib.hid (A4.out.next bb)
      have D6 : Hid (OptsAt (w5.alloc (.cells #[.int .i64 (at' : Int), .int .i64 (er : Int)] 32)) a5 L) := ra5.next (below_one _ _)
      have B6 := Lib.hid (Below.chain B4.out bb)
      simp only [scells]
      clear ra5 rec5 b5 bb A4 B4
      go_wp2_with fail
      generalize w5.alloc (.cells #[.int .i64 (at' : Int), .int .i64 (er : Int)] 32) = w6 at *
      generalize w5.heap.size = V at *
      refine (refSame_any a3 a5 L.length L.length c3 c5 L L w6 rfl rfl (by omega) A6.out D6.out).mono ?_
      rintro e w7 ⟨rfl, b7⟩
      rw [decide_eq_true (rfl : L = L)]
      have A7 := Lib.hid (A6.out.next b7)
      have D7 := Lib.hid (D6.out.next b7)
      have B7 := Lib.hid (Below.chain B6.out b7)
      clear b7 A6 D6 B6
      go_wp2_with fail
      refine (put_any a3 L.length c3 L w7 rfl (by omega) A7.out).mono ?_
      intro e w8 h8
      obtain ⟨ax, cx, rfl, rx, b8, o8⟩ := put_fine h8 HE.out
      generalize hM : (Ot.bytes L).length = M at *
      have O8 := Lib.hid o8
      have HQ8 : Hid (∀ q, (Value.slice ax M cx).ownBlock = some q → q < w8.heap.size) := fun q hq => (o8.lt q hq).2
      have HM := Lib.hid hM
      have A8 := Lib.hid (A7.out.next b8)
      have BL8 := Lib.hid b8
      clear h8 rx b8 o8 hM
      go_wp2_with fail
      refine (find_any a3 L.length c3 L t w8 rfl (by omega) HSH.out A8.out).mono ?_
      rintro e w9 ⟨b9, v9, rfl, o9⟩
      have hdsl : ((Ot.find L t).getD []).length ≤ 300000 := find_short L t HSH.out
      generalize (Ot.find L t).isSome = ok at *
      generalize (Ot.find L t).getD [] = ds at *
      obtain ⟨md, hmd⟩ : ∃ md, ds.length = md := ⟨_, rfl⟩
      rw [hmd] at hdsl
      rw [hmd] at o9
      obtain ⟨ad, cd, rfl⟩ := own_slice o9
      have O9 := Lib.hid o9
      have HMD := Lib.hid hmd
      have O8' := Lib.hid (ownsRow_next O8.out b9)
      have BL9 := Lib.hid (Below.chain BL8.out b9)
      have s7 := B7.out.size
      have s8 := BL8.out.size
      clear b9 o9 hmd O8
      go_wp2_with fail
      go_loopw [15] (fun i wr => ∃ (k : Nat) (ys : List UInt8), k ≤ M ∧ i = .int .i64 (k : Int) ∧ ys.length = M ∧ wr.ownsRow w7.heap.size 5 1 (.slice ax M cx) M (Lib.byteCells ys) ∧ Hid (wr.ownsRow w8.heap.size 5 1 (.slice ad md cd) md (Lib.byteCells ds)) ∧ Below w7.heap.size w7 wr) (fun i _ => M - (intOf i).toNat)
      case atStart => exact ⟨0, Ot.bytes L, Nat.zero_le _, rfl, HM.out, O8'.out, O9, BL9.out⟩
      case round =>
        obtain ⟨k, ys, hk, rfl, hyl, hown, HDS, hbw⟩ := hrel
        by_cases hlt : (k : Int) < (M : Int)
        · skip
          have hk' : k < M := by omega
          rcases hown.2 with ⟨hv, h0⟩ | ⟨g, c', cur, hv, hB, _, _, _, _, _⟩
          · omega
          · simp only [Value.slice.injEq, true_and] at hv
            obtain ⟨rfl, rfl⟩ := hv
            have hcell := hown.cellAt k (by omega)
            have hfz := hown.frozenAt k
            have hyk : (Lib.byteCells ys)[k]? = some (.int .u8 ((ys[k]'(by omega)).toNat : Int)) := by simp [Lib.byteCells, hyl, hk']
            rw [hyk] at hcell
            clear hyk
            obtain ⟨y, hy⟩ : ∃ y, y = ys[k]'(by omega) := ⟨_, rfl⟩
            rw [← hy] at hcell
            have hy255 := y.toNat_lt
            clear hy
            have hst := hown.stored k (.int .u8 ((y + 1).toNat : Int))
            rw [← cells_set] at hst
            have Hst := Lib.hid hst
            have hvy : ((y + 1).toNat : Int) = ((y.toNat : Int) + 1) % 256 := by simp
            have Hvy := Lib.hid hvy
            clear hst hvy
            go_wp2
            go_roundw
            case rel => exact ⟨k + 1, ys.set k (y + 1), by omega, by go_num, by simpa using hyl, by rw [← Hvy.out]; exact Hst.out.1, by rw [← Hvy.out]; exact ownsRow_set HDS.out (HQ8.out g rfl), by rw [← Hvy.out]; exact hbw.setCell hB _⟩
            case measure => simp [intOf]; omega
        · clear hown hyl
          go_wp2_with fail
          go_loopw [16] (fun i wr => ∃ (k : Nat) (ys : List UInt8), k ≤ md ∧ i = .int .i64 (k : Int) ∧ ys.length = md ∧ wr.ownsRow w8.heap.size 5 1 (.slice ad md cd) md (Lib.byteCells ys) ∧ Below w7.heap.size w7 wr) (fun i _ => md - (intOf i).toNat)
          case atStart => exact ⟨0, ds, Nat.zero_le _, rfl, HMD.out, HDS.out, hbw⟩
          case round =>
            clear hbw
            obtain ⟨k, ys, hk, rfl, hyl, hown, hbw⟩ := hrel
            by_cases hlt : (k : Int) < (md : Int)
            · skip
              have hk' : k < md := by omega
              rcases hown.2 with ⟨hv, h0⟩ | ⟨g, c', cur, hv, hB, _, _, _, _, _⟩
              · omega
              · simp only [Value.slice.injEq, true_and] at hv
                obtain ⟨rfl, rfl⟩ := hv
                have hcell := hown.cellAt k (by omega)
                have hfz := hown.frozenAt k
                have hyk : (Lib.byteCells ys)[k]? = some (.int .u8 ((ys[k]'(by omega)).toNat : Int)) := by simp [Lib.byteCells, hyl, hk']
                rw [hyk] at hcell
                clear hyk
                obtain ⟨y, hy⟩ : ∃ y, y = ys[k]'(by omega) := ⟨_, rfl⟩
                rw [← hy] at hcell
                have hy255 := y.toNat_lt
                clear hy
                have hst := hown.stored k (.int .u8 ((y + 1).toNat : Int))
                rw [← cells_set] at hst
                have Hst := Lib.hid hst
                have hvy : ((y + 1).toNat : Int) = ((y.toNat : Int) + 1) % 256 := by simp
                have Hvy := Lib.hid hvy
                clear hst hvy
                go_wp2
                go_roundw
                case rel => exact ⟨k + 1, ys.set k (y + 1), by omega, by go_num, by simpa using hyl, by rw [← Hvy.out]; exact Hst.out.1, by rw [← Hvy.out]; exact hbw.setCell (Nat.le_trans s8 hB) _⟩
                case measure => simp [intOf]; omega
            · have A10 := A7.out.next hbw
              have D10 := D7.out.next hbw
              have B10 := Lib.hid (Below.chain B7.out hbw)
              clear hown hbw
              go_wp2_with fail
              refine (refSame_any a3 a5 L.length L.length c3 c5 L L _ rfl rfl (by omega) A10 D10).mono ?_
              rintro e w11 ⟨rfl, b11⟩
              rw [decide_eq_true (rfl : L = L)]
              have B11 := Lib.hid (Below.chain B10.out b11)
              clear b11
              go_wp2
              go_ret
              exact ⟨rfl, B11.out⟩
theorem keeps_walk (a : Option Addr) (cap : Nat) (xs : List UInt8) (t : Int) (w : World) (h : RowAt w a cap xs) :
    Calls Try.prog 8 #[.slice a xs.length cap, .int .i64 t] w fun e w' => e = .returned (.bool true) ∧ Below w.heap.size w w' := by
  by_cases hg : (3000 : Int) < (xs.length : Int)
  · exact keeps_long a _ cap t w hg
  · exact keeps_short a cap _ t xs w rfl h hg
end Go.Proofs.Ytcklhgpfiibcaaa
