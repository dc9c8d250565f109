/- The walk of PacketKeeps. -/
import Derived.Test.YtbpkhjjabnboaaaPj
namespace Go.Proofs.Ytbpkhjjabnboaaa
open Go.RowKit S2 S12

theorem own_kept' {w w' : World} {B e s n : Nat} {v : Value} {xs : List Value} {r : Option Nat} (h : w.ownsRow B e s v n xs) (hg : w.grownBy w' r) (hr : ∀ q, r = some q → q < B) : w'.ownsRow B e s v n xs := by
  refine h.kept hg ?_
  cases hv : v.ownBlock with
  | none => exact .inl rfl
  | some k => right; intro e1; have := (h.lt k hv).1; have := hr k e1.symm; omega
/-- What is read may be put. -/
theorem get_may (b : List UInt8) : Pk.err (Pk.get b).1 = 0 := by
  by_cases h : (Pk.get b).2 = 0
  · exact (Pk.put_get b h).1
  · rw [Pk.get_bad h]; decide +kernel

theorem keeps_long (a : Option Addr) (len cap : Nat) (w : World) (hg : (3000 : Int) < (len : Int)) :
    Calls Try.prog 7 #[.slice a len cap] w fun e w' => e = .returned (.bool true) ∧ Below w.heap.size w w' := by
  go_enter Try.func7, Try.ntmps7
  go_wp2_with fail
  refine (awake_any w).mono ?_
  rintro e w1 ⟨rfl, b1⟩
  go_wp2_with fail
  refine (awake_any w1).mono ?_
  rintro e w2 ⟨rfl, b2⟩
  go_wp2
  go_ret
  exact ⟨rfl, Below.chain b1 b2⟩


set_option maxRecDepth 100000 in
set_option maxHeartbeats 2000000 in
theorem keeps_short (a : Option Addr) (cap n : Nat) (xs : List UInt8) (w : World) (hn : xs.length = n) (h : RowAt w a cap xs) (hg : ¬ (3000 : Int) < (n : Int)) :
    Calls Try.prog 7 #[.slice a n cap] w fun e w' => e = .returned (.bool true) ∧ Below w.heap.size w w' := by
  have c1 := fun A C W (h : RowAt W A C xs) => get_any A n C xs W hn (by omega) h
  have c2 := fun A C W (h : RowAt W A C xs) => refGet_any A n C xs W hn (by omega) h
  have hE := get_may xs
  have hL := Pk.get_one xs
  rw [hn] at hL
  generalize Pk.get xs = A at *
  obtain ⟨x, er⟩ := A
  simp only at hE hL
  have hB := Pk.bytes_len x
  have hz : Pk.size x = 4 + x.data.length := rfl
  have hM := Pk.magic_len x
  have hJ := Pk.rejected_len x
  have H := Lib.hid h
  have C1 := Lib.hid c1
  have C2 := Lib.hid c2
  have Hn := Lib.hid hn
  have HE := Lib.hid hE
  obtain ⟨nx, hnx⟩ : ∃ nx, x.data.length = nx := ⟨_, rfl⟩
  have HX := Lib.hid hnx
  have P1 := Lib.hid (fun p c (W : World) (r : RowAt W p c x.data) => put_any x p nx c W hnx (by omega) r)
  have P2 := Lib.hid (fun p c (W : World) (r : RowAt W p c x.data) => magic_any x p nx c W hnx (by omega) r)
  have P3 := Lib.hid (fun p c (W : World) (r : RowAt W p c x.data) => rejected_any x p nx c W hnx (by omega) r)
  have P4 := Lib.hid (fun p c q d (W : World) (r : RowAt W p c x.data) (s : RowAt W q d x.data) => by have := refSame_any x x p q nx nx c d W hnx hnx r s; rw [decide_eq_true (rfl : x = x)] at this; exact this)
  simp only [pcells] at P1 P2 P3 P4
  rw [hnx] at hL hz hM hJ
  rw [hz] at hB
  clear h c1 c2 hn hE hnx hz
  go_enter Try.func7, Try.ntmps7
  go_wp2_with fail
  refine (awake_any w).mono ?_
  rintro e w1 ⟨rfl, b1⟩
  have H1 := Lib.hid (H.out.next b1)
  go_wp2_with (at_builtin; refine wpList_append_row rfl (.tmp 28) (.tmp 29) rfl w1.heap.size _ 0 [] rfl (World.ownsRow_made w1 #[] 0 (Nat.le_refl _) (Nat.zero_le _) rfl) a n cap xs rfl Hn.out (rowAt_alloc H1.out _) (by omega) (by simp) ?_; intro v2 w2 o2 g2; rw [Nat.zero_add, List.nil_append] at o2; obtain ⟨a2, c2, rfl, r2⟩ := rowAt_own Hn.out o2)
  have b2 : Below w1.heap.size w1 w2 := Below.grown ((Below.refl _ _).alloc (Nat.le_refl _) _) g2 (by simp) (fun j hj => ((World.ownsRow_made (base := w1.heap.size) (e := 5) (size := 1) w1 #[] 0 (Nat.le_refl _) (Nat.zero_le _) rfl).lt j hj).1)
  have B2 := Lib.hid (Below.chain b1 b2)
  have s1 := b1.size
  have R2 := Lib.hid r2
  have O2 := Lib.hid o2
  clear r2 o2 g2 b2 b1 H1
  refine (C1.out _ _ _ R2.out).mono ?_
  intro e w3 h3
  obtain ⟨a3, c3, rfl, o3, _, b3⟩ := h3.row
  simp only [HX.out, pcells] at o3 ⊢
  have hq2 : ∀ q, (Value.slice a2 n c2).ownBlock = some q → q < w2.heap.size := fun q hq => (O2.out.lt q hq).2
  have HQ2 := Lib.hid hq2
  have s3 := b3.size
  have bb : Below w2.heap.size w2 (w3.alloc (.cells #[.int .i64 x.code, .int .i64 x.id, .slice a3 nx c3] 24)) := Below.chain b3 (below_one _ _)
  have B3x := Lib.hid (Below.chain B2.out bb)
  have O2x := Lib.hid (ownsRow_next O2.out bb)
  have O3x := Lib.hid (ownsRow_next o3 (below_one w3 (.cells #[.int .i64 x.code, .int .i64 x.id, .slice a3 nx c3] 24)))
  have U3x := Lib.hid (heap_alloc_new w3 (.cells #[.int .i64 x.code, .int .i64 x.id, .slice a3 nx c3] 24))
  have y1 : (convert 22 9 (.slice a2 n c2)).run Try.prog (w3.alloc (.cells #[.int .i64 x.code, .int .i64 x.id, .slice a3 nx c3] 24)) = .ok (.string ⟨xs.toArray⟩) (w3.alloc (.cells #[.int .i64 x.code, .int .i64 x.id, .slice a3 nx c3] 24)) := conv_row Hn.out (R2.out.next bb)
  have y2 : (convert 22 9 (.slice a n cap)).run Try.prog (w3.alloc (.cells #[.int .i64 x.code, .int .i64 x.id, .slice a3 nx c3] 24)) = .ok (.string ⟨xs.toArray⟩) (w3.alloc (.cells #[.int .i64 x.code, .int .i64 x.id, .slice a3 nx c3] 24)) := conv_row Hn.out (H.out.next B3x.out)
  generalize (⟨xs.toArray⟩ : ByteArray) = Z at y1 y2
  clear b3 R2 B2 o3 hq2 bb h3
  go_wp2_with fail
  clear y1 y2
  generalize w3.alloc (.cells #[.int .i64 x.code, .int .i64 x.id, .slice a3 nx c3] 24) = w4 at *
  generalize w3.heap.size = U at *
  go_loopw [6] (fun i wr => ∃ (k : Nat) (ys : List UInt8), k ≤ n ∧ i = .int .i64 (k : Int) ∧ ys.length = n ∧ wr.ownsRow w1.heap.size 5 1 (.slice a2 n c2) n (Lib.byteCells ys) ∧ w4.grownBy wr (Value.slice a2 n c2).ownBlock ∧ Below w1.heap.size w4 wr) (fun i _ => n - (intOf i).toNat)
  case atStart => exact ⟨0, xs, Nat.zero_le _, rfl, Hn.out, O2x.out, ⟨rfl, rfl, rfl, Nat.le_refl _, fun _ _ _ => rfl⟩, Below.refl _ _⟩
  case round =>
    obtain ⟨k, ys, hk, rfl, hyl, hown, hgr, hbw⟩ := hrel
    by_cases hlt : (k : Int) < (n : Int)
    · skip
      have hk' : k < n := by omega
      rcases hown.2 with ⟨hv, h0⟩ | ⟨g, c', cur, hv, hB', _, _, _, _, _⟩
      · omega
      · simp only [Value.slice.injEq, true_and] at hv
        obtain ⟨rfl, rfl⟩ := hv
        have hcell := hown.cellAt k (by omega)
        have hfz := hown.frozenAt k
        have hyk : (Lib.byteCells ys)[k]? = some (.int .u8 ((ys[k]'(by omega)).toNat : Int)) := by simp [Lib.byteCells, hyl, hk']
        rw [hyk] at hcell
        clear hyk
        obtain ⟨y, hy⟩ : ∃ y, y = ys[k]'(by omega) := ⟨_, rfl⟩
        rw [← hy] at hcell
        have hy255 := y.toNat_lt
        clear hy
        have hst := hown.stored k (.int .u8 ((y + 1).toNat : Int))
        rw [← cells_set] at hst
        have Hst := Lib.hid hst
        have hvy : ((y + 1).toNat : Int) = ((y.toNat : Int) + 1) % 256 := by simp
        have Hvy := Lib.hid hvy
        clear hst hvy
        go_wp2
        go_roundw
        case rel => exact ⟨k + 1, ys.set k (y + 1), by omega, by go_num, by simpa using hyl, by rw [← Hvy.out]; exact Hst.out.1, by rw [← Hvy.out]; exact grownBy_trans hgr Hst.out.2, by rw [← Hvy.out]; exact hbw.setCell hB' _⟩
        case measure => simp [intOf]; omega
    · have hkl : k = n := by omega
      subst hkl
      have b0r : Below w.heap.size w wr := B3x.out.trans (hbw.mono s1)
      have B4 := Lib.hid b0r
      obtain ⟨p4, q4, e4, ra4⟩ := rowAt_own HX.out (own_kept' O3x.out hgr HQ2.out)
      simp only [Value.slice.injEq, true_and] at e4
      obtain ⟨rfl, rfl⟩ := e4
      have A4 := Lib.hid ra4
      have T4 : Hid (wr.heap[U]? = some (.cells #[.int .i64 x.code, .int .i64 x.id, .slice a3 nx c3] 24 (0, 0))) := by
        show wr.heap[U]? = _
        rw [hgr.block U (lt_of_block U3x.out) (fun e => by have := HQ2.out U e.symm; omega)]
        exact U3x.out
      clear ra4 b0r hgr hbw hown
      go_wp2_with fail
      refine (C2.out _ _ _ (H.out.next B4.out)).mono ?_
      intro e w5 h5
      obtain ⟨a5, c5, rfl, _, ra5, b5⟩ := h5.row
      simp only [HX.out, pcells]
      have bb : Below wr.heap.size wr (w5.alloc (.cells #[.int .i64 x.code, .int .i64 x.id, .slice a5 nx c5] 24)) := Below.chain b5 (below_one _ _)
      have A6 := Lib.hid (A4.out.next bb)
      have D6 : Hid (RowAt (w5.alloc (.cells #[.int .i64 x.code, .int .i64 x.id, .slice a5 nx c5] 24)) a5 c5 x.data) := ra5.next (below_one _ _)
      have B6 := Lib.hid (Below.chain B4.out bb)
      have T6 := block_next T4.out bb
      have V6 := heap_alloc_new w5 (.cells #[.int .i64 x.code, .int .i64 x.id, .slice a5 nx c5] 24)
      clear ra5 b5 bb A4 B4 h5 T4
      go_wp2_with (first | (refine wpList_load_row rfl 24 (.tmp 4) rfl U rfl 24 #[.int .i64 x.code, .int .i64 x.id, .slice a3 nx c3] (0, 0) _ T6 Try.underlying24 rfl infoPkt ?_) | (refine wpList_load_row rfl 24 (.tmp 7) rfl w5.heap.size rfl 24 #[.int .i64 x.code, .int .i64 x.id, .slice a5 nx c5] (0, 0) _ V6 Try.underlying24 rfl infoPkt ?_))
      generalize w5.alloc (.cells #[.int .i64 x.code, .int .i64 x.id, .slice a5 nx c5] 24) = w6 at *
      generalize w5.heap.size = V at *
      refine (P4.out a3 c3 a5 c5 w6 A6.out D6.out).mono ?_
      rintro e w7 ⟨rfl, b7⟩
      have A7 := Lib.hid (A6.out.next b7)
      have D7 := Lib.hid (D6.out.next b7)
      have T7 := block_next T6 b7
      have V7 := Lib.hid (block_next V6 b7)
      have B7 := Lib.hid (Below.chain B6.out b7)
      clear b7 A6 D6 B6 T6 V6
      go_wp2_with (refine wpList_load_row rfl 24 (.tmp 4) rfl U rfl 24 #[.int .i64 x.code, .int .i64 x.id, .slice a3 nx c3] (0, 0) _ T7 Try.underlying24 rfl infoPkt ?_)
      refine (P1.out a3 c3 w7 A7.out).mono ?_
      intro e w8 h8
      obtain ⟨ax, cx, rfl, rx, b8, o8⟩ := put_fine h8 HE.out
      generalize hMX : (Pk.bytes x).length = M at *
      have O8 := Lib.hid o8
      have HQ8 : Hid (∀ q, (Value.slice ax M cx).ownBlock = some q → q < w8.heap.size) := fun q hq => (o8.lt q hq).2
      have HM := Lib.hid hMX
      have A8 := Lib.hid (A7.out.next b8)
      have BL8 := Lib.hid b8
      have T8 := block_next T7 b8
      clear h8 rx b8 o8 hMX
      go_wp2_with (refine wpList_load_row rfl 24 (.tmp 4) rfl U rfl 24 #[.int .i64 x.code, .int .i64 x.id, .slice a3 nx c3] (0, 0) _ T8 Try.underlying24 rfl infoPkt ?_)
      refine (P2.out a3 c3 w8 A8.out).mono ?_
      intro e w9 h9
      obtain ⟨ad, cd, rfl, o9, _, b9⟩ := h9.row
      generalize Pk.magic x = MG at *
      obtain ⟨mn, ds, mo⟩ := MG
      simp only at hM o9 ⊢
      obtain ⟨md, hmd⟩ : ∃ md, ds.length = md := ⟨_, rfl⟩
      rw [hmd] at hM o9 ⊢
      have O9 := Lib.hid o9
      have HMD := Lib.hid hmd
      have HQ9 : Hid (∀ q, (Value.slice ad md cd).ownBlock = some q → q < w9.heap.size) := fun q hq => (o9.lt q hq).2
      have O8' := Lib.hid (ownsRow_next O8.out b9)
      have A9 := Lib.hid (A8.out.next b9)
      have T9 := block_next T8 b9
      have BL9 := Lib.hid (Below.chain BL8.out b9)
      have s7 := B7.out.size
      have s8 := BL8.out.size
      have s9 := b9.size
      clear b9 o9 hmd O8 h9 T8 A8
      go_wp2_with (refine wpList_load_row rfl 24 (.tmp 4) rfl U rfl 24 #[.int .i64 x.code, .int .i64 x.id, .slice a3 nx c3] (0, 0) _ T9 Try.underlying24 rfl infoPkt ?_)
      refine (P3.out a3 c3 w9 A9.out).mono ?_
      intro e w10 h10
      obtain ⟨ae, ce, rfl, o10, _, b10⟩ := h10.row
      generalize Pk.rejected x = RJ at *
      obtain ⟨rn, es, ro⟩ := RJ
      simp only at hJ o10 ⊢
      obtain ⟨me, hme⟩ : ∃ me, es.length = me := ⟨_, rfl⟩
      rw [hme] at hJ o10 ⊢
      have O10 := Lib.hid o10
      have HME := Lib.hid hme
      have O8x := Lib.hid (ownsRow_next O8'.out b10)
      have O9x := Lib.hid (ownsRow_next O9.out b10)
      have BL10 := Lib.hid (Below.chain BL9.out b10)
      clear b10 o10 hme O8' O9 h10 T9 A9
      go_wp2_with fail
      go_loopw [17] (fun i wr => ∃ (k : Nat) (ys : List UInt8), k ≤ M ∧ i = .int .i64 (k : Int) ∧ ys.length = M ∧ wr.ownsRow w7.heap.size 5 1 (.slice ax M cx) M (Lib.byteCells ys) ∧ Hid (wr.ownsRow w8.heap.size 5 1 (.slice ad md cd) md (Lib.byteCells ds)) ∧ Hid (wr.ownsRow w9.heap.size 5 1 (.slice ae me ce) me (Lib.byteCells es)) ∧ Below w7.heap.size w7 wr) (fun i _ => M - (intOf i).toNat)
      case atStart => exact ⟨0, Pk.bytes x, Nat.zero_le _, rfl, HM.out, O8x.out, O9x, O10, BL10.out⟩
      case round =>
        obtain ⟨k, ys, hk, rfl, hyl, hown, HDS, HES, hbw⟩ := hrel
        by_cases hlt : (k : Int) < (M : Int)
        · skip
          have hk' : k < M := by omega
          rcases hown.2 with ⟨hv, h0⟩ | ⟨g, c', cur, hv, hB', _, _, _, _, _⟩
          · omega
          · simp only [Value.slice.injEq, true_and] at hv
            obtain ⟨rfl, rfl⟩ := hv
            have hg8 := HQ8.out g rfl
            have hcell := hown.cellAt k (by omega)
            have hfz := hown.frozenAt k
            have hyk : (Lib.byteCells ys)[k]? = some (.int .u8 ((ys[k]'(by omega)).toNat : Int)) := by simp [Lib.byteCells, hyl, hk']
            rw [hyk] at hcell
            clear hyk
            obtain ⟨y, hy⟩ : ∃ y, y = ys[k]'(by omega) := ⟨_, rfl⟩
            rw [← hy] at hcell
            have hy255 := y.toNat_lt
            clear hy
            have hst := hown.stored k (.int .u8 ((y + 1).toNat : Int))
            rw [← cells_set] at hst
            have Hst := Lib.hid hst
            have hvy : ((y + 1).toNat : Int) = ((y.toNat : Int) + 1) % 256 := by simp
            have Hvy := Lib.hid hvy
            clear hst hvy
            go_wp2
            go_roundw
            case rel => exact ⟨k + 1, ys.set k (y + 1), by omega, by go_num, by simpa using hyl, by rw [← Hvy.out]; exact Hst.out.1, by rw [← Hvy.out]; exact ownsRow_set HDS.out hg8, by rw [← Hvy.out]; exact ownsRow_set HES.out (Nat.lt_of_lt_of_le hg8 s9), by rw [← Hvy.out]; exact hbw.setCell hB' _⟩
            case measure => simp [intOf]; omega
        · clear hown hyl
          go_wp2_with fail
          go_loopw [18] (fun i wr => ∃ (k : Nat) (ys : List UInt8), k ≤ md ∧ i = .int .i64 (k : Int) ∧ ys.length = md ∧ wr.ownsRow w8.heap.size 5 1 (.slice ad md cd) md (Lib.byteCells ys) ∧ Hid (wr.ownsRow w9.heap.size 5 1 (.slice ae me ce) me (Lib.byteCells es)) ∧ Below w7.heap.size w7 wr) (fun i _ => md - (intOf i).toNat)
          case atStart => exact ⟨0, ds, Nat.zero_le _, rfl, HMD.out, HDS.out, HES, hbw⟩
          case round =>
            clear hbw HES
            obtain ⟨k, ys, hk, rfl, hyl, hown, HES, hbw⟩ := hrel
            by_cases hlt : (k : Int) < (md : Int)
            · skip
              have hk' : k < md := by omega
              rcases hown.2 with ⟨hv, h0⟩ | ⟨g, c', cur, hv, hB', _, _, _, _, _⟩
              · omega
              · simp only [Value.slice.injEq, true_and] at hv
                obtain ⟨rfl, rfl⟩ := hv
                have hg9 := HQ9.out g rfl
                have hcell := hown.cellAt k (by omega)
                have hfz := hown.frozenAt k
                have hyk : (Lib.byteCells ys)[k]? = some (.int .u8 ((ys[k]'(by omega)).toNat : Int)) := by simp [Lib.byteCells, hyl, hk']
                rw [hyk] at hcell
                clear hyk
                obtain ⟨y, hy⟩ : ∃ y, y = ys[k]'(by omega) := ⟨_, rfl⟩
                rw [← hy] at hcell
                have hy255 := y.toNat_lt
                clear hy
                have hst := hown.stored k (.int .u8 ((y + 1).toNat : Int))
                rw [← cells_set] at hst
                have Hst := Lib.hid hst
                have hvy : ((y + 1).toNat : Int) = ((y.toNat : Int) + 1) % 256 := by simp
                have Hvy := Lib.hid hvy
                clear hst hvy
                go_wp2
                go_roundw
                case rel => exact ⟨k + 1, ys.set k (y + 1), by omega, by go_num, by simpa using hyl, by rw [← Hvy.out]; exact Hst.out.1, by rw [← Hvy.out]; exact ownsRow_set HES.out hg9, by rw [← Hvy.out]; exact hbw.setCell (Nat.le_trans s8 hB') _⟩
                case measure => simp [intOf]; omega
            · clear hown hyl
              go_wp2_with fail
              go_loopw [19] (fun i wr => ∃ (k : Nat) (ys : List UInt8), k ≤ me ∧ i = .int .i64 (k : Int) ∧ ys.length = me ∧ wr.ownsRow w9.heap.size 5 1 (.slice ae me ce) me (Lib.byteCells ys) ∧ Below w7.heap.size w7 wr) (fun i _ => me - (intOf i).toNat)
              case atStart => exact ⟨0, es, Nat.zero_le _, rfl, HME.out, HES.out, hbw⟩
              case round =>
                clear hbw
                obtain ⟨k, ys, hk, rfl, hyl, hown, hbw⟩ := hrel
                by_cases hlt : (k : Int) < (me : Int)
                · skip
                  have hk' : k < me := by omega
                  rcases hown.2 with ⟨hv, h0⟩ | ⟨g, c', cur, hv, hB', _, _, _, _, _⟩
                  · omega
                  · simp only [Value.slice.injEq, true_and] at hv
                    obtain ⟨rfl, rfl⟩ := hv
                    have hcell := hown.cellAt k (by omega)
                    have hfz := hown.frozenAt k
                    have hyk : (Lib.byteCells ys)[k]? = some (.int .u8 ((ys[k]'(by omega)).toNat : Int)) := by simp [Lib.byteCells, hyl, hk']
                    rw [hyk] at hcell
                    clear hyk
                    obtain ⟨y, hy⟩ : ∃ y, y = ys[k]'(by omega) := ⟨_, rfl⟩
                    rw [← hy] at hcell
                    have hy255 := y.toNat_lt
                    clear hy
                    have hst := hown.stored k (.int .u8 ((y + 1).toNat : Int))
                    rw [← cells_set] at hst
                    have Hst := Lib.hid hst
                    have hvy : ((y + 1).toNat : Int) = ((y.toNat : Int) + 1) % 256 := by simp
                    have Hvy := Lib.hid hvy
                    clear hst hvy
                    go_wp2
                    go_roundw
                    case rel => exact ⟨k + 1, ys.set k (y + 1), by omega, by go_num, by simpa using hyl, by rw [← Hvy.out]; exact Hst.out.1, by rw [← Hvy.out]; exact hbw.setCell (Nat.le_trans (Nat.le_trans s8 s9) hB') _⟩
                    case measure => simp [intOf]; omega
                · have A10 := A7.out.next hbw
                  have D10 := D7.out.next hbw
                  have T10 := block_next T7 hbw
                  have V10 := block_next V7.out hbw
                  have B10 := Lib.hid (Below.chain B7.out hbw)
                  clear hown hbw T7
                  go_wp2_with (first | (refine wpList_load_row rfl 24 (.tmp 4) rfl U rfl 24 #[.int .i64 x.code, .int .i64 x.id, .slice a3 nx c3] (0, 0) _ T10 Try.underlying24 rfl infoPkt ?_) | (refine wpList_load_row rfl 24 (.tmp 7) rfl V rfl 24 #[.int .i64 x.code, .int .i64 x.id, .slice a5 nx c5] (0, 0) _ V10 Try.underlying24 rfl infoPkt ?_))
                  refine (P4.out a3 c3 a5 c5 _ A10 D10).mono ?_
                  rintro e w11 ⟨rfl, b11⟩
                  have B11 := Lib.hid (Below.chain B10.out b11)
                  clear b11 T10 V10
                  go_wp2
                  go_ret
                  exact ⟨rfl, B11.out⟩
theorem keeps_walk (a : Option Addr) (cap : Nat) (xs : List UInt8) (w : World) (h : RowAt w a cap xs) :
    Calls Try.prog 7 #[.slice a xs.length cap] w fun e w' => e = .returned (.bool true) ∧ Below w.heap.size w w' := by
  by_cases hg : (3000 : Int) < (xs.length : Int)
  · exact keeps_long a _ cap w hg
  · exact keeps_short a cap _ xs w rfl h hg
end Go.Proofs.Ytbpkhjjabnboaaa
