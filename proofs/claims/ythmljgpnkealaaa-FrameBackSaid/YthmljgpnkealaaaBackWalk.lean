/- FrameBack: the walk. -/
import Derived.Test.YthmljgpnkealaaaPutsWalk
import Derived.Test.YthmljgpnkealaaaBackPlain
namespace Go.Proofs.Ythmljgpnkealaaa
open Go.RowKit
namespace Fr
theorem row_one (m : Nat) (wide : Bool) (b : List UInt8) (h : fault b = 0) : rowOf m wide [b] = (126 :: fr m wide b, 0) := by
  rw [rowOf_ok m wide [b] (by simp [err, h])]; simp [frs]
theorem row_none (m : Nat) (wide : Bool) (b : List UInt8) (h : ¬ fault b = 0) : rowOf m wide [b] = ([], fault b) := by
  have e : err [b] = fault b := by simp [err, h]
  rw [rowOf_bad m wide [b] (by rw [e]; exact h), e]
end Fr

set_option maxRecDepth 100000 in
set_option maxHeartbeats 4000000 in
theorem back_n (m : Nat) (wide : Bool) (a : Option Addr) (cap n : Nat) (L : List (List UInt8)) (aa : Option Addr) (ca na : Nat) (xs : List UInt8) (fl : Nat) (w : World) (hn : L.length = n) (hna : xs.length = na) (hm : m < 4294967296) (hfl : fl < 256) (h : PartsAt w a L) (hx : RowAt w aa ca xs) :
    Calls Try.prog 5 #[.slice a n cap, .int .u32 (m : Int), .bool wide, .slice aa na ca, .int .u8 (fl : Int)] w fun e w' => e = .returned (.bool true) ∧ Below w.heap.size w w' := by
  obtain ⟨i0, hi, hz0, hz1, hz2⟩ := info_parts info5
  have Hn := Lib.hid hn
  have Hna := Lib.hid hna
  have H := Lib.hid h
  have Hx := Lib.hid hx
  clear hn hna h hx
  go_enter Try.func5, Try.ntmps5
  go_wp2_with fail
  refine (awake_any _).mono ?_
  rintro e w1 ⟨rfl, b1⟩
  have H1 := Lib.hid (H.out.next b1)
  have X1 := Lib.hid (Hx.out.next b1)
  go_wp2_with fail
  refine (few_any a cap n L _ Hn.out H1.out).mono ?_
  rintro e w2 ⟨⟨r, rfl, hr⟩, h2⟩
  rw [h2]
  clear h2
  cases r with
  | false =>
    clear hr
    go_wp2_with fail
    refine (awake_any _).mono ?_
    rintro e w3 ⟨rfl, b3⟩
    go_wp2
    go_ret
    exact ⟨rfl, Below.chain b1 b3⟩
  | true =>
    obtain ⟨h50, h70⟩ := hr rfl
    clear hr
    have B1 := Lib.hid b1
    clear b1
    by_cases hg : (1000 : Int) < (na : Int)
    · go_wp2_with fail
      refine (awake_any _).mono ?_
      rintro e w3 ⟨rfl, b3⟩
      go_wp2
      go_ret
      exact ⟨rfl, Below.chain B1.out b3⟩
    · have hna3 : na ≤ 1000 := by omega
      have HF := Lib.hid h70
      clear h70
      go_wp2_with fail
      go_loopw [11, 12] (fun v i wr => ∃ k : Nat, k ≤ na ∧ i = .int .i64 (k : Int) ∧ wr.ownsRow w1.heap.size 5 1 v (Fr.noFlag (xs.take k)).length (Lib.byteCells (Fr.noFlag (xs.take k))) ∧ Below w1.heap.size w1 wr) (fun _ i _ => na - (intOf i).toNat)
      case atStart => exact ⟨0, Nat.zero_le _, rfl, World.ownsRow_nil _ _ _ _, Below.refl _ _⟩
      case round =>
        obtain ⟨k, hk, rfl, hown, hbw⟩ := hrel
        by_cases hlt : (k : Int) < (na : Int)
        · have hk' : k < xs.length := by rw [Hna.out]; omega
          rcases (X1.out.next hbw).bytes with h0 | ⟨b, off, rfl, hb, hc⟩
          · rw [h0] at hk'; simp at hk'
          · have hcell := hc k hk'
            have hst := Fr.noFlag_take xs k hk'
            have hle := Fr.noFlag_len (xs.take k)
            rw [List.length_take] at hle
            clear hc
            obtain ⟨x, hxk⟩ : ∃ x, x = xs[k] := ⟨_, rfl⟩
            rw [← hxk] at hcell hst
            clear hxk hk'
            obtain ⟨S, hS⟩ : ∃ S, S = Fr.noFlag (xs.take k) := ⟨_, rfl⟩
            rw [← hS] at hst hown hle
            clear hS
            have hS2 : S.length ≤ 1000 := by omega
            clear hle
            by_cases h6 : x.toNat = 126
            · rw [if_pos h6, List.append_nil] at hst
              have i6 : (x.toNat : Int) = 126 := by omega
              have Hst := Lib.hid hst
              have Ho := Lib.hid hown
              clear h6 hst hown
              go_wp2
              go_roundw
              case rel => exact ⟨k + 1, by omega, by go_num, by rw [Hst.out]; exact Ho.out, hbw⟩
              case measure => simp [intOf]; omega
            · rw [if_neg h6] at hst
              have i6 : ¬ (x.toNat : Int) = 126 := by omega
              have Hst := Lib.hid hst
              clear h6 hst
              go_wp2_with (at_builtin; refine wpList_append_own _ rfl _ _ 26 rfl w1.heap.size 5 i0 (.int .u8 0) 1 1 Try.underlying26 hi hz0 hz1 hz2 rfl (by decide) _ _ _ rfl (hown.alloc _) ⟨wr.heap.size, 0, none⟩ 1 1 [.int .u8 (x.toNat : Int)] rfl rfl (cell_one_new _ _ _) (fun u hu => by simp at hu; subst hu; rfl) (by unfold maxLen; omega) (by omega) (by have := hbw.size; simp; omega) ?_; intro v2 w2 hown2 hgr2 _)
              have hbw2 : Below w1.heap.size w1 w2 := Below.grown (hbw.alloc hbw.size _) hgr2 (by have := hbw.size; simp; omega) (fun j hj => (hown.lt j hj).1)
              have o3 : w2.ownsRow w1.heap.size 5 1 v2 (Fr.noFlag (xs.take (k + 1))).length (Lib.byteCells (Fr.noFlag (xs.take (k + 1)))) := by
                rw [Hst.out, List.length_append, Lib.byteCells_append]; exact hown2
              have O3 := Lib.hid o3
              clear o3 hown2 hgr2
              go_roundw
              case rel => exact ⟨k + 1, by omega, by go_num, O3.out, hbw2⟩
              case measure => simp [intOf]; omega
        · have hks : xs.take k = xs := List.take_of_length_le (by rw [Hna.out]; omega)
          rw [hks] at hown
          have hnf := Fr.noFlag_not xs
          have hle := Fr.noFlag_len xs
          rw [Hna.out] at hle
          generalize Fr.noFlag xs = A at hown hnf hle
          have hAl : A.length ≤ 1000 := by omega
          have Hnf := Lib.hid hnf
          have Ho := Lib.hid hown
          clear hks hnf hle hown X1
          obtain ⟨f, hf⟩ : ∃ f, f = fl % 4 := ⟨_, rfl⟩
          have hf3 : f ≤ 3 := by omega
          have hfi : (fl : Int) % 4 = (f : Int) := by omega
          clear hf
          go_wp2_with fail
          go_loopw [11, 13, 14] (fun v mn i wr => ∃ k : Nat, k ≤ n ∧ i = .int .i64 (k : Int) ∧ mn = .int .i64 (k : Int) ∧ Hid (Fr.err (L.take k) = 0) ∧ wr.ownsRow w1.heap.size 5 1 v (A ++ Fr.strm m wide f (L.take k)).length (Lib.byteCells (A ++ Fr.strm m wide f (L.take k))) ∧ Below w1.heap.size w1 wr) (fun _ _ i _ => n - (intOf i).toNat)
          case atStart => exact ⟨0, Nat.zero_le _, rfl, rfl, rfl, by show wr.ownsRow _ _ _ _ (A ++ []).length (Lib.byteCells (A ++ [])); rw [List.append_nil]; exact Ho.out, hbw⟩
          case round =>
            obtain ⟨k2, hk2, rfl, rfl, He, hown, hbw2⟩ := hrel
            clear Ho hbw
            by_cases hlt2 : (k2 : Int) < (n : Int)
            · have hk' : k2 < L.length := by rw [Hn.out]; omega
              obtain ⟨b, off, p, c, rfl, hcell, hrow⟩ := PartsAt.at (H1.out.next hbw2) k2 hk'
              have het := Fr.err_take L k2 hk' He.out
              have hft := Fr.strm_take m wide f L k2 hk'
              have hln := Fr.strm_len m wide f (L.take k2) hf3
              have hf1 := flat_le L k2
              have hf2 := flat_le L (k2 + 1)
              rw [flat_step L k2 hk', List.length_append] at hf2
              have hf3' := HF.out
              rw [List.length_take] at hln
              obtain ⟨x, hx⟩ : ∃ x, x = L[k2] := ⟨_, rfl⟩
              rw [← hx] at hcell hrow het hft hf2
              clear hx hk'
              obtain ⟨q, hq⟩ : ∃ q, x.length = q := ⟨_, rfl⟩
              rw [hq] at hcell
              have hpu := put_any m wide p c q x _ hq hm (by omega) hrow
              have hblk := World.block_lt_of_cell? _ _ hcell
              by_cases hz : Fr.fault x = 0
              · have hz2' := (Fr.fault_zero x).1 hz
                rw [Fr.row_one m wide x hz] at hpu
                have hfrl := Fr.fr_length m wide x
                have hszz := Fr.size_two wide
                obtain ⟨G, hG⟩ : ∃ G, G = A ++ Fr.strm m wide f (L.take k2) := ⟨_, rfl⟩
                have hft2 : A ++ Fr.strm m wide f (L.take (k2 + 1)) = G ++ ((126 :: Fr.fr m wide x) ++ List.replicate f 126) := by rw [hft, hG, List.append_assoc]; rfl
                obtain ⟨lg, hlg⟩ : ∃ lg, G.length = lg := ⟨_, rfl⟩
                have hl3 : lg ≤ 200000 := by rw [← hlg, hG, List.length_append]; omega
                rw [← hG] at hown
                rw [hlg] at hown
                obtain ⟨Y, hY⟩ : ∃ Y, Y = 126 :: Fr.fr m wide x := ⟨_, rfl⟩
                rw [← hY] at hpu hft2
                obtain ⟨ly, hly⟩ : ∃ ly, Y.length = ly := ⟨_, rfl⟩
                have hl4 : ly ≤ 200000 := by rw [← hly, hY, List.length_cons]; omega
                have Hpu := Lib.hid hpu
                have Hft := Lib.hid hft2
                have Het := Lib.hid (het.trans hz)
                have Ho := Lib.hid hown
                have Hly := Lib.hid hly
                have Hlg := Lib.hid hlg
                obtain ⟨av, cv, rfl⟩ := own_slice hown
                clear hpu hft2 hft het hown hz hz2' hfrl hszz hln hf1 hf2 hf3' hG hY hly hlg hrow hblk
                go_wp2_with fail
                refine Hpu.out.mono ?_
                intro e w3 h3
                obtain ⟨p3, c3, rfl, r3, b3⟩ := h3.row Hly.out
                have O3 := Lib.hid (ownsRow_next Ho.out b3)
                have R3 := Lib.hid r3
                have B3 := Lib.hid (hbw2.trans (b3.mono hbw2.size))
                have hs3 := B3.out.size
                clear h3 r3 b3 Ho Hpu hcell
                go_wp2_with (at_builtin; refine wpList_append_row rfl (.tmp 88) (.tmp 89) rfl w1.heap.size _ _ _ rfl O3.out p3 ly c3 Y rfl Hly.out R3.out (by omega) hs3 ?_; intro v4 w4 o4 g4; have b4 := Lib.hid (Below.grown B3.out g4 hs3 (fun j hj => (O3.out.lt j hj).1)); have O4 := Lib.hid o4; clear g4 o4)
                clear O3 R3 B3
                go_loopw [11, 17] (fun v i wr => ∃ j : Nat, j ≤ f ∧ i = .int .i64 (j : Int) ∧ wr.ownsRow w1.heap.size 5 1 v (lg + ly + j) (Lib.byteCells G ++ Lib.byteCells Y ++ Lib.byteCells (List.replicate j 126)) ∧ Below w1.heap.size w1 wr) (fun _ i _ => f - (intOf i).toNat)
                case atStart => exact ⟨0, Nat.zero_le _, rfl, by simpa [Lib.byteCells] using O4.out, b4.out⟩
                case round =>
                  obtain ⟨j, hj, rfl, hown3, hbw3⟩ := hrel
                  clear O4 b4
                  by_cases hlt3 : (j : Int) < (f : Int)
                  · go_wp2_with (at_builtin; refine wpList_append_own _ rfl _ _ 26 rfl w1.heap.size 5 i0 (.int .u8 0) 1 1 Try.underlying26 hi hz0 hz1 hz2 rfl (by decide) _ _ _ rfl (hown3.alloc _) ⟨wr.heap.size, 0, none⟩ 1 1 [.int .u8 126] rfl rfl (cell_one_new _ _ _) (fun u hu => by simp at hu; subst hu; rfl) (by unfold maxLen; omega) (by omega) (by have := hbw3.size; simp; omega) ?_; intro v5 w5 o5 g5 h55; clear h55)
                    have b5 : Below w1.heap.size w1 w5 := Below.grown (hbw3.alloc hbw3.size _) g5 (by have := hbw3.size; simp; omega) (fun j hj => (hown3.lt j hj).1)
                    have o6 : w5.ownsRow w1.heap.size 5 1 v5 (lg + ly + (j + 1)) (Lib.byteCells G ++ Lib.byteCells Y ++ Lib.byteCells (List.replicate (j + 1) 126)) := by
                      rw [List.replicate_succ', Lib.byteCells_append, ← List.append_assoc]; exact o5
                    have O6 := Lib.hid o6
                    clear o5 g5 o6
                    go_roundw
                    case rel => exact ⟨j + 1, by omega, by go_num, O6.out, b5⟩
                    case measure => simp [intOf]; omega
                  · have hjf : j = f := by omega
                    subst hjf
                    have o7 : wr.ownsRow w1.heap.size 5 1 u11 (A ++ Fr.strm m wide j (L.take (k2 + 1))).length (Lib.byteCells (A ++ Fr.strm m wide j (L.take (k2 + 1)))) := by
                      rw [Hft.out, List.length_append, List.length_append, List.length_replicate, Hlg.out, Hly.out, Lib.byteCells_append, Lib.byteCells_append, ← List.append_assoc, ← Nat.add_assoc]; exact hown3
                    have O7 := Lib.hid o7
                    clear o7 hown3
                    go_wp2
                    go_roundw
                    case rel => exact ⟨k2 + 1, by omega, by go_num, by go_num, Het.out, O7.out, hbw3⟩
                    case measure => simp [intOf]; omega
              · rw [Fr.row_none m wide x hz] at hpu
                have hf4 := Fr.fault_le x
                have hlen : x.length < 2 ∨ ¬ x.length < 2 ∧ 65535 < x.length := by
                  by_cases h1 : x.length < 2
                  · exact .inl h1
                  · exact .inr ⟨h1, Nat.lt_of_not_le fun h2 => hz ((Fr.fault_zero x).2 ⟨by omega, h2⟩)⟩
                generalize Fr.fault x = er at hz hpu hf4
                have ie : ¬ (er : Int) = 0 := by omega
                have Hpu := Lib.hid hpu
                clear hpu hz hown het hft hln hf1 hf2 hf3' hrow
                go_wp2_with fail
                refine Hpu.out.mono ?_
                intro e w3 h3
                obtain ⟨p3, c3, rfl, r3, b3⟩ := h3.row (q := 0) rfl
                have hcell3 := hcell
                rw [← b3.cell hblk] at hcell3
                have B3 := Lib.hid (Below.chain B1.out (hbw2.trans (b3.mono hbw2.size)))
                clear h3 r3 b3 Hpu hcell
                rcases hlen with h1 | ⟨h1, h2⟩
                · have iq : (q : Int) < 2 := by omega
                  clear h1
                  go_wp2
                  go_ret
                  exact ⟨rfl, B3.out⟩
                · have iq : ¬ (q : Int) < 2 := by omega
                  have iq2 : (65535 : Int) < (q : Int) := by omega
                  clear h1 h2
                  go_wp2
                  go_ret
                  exact ⟨rfl, B3.out⟩
            · have hkn : k2 = n := by omega
              subst hkn
              have hks : L.take k2 = L := List.take_of_length_le (by rw [Hn.out]; exact Nat.le_refl _)
              rw [hks] at hown He
              have hrb := Fr.run_back m wide hm f A L Hnf.out (by omega) (Fr.err_zero L He.out)
              rw [Hn.out] at hrb
              have hsl := Fr.strm_len m wide f L hf3
              have hfl2 := HF.out
              rw [Hn.out] at hsl
              have hGl : (A ++ Fr.strm m wide f L).length ≤ 200000 := by rw [List.length_append]; omega
              obtain ⟨lg, hlg⟩ : ∃ lg, (A ++ Fr.strm m wide f L).length = lg := ⟨_, rfl⟩
              rw [hlg] at hown hGl
              obtain ⟨ag, cg, rfl, rg⟩ := rowAt_own hlg hown
              have hal := all_any m wide ag lg cg _ _ hlg (by omega) rg hm hrb.2.2
              rw [hrb.1, hrb.2.1] at hal
              have Hal := Lib.hid hal
              have hsame := fun (W : World) (p : Option Addr) (c : Nat) (h1 : PartsAt W p L) (h2 : PartsAt W a L) => same_any p a c cap k2 L L W Hn.out Hn.out (by omega) h1 h2
              rw [show (L == L) = true by simp] at hsame
              have Hsame := Lib.hid hsame
              clear hown hks hrb hsl hfl2 hGl hlg rg hal hsame
              go_wp2_with fail
              refine Hal.out.mono ?_
              intro e w3 h3
              obtain ⟨p3, c3, he3, pa3, b3⟩ := h3
              rw [Hn.out] at he3
              subst he3
              have P3 := Lib.hid pa3
              have H3 := Lib.hid (H1.out.next (hbw2.trans (b3.mono hbw2.size)))
              have B3 := Lib.hid (Below.chain B1.out (hbw2.trans (b3.mono hbw2.size)))
              clear pa3 b3 Hal
              simp only [tcells]
              go_wp2_with fail
              refine (Hsame.out _ _ _ (P3.out.next ((Below.refl _ _).alloc (Nat.le_refl _) _)) (H3.out.next ((Below.refl _ _).alloc (Nat.le_refl _) _))).mono ?_
              rintro e w4 ⟨rfl, b4⟩
              have T4 : w4.heap[w3.heap.size]? = some (.cells #[.int .i64 (k2 : Int), .int .i64 0, .int .i64 0, .int .i64 0, .int .i64 0] 40 (0, 0)) := by
                rw [b4.block _ (by simp)]; exact heap_alloc_new w3 _
              have t0 : w4.cell? ⟨w3.heap.size, 0, none⟩ = some (.int .i64 (k2 : Int)) := cell_of_row _ _ _ _ _ _ T4
              have t1 : w4.cell? ⟨w3.heap.size, 1, none⟩ = some (.int .i64 0) := cell_of_row _ _ _ _ _ _ T4
              have t2 : w4.cell? ⟨w3.heap.size, 2, none⟩ = some (.int .i64 0) := cell_of_row _ _ _ _ _ _ T4
              have t3 : w4.cell? ⟨w3.heap.size, 3, none⟩ = some (.int .i64 0) := cell_of_row _ _ _ _ _ _ T4
              have t4 : w4.cell? ⟨w3.heap.size, 4, none⟩ = some (.int .i64 0) := cell_of_row _ _ _ _ _ _ T4
              have B4 := Lib.hid (Below.chain B3.out (below_alloc b4))
              clear T4 b4 B3
              generalize w3.heap.size = T at t0 t1 t2 t3 t4 ⊢
              go_wp2
              go_ret
              exact ⟨rfl, B4.out⟩
theorem back_walk (m : Nat) (wide : Bool) (a : Option Addr) (cap : Nat) (L : List (List UInt8)) (aa : Option Addr) (ca : Nat) (xs : List UInt8) (fl : Nat) (w : World) (hm : m < 4294967296) (hfl : fl < 256) (h : PartsAt w a L) (hx : RowAt w aa ca xs) :
    Calls Try.prog 5 #[.slice a L.length cap, .int .u32 (m : Int), .bool wide, .slice aa xs.length ca, .int .u8 (fl : Int)] w fun e w' => e = .returned (.bool true) ∧ Below w.heap.size w w' := back_n m wide a cap _ L aa ca _ xs fl w rfl rfl hm hfl h hx
end Go.Proofs.Ythmljgpnkealaaa
