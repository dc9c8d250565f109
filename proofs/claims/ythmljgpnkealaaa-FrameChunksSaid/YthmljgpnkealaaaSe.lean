/- Contract of the document's Unstuff. -/
import Derived.Test.YthmljgpnkealaaaSd
namespace Go.Proofs.Ythmljgpnkealaaa
open Go.RowKit

set_option maxRecDepth 10000 in
set_option maxHeartbeats 2000000 in
theorem refUnstuff_own (cap m n : Nat) (a : Option Addr) (xs : List UInt8) (w : World) (hn : xs.length = n) (hm : m < 4294967296) (hx : n ≤ 100000) (hr : BytesAt w a xs) :
    Calls Try.prog 38 #[.slice a n cap, .int .u32 (m : Int)] w fun e w' => ∃ v, e = .returned (.tuple #[v, .bool (St.ans m xs).2]) ∧ w'.ownsRow w.heap.size 5 1 v (St.ans m xs).1.length (Lib.byteCells (St.ans m xs).1) ∧ Below w.heap.size w w' := by
  obtain ⟨i0, hi, hz0, hz1, hz2⟩ := info_parts info5
  have hc19 := refLeft_own cap m n a xs w hn hm hx hr
  have hul := St.un_left m xs
  have hnot := St.left_not m xs
  have hll := St.left_len m xs
  rw [hn] at hll
  have a1 := St.ans_none m xs
  have a2 := St.ans_esc m xs
  have a3 := St.ans_ok m xs
  rw [← hul] at a1 a2 a3
  have A1 := Lib.hid a1
  have A2 := Lib.hid a2
  have A3 := Lib.hid a3
  have Hc := Lib.hid hc19
  have Hnot := Lib.hid hnot
  clear hr hn hul a1 a2 a3 hc19 hnot
  generalize St.ans m xs = A at A1 A2 A3 ⊢
  generalize St.left m xs = L at A1 A2 A3 Hc Hnot hll
  obtain ⟨l, hl⟩ : ∃ l, L.length = l := ⟨_, rfl⟩
  rw [hl] at Hc hll
  have Hl := Lib.hid hl
  clear hl
  have hl5 : (l : Int) ≤ 100000 := by omega
  go_enter Try.func38, Try.ntmps38
  go_wp2_with fail
  refine Hc.out.mono ?_
  rintro e w1 ⟨v1, rfl, o1, b1⟩
  obtain ⟨p1, c1, rfl, r1⟩ := rowAt_own Hl.out o1
  have Hr := Lib.hid r1.bytes
  clear o1 r1 Hc
  go_wp2
  go_loopw [7, 8] (fun v i wr => ∃ (k : Nat) (o : List UInt8), k ≤ l ∧ i = .int .i64 (k : Int) ∧ o.length ≤ k ∧ Hid (St.un m (L.take k) = some (o, false)) ∧ wr.ownsRow w1.heap.size 5 1 v o.length (Lib.byteCells o) ∧ Below w1.heap.size w1 wr) (fun _ i _ => l - (intOf i).toNat)
  case atStart => exact ⟨0, [], Nat.zero_le _, rfl, Nat.le_refl _, rfl, World.ownsRow_nil _ _ _ _, Below.refl _ _⟩
  case round =>
    obtain ⟨k, o, hk, rfl, hok, Hun, hown, hbw⟩ := hrel
    by_cases hlt : (k : Int) < (l : Int)
    · have hk' : k < L.length := by rw [Hl.out]; omega
      rcases Hr.out with h0 | ⟨b, off, rfl, hb, hc⟩
      · rw [h0] at hk'; simp at hk'
      · have hcell : wr.cell? ⟨b, off + k, none⟩ = some (.int .u8 (L[k].toNat : Int)) := by rw [hbw.cell (p := ⟨b, off + k, none⟩) hb]; exact hc k hk'
        have hst := St.un_take m L k hk'
        rw [Hun.out] at hst
        have hhas := Hnot.out L[k] (List.getElem_mem _)
        have hnext : ∀ (h : k + 1 < L.length), wr.cell? ⟨b, off + (k + 1), none⟩ = some (.int .u8 (L[k + 1].toNat : Int)) := fun h => by rw [hbw.cell (p := ⟨b, off + (k + 1), none⟩) hb]; exact hc (k + 1) h
        have hst2 : ∀ (h : k + 1 < L.length), St.un m (L.take (k + 2)) = St.step m (St.un m (L.take (k + 1))) L[k + 1] := fun h => St.un_take m L (k + 1) h
        have hhas2 : ∀ (h : k + 1 < L.length), Ac.has m L[k + 1].toNat = false := fun h => Hnot.out _ (List.getElem_mem _)
        clear hc
        obtain ⟨x, hxk⟩ : ∃ x, x = L[k] := ⟨_, rfl⟩
        rw [← hxk] at hcell hst hhas
        clear hxk hk'
        by_cases h6 : x.toNat = 126
        · have H1 := Lib.hid (hst.trans (St.step_flag m o false x hhas h6))
          have i6 : (x.toNat : Int) = 126 := by omega
          clear hhas h6 hst hst2 hhas2 hnext
          go_wp2
          go_ret2
          refine ⟨.slice none 0 0, ?_, ?_, b1.trans (hbw.mono b1.size)⟩
          · rw [A1.out (St.un_none m L (k + 1) H1.out)]; rfl
          · rw [A1.out (St.un_none m L (k + 1) H1.out)]; exact World.ownsRow_nil _ _ _ _
        · have i6 : ¬ (x.toNat : Int) = 126 := by omega
          by_cases h5 : x.toNat = 125
          · have hst1 := hst.trans (St.step_7d m o x hhas h5)
            have i5 : (x.toNat : Int) = 125 := by omega
            by_cases hend : k + 1 = l
            · have H1 : Hid (St.un m L = some (o, true)) := by
                have : L.take (k + 1) = L := List.take_of_length_le (by rw [Hl.out]; omega)
                rw [this] at hst1
                exact hst1
              have ie : (k : Int) + 1 = (l : Int) := by omega
              clear hhas h6 hst hst2 hhas2 hnext h5 hst1
              go_wp2
              go_ret2
              refine ⟨.slice none 0 0, ?_, ?_, b1.trans (hbw.mono b1.size)⟩
              · rw [A2.out o H1.out]; rfl
              · rw [A2.out o H1.out]; exact World.ownsRow_nil _ _ _ _
            · have hk2 : k + 1 < L.length := by rw [Hl.out]; omega
              have hcell2 := hnext hk2
              have hs2 := hst2 hk2
              have hh2 := hhas2 hk2
              rw [hst1] at hs2
              obtain ⟨y, hyk⟩ : ∃ y, y = L[k + 1] := ⟨_, rfl⟩
              rw [← hyk] at hcell2 hs2 hh2
              have ie : ¬ (k : Int) + 1 = (l : Int) := by omega
              have ilt : (k : Int) + 1 < (l : Int) := by omega
              clear hyk hk2 hnext hst2 hhas2 hst hst1 h5 h6 hhas
              by_cases y6 : y.toNat = 126
              · have H1 := Lib.hid (hs2.trans (St.step_flag m o true y hh2 y6))
                have j6 : (y.toNat : Int) = 126 := by omega
                clear hs2 hh2 y6
                go_wp2
                go_ret2
                refine ⟨.slice none 0 0, ?_, ?_, b1.trans (hbw.mono b1.size)⟩
                · rw [A1.out (St.un_none m L (k + 2) H1.out)]; rfl
                · rw [A1.out (St.un_none m L (k + 2) H1.out)]; exact World.ownsRow_nil _ _ _ _
              · have H1 := Lib.hid (hs2.trans (St.step_esc m o y hh2 y6))
                have j6 : ¬ (y.toNat : Int) = 126 := by omega
                have je : ((k : Int) + 1 == (l : Int)) = false := by simpa using ie
                have jy : ((y.toNat : Int) == 126) = false := by simpa using j6
                have hx32 := St.tn_int y
                obtain ⟨y2, hy2⟩ : ∃ y2, y2 = St.tn y := ⟨_, rfl⟩
                rw [← hy2] at hx32 H1
                clear hs2 hh2 y6 hy2
                go_wp2_with (at_builtin; refine wpList_append_own _ rfl _ _ 26 rfl w1.heap.size 5 i0 (.int .u8 0) 1 1 Try.underlying26 hi hz0 hz1 hz2 rfl (by decide) _ _ _ rfl (hown.alloc _) ⟨wr.heap.size, 0, none⟩ 1 1 [.int .u8 (y2.toNat : Int)] rfl rfl (cell_one_new _ _ _) (fun u hu => by simp at hu; subst hu; rfl) (by unfold maxLen; omega) (by omega) (by have := hbw.size; simp; omega) ?_; intro v2 w2 hown2 hgr2 _)
                have hbw2 : Below w1.heap.size w1 w2 := Below.grown (hbw.alloc hbw.size _) hgr2 (by have := hbw.size; simp; omega) (fun j hj => (hown.lt j hj).1)
                have o3 : w2.ownsRow w1.heap.size 5 1 v2 (o ++ [y2]).length (Lib.byteCells (o ++ [y2])) := by
                  rw [List.length_append, Lib.byteCells_append]; exact hown2
                have O3 := Lib.hid o3
                clear o3 hown2 hgr2
                go_wp2
                go_roundw
                case rel => exact ⟨k + 2, o ++ [y2], by omega, by go_num, by rw [List.length_append]; simp; omega, H1.out, O3.out, hbw2⟩
                case measure => simp [intOf]; omega
          · have H1 := Lib.hid (hst.trans (St.step_plain m o x hhas h6 h5))
            have i5 : ¬ (x.toNat : Int) = 125 := by omega
            clear hhas h6 hst hst2 hhas2 hnext h5
            go_wp2_with (at_builtin; refine wpList_append_own _ rfl _ _ 26 rfl w1.heap.size 5 i0 (.int .u8 0) 1 1 Try.underlying26 hi hz0 hz1 hz2 rfl (by decide) _ _ _ rfl (hown.alloc _) ⟨wr.heap.size, 0, none⟩ 1 1 [.int .u8 (x.toNat : Int)] rfl rfl (cell_one_new _ _ _) (fun u hu => by simp at hu; subst hu; rfl) (by unfold maxLen; omega) (by omega) (by have := hbw.size; simp; omega) ?_; intro v2 w2 hown2 hgr2 _)
            have hbw2 : Below w1.heap.size w1 w2 := Below.grown (hbw.alloc hbw.size _) hgr2 (by have := hbw.size; simp; omega) (fun j hj => (hown.lt j hj).1)
            have o3 : w2.ownsRow w1.heap.size 5 1 v2 (o ++ [x]).length (Lib.byteCells (o ++ [x])) := by
              rw [List.length_append, Lib.byteCells_append]; exact hown2
            have O3 := Lib.hid o3
            clear o3 hown2 hgr2
            go_wp2
            go_roundw
            case rel => exact ⟨k + 1, o ++ [x], by omega, by go_num, by rw [List.length_append]; simp; omega, H1.out, O3.out, hbw2⟩
            case measure => simp [intOf]; omega
    · have hks : L.take k = L := List.take_of_length_le (by rw [Hl.out]; omega)
      rw [hks] at Hun
      have Ho := Lib.hid hown
      clear hown hks
      go_wp2
      go_ret2
      refine ⟨u7, ?_, ?_, b1.trans (hbw.mono b1.size)⟩
      · rw [A3.out o Hun.out]; rfl
      · rw [A3.out o Hun.out]; exact own_mono Ho.out b1.size
end Go.Proofs.Ythmljgpnkealaaa
