/- Contracts of addWord and of Words. -/
import Derived.Test.YtiiaahhdlgoklaaDoorWe
import Derived.Test.YtiiaahhdlgoklaaDoorPlainc
namespace Go.Proofs.YtiiaahhdlgoklaaDoor
open Go.RowKit Go.Sort

theorem info9 : (Tryd.prog.info? 9).map (fun i => (i.zero, i.size, i.bytes)) = some (some (.string ⟨#[]⟩), 1, 16) := by kernel_rfl

theorem ownsRow_below {w w' : World} {base B : Nat} {e : TypeId} {size : Nat} {v : Value} {n : Nat} {xs : List Value} (h : w.ownsRow base e size v n xs) (hb : Below B w w') (hB : ∀ g, v.ownBlock = some g → g < B) : w'.ownsRow base e size v n xs := by
  obtain ⟨h1, h2⟩ := h
  refine ⟨h1, ?_⟩
  rcases h2 with h2 | ⟨g, cap, cur, a, b, c, d⟩
  · exact .inl h2
  · exact .inr ⟨g, cap, cur, a, b, by rw [hb.block g (hB g (by rw [a]; rfl))]; exact c, d⟩

theorem addWord_none (v : Value) (x : ByteArray) (w : World) (hx : x.toList.isEmpty = true) :
    Calls Tryd.prog 29 #[v, .string x] w fun e w' => e = .returned v ∧ w' = w := by
  go_enter Tryd.func29, Tryd.ntmps29
  go_wp2
  go_ret
  exact ⟨rfl, rfl⟩

set_option maxHeartbeats 400000 in
theorem addWord_some (v : Value) (x : ByteArray) (w : World) (B n : Nat) (xs : List Value) (hx : x.toList.isEmpty = false) (hs : x.size ≤ 10000000) (hn : n ≤ 10000000) (hB : B ≤ w.heap.size) (hown : w.ownsRow B 9 1 v n xs) :
    Calls Tryd.prog 29 #[v, .string x] w fun e w' => ∃ v', e = .returned v' ∧ w'.ownsRow B 9 1 v' (n + 1) (xs ++ [.string x]) ∧ Below B w w' := by
  obtain ⟨i0, hi, hz0, hz1, hz2⟩ := info_parts info9
  go_enter Tryd.func29, Tryd.ntmps29
  go_wp2_with (first | (go_at_call 36; refine (Tryd.stringslite_Clone x _ (by omega)).mono ?_; rintro e w1 ⟨rfl, hb⟩; refine Hid.out ?_) | go_in)
  refine Lib.hid ?_
  have hown1 := ownsRow_below hown hb (fun g hg => (hown.lt g hg).2)
  go_wp2_with (at_builtin; refine wpList_append_own _ rfl _ _ 38 rfl B 9 i0 (.string ⟨#[]⟩) 1 16 Tryd.underlying38 hi hz0 hz1 hz2 rfl (by decide) _ _ _ rfl (hown1.alloc _) ⟨w1.heap.size, 0, none⟩ 1 1 [.string x] rfl rfl (cell_one_new _ _ _) (fun u hu => by simp at hu; subst hu; rfl) (by unfold maxLen; omega) (by omega) (by have := hb.size; simp; omega) ?_; intro v2 w2 hown2 hgr2 hnil2)
  go_ret
  exact ⟨v2, rfl, hown2, ((hb.mono hB).alloc (Nat.le_trans hB hb.size) _).grown hgr2 (by have := hb.size; simp; omega) (fun j hj => (hown1.lt j hj).1)⟩

/-- Texts as cells. -/
def strCells (W : List (List UInt8)) : List Value := W.map fun x => Value.string ⟨x.toArray⟩
theorem strCells_length (W : List (List UInt8)) : (strCells W).length = W.length := by simp [strCells]
theorem strCells_append (V W : List (List UInt8)) : strCells (V ++ W) = strCells V ++ strCells W := by simp [strCells]

/-- addWord: the word is put behind, if it isn't empty. -/
theorem addWord_any (v : Value) (x : ByteArray) (l : List UInt8) (w : World) (B : Nat) (W : List (List UInt8)) (hl : x = ⟨l.toArray⟩) (hs : x.size ≤ 10000000) (hn : W.length ≤ 10000000) (hB : B ≤ w.heap.size) (hown : w.ownsRow B 9 1 v W.length (strCells W)) :
    Calls Tryd.prog 29 #[v, .string x] w fun e w' => ∃ v', e = .returned v' ∧ w'.ownsRow B 9 1 v' (W ++ Dg.one l).length (strCells (W ++ Dg.one l)) ∧ Below B w w' := by
  by_cases h : l = []
  · subst h
    refine (addWord_none v x w (by rw [Lib.toList_data, hl]; rfl)).mono ?_
    rintro e w' ⟨rfl, rfl⟩
    exact ⟨v, rfl, by simpa [Dg.one] using hown, Below.refl _ _⟩
  · refine (addWord_some v x w B W.length (strCells W) (by rw [Lib.toList_data, hl]; simpa using h) hs hn hB hown).mono ?_
    rintro e w' ⟨v', rfl, h1, h2⟩
    refine ⟨v', rfl, ?_, h2⟩
    rw [Dg.one, if_neg h, strCells_append, List.length_append]
    rw [hl] at h1
    exact h1

set_option maxHeartbeats 1000000 in
set_option maxRecDepth 100000 in
theorem words_any (s : ByteArray) (w : World) (hs : s.size ≤ 1000000) :
    Calls Tryd.prog 21 #[.string s] w fun e w' => ∃ v, e = .returned v ∧ w'.ownsRow (w.heap.size + 1) 9 1 v (Dg.words s.data.toList).length (strCells (Dg.words s.data.toList)) ∧ Below w.heap.size w w' := by
  go_enter Tryd.func21, Tryd.ntmps21
  go_wp2
  go_loopw [3, 4] (fun v i wr => ∃ (pos beg : Nat) (W : List (List UInt8)), i = .int .i64 (beg : Int) ∧ wr.heap[w.heap.size]? = some (.stringIter s pos) ∧ wr.ownsRow (w.heap.size + 1) 9 1 v W.length (strCells W) ∧ Below w.heap.size w wr ∧ beg ≤ pos ∧ pos ≤ s.size ∧ W.length ≤ pos ∧ Hid (W ++ Dg.wd (Dg.seg s beg pos) (s.data.toList.drop pos) = Dg.words s.data.toList)) (fun _ _ wr => s.size - wr.iterPos w.heap.size)
  case atStart => exact ⟨0, 0, [], rfl, World.iter_heap w s 0, World.ownsRow_nil _ _ _ _, (Below.refl _ _).alloc (Nat.le_refl _) _, Nat.le_refl _, Nat.zero_le _, Nat.zero_le _, by show _ = _; rw [Dg.seg_self]; simp [Dg.words]⟩
  case round =>
    obtain ⟨pos, beg, W, rfl, hit, hown, hbw, hbp, hle, hWl, HW⟩ := hrel
    have hpos0 := iterPos_of' hit
    by_cases hp : pos < s.size
    · have hit2 := Lib.iterAt_heap wr w.heap.size s pos (pos + (Utf8.decode s pos).2) hit
      have hbw3 := Lib.below_iterAt hbw (k := w.heap.size) (Nat.le_refl _) s (pos + (Utf8.decode s pos).2)
      have hown2 := ownsRow_iterAt' hown (k := w.heap.size) (fun e => by have := (hown.lt _ e).1; omega) s (pos + (Utf8.decode s pos).2)
      have hnx : ∀ ty, (Instr.next (.pointer (some ⟨w.heap.size, 0, none⟩)) true ty).run Tryd.prog wr = _ := fun ty => Lib.run_next_any_at wr w.heap.size s pos ty hit hp
      obtain ⟨W1, hW1⟩ : ∃ W1, W1 = wr.iterAt w.heap.size s (pos + (Utf8.decode s pos).2) := ⟨_, rfl⟩
      rw [← hW1] at hnx hit2 hbw3 hown2
      clear hW1
      have hlt1 : w.heap.size < W1.heap.size := (Array.getElem?_eq_some_iff.1 hit2).1
      by_cases ha : (s[pos]'hp).toNat < 128
      · rw [decode_ascii s pos hp ha] at hnx hit2
        by_cases h32 : (s[pos]'hp).toNat = 32
        · have hq : (((s[pos]'hp).toNat : Int) == 32) = true := by rw [beq_iff_eq]; omega
          have H32 := Lib.hid h32
          clear h32
          have hb1 : (beg : Int) ≤ (pos : Int) := by omega
          have hb2 : (pos : Int) ≤ (s.size : Int) := by omega
          go_wp2_with (go_at_call 29; refine (addWord_any _ (s.extract beg pos) (Dg.seg s beg pos) _ (w.heap.size + 1) W (Dg.seg_data s beg pos) (by have := Dg.ext_le s beg pos; omega) (by omega) hlt1 hown2).mono ?_; rintro e w2 ⟨v2, rfl, hown3, hb3⟩)
          have hit3 : w2.heap[w.heap.size]? = some (.stringIter s (pos + 1)) := by rw [hb3.block w.heap.size (by omega)]; exact hit2
          go_roundw
          case rel => exact ⟨pos + 1, pos + 1, _, by go_num, hit3, hown3, hbw3.trans (hb3.mono (by omega)), Nat.le_refl _, by omega, by have := Dg.one_length (Dg.seg s beg pos); rw [List.length_append]; omega, Dg.words_blank s W beg pos hp H32.out HW.out⟩
          case measure => rw [iterPos_of' hit3, hpos0]; omega
        · have hq : (((s[pos]'hp).toNat : Int) == 32) = false := by rw [beq_eq_false_iff_ne]; omega
          have H32 := Lib.hid h32
          clear h32
          go_wp2
          go_roundw
          case rel => exact ⟨pos + 1, beg, W, rfl, hit2, hown2, hbw3, by omega, by omega, by omega, Dg.words_seg s W beg pos (pos + 1) hbp (by omega) (fun j h1 h2 => by rw [show j = pos by omega, Dg.get_lt s pos hp]; exact H32.out) HW.out⟩
          case measure => rw [iterPos_of' hit2, hpos0]; omega
      · have hh := decode_high s pos hp (by omega)
        have hsk := Dg.decode_skip s pos hp (by omega)
        have hq : (((Utf8.decode s pos).1 : Int) == 32) = false := by rw [beq_eq_false_iff_ne]; omega
        have Hsk := Lib.hid hsk
        clear hsk
        go_wp2
        go_roundw
        case rel => exact ⟨pos + (Utf8.decode s pos).2, beg, W, rfl, hit2, hown2, hbw3, by omega, Hsk.out.2.1, by omega, Dg.words_seg s W beg pos _ hbp (by omega) (fun j h1 h2 => by have := Hsk.out.2.2 j h1 h2; omega) HW.out⟩
        case measure => rw [iterPos_of' hit2, hpos0]; have := Hsk.out.1; omega
    · have hnx : ∀ ty, (Instr.next (.pointer (some ⟨w.heap.size, 0, none⟩)) true ty).run Tryd.prog wr = _ := fun ty => Lib.run_next_end_at wr w.heap.size s pos ty hit hp
      have hlt1 : w.heap.size < wr.heap.size := (Array.getElem?_eq_some_iff.1 hit).1
      have hb1 : (beg : Int) ≤ (s.size : Int) := by omega
      go_wp2_with (go_at_call 29; refine (addWord_any _ (s.extract beg s.size) (Dg.seg s beg s.size) _ (w.heap.size + 1) W (Dg.seg_data s beg s.size) (by have := Dg.ext_le s beg s.size; omega) (by omega) hlt1 hown).mono ?_; rintro e w2 ⟨v2, rfl, hown3, hb3⟩)
      go_ret
      rw [Dg.words_end s W beg pos hp HW.out] at hown3
      exact ⟨v2, rfl, hown3, hbw.trans (hb3.mono (by omega))⟩
end Go.Proofs.YtiiaahhdlgoklaaDoor
