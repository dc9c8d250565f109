/- Contract of ReadBytes. -/
import Derived.Test.YtiiaahhdlgoklaaDoorWd
import Derived.Test.YtiiaahhdlgoklaaDoorPlainb
namespace Go.Proofs.YtiiaahhdlgoklaaDoor
open Go.RowKit Go.Sort

theorem ownsRow_iterAt' {w : World} {base : Nat} {e : TypeId} {size : Nat} {v : Value} {n : Nat} {xs : List Value} (h : w.ownsRow base e size v n xs) {k : Nat} (hk : v.ownBlock ≠ some k) (s : ByteArray) (p : Nat) : (w.iterAt k s p).ownsRow base e size v n xs := by
  obtain ⟨h1, h2⟩ := h
  refine ⟨h1, ?_⟩
  rcases h2 with h2 | ⟨g, cap, cur, a, b, c, d⟩
  · exact .inl h2
  · exact .inr ⟨g, cap, cur, a, b, by rw [Lib.iterAt_other _ _ _ _ _ (fun e => hk (by rw [a, e]; rfl))]; exact c, d⟩

theorem iterPos_of' {w : World} {k : Nat} {s : ByteArray} {p : Nat} (h : w.heap[k]? = some (.stringIter s p)) : w.iterPos k = p := by simp [World.iterPos, h]

set_option maxHeartbeats 1000000 in
set_option maxRecDepth 100000 in
theorem readBytes_even (s : ByteArray) (n : Nat) (w : World) (hs : s.size = 2 * n) (hn : n ≤ 1000000) :
    Calls Tryd.prog 18 #[.string s] w fun e w' => Below w.heap.size w w' ∧ ((Dg.unhex s.data.toList = none ∧ e = .returned (.tuple #[.slice none 0 0, .bool false])) ∨ ∃ v ys, Dg.unhex s.data.toList = some ys ∧ ys.length = n ∧ e = .returned (.tuple #[v, .bool true]) ∧ w'.ownsRow w.heap.size 5 1 v n (Lib.byteCells ys)) := by
  obtain ⟨i0, hi, hz0, hz1, hz2⟩ := info_parts info5
  have HS := Lib.hid hs
  clear hs
  have hsz : (s.size : Int) = 2 * (n : Int) := by have := HS.out; omega
  have hm0 : ((2 * (n : Int)) % 2 != 0) = false := by simp
  go_enter Tryd.func18, Tryd.ntmps18
  go_wp2_with (at_make; refine wpList_make_full _ rfl _ _ 23 rfl w.heap.size 5 i0 (.int .u8 0) 1 Tryd.underlying23 hi hz0 hz1 .i64 .i64 _ _ n rfl rfl (by omega) (by omega) (by rw [hz2]; omega) (by unfold maxLen; omega) (Nat.le_refl _) ?_; intro w1 hown hgr)
  have hbw : Below w.heap.size w w1 := (Below.refl _ _).grown hgr (Nat.le_refl _) (fun k h => by cases h)
  have hlt1 : w.heap.size < w1.heap.size := (hown.lt w.heap.size rfl).2
  have hown0 : (w1.iter s 0).ownsRow w.heap.size 5 1 (.slice (some ⟨w.heap.size, 0, none⟩) n n) n (Lib.byteCells (Dg.part s.data.toList 0 n)) := by
    refine World.ownsRow.alloc ?_ _
    have e : Lib.byteCells (Dg.part s.data.toList 0 n) = (madeCells (Value.int .u8 0).cells (n * 1)).toList := by
      rw [Dg.part_zero, Nat.mul_one, show (Value.int .u8 0).cells = #[.int .u8 0] from rfl, toList_madeCells_one]; simp [Lib.byteCells]
    rw [e]; exact hown
  clear hgr hown
  go_loopw [5] (fun _ wr => ∃ pos : Nat, wr.heap[w1.heap.size]? = some (.stringIter s pos) ∧ wr.ownsRow w.heap.size 5 1 (.slice (some ⟨w.heap.size, 0, none⟩) n n) n (Lib.byteCells (Dg.part s.data.toList pos n)) ∧ Below w.heap.size w wr ∧ pos ≤ 2 * n ∧ Hid (∀ c ∈ s.data.toList.take pos, (Dg.dv c.toNat).isSome = true)) (fun _ wr => s.size - wr.iterPos w1.heap.size)
  case atStart => exact ⟨0, World.iter_heap w1 s 0, hown0, hbw.alloc hbw.size _, Nat.zero_le _, by intro c hc; simp at hc⟩
  case round =>
    obtain ⟨pos, hit, hown, hbw2, hle, HA⟩ := hrel
    have hpos0 := iterPos_of' hit
    clear hown0 hbw
    by_cases hp : pos < s.size
    · have hp2 : pos < 2 * n := by rw [← HS.out]; exact hp
      have hit2 := Lib.iterAt_heap wr w1.heap.size s pos (pos + (Utf8.decode s pos).2) hit
      have hbw3 := Lib.below_iterAt hbw2 (k := w1.heap.size) (by omega) s (pos + (Utf8.decode s pos).2)
      have hown2 := ownsRow_iterAt' hown (k := w1.heap.size) (by simp [Value.ownBlock]; omega) s (pos + (Utf8.decode s pos).2)
      have hnx : ∀ ty, (Instr.next (.pointer (some ⟨w1.heap.size, 0, none⟩)) true ty).run Tryd.prog wr = _ := fun ty => Lib.run_next_any_at wr w1.heap.size s pos ty hit hp
      obtain ⟨W1, hW1⟩ : ∃ W1, W1 = wr.iterAt w1.heap.size s (pos + (Utf8.decode s pos).2) := ⟨_, rfl⟩
      rw [← hW1] at hnx hit2 hbw3 hown2
      clear hW1
      have hr := decode_le s pos
      by_cases ha : (s[pos]'hp).toNat < 128
      · rw [decode_ascii s pos hp ha] at hnx hit2 hr
        cases hv : Dg.dv (s[pos]'hp).toNat with
        | none =>
          have Hv := Lib.hid hv
          clear hv
          go_wp2_with (go_at_call 28; refine (digit_none _ _ Hv.out hr).mono ?_; rintro e w' ⟨rfl, rfl⟩)
          go_ret2
          exact ⟨hbw3, .inl ⟨Dg.unhex_bad _ (s[pos]'hp) (Dg.mem_at s pos hp) Hv.out, rfl⟩⟩
        | some d =>
          have hd := Dg.dv_lt hv
          have Hv := Lib.hid hv
          clear hv
          have hst := Dg.val_step s.data.toList pos
          have hcell := hown2.cellAt (pos / 2) (by omega)
          have hfz := hown2.frozenAt (pos / 2)
          rw [Dg.cells_at _ _ _ _ (by omega : pos / 2 < n)] at hcell
          have hps := Dg.part_step s.data.toList pos n (by omega)
          rw [Dg.dvv_at s pos hp d Hv.out] at hps
          have hX := hst.1
          clear hst
          generalize Dg.val s.data.toList pos (pos / 2) = X at hcell hps hX
          have k1 : (X : Int) ≤ 15 := by omega
          have k2 : (d : Int) ≤ 15 := by omega
          have hor := Dg.or_nibble X d hX hd
          have hor2 := Dg.or_nibble' X d hX hd
          have Hps := Lib.hid hps
          clear hps
          go_wp2_with (go_at_call 28; refine (digit_some _ d _ Hv.out hr).mono ?_; rintro e w' ⟨rfl, hw'⟩; subst hw')
          have hit3 : (w'.setCell ⟨w.heap.size, pos / 2, none⟩ (.int .u8 (16 * (X : Int) + (d : Int)))).heap[w1.heap.size]? = some (.stringIter s (pos + 1)) := by
            rw [Below.heap_setCell _ _ _ _ (by show w1.heap.size ≠ w.heap.size; omega)]; exact hit2
          go_roundw
          case rel =>
            refine ⟨pos + 1, hit3, ?_, hbw3.setCell (Nat.le_refl _) _, by omega, ?_⟩
            · have h := (hown2.stored (pos / 2) (.int .u8 (16 * (X : Int) + (d : Int)))).1
              rw [Hps.out, Dg.cells_set _ _ _ _ hX hd]
              exact h
            · exact Dg.all_step s pos hp d Hv.out HA.out
          case measure =>
            rw [iterPos_of' hit3, hpos0]; omega
      · have hh := decode_high s pos hp (by omega)
        go_wp2_with (go_at_call 28; refine (digit_none _ _ (Dg.dv_high hh.1) hr).mono ?_; rintro e w' ⟨rfl, rfl⟩)
        go_ret2
        exact ⟨hbw3, .inl ⟨Dg.unhex_bad _ (s[pos]'hp) (Dg.mem_at s pos hp) (Dg.dv_high (by omega)), rfl⟩⟩
    · have hnx : ∀ ty, (Instr.next (.pointer (some ⟨w1.heap.size, 0, none⟩)) true ty).run Tryd.prog wr = _ := fun ty => Lib.run_next_end_at wr w1.heap.size s pos ty hit hp
      go_wp2
      go_ret2
      have hpn : pos = 2 * n := by have := HS.out; omega
      subst hpn
      exact ⟨hbw2, .inr ⟨_, _, Dg.unhex_all n s.data.toList (by rw [← Lib.size_eq]; exact HS.out) (fun c hc => HA.out c (by rw [List.take_of_length_le (by rw [← Lib.size_eq, HS.out]; omega)]; exact hc)), Dg.part_length _ _ _, rfl, hown⟩⟩

theorem readBytes_odd (s : ByteArray) (n : Nat) (w : World) (hs : s.size = 2 * n + 1) (hn : n ≤ 1000000) :
    Calls Tryd.prog 18 #[.string s] w fun e w' => e = .returned (.tuple #[.slice none 0 0, .bool false]) ∧ w' = w := by
  have hsz : (s.size : Int) = 2 * (n : Int) + 1 := by omega
  clear hs
  have hm0 : ((2 * (n : Int) + 1) % 2 != 0) = true := by rw [bne_iff_ne]; omega
  go_enter Tryd.func18, Tryd.ntmps18
  go_wp2
  go_ret2
  exact ⟨rfl, rfl⟩

/-- ReadBytes: the bytes whose digits a text is, or none. -/
theorem readBytes_any (s : ByteArray) (w : World) (hs : s.size ≤ 1000000) :
    Calls Tryd.prog 18 #[.string s] w fun e w' => Below w.heap.size w w' ∧ ((Dg.unhex s.data.toList = none ∧ e = .returned (.tuple #[.slice none 0 0, .bool false])) ∨ ∃ v ys, Dg.unhex s.data.toList = some ys ∧ ys.length ≤ s.size ∧ e = .returned (.tuple #[v, .bool true]) ∧ w'.ownsRow w.heap.size 5 1 v ys.length (Lib.byteCells ys)) := by
  rcases Nat.mod_two_eq_zero_or_one s.size with h | h
  · refine (readBytes_even s (s.size / 2) w (by omega) (by omega)).mono ?_
    rintro e w' ⟨hb, h1 | ⟨v, ys, h1, h2, h3, h4⟩⟩
    · exact ⟨hb, .inl h1⟩
    · exact ⟨hb, .inr ⟨v, ys, h1, by omega, h3, by rw [h2]; exact h4⟩⟩
  · refine (readBytes_odd s (s.size / 2) w (by omega) (by omega)).mono ?_
    rintro e w' ⟨h1, rfl⟩
    exact ⟨Below.refl _ _, .inl ⟨Dg.unhex_odd (s.size / 2) _ (by rw [← Lib.size_eq]; omega), h1⟩⟩
end Go.Proofs.YtiiaahhdlgoklaaDoor
