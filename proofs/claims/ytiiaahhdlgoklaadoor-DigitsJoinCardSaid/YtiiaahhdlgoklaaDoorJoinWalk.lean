/- DigitsJoin: the walk. -/
import Derived.Test.YtiiaahhdlgoklaaDoorWordsWalk
import Derived.Test.YtiiaahhdlgoklaaDoorRd
import Derived.Test.YtiiaahhdlgoklaaDoorPlaine
import Derived.Laws.AppendOwnNone
namespace Go.Proofs.YtiiaahhdlgoklaaDoor
open Go.RowKit Go.Sort

/-- append of a slice of one's own onto a slice of one's own, whether it is nil or not. -/
theorem wpList_append_owns {P : Program} {w : World} {ops : Array Oper} {rest : List Oper} {o : Oper} {a : Act} {Q : Exit → Act → World → Prop} (hgd : o.guard = none) (s x : Operand) (t : TypeId)
    (ho : o.op = .call { callee := .builtin .append, args := #[s, x], argTypes := #[t, t] })
    (base base2 : Nat) (e : TypeId) (i : TypeInfo) (z : Value) (size bytes : Nat) (ht : P.underlying t = some (.slice e)) (hi : P.info? e = some i) (hz : i.zero = some z)
    (hsize : i.size = size) (hby : i.bytes = bytes) (hzs : z.cells.size = size) (hsz : 0 < size)
    (v : Value) (n : Nat) (xs : List Value) (hs : a.eval s = v) (hown : w.ownsRow base e size v n xs)
    (vx : Value) (m : Nat) (news : List Value) (hx : a.eval x = vx) (hownx : w.ownsRow base2 e size vx m news) (h1 : ∀ u ∈ news, u.oneCell' = true)
    (h63 : n + m ≤ maxLen) (hbytes : (n + m) * bytes ≤ 140737488355328) (hbase : base ≤ w.heap.size)
    (h : ∀ v' w', w'.ownsRow base e size v' (n + m) (xs ++ news) → w.grownBy w' v.ownBlock → wpList P ops Q rest (a.put o.dst v') w') : wpList P ops Q (o :: rest) a w := by
  rcases hownx.2 with ⟨h0, rfl⟩ | ⟨g, cap, cur, h0, _⟩
  · have hn : news = [] := List.eq_nil_of_length_eq_zero (by rw [hownx.1]; simp)
    subst hn
    exact wpList_append_own_none hgd s x t ho base e i size ht hi v n xs hs hown (by rw [hx, h0]) (h v w (by simpa using hown) ⟨rfl, rfl, rfl, Nat.le_refl _, fun _ _ _ => rfl⟩)
  · exact wpList_append_own w hgd s x t ho base e i z size bytes ht hi hz hsize hby hzs hsz v n xs hs hown ⟨g, 0, none⟩ m cap news (by rw [hx, h0]) hownx.1 (hownx.cells (by rw [h0]; rfl)) h1 h63 hbytes hbase (fun v' w' a1 a2 _ => h v' w' a1 a2)

theorem words_l (x : List UInt8) (w : World) (hx : x.length ≤ 100000) :
    Calls Tryd.prog 21 #[.string ⟨x.toArray⟩] w fun e w' => ∃ v, e = .returned v ∧ w'.ownsRow (w.heap.size + 1) 9 1 v (Dg.words x).length (strCells (Dg.words x)) ∧ Below w.heap.size w w' := by
  have h := words_any ⟨x.toArray⟩ w (by rw [size_mk]; omega)
  rw [data_mk] at h
  exact h
theorem strCells_one (W : List (List UInt8)) : ∀ u ∈ strCells W, u.oneCell' = true := by
  intro u hu
  simp only [strCells, List.mem_map] at hu
  obtain ⟨x, _, rfl⟩ := hu
  rfl
theorem cat_list (x y : List UInt8) : (⟨x.toArray⟩ : ByteArray) ++ ⟨y.toArray⟩ = ⟨(x ++ y).toArray⟩ := by
  apply ByteArray.ext
  simp

set_option maxHeartbeats 4000000 in
set_option maxRecDepth 100000 in
theorem join_main (L : List (List UInt8)) (b off cap n : Nat) (w : World) (hn : n ≤ 255) (hl : L.length ≤ 50) (hb : b < w.heap.size) (hc : ∀ j (h : j < L.length), w.cell? ⟨b, off + j, none⟩ = some (.string ⟨L[j].toArray⟩)) (ht : Tabs w) :
    Calls Tryd.prog 8 #[.slice (some ⟨b, off, none⟩) L.length cap, .int .u8 (n : Int)] w fun e w' => e = .returned (.bool true) ∧ Below w.heap.size w w' := by
  obtain ⟨i0, hi, hz0, hz1, hz2⟩ := info_parts info9
  have HT := Lib.hid ht
  have Hc := Lib.hid hc
  clear ht hc
  have hg : ¬ (50 : Int) < (L.length : Int) := by omega
  go_enter Tryd.func8, Tryd.ntmps8
  go_wp2_with fail
  refine (awake_any _ HT.out).mono ?_
  rintro e w1 ⟨rfl, b1⟩
  go_wp2_with fail
  go_loopw [5, 6, 7] (fun ss v i wr => ∃ (k : Nat) (acc : List UInt8) (W : List (List UInt8)), k ≤ L.length ∧ i = .int .i64 (k : Int) ∧ ss = .string ⟨acc.toArray⟩ ∧ wr.ownsRow w.heap.size 9 1 v W.length (strCells W) ∧ Below w.heap.size w wr ∧ acc.length ≤ 103 * k ∧ W.length ≤ 101 * k ∧ Hid (Dg.words acc = W)) (fun _ _ i _ => L.length - (intOf i).toNat)
  case atStart => exact ⟨0, [], [], Nat.zero_le _, rfl, rfl, World.ownsRow_nil _ _ _ _, b1, Nat.zero_le _, Nat.zero_le _, rfl⟩
  case round =>
    obtain ⟨k, acc, W, hk, rfl, rfl, hown, hbw, hal, hWl, HW⟩ := hrel
    by_cases hlt : (k : Int) < (L.length : Int)
    · have hk1 : k < L.length := by omega
      have hcell : wr.cell? ⟨b, off + k, none⟩ = some (.string ⟨L[k].toArray⟩) := by rw [hbw.cell (p := ⟨b, off + k, none⟩) hb]; exact Hc.out k hk1
      have hsz := size_mk L[k]
      by_cases hbig : (100 : Int) < (L[k].length : Int)
      · go_wp2
        go_ret
        exact ⟨rfl, hbw⟩
      · have hn3 : (0 : Int) ≤ (n : Int) % 3 := by omega
        have hn4 : (n : Int) % 3 < 3 := by omega
        go_wp2_with fail
        go_loop [5, 8] (fun ss i => ∃ j : Nat, (j : Int) ≤ 1 + (n : Int) % 3 ∧ i = .int .i64 (j : Int) ∧ ss = .string ⟨(acc ++ List.replicate j 32).toArray⟩) (fun _ i => (1 + (n : Int) % 3 - intOf i).toNat)
        case atStart => exact ⟨0, by omega, rfl, by simp⟩
        case round =>
          obtain ⟨j, hj, rfl, rfl⟩ := hrel
          have hjl : (acc ++ List.replicate j 32).length ≤ 103 * k + 3 := by rw [List.length_append, List.length_replicate]; omega
          by_cases hjq : (j : Int) < 1 + (n : Int) % 3
          · go_wp2
            go_round
            case rel => exact ⟨j + 1, by omega, by go_num, by rw [cat_snoc, List.append_assoc, ← List.replicate_succ']⟩
            case measure => simp [intOf]; omega
          · have hj1 : 1 ≤ j := by omega
            have HW2 : Hid (Dg.words (acc ++ List.replicate j 32 ++ L[k]) = W ++ Dg.words L[k]) := by
              show _ = _
              rw [show j = (j - 1) + 1 by omega, Dg.words_join, HW.out]
            have hwl := Dg.words_length L[k]
            go_wp2_with fail
            refine (words_l L[k] _ (by omega)).mono ?_
            rintro e w2 ⟨v2, rfl, o2, b2⟩
            have hown1 := ownsRow_below hown b2 (fun g hg => (hown.lt g hg).2)
            have hbw1 := hbw.trans (b2.mono hbw.size)
            go_wp2_with (at_builtin; refine wpList_append_owns rfl (.tmp 45) (.tmp 50) 38 rfl w.heap.size (wr.heap.size + 1) 9 i0 (.string ⟨#[]⟩) 1 16 Tryd.underlying38 hi hz0 hz1 hz2 rfl (by decide) _ _ _ rfl hown1 _ _ _ rfl o2 (strCells_one _) (by unfold maxLen; omega) (by omega) hbw1.size ?_; intro v3 w3 hown3 hgr3)
            have hbw3 : Below w.heap.size w w3 := Below.grown hbw1 hgr3 hbw1.size (fun j hj => (hown1.lt j hj).1)
            have hown4 : w3.ownsRow w.heap.size 9 1 v3 (W ++ Dg.words L[k]).length (strCells (W ++ Dg.words L[k])) := by
              rw [strCells_append, List.length_append]; exact hown3
            clear hown3 hgr3 hown1 hbw1 o2 b2
            go_roundw
            case rel => exact ⟨k + 1, acc ++ List.replicate j 32 ++ L[k], W ++ Dg.words L[k], by omega, by go_num, by rw [cat_list], hown4, hbw3, by rw [List.length_append]; omega, by rw [List.length_append]; omega, HW2.out⟩
            case measure => simp [intOf]; omega
    · go_wp2_with fail
      refine (words_l acc _ (by omega)).mono ?_
      rintro e w2 ⟨v2, rfl, o2, b2⟩
      rw [HW.out] at o2
      have hown1 := ownsRow_below hown b2 (fun g hg => (hown.lt g hg).2)
      go_wp2_with fail
      refine (same_any W v2 _ _ (by omega) (strsAt_own o2) (strsAt_own hown1)).mono ?_
      rintro e w3 ⟨rfl, b3⟩
      go_wp2_with fail
      go_ret
      exact ⟨rfl, Below.chain (hbw.trans (b2.mono hbw.size)) b3⟩
end Go.Proofs.YtiiaahhdlgoklaaDoor
