/- Contracts of the document's answers: Plain, Same and Words. -/
import Derived.Test.YtiiaahhdlgoklaaDoorRa
namespace Go.Proofs.YtiiaahhdlgoklaaDoor
open Go.RowKit Go.Sort

theorem Dg.empty_size (s : ByteArray) : (!s.data.toList.isEmpty) = decide (0 < s.size) := by
  by_cases h : 0 < s.size
  · rw [Dg.list_at s h]; simp [h]
  · rw [Dg.list_nil s h]; simp [h]

set_option maxHeartbeats 1000000 in
theorem refPlain_any (s : ByteArray) (w : World) (hs : s.size ≤ 1000000) :
    Calls Tryd.prog 24 #[.string s] w fun e w' => e = .returned (.bool (Dg.plain s.data.toList)) ∧ w' = w := by
  go_enter Tryd.func24, Tryd.ntmps24
  go_wp2
  go_loop [3] (fun i => ∃ pos : Nat, i = .int .i64 (pos : Int) ∧ pos ≤ s.size ∧ Hid (Dg.pl (s.data.toList.drop pos) = Dg.pl s.data.toList)) (fun i => s.size - (intOf i).toNat)
  case atStart => exact ⟨0, rfl, Nat.zero_le _, rfl⟩
  case round =>
    obtain ⟨pos, rfl, hle, HP⟩ := hrel
    by_cases hlt : pos < s.size
    · have Hd := Lib.hid (Dg.drop_at s pos hlt)
      by_cases h1 : ((s[pos]'hlt).toNat : Int) < 33
      · go_wp2
        go_ret
        have h2 : Dg.pl s.data.toList = false := by rw [← HP.out, Hd.out, Dg.pl_cons]; simp; omega
        exact ⟨by rw [Dg.plain, h2]; simp, rfl⟩
      · by_cases h3 : ((s[pos]'hlt).toNat : Int) ≤ 126
        · go_wp2
          go_round
          case rel =>
            refine ⟨pos + 1, by go_num, hlt, ?_⟩
            show _ = _
            rw [← HP.out, Hd.out, Dg.pl_cons, decide_eq_true (by omega : 33 ≤ (s[pos]'hlt).toNat), decide_eq_true (by omega : (s[pos]'hlt).toNat ≤ 126)]; rfl
          case measure => simp [intOf]; omega
        · go_wp2
          go_ret
          have h2 : Dg.pl s.data.toList = false := by rw [← HP.out, Hd.out, Dg.pl_cons]; simp; omega
          exact ⟨by rw [Dg.plain, h2]; simp, rfl⟩
    · go_wp2
      go_ret
      have h2 : Dg.pl s.data.toList = true := by rw [← HP.out, Dg.drop_end s pos hlt]; rfl
      refine ⟨?_, rfl⟩
      rw [Dg.plain, h2, Bool.and_true, Dg.empty_size]; rfl

/-- The texts that a slice holds. -/
def StrsAt (w : World) (v : Value) (W : List (List UInt8)) : Prop :=
  ∃ a cap, v = .slice a W.length cap ∧ (W = [] ∨ ∃ b off, a = some ⟨b, off, none⟩ ∧ b < w.heap.size ∧ ∀ j (h : j < W.length), w.cell? ⟨b, off + j, none⟩ = some (.string ⟨W[j].toArray⟩))

theorem strsAt_own {w : World} {B : Nat} {v : Value} {W : List (List UInt8)} (h : w.ownsRow B 9 1 v W.length (strCells W)) : StrsAt w v W := by
  rcases h.2 with ⟨rfl, h0⟩ | ⟨g, cap, cur, rfl, _⟩
  · have : W = [] := List.eq_nil_of_length_eq_zero h0
    subst this
    exact ⟨none, 0, rfl, .inl rfl⟩
  · refine ⟨some ⟨g, 0, none⟩, cap, rfl, .inr ⟨g, 0, rfl, (h.lt g rfl).2, fun j hj => ?_⟩⟩
    have := h.cellAt j (by omega)
    rw [Nat.zero_add, this]
    simp [strCells, hj]

set_option maxHeartbeats 1000000 in
set_option maxRecDepth 100000 in
theorem same_some (V : List (List UInt8)) (b1 o1 c1 b2 o2 c2 : Nat) (w : World) (hl : V.length ≤ 100000000)
    (h1 : ∀ j (h : j < V.length), w.cell? ⟨b1, o1 + j, none⟩ = some (.string ⟨V[j].toArray⟩)) (h2 : ∀ j (h : j < V.length), w.cell? ⟨b2, o2 + j, none⟩ = some (.string ⟨V[j].toArray⟩)) :
    Calls Tryd.prog 20 #[.slice (some ⟨b1, o1, none⟩) V.length c1, .slice (some ⟨b2, o2, none⟩) V.length c2] w fun e w' => e = .returned (.bool true) ∧ Below w.heap.size w w' := by
  have H1 := Lib.hid h1
  have H2 := Lib.hid h2
  clear h1 h2
  go_enter Tryd.func20, Tryd.ntmps20
  go_wp2
  go_loopw [5] (fun i wr => ∃ k : Nat, i = .int .i64 (k : Int) ∧ k ≤ V.length ∧ ∃ n, wr = w.drewN n) (fun i _ => V.length - (intOf i).toNat)
  case atStart => exact ⟨0, rfl, Nat.zero_le _, ⟨0, rfl⟩⟩
  case round =>
    obtain ⟨k, rfl, hk, nq0, rfl⟩ := hrel
    by_cases hlt : (k : Int) < (V.length : Int)
    · have hk1 : k < V.length := by omega
      have g1 := H1.out k hk1
      have g2 := H2.out k hk1
      go_wp2
      go_quiet (fail)
      go_wp2
      go_roundw
      case rel => exact ⟨k + 1, by go_num, by omega, _, rfl⟩
      case measure => simp [intOf]; omega
    · go_wp2
      go_ret
      exact ⟨rfl, below_drewN' (Below.refl _ _) _⟩
set_option maxHeartbeats 400000 in
theorem same_none (a1 a2 : Option Addr) (c1 c2 : Nat) (w : World) :
    Calls Tryd.prog 20 #[.slice a1 0 c1, .slice a2 0 c2] w fun e w' => e = .returned (.bool true) ∧ Below w.heap.size w w' := by
  go_enter Tryd.func20, Tryd.ntmps20
  go_wp2
  refine wp_loop_rounds 1 ?_
  rw [rounds_succ]
  go_wp2
  go_ret
  exact ⟨rfl, Below.refl _ _⟩

/-- Same: the same texts, in one order. -/
theorem same_any (V : List (List UInt8)) (v1 v2 : Value) (w : World) (hl : V.length ≤ 100000000) (h1 : StrsAt w v1 V) (h2 : StrsAt w v2 V) :
    Calls Tryd.prog 20 #[v1, v2] w fun e w' => e = .returned (.bool true) ∧ Below w.heap.size w w' := by
  obtain ⟨a1, c1, rfl, h1⟩ := h1
  obtain ⟨a2, c2, rfl, h2⟩ := h2
  rcases h1 with rfl | ⟨b1, o1, rfl, _, k1⟩
  · exact same_none a1 a2 c1 c2 w
  · rcases h2 with rfl | ⟨b2, o2, rfl, _, k2⟩
    · exact same_none _ a2 c1 c2 w
    · exact same_some V b1 o1 c1 b2 o2 c2 w hl k1 k2

theorem StrsAt.below {w w' : World} {v : Value} {W : List (List UInt8)} (h : StrsAt w v W) (hb : Below w.heap.size w w') : StrsAt w' v W := by
  obtain ⟨a, c, rfl, h⟩ := h
  refine ⟨a, c, rfl, ?_⟩
  rcases h with rfl | ⟨b, off, rfl, h1, h2⟩
  · exact .inl rfl
  · exact .inr ⟨b, off, rfl, Nat.lt_of_lt_of_le h1 hb.size, fun j hj => by rw [hb.cell (p := ⟨b, off + j, none⟩) h1]; exact h2 j hj⟩

theorem Dg.ext_one (s : ByteArray) (k : Nat) (h : k < s.size) : s.extract k (k + 1) = ⟨#[s[k]'h]⟩ := by
  rw [Dg.seg_data, Dg.seg, Dg.drop_at s k h]
  simp

set_option maxHeartbeats 1000000 in
set_option maxRecDepth 100000 in
theorem refWords_any (s : ByteArray) (w : World) (hs : s.size ≤ 1000000) :
    Calls Tryd.prog 22 #[.string s] w fun e w' => ∃ v, e = .returned v ∧ w'.ownsRow w.heap.size 9 1 v (Dg.words s.data.toList).length (strCells (Dg.words s.data.toList)) ∧ Below w.heap.size w w' := by
  obtain ⟨i0, hi, hz0, hz1, hz2⟩ := info_parts info9
  go_enter Tryd.func22, Tryd.ntmps22
  go_wp2
  go_loopw [3, 4, 5] (fun v cc i wr => ∃ (pos : Nat) (cur : List UInt8) (W : List (List UInt8)), i = .int .i64 (pos : Int) ∧ cc = .string ⟨cur.toArray⟩ ∧ wr.ownsRow w.heap.size 9 1 v W.length (strCells W) ∧ Below w.heap.size w wr ∧ pos ≤ s.size ∧ W.length ≤ pos ∧ cur.length ≤ pos ∧ Hid (W ++ Dg.wd cur (s.data.toList.drop pos) = Dg.words s.data.toList)) (fun _ _ i _ => s.size - (intOf i).toNat)
  case atStart => exact ⟨0, [], [], rfl, rfl, World.ownsRow_nil _ _ _ _, Below.refl _ _, Nat.zero_le _, Nat.zero_le _, Nat.zero_le _, rfl⟩
  case round =>
    obtain ⟨pos, cur, W, rfl, rfl, hown, hbw, hle, hWl, hcl, HW⟩ := hrel
    by_cases hlt : pos < s.size
    · have Hd := Lib.hid (Dg.drop_at s pos hlt)
      by_cases h32 : (s[pos]'hlt).toNat = 32
      · have hq : (((s[pos]'hlt).toNat : Int) != 32) = false := by rw [bne_eq_false_iff_eq]; omega
        have H32 := Lib.hid h32
        clear h32
        have HW2 : Hid ((W ++ Dg.one cur) ++ Dg.wd [] (s.data.toList.drop (pos + 1)) = Dg.words s.data.toList) := by
          show _ = _
          rw [← HW.out, Hd.out, show (s[pos]'hlt) = 32 from UInt8.toNat_inj.1 H32.out, Dg.wd_blank, List.append_assoc]
        by_cases hc : cur = []
        · have he : (⟨cur.toArray⟩ : ByteArray).toList.isEmpty = true := by rw [Lib.toList_data, hc]; rfl
          have hzz : cur.isEmpty = true := by rw [hc]; rfl
          have HC := Lib.hid hc
          clear hc
          go_wp2
          go_roundw
          case rel => exact ⟨pos + 1, [], W, by go_num, rfl, hown, hbw, hlt, by omega, by simp, by show _ = _; rw [← HW2.out, HC.out]; simp [Dg.one]⟩
          case measure => simp [intOf]; omega
        · have he : (⟨cur.toArray⟩ : ByteArray).toList.isEmpty = false := by rw [Lib.toList_data]; simpa using hc
          have hzz : cur.isEmpty = false := by simpa using hc
          have HC := Lib.hid hc
          clear hc
          go_wp2_with (at_builtin; refine wpList_append_own _ rfl _ _ 38 rfl w.heap.size 9 i0 (.string ⟨#[]⟩) 1 16 Tryd.underlying38 hi hz0 hz1 hz2 rfl (by decide) _ _ _ rfl (hown.alloc _) ⟨wr.heap.size, 0, none⟩ 1 1 [.string ⟨cur.toArray⟩] rfl rfl (cell_one_new _ _ _) (fun u hu => by simp at hu; subst hu; rfl) (by unfold maxLen; omega) (by omega) (by have := hbw.size; simp; omega) ?_; intro v2 w2 hown2 hgr2 hnil2)
          have hbw2 : Below w.heap.size w w2 := Below.grown (hbw.alloc hbw.size _) hgr2 (by have := hbw.size; simp; omega) (fun j hj => (hown.lt j hj).1)
          have hown3 : w2.ownsRow w.heap.size 9 1 v2 (W ++ [cur]).length (strCells (W ++ [cur])) := by
            rw [strCells_append, List.length_append]; exact hown2
          clear hown2 hgr2 hnil2
          go_roundw
          case rel => exact ⟨pos + 1, [], W ++ [cur], by go_num, rfl, hown3, hbw2, hlt, by simp; omega, by simp, by show _ = _; rw [← HW2.out]; simp [Dg.one, HC.out]⟩
          case measure => simp [intOf]; omega
      · have hq : (((s[pos]'hlt).toNat : Int) != 32) = true := by rw [bne_iff_ne]; omega
        have H32 := Lib.hid h32
        clear h32
        go_wp2
        go_roundw
        case rel => exact ⟨pos + 1, cur ++ [s[pos]'hlt], W, by go_num, by rw [Dg.ext_one s pos hlt, cat_snoc], hown, hbw, hlt, by omega, by simp; omega, by show _ = _; rw [← HW.out, Hd.out, Dg.wd_other _ _ _ (fun e => H32.out (by rw [e]; rfl))]⟩
        case measure => simp [intOf]; omega
    · have HE : Hid (W ++ Dg.one cur = Dg.words s.data.toList) := by
        show _ = _
        rw [← HW.out, Dg.drop_end s pos hlt, Dg.wd]
      by_cases hc : cur = []
      · have he : (⟨cur.toArray⟩ : ByteArray).toList.isEmpty = true := by rw [Lib.toList_data, hc]; rfl
        have hzz : cur.isEmpty = true := by rw [hc]; rfl
        have HC := Lib.hid hc
        clear hc
        go_wp2
        go_ret
        refine ⟨_, rfl, ?_, hbw⟩
        rw [← HE.out, HC.out]; simpa [Dg.one] using hown
      · have he : (⟨cur.toArray⟩ : ByteArray).toList.isEmpty = false := by rw [Lib.toList_data]; simpa using hc
        have hzz : cur.isEmpty = false := by simpa using hc
        have HC := Lib.hid hc
        clear hc
        go_wp2_with (at_builtin; refine wpList_append_own _ rfl _ _ 38 rfl w.heap.size 9 i0 (.string ⟨#[]⟩) 1 16 Tryd.underlying38 hi hz0 hz1 hz2 rfl (by decide) _ _ _ rfl (hown.alloc _) ⟨wr.heap.size, 0, none⟩ 1 1 [.string ⟨cur.toArray⟩] rfl rfl (cell_one_new _ _ _) (fun u hu => by simp at hu; subst hu; rfl) (by unfold maxLen; omega) (by omega) (by have := hbw.size; simp; omega) ?_; intro v2 w2 hown2 hgr2 hnil2)
        have hbw2 : Below w.heap.size w w2 := Below.grown (hbw.alloc hbw.size _) hgr2 (by have := hbw.size; simp; omega) (fun j hj => (hown.lt j hj).1)
        have hown3 : w2.ownsRow w.heap.size 9 1 v2 (W ++ [cur]).length (strCells (W ++ [cur])) := by
          rw [strCells_append, List.length_append]; exact hown2
        clear hown2 hgr2 hnil2
        go_ret
        refine ⟨_, rfl, ?_, hbw2⟩
        rw [← HE.out, Dg.one, if_neg HC.out]; exact hown3
end Go.Proofs.YtiiaahhdlgoklaaDoor
