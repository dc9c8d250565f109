/- Contract of the document's Put. -/
import Derived.Test.YtnhjpbhndckfgaaTp
import Derived.Deep.CutRange
namespace Go.Proofs.Ytnhjpbhndckfgaa
open Go.RowKit Go.Maps S2 S12

theorem TmAt.kept' {w w' : World} {g : Nat} {t : Tm.T} {row : Option Nat} (h : TmAt w g t) (hg : w.grownBy w' row) (hq : some g ≠ row) : TmAt w' g t := (hg.block g h.lt hq).trans h
theorem Tm.opts_two (t : Tm.T) (nm : Nat) (h : t.mru = (nm : Int)) (hm : nm ≤ 65535) :
    Tm.pick t.hasMru ⟨1, Oc.put nm 2 true⟩ ++ Tm.pick t.hasAccm ⟨2, Oc.put t.accm 4 true⟩ ++ Tm.pick (decide (t.login = 49187)) ⟨3, [192, 35]⟩ ++ Tm.pick (decide (t.login = 49699)) ⟨3, [194, 35, 5]⟩ ++ Tm.pick t.quality ⟨4, [192, 37]⟩ ++ Tm.pick t.hasMagic ⟨5, Oc.put t.magic 4 true⟩ ++ Tm.pick t.pfc ⟨7, []⟩ ++ Tm.pick t.acfc ⟨8, []⟩ = Tm.opts t := by
  have e1 : Tm.mruD t.mru = Oc.put nm 2 true := by
    unfold Tm.mruD
    rw [if_pos (by omega), h]; rfl
  have e2 : ∀ X : List Ot.O, X ++ Tm.pick (decide (t.login = 49187)) ⟨3, [192, 35]⟩ ++ Tm.pick (decide (t.login = 49699)) ⟨3, [194, 35, 5]⟩ = X ++ Tm.pick (decide (0 < (Tm.loginD t.login).length)) ⟨3, Tm.loginD t.login⟩ := by
    intro X
    unfold Tm.loginD
    by_cases h1 : t.login = 49187
    · rw [h1]; simp [Tm.pick]
    · by_cases h2 : t.login = 49699
      · rw [h2]; simp [Tm.pick]
      · simp [h1, h2, Tm.pick]
  unfold Tm.opts
  rw [e1, e2]
set_option maxRecDepth 100000 in
set_option maxHeartbeats 2000000 in
theorem refTermPut_any (t : Tm.T) (w : World) (hi : Tm.In t) (hm : Tm.may t = true) :
    Calls Try.prog 22 #[.agg (tcells t).toArray] w fun e w' => ∃ v, e = .returned v ∧ Opts w' w.heap.size v (Tm.opts t) ∧ Below w.heap.size w w' := by
  have hmr : 0 ≤ t.mru ∧ t.mru ≤ 65535 := by
    rw [Tm.may_eq] at hm
    simp only [Bool.and_eq_true, decide_eq_true_eq] at hm
    exact hm.1.1.1.1
  obtain ⟨nm, hnm⟩ := Int.eq_ofNat_of_zero_le hmr.1
  have hopts := Lib.hid (Tm.opts_two t nm hnm (by omega))
  have hwu : IntKind.u64.wrap t.mru = (nm : Int) := by rw [IntKind.wrap_u64]; omega
  have ha := hi.accm
  have hg := hi.magic
  have hn6 : nm ≤ 65535 := by omega
  have hwa : IntKind.u64.wrap (t.accm : Int) = (t.accm : Int) := by rw [IntKind.wrap_u64]; omega
  have hwg : IntKind.u64.wrap (t.magic : Int) = (t.magic : Int) := by rw [IntKind.wrap_u64]; omega
  have T0' : TmAt (w.alloc (.cells (tcells t).toArray 32)) w.heap.size t := heap_alloc_new w _
  have T0 := Lib.hid T0'
  have B0 := Lib.hid (below_one w (.cells (tcells t).toArray 32))
  have L0 : Hid (Lopts False (w.alloc (.cells (tcells t).toArray 32)) w (w.heap.size + 1) (.slice none 0 0) []) := lopts_none _ _ _ _
  have s0 : w.heap.size + 1 ≤ (w.alloc (.cells (tcells t).toArray 32)).heap.size := by simp
  clear hi hm hmr hnm T0'
  obtain ⟨m1, m2, a1, a2, lg, qu, g1, g2, pf, ac⟩ := t
  simp only [tcells] at T0 B0 L0 s0 hwu ha hg hwa hwg hopts ⊢
  go_enter Try.func22, Try.ntmps22
  go_upto_if 5 with fail
  show Code.wp _ _ _ _ (w.alloc (.cells #[.bool m1, .int .i64 m2, .bool a1, .int .u32 (a2 : Int), .int .i64 lg, .bool qu, .bool g1, .int .u32 (g2 : Int), .bool pf, .bool ac] 32))
  generalize w.alloc (.cells #[.bool m1, .int .i64 m2, .bool a1, .int .u32 (a2 : Int), .int .i64 lg, .bool qu, .bool g1, .int .u32 (g2 : Int), .bool pf, .bool ac] 32) = w0 at T0 B0 L0 s0 ⊢
  obtain ⟨A1, hA1⟩ : ∃ l, ([] : List Ot.O) ++ Tm.pick m1 ⟨1, Oc.put nm 2 true⟩ = l := ⟨_, rfl⟩
  have hl1 : A1.length ≤ 1 := by rw [← hA1, List.length_append]; have := Tm.pick_le m1 ⟨1, Oc.put nm 2 true⟩; simp only [List.length_nil]; omega
  go_cut [0, 3] from 4 (fun _ v wx => Hid (Lopts False wx w (w.heap.size + 1) v A1) ∧ Hid (TmAt wx w.heap.size (⟨m1, m2, a1, a2, lg, qu, g1, g2, pf, ac⟩ : Tm.T)) ∧ Hid (Below w.heap.size w wx) ∧ w.heap.size + 1 ≤ wx.heap.size)
  case first =>
    by_cases hb : m1 = true
    · subst hb
      rw [show Tm.pick true _ = [_] from rfl] at hA1
      have kd : w0.cell? ⟨w.heap.size, 1, none⟩ = some (.int .i64 m2) := T0.out.cell 1
      have C1 := Lib.hid (refPut_any nm 2 true w0 (by omega) (by omega))
      go_wp2_with fail
      refine C1.out.mono ?_
      rintro e x1 ⟨v, rfl, o1, b1⟩
      obtain ⟨p, c, rfl⟩ := own_slice o1
      have O1 := ownsRow_lower o1 s0
      have T1 := Lib.hid (T0.out.next b1)
      have L1 := Lib.hid (L0.out.next b1)
      have B1 := Lib.hid (Below.chain B0.out b1)
      have s1' := Nat.le_trans s0 b1.size
      clear o1 b1 kd C1
      have G2 := Lib.hid (heap_alloc_new x1 (.cells #[.int .i64 1, .slice p 2 c] 24))
      have b2 := below_one x1 (.cells #[.int .i64 1, .slice p 2 c] 24)
      have L2 := Lib.hid (L1.out.next b2)
      have T2 := Lib.hid (T1.out.next b2)
      have B2 := Lib.hid (Below.chain B1.out b2)
      have s2' := Nat.le_trans s1' b2.size
      have D2 : Hid (DataIs False (x1.alloc (.cells #[.int .i64 1, .slice p 2 c] 24)) w (w.heap.size + 1) (.slice p 2 c) (Oc.put nm 2 true)) := .inl (by rw [Oc.put_length]; exact ownsRow_next O1 b2)
      have LT := Lib.hid L2.out.lt
      clear O1 b2 L1 T1 B1
      go_wp2_with (at_builtin; refine wpList_append_lopts rfl (.tmp 6) (.tmp 12) rfl (w.heap.size + 1) _ ([] : List Ot.O) ⟨1, (Oc.put nm 2 true)⟩ (.slice p 2 c) x1.heap.size rfl rfl L2.out D2.out G2.out s2' (by simp) ?_; intro v8 w8 L8 g8 x8)
      go_meet
      case rel =>
        rw [hA1] at L8
        exact ⟨L8, T2.out.kept' g8 (fun e => by have := LT.out _ e.symm; omega), Below.grown B2.out g8 (by omega) (fun j hj => by have := LT.out j hj; omega), Nat.le_trans s2' g8.size⟩
    · rw [Bool.not_eq_true] at hb
      subst hb
      rw [show Tm.pick false _ = [] from rfl, List.append_nil] at hA1
      subst hA1
      go_wp2
      go_meet
      case rel => exact ⟨L0, T0, B0, s0⟩
  case rest =>
    obtain ⟨L1, T1, B1, s1⟩ := hcut
    obtain ⟨w1, hw⟩ : ∃ x, x = wc := ⟨_, rfl⟩
    rw [← hw] at L1 T1 B1 s1 ⊢
    clear hw L0 T0 B0 s0
    have kc : w1.cell? ⟨w.heap.size, 2, none⟩ = some (.bool a1) := T1.out.cell 2
    obtain ⟨A2, hA2⟩ : ∃ l, A1 ++ Tm.pick a1 ⟨2, Oc.put a2 4 true⟩ = l := ⟨_, rfl⟩
    have hl2 : A2.length ≤ 2 := by rw [← hA2, List.length_append]; have := Tm.pick_le a1 ⟨2, Oc.put a2 4 true⟩; omega
    go_upto_if 15 with fail
    go_cut [0, 3] from 4 (fun _ v wx => Hid (Lopts False wx w (w.heap.size + 1) v A2) ∧ Hid (TmAt wx w.heap.size (⟨m1, m2, a1, a2, lg, qu, g1, g2, pf, ac⟩ : Tm.T)) ∧ Hid (Below w.heap.size w wx) ∧ w.heap.size + 1 ≤ wx.heap.size)
    case first =>
      clear kc
      by_cases hb : a1 = true
      · subst hb
        rw [show Tm.pick true _ = [_] from rfl] at hA2
        have kd : w1.cell? ⟨w.heap.size, 3, none⟩ = some (.int .u32 (a2 : Int)) := T1.out.cell 3
        have C1 := Lib.hid (refPut_any a2 4 true w1 (by omega) (by omega))
        go_wp2_with fail
        refine C1.out.mono ?_
        rintro e x1 ⟨v, rfl, o1, b1⟩
        obtain ⟨p, c, rfl⟩ := own_slice o1
        have O1 := ownsRow_lower o1 s1
        have T1 := Lib.hid (T1.out.next b1)
        have L1 := Lib.hid (L1.out.next b1)
        have B1 := Lib.hid (Below.chain B1.out b1)
        have s1' := Nat.le_trans s1 b1.size
        clear o1 b1 kd C1
        have G2 := Lib.hid (heap_alloc_new x1 (.cells #[.int .i64 2, .slice p 4 c] 24))
        have b2 := below_one x1 (.cells #[.int .i64 2, .slice p 4 c] 24)
        have L2 := Lib.hid (L1.out.next b2)
        have T2 := Lib.hid (T1.out.next b2)
        have B2 := Lib.hid (Below.chain B1.out b2)
        have s2' := Nat.le_trans s1' b2.size
        have D2 : Hid (DataIs False (x1.alloc (.cells #[.int .i64 2, .slice p 4 c] 24)) w (w.heap.size + 1) (.slice p 4 c) (Oc.put a2 4 true)) := .inl (by rw [Oc.put_length]; exact ownsRow_next O1 b2)
        have LT := Lib.hid L2.out.lt
        clear O1 b2 L1 T1 B1
        go_wp2_with (at_builtin; refine wpList_append_lopts rfl (.tmp 16) (.tmp 22) rfl (w.heap.size + 1) _ A1 ⟨2, (Oc.put a2 4 true)⟩ (.slice p 4 c) x1.heap.size rfl rfl L2.out D2.out G2.out s2' (by omega) ?_; intro v8 w8 L8 g8 x8)
        go_meet
        case rel =>
          rw [hA2] at L8
          exact ⟨L8, T2.out.kept' g8 (fun e => by have := LT.out _ e.symm; omega), Below.grown B2.out g8 (by omega) (fun j hj => by have := LT.out j hj; omega), Nat.le_trans s2' g8.size⟩
      · rw [Bool.not_eq_true] at hb
        subst hb
        rw [show Tm.pick false _ = [] from rfl, List.append_nil] at hA2
        subst hA2
        go_wp2
        go_meet
        case rel => exact ⟨L1, T1, B1, s1⟩
    case rest =>
      obtain ⟨L2, T2, B2, s2⟩ := hcut
      obtain ⟨w2, hw⟩ : ∃ x, x = wc := ⟨_, rfl⟩
      rw [← hw] at L2 T2 B2 s2 ⊢
      clear hw L1 T1 B1 s1
      have kc : w2.cell? ⟨w.heap.size, 4, none⟩ = some (.int .i64 lg) := T2.out.cell 4
      obtain ⟨A3, hA3⟩ : ∃ l, A2 ++ Tm.pick (decide (lg = 49187)) ⟨3, [192, 35]⟩ = l := ⟨_, rfl⟩
      have hl3 : A3.length ≤ 3 := by rw [← hA3, List.length_append]; have := Tm.pick_le (decide (lg = 49187)) ⟨3, [192, 35]⟩; omega
      go_upto_if 26 with fail
      go_cut [0, 3] from 4 (fun _ v wx => Hid (Lopts False wx w (w.heap.size + 1) v A3) ∧ Hid (TmAt wx w.heap.size (⟨m1, m2, a1, a2, lg, qu, g1, g2, pf, ac⟩ : Tm.T)) ∧ Hid (Below w.heap.size w wx) ∧ w.heap.size + 1 ≤ wx.heap.size)
      case first =>
        clear kc
        by_cases hb : lg = 49187
        · subst hb
          rw [decide_eq_true rfl, show Tm.pick true _ = [_] from rfl] at hA3
          have b1 := below_one w2 (.cells #[.int .u8 192, .int .u8 35] 5)
          have O1 := row_built (w := w2.alloc (.cells #[.int .u8 192, .int .u8 35] 5)) (B := w.heap.size + 1) (g := w2.heap.size) (n := 2) [192, 35] rfl (heap_alloc_new w2 _) s2 (by decide)
          have T1 := Lib.hid (T2.out.next b1)
          have L1 := Lib.hid (L2.out.next b1)
          have B1 := Lib.hid (Below.chain B2.out b1)
          have s1' := Nat.le_trans s2 b1.size
          clear b1
          have G2 := Lib.hid (heap_alloc_new (w2.alloc (.cells #[.int .u8 192, .int .u8 35] 5)) (.cells #[.int .i64 3, .slice (some ⟨w2.heap.size, 0, none⟩) 2 2] 24))
          have b2 := below_one (w2.alloc (.cells #[.int .u8 192, .int .u8 35] 5)) (.cells #[.int .i64 3, .slice (some ⟨w2.heap.size, 0, none⟩) 2 2] 24)
          have L2 := Lib.hid (L1.out.next b2)
          have T2 := Lib.hid (T1.out.next b2)
          have B2 := Lib.hid (Below.chain B1.out b2)
          have s2' := Nat.le_trans s1' b2.size
          have D2 : Hid (DataIs False ((w2.alloc (.cells #[.int .u8 192, .int .u8 35] 5)).alloc (.cells #[.int .i64 3, .slice (some ⟨w2.heap.size, 0, none⟩) 2 2] 24)) w (w.heap.size + 1) (.slice (some ⟨w2.heap.size, 0, none⟩) 2 2) [192, 35]) := .inl (ownsRow_next O1 b2)
          have LT := Lib.hid L2.out.lt
          clear O1 b2 L1 T1 B1
          rw [show (w2.alloc (.cells #[.int .u8 192, .int .u8 35] 5)).heap.size = w2.heap.size + 1 by simp] at G2
          go_wp2_with (at_builtin; refine wpList_append_lopts rfl (.tmp 27) (.tmp 30) rfl (w.heap.size + 1) _ A2 ⟨3, [192, 35]⟩ (.slice (some ⟨w2.heap.size, 0, none⟩) 2 2) (w2.heap.size + 1) rfl rfl L2.out D2.out G2.out s2' (by omega) ?_; intro v8 w8 L8 g8 x8)
          go_meet
          case rel =>
            rw [hA3] at L8
            exact ⟨L8, T2.out.kept' g8 (fun e => by have := LT.out _ e.symm; omega), Below.grown B2.out g8 (by omega) (fun j hj => by have := LT.out j hj; omega), Nat.le_trans s2' g8.size⟩
        · rw [decide_eq_false hb, show Tm.pick false _ = [] from rfl, List.append_nil] at hA3
          subst hA3
          have hbb : (lg == 49187) = false := by simpa using hb
          clear hb
          go_wp2
          go_meet
          case rel => exact ⟨L2, T2, B2, s2⟩
      case rest =>
        obtain ⟨L3, T3, B3, s3⟩ := hcut
        obtain ⟨w3, hw⟩ : ∃ x, x = wc := ⟨_, rfl⟩
        rw [← hw] at L3 T3 B3 s3 ⊢
        clear hw L2 T2 B2 s2
        have kc : w3.cell? ⟨w.heap.size, 4, none⟩ = some (.int .i64 lg) := T3.out.cell 4
        obtain ⟨A4, hA4⟩ : ∃ l, A3 ++ Tm.pick (decide (lg = 49699)) ⟨3, [194, 35, 5]⟩ = l := ⟨_, rfl⟩
        have hl4 : A4.length ≤ 4 := by rw [← hA4, List.length_append]; have := Tm.pick_le (decide (lg = 49699)) ⟨3, [194, 35, 5]⟩; omega
        go_upto_if 34 with fail
        go_cut [0, 3] from 4 (fun _ v wx => Hid (Lopts False wx w (w.heap.size + 1) v A4) ∧ Hid (TmAt wx w.heap.size (⟨m1, m2, a1, a2, lg, qu, g1, g2, pf, ac⟩ : Tm.T)) ∧ Hid (Below w.heap.size w wx) ∧ w.heap.size + 1 ≤ wx.heap.size)
        case first =>
          clear kc
          by_cases hb : lg = 49699
          · subst hb
            rw [decide_eq_true rfl, show Tm.pick true _ = [_] from rfl] at hA4
            have b1 := below_one w3 (.cells #[.int .u8 194, .int .u8 35, .int .u8 5] 5)
            have O1 := row_built (w := w3.alloc (.cells #[.int .u8 194, .int .u8 35, .int .u8 5] 5)) (B := w.heap.size + 1) (g := w3.heap.size) (n := 3) [194, 35, 5] rfl (heap_alloc_new w3 _) s3 (by decide)
            have T1 := Lib.hid (T3.out.next b1)
            have L1 := Lib.hid (L3.out.next b1)
            have B1 := Lib.hid (Below.chain B3.out b1)
            have s1' := Nat.le_trans s3 b1.size
            clear b1
            have G2 := Lib.hid (heap_alloc_new (w3.alloc (.cells #[.int .u8 194, .int .u8 35, .int .u8 5] 5)) (.cells #[.int .i64 3, .slice (some ⟨w3.heap.size, 0, none⟩) 3 3] 24))
            have b2 := below_one (w3.alloc (.cells #[.int .u8 194, .int .u8 35, .int .u8 5] 5)) (.cells #[.int .i64 3, .slice (some ⟨w3.heap.size, 0, none⟩) 3 3] 24)
            have L2 := Lib.hid (L1.out.next b2)
            have T2 := Lib.hid (T1.out.next b2)
            have B2 := Lib.hid (Below.chain B1.out b2)
            have s2' := Nat.le_trans s1' b2.size
            have D2 : Hid (DataIs False ((w3.alloc (.cells #[.int .u8 194, .int .u8 35, .int .u8 5] 5)).alloc (.cells #[.int .i64 3, .slice (some ⟨w3.heap.size, 0, none⟩) 3 3] 24)) w (w.heap.size + 1) (.slice (some ⟨w3.heap.size, 0, none⟩) 3 3) [194, 35, 5]) := .inl (ownsRow_next O1 b2)
            have LT := Lib.hid L2.out.lt
            clear O1 b2 L1 T1 B1
            rw [show (w3.alloc (.cells #[.int .u8 194, .int .u8 35, .int .u8 5] 5)).heap.size = w3.heap.size + 1 by simp] at G2
            go_wp2_with (at_builtin; refine wpList_append_lopts rfl (.tmp 35) (.tmp 38) rfl (w.heap.size + 1) _ A3 ⟨3, [194, 35, 5]⟩ (.slice (some ⟨w3.heap.size, 0, none⟩) 3 3) (w3.heap.size + 1) rfl rfl L2.out D2.out G2.out s2' (by omega) ?_; intro v8 w8 L8 g8 x8)
            go_meet
            case rel =>
              rw [hA4] at L8
              exact ⟨L8, T2.out.kept' g8 (fun e => by have := LT.out _ e.symm; omega), Below.grown B2.out g8 (by omega) (fun j hj => by have := LT.out j hj; omega), Nat.le_trans s2' g8.size⟩
          · rw [decide_eq_false hb, show Tm.pick false _ = [] from rfl, List.append_nil] at hA4
            subst hA4
            have hbb : (lg == 49699) = false := by simpa using hb
            clear hb
            go_wp2
            go_meet
            case rel => exact ⟨L3, T3, B3, s3⟩
        case rest =>
          obtain ⟨L4, T4, B4, s4⟩ := hcut
          obtain ⟨w4, hw⟩ : ∃ x, x = wc := ⟨_, rfl⟩
          rw [← hw] at L4 T4 B4 s4 ⊢
          clear hw L3 T3 B3 s3
          have kc : w4.cell? ⟨w.heap.size, 5, none⟩ = some (.bool qu) := T4.out.cell 5
          obtain ⟨A5, hA5⟩ : ∃ l, A4 ++ Tm.pick qu ⟨4, [192, 37]⟩ = l := ⟨_, rfl⟩
          have hl5 : A5.length ≤ 5 := by rw [← hA5, List.length_append]; have := Tm.pick_le qu ⟨4, [192, 37]⟩; omega
          go_upto_if 41 with fail
          go_cut [0, 3] from 4 (fun _ v wx => Hid (Lopts False wx w (w.heap.size + 1) v A5) ∧ Hid (TmAt wx w.heap.size (⟨m1, m2, a1, a2, lg, qu, g1, g2, pf, ac⟩ : Tm.T)) ∧ Hid (Below w.heap.size w wx) ∧ w.heap.size + 1 ≤ wx.heap.size)
          case first =>
            clear kc
            by_cases hb : qu = true
            · subst hb
              rw [show Tm.pick true _ = [_] from rfl] at hA5
              have b1 := below_one w4 (.cells #[.int .u8 192, .int .u8 37] 5)
              have O1 := row_built (w := w4.alloc (.cells #[.int .u8 192, .int .u8 37] 5)) (B := w.heap.size + 1) (g := w4.heap.size) (n := 2) [192, 37] rfl (heap_alloc_new w4 _) s4 (by decide)
              have T1 := Lib.hid (T4.out.next b1)
              have L1 := Lib.hid (L4.out.next b1)
              have B1 := Lib.hid (Below.chain B4.out b1)
              have s1' := Nat.le_trans s4 b1.size
              clear b1
              have G2 := Lib.hid (heap_alloc_new (w4.alloc (.cells #[.int .u8 192, .int .u8 37] 5)) (.cells #[.int .i64 4, .slice (some ⟨w4.heap.size, 0, none⟩) 2 2] 24))
              have b2 := below_one (w4.alloc (.cells #[.int .u8 192, .int .u8 37] 5)) (.cells #[.int .i64 4, .slice (some ⟨w4.heap.size, 0, none⟩) 2 2] 24)
              have L2 := Lib.hid (L1.out.next b2)
              have T2 := Lib.hid (T1.out.next b2)
              have B2 := Lib.hid (Below.chain B1.out b2)
              have s2' := Nat.le_trans s1' b2.size
              have D2 : Hid (DataIs False ((w4.alloc (.cells #[.int .u8 192, .int .u8 37] 5)).alloc (.cells #[.int .i64 4, .slice (some ⟨w4.heap.size, 0, none⟩) 2 2] 24)) w (w.heap.size + 1) (.slice (some ⟨w4.heap.size, 0, none⟩) 2 2) [192, 37]) := .inl (ownsRow_next O1 b2)
              have LT := Lib.hid L2.out.lt
              clear O1 b2 L1 T1 B1
              rw [show (w4.alloc (.cells #[.int .u8 192, .int .u8 37] 5)).heap.size = w4.heap.size + 1 by simp] at G2
              go_wp2_with (at_builtin; refine wpList_append_lopts rfl (.tmp 42) (.tmp 45) rfl (w.heap.size + 1) _ A4 ⟨4, [192, 37]⟩ (.slice (some ⟨w4.heap.size, 0, none⟩) 2 2) (w4.heap.size + 1) rfl rfl L2.out D2.out G2.out s2' (by omega) ?_; intro v8 w8 L8 g8 x8)
              go_meet
              case rel =>
                rw [hA5] at L8
                exact ⟨L8, T2.out.kept' g8 (fun e => by have := LT.out _ e.symm; omega), Below.grown B2.out g8 (by omega) (fun j hj => by have := LT.out j hj; omega), Nat.le_trans s2' g8.size⟩
            · rw [Bool.not_eq_true] at hb
              subst hb
              rw [show Tm.pick false _ = [] from rfl, List.append_nil] at hA5
              subst hA5
              go_wp2
              go_meet
              case rel => exact ⟨L4, T4, B4, s4⟩
          case rest =>
            obtain ⟨L5, T5, B5, s5⟩ := hcut
            obtain ⟨w5, hw⟩ : ∃ x, x = wc := ⟨_, rfl⟩
            rw [← hw] at L5 T5 B5 s5 ⊢
            clear hw L4 T4 B4 s4
            have kc : w5.cell? ⟨w.heap.size, 6, none⟩ = some (.bool g1) := T5.out.cell 6
            obtain ⟨A6, hA6⟩ : ∃ l, A5 ++ Tm.pick g1 ⟨5, Oc.put g2 4 true⟩ = l := ⟨_, rfl⟩
            have hl6 : A6.length ≤ 6 := by rw [← hA6, List.length_append]; have := Tm.pick_le g1 ⟨5, Oc.put g2 4 true⟩; omega
            go_upto_if 48 with fail
            go_cut [0, 3] from 4 (fun _ v wx => Hid (Lopts False wx w (w.heap.size + 1) v A6) ∧ Hid (TmAt wx w.heap.size (⟨m1, m2, a1, a2, lg, qu, g1, g2, pf, ac⟩ : Tm.T)) ∧ Hid (Below w.heap.size w wx) ∧ w.heap.size + 1 ≤ wx.heap.size)
            case first =>
              clear kc
              by_cases hb : g1 = true
              · subst hb
                rw [show Tm.pick true _ = [_] from rfl] at hA6
                have kd : w5.cell? ⟨w.heap.size, 7, none⟩ = some (.int .u32 (g2 : Int)) := T5.out.cell 7
                have C1 := Lib.hid (refPut_any g2 4 true w5 (by omega) (by omega))
                go_wp2_with fail
                refine C1.out.mono ?_
                rintro e x1 ⟨v, rfl, o1, b1⟩
                obtain ⟨p, c, rfl⟩ := own_slice o1
                have O1 := ownsRow_lower o1 s5
                have T1 := Lib.hid (T5.out.next b1)
                have L1 := Lib.hid (L5.out.next b1)
                have B1 := Lib.hid (Below.chain B5.out b1)
                have s1' := Nat.le_trans s5 b1.size
                clear o1 b1 kd C1
                have G2 := Lib.hid (heap_alloc_new x1 (.cells #[.int .i64 5, .slice p 4 c] 24))
                have b2 := below_one x1 (.cells #[.int .i64 5, .slice p 4 c] 24)
                have L2 := Lib.hid (L1.out.next b2)
                have T2 := Lib.hid (T1.out.next b2)
                have B2 := Lib.hid (Below.chain B1.out b2)
                have s2' := Nat.le_trans s1' b2.size
                have D2 : Hid (DataIs False (x1.alloc (.cells #[.int .i64 5, .slice p 4 c] 24)) w (w.heap.size + 1) (.slice p 4 c) (Oc.put g2 4 true)) := .inl (by rw [Oc.put_length]; exact ownsRow_next O1 b2)
                have LT := Lib.hid L2.out.lt
                clear O1 b2 L1 T1 B1
                go_wp2_with (at_builtin; refine wpList_append_lopts rfl (.tmp 49) (.tmp 55) rfl (w.heap.size + 1) _ A5 ⟨5, (Oc.put g2 4 true)⟩ (.slice p 4 c) x1.heap.size rfl rfl L2.out D2.out G2.out s2' (by omega) ?_; intro v8 w8 L8 g8 x8)
                go_meet
                case rel =>
                  rw [hA6] at L8
                  exact ⟨L8, T2.out.kept' g8 (fun e => by have := LT.out _ e.symm; omega), Below.grown B2.out g8 (by omega) (fun j hj => by have := LT.out j hj; omega), Nat.le_trans s2' g8.size⟩
              · rw [Bool.not_eq_true] at hb
                subst hb
                rw [show Tm.pick false _ = [] from rfl, List.append_nil] at hA6
                subst hA6
                go_wp2
                go_meet
                case rel => exact ⟨L5, T5, B5, s5⟩
            case rest =>
              obtain ⟨L6, T6, B6, s6⟩ := hcut
              obtain ⟨w6, hw⟩ : ∃ x, x = wc := ⟨_, rfl⟩
              rw [← hw] at L6 T6 B6 s6 ⊢
              clear hw L5 T5 B5 s5
              have kc : w6.cell? ⟨w.heap.size, 8, none⟩ = some (.bool pf) := T6.out.cell 8
              obtain ⟨A7, hA7⟩ : ∃ l, A6 ++ Tm.pick pf ⟨7, []⟩ = l := ⟨_, rfl⟩
              have hl7 : A7.length ≤ 7 := by rw [← hA7, List.length_append]; have := Tm.pick_le pf ⟨7, []⟩; omega
              go_upto_if 58 with fail
              go_cut [0, 3] from 4 (fun _ v wx => Hid (Lopts False wx w (w.heap.size + 1) v A7) ∧ Hid (TmAt wx w.heap.size (⟨m1, m2, a1, a2, lg, qu, g1, g2, pf, ac⟩ : Tm.T)) ∧ Hid (Below w.heap.size w wx) ∧ w.heap.size + 1 ≤ wx.heap.size)
              case first =>
                clear kc
                by_cases hb : pf = true
                · subst hb
                  rw [show Tm.pick true _ = [_] from rfl] at hA7
                  have O1 : w6.ownsRow (w.heap.size + 1) 5 1 (.slice none 0 0) 0 (Lib.byteCells []) := World.ownsRow_nil _ _ _ _
                  have T1 := T6
                  have L1 := L6
                  have B1 := B6
                  have s1' := s6
                  have G2 := Lib.hid (heap_alloc_new w6 (.cells #[.int .i64 7, .slice none 0 0] 24))
                  have b2 := below_one w6 (.cells #[.int .i64 7, .slice none 0 0] 24)
                  have L2 := Lib.hid (L1.out.next b2)
                  have T2 := Lib.hid (T1.out.next b2)
                  have B2 := Lib.hid (Below.chain B1.out b2)
                  have s2' := Nat.le_trans s1' b2.size
                  have D2 : Hid (DataIs False (w6.alloc (.cells #[.int .i64 7, .slice none 0 0] 24)) w (w.heap.size + 1) (.slice none 0 0) []) := .inl (ownsRow_next O1 b2)
                  have LT := Lib.hid L2.out.lt
                  clear O1 b2 L1 T1 B1
                  go_wp2_with (at_builtin; refine wpList_append_lopts rfl (.tmp 59) (.tmp 61) rfl (w.heap.size + 1) _ A6 ⟨7, []⟩ (.slice none 0 0) w6.heap.size rfl rfl L2.out D2.out G2.out s2' (by omega) ?_; intro v8 w8 L8 g8 x8)
                  go_meet
                  case rel =>
                    rw [hA7] at L8
                    exact ⟨L8, T2.out.kept' g8 (fun e => by have := LT.out _ e.symm; omega), Below.grown B2.out g8 (by omega) (fun j hj => by have := LT.out j hj; omega), Nat.le_trans s2' g8.size⟩
                · rw [Bool.not_eq_true] at hb
                  subst hb
                  rw [show Tm.pick false _ = [] from rfl, List.append_nil] at hA7
                  subst hA7
                  go_wp2
                  go_meet
                  case rel => exact ⟨L6, T6, B6, s6⟩
              case rest =>
                obtain ⟨L7, T7, B7, s7⟩ := hcut
                obtain ⟨w7, hw⟩ : ∃ x, x = wc := ⟨_, rfl⟩
                rw [← hw] at L7 T7 B7 s7 ⊢
                clear hw L6 T6 B6 s6
                have kc : w7.cell? ⟨w.heap.size, 9, none⟩ = some (.bool ac) := T7.out.cell 9
                obtain ⟨A8, hA8⟩ : ∃ l, A7 ++ Tm.pick ac ⟨8, []⟩ = l := ⟨_, rfl⟩
                have hl8 : A8.length ≤ 8 := by rw [← hA8, List.length_append]; have := Tm.pick_le ac ⟨8, []⟩; omega
                go_upto_if 64 with fail
                go_cut [0, 3] from 4 (fun _ v wx => Hid (Lopts False wx w (w.heap.size + 1) v A8) ∧ Hid (TmAt wx w.heap.size (⟨m1, m2, a1, a2, lg, qu, g1, g2, pf, ac⟩ : Tm.T)) ∧ Hid (Below w.heap.size w wx) ∧ w.heap.size + 1 ≤ wx.heap.size)
                case first =>
                  clear kc
                  by_cases hb : ac = true
                  · subst hb
                    rw [show Tm.pick true _ = [_] from rfl] at hA8
                    have O1 : w7.ownsRow (w.heap.size + 1) 5 1 (.slice none 0 0) 0 (Lib.byteCells []) := World.ownsRow_nil _ _ _ _
                    have T1 := T7
                    have L1 := L7
                    have B1 := B7
                    have s1' := s7
                    have G2 := Lib.hid (heap_alloc_new w7 (.cells #[.int .i64 8, .slice none 0 0] 24))
                    have b2 := below_one w7 (.cells #[.int .i64 8, .slice none 0 0] 24)
                    have L2 := Lib.hid (L1.out.next b2)
                    have T2 := Lib.hid (T1.out.next b2)
                    have B2 := Lib.hid (Below.chain B1.out b2)
                    have s2' := Nat.le_trans s1' b2.size
                    have D2 : Hid (DataIs False (w7.alloc (.cells #[.int .i64 8, .slice none 0 0] 24)) w (w.heap.size + 1) (.slice none 0 0) []) := .inl (ownsRow_next O1 b2)
                    have LT := Lib.hid L2.out.lt
                    clear O1 b2 L1 T1 B1
                    go_wp2_with (at_builtin; refine wpList_append_lopts rfl (.tmp 65) (.tmp 67) rfl (w.heap.size + 1) _ A7 ⟨8, []⟩ (.slice none 0 0) w7.heap.size rfl rfl L2.out D2.out G2.out s2' (by omega) ?_; intro v8 w8 L8 g8 x8)
                    go_meet
                    case rel =>
                      rw [hA8] at L8
                      exact ⟨L8, T2.out.kept' g8 (fun e => by have := LT.out _ e.symm; omega), Below.grown B2.out g8 (by omega) (fun j hj => by have := LT.out j hj; omega), Nat.le_trans s2' g8.size⟩
                  · rw [Bool.not_eq_true] at hb
                    subst hb
                    rw [show Tm.pick false _ = [] from rfl, List.append_nil] at hA8
                    subst hA8
                    go_wp2
                    go_meet
                    case rel => exact ⟨L7, T7, B7, s7⟩
                case rest =>
                  obtain ⟨L8, T8, B8, s8⟩ := hcut
                  obtain ⟨w8, hw⟩ : ∃ x, x = wc := ⟨_, rfl⟩
                  rw [← hw] at L8 T8 B8 s8 ⊢
                  clear hw L7 T7 B7 s7
                  have hfin : A8 = Tm.opts (⟨m1, m2, a1, a2, lg, qu, g1, g2, pf, ac⟩ : Tm.T) := by
                    rw [← hA8, ← hA7, ← hA6, ← hA5, ← hA4, ← hA3, ← hA2, ← hA1, List.nil_append]
                    exact hopts.out
                  rw [hfin] at L8
                  have LL := Lib.hid L8.out.opts
                  clear L8 T8 hfin hA1 hA2 hA3 hA4 hA5 hA6 hA7 hA8
                  go_wp2
                  go_ret
                  exact ⟨_, rfl, LL.out.lower (by omega), B8.out⟩
end Go.Proofs.Ytnhjpbhndckfgaa
