/- The law of what stays. -/
import Derived.Test.YtjalhlofpoknoaaDoorDb
namespace Go.Proofs.YtjalhlofpoknoaaDoor
open Go.RowKit

/-- What the law looks at again and again. -/
structure KpAt (w0 : World) (U V G : Nat) (p : Option Addr) (c : Nat) (q : Option Addr) (d m : Nat) (v s D : List UInt8) (w : World) : Prop where
  ch1 : ChAt w U p m c s
  ch2 : ChAt w V q m d s
  r1 : RowAt w p c v
  r2 : RowAt w q d v
  dig : w.heap[G]? = some (.cells (Lib.byteCells D).toArray 38 (0, 0))
  bel : Below w0.heap.size w0 w
theorem KpAt.next {w0 : World} {U V G : Nat} {p : Option Addr} {c : Nat} {q : Option Addr} {d m : Nat} {v s D : List UInt8} {w w' : World} (h : KpAt w0 U V G p c q d m v s D w) (b : Below w.heap.size w w') : KpAt w0 U V G p c q d m v s D w' :=
  ⟨h.ch1.next b, h.ch2.next b, h.r1.next b, h.r2.next b, block_next h.dig b, Below.chain h.bel b⟩
theorem keeps_long (a : Option Addr) (n cap : Nat) (w : World) (ht : S3.Tabs w) (hg : S3.Trig w) (i1 : (70000 : Int) < (n : Int)) :
    Calls Tryd.prog 8 #[.slice a n cap] w fun e w' => e = .returned (.bool true) ∧ Below w.heap.size w w' := by
  have HT := Lib.hid ht
  have HG := Lib.hid hg
  clear ht hg
  go_enter Tryd.func8, Tryd.ntmps8
  go_wp2_with fail
  refine (awake_any _ HT.out HG.out).mono ?_
  rintro e w1 ⟨rfl, b1⟩
  have B1 := Lib.hid b1
  clear b1
  go_wp2_with fail
  refine (awake_any _ (HT.out.next B1.out) (HG.out.next B1.out)).mono ?_
  rintro e w2 ⟨rfl, b2⟩
  have B2 := Lib.hid (Below.chain B1.out b2)
  clear b2 B1
  go_wp2
  go_ret
  exact ⟨rfl, B2.out⟩
set_option maxRecDepth 100000 in
set_option maxHeartbeats 4000000 in
theorem keeps_short (a : Option Addr) (n cap : Nat) (xs : List UInt8) (w : World) (hn : xs.length = n) (h : RowAt w a cap xs) (ht : S3.Tabs w) (hg : S3.Trig w) (i1 : (n : Int) ≤ 70000) :
    Calls Tryd.prog 8 #[.slice a n cap] w fun e w' => e = .returned (.bool true) ∧ Below w.heap.size w w' := by
  have HT := Lib.hid ht
  have HG := Lib.hid hg
  have H := Lib.hid h
  have HN := Lib.hid hn
  have i2 : n ≤ 70000 := by omega
  have hrs := Ch.read_small xs
  rcases hr : Ch.read xs with ⟨v, s, k⟩
  rw [hr] at hrs
  simp only at hrs
  obtain ⟨m, hm⟩ : ∃ m, v.length = m := ⟨_, rfl⟩
  have j5 : m ≤ 300000 := by omega
  have j6 : s.length ≤ 300000 := by omega
  have hps := Ch.put_small v s
  rcases hp : Ch.put v s with ⟨ys, k1⟩
  rw [hp] at hps
  simp only at hps
  obtain ⟨m1, hm1⟩ : ∃ m1, ys.length = m1 := ⟨_, rfl⟩
  have j7 : m1 ≤ 300000 := by omega
  have HR := Lib.hid hr
  have HV := Lib.hid hm
  have HP := Lib.hid hp
  have HY := Lib.hid hm1
  have HL := Lib.hid (Ch.answer_length 1 [115] xs)
  have HA := Lib.hid (fun W (b : Below w.heap.size w W) q d (r : RowAt W q d xs) => answer_any 1 [115] xs q n d W HN.out i2 (by simp) r (HT.out.next b))
  generalize Ch.answer 1 [115] xs = D at *
  clear hr hm hp hm1 hps hrs h hn ht hg
  go_enter Tryd.func8, Tryd.ntmps8
  go_wp2_with fail
  refine (awake_any _ HT.out HG.out).mono ?_
  rintro e w1 ⟨rfl, b1⟩
  have B1 := Lib.hid b1
  clear b1 HT HG
  go_wp2_with (at_builtin; refine wpList_append_mine (W0 := w1) rfl (.tmp 21) (.tmp 22) rfl (some ⟨w1.heap.size, 0, none⟩) 0 0 n [] rfl ⟨rfl, World.ownsRow_made w1 #[] 0 (Nat.le_refl _) (Nat.zero_le _) rfl, below_one _ _⟩ a n cap xs rfl HN.out (H.out.next (Below.chain B1.out (below_one _ _))) (by omega) (by omega) ?_; intro a2 c2 w2 O2'; have O2 : Hid (Own w1 w2 a2 n c2 xs) := O2'; clear O2')
  have B2 := Lib.hid (Below.chain B1.out O2.out.bel)
  have s1 := B1.out.size
  have HQ2 : Hid (∀ q, (Value.slice a2 n c2).ownBlock = some q → q < w2.heap.size) := fun q hq => (O2.out.own.lt q hq).2
  refine (read_any a2 n c2 xs w2 HN.out (by omega) O2.out.row).mono ?_
  intro e w3 q3
  obtain ⟨p3, c3, rfl, o3⟩ := q3.at HR.out HV.out rfl
  have V3 := Lib.hid o3
  have B3 := Lib.hid o3.bel
  have s3 := o3.bel.size
  clear q3 o3
  go_wp2_with (refine wpList_chIn (w := w3) rfl (.tmp 4) (.tmp 27) rfl p3 m c3 s rfl rfl ?_; intro w4 l4 b4; have L4 := Lib.hid l4; have V4 := Lib.hid (V3.out.next b4); have B4 := Lib.hid (Below.chain B3.out b4); clear l4 b4 B3 V3)
  refine (HA.out w4 (Below.chain B2.out B4.out) a2 c2 (O2.out.row.next B4.out)).mono ?_
  rintro e w5 ⟨rfl, b5⟩
  have L5 := Lib.hid (L4.out.next b5)
  have V5 := Lib.hid (V4.out.next b5)
  have B5 := Lib.hid (Below.chain B4.out b5)
  have s5 := B5.out.size
  clear b5 L4 V4 B4
  go_wp2_with (refine wpList_digIn (w := w5) rfl (.tmp 6) (.tmp 30) rfl D HL.out rfl rfl ?_; intro w6 g6 b6; have G6 := Lib.hid g6; have L6 := Lib.hid (L5.out.next b6); have V6 := Lib.hid (V5.out.next b6); have B6 := Lib.hid (Below.chain B5.out b6); clear g6 b6 L5 V5 B5; have O6 := Lib.hid (O2.out.next B6.out); have BB6 := Lib.hid (Below.chain B2.out B6.out); have y1 : (convert 22 9 (.slice a2 n c2)).run Tryd.prog w6 = .ok (.string ⟨xs.toArray⟩) w6 := conv_row HN.out O6.out.row; have y2 : (convert 22 9 (.slice a n cap)).run Tryd.prog w6 = .ok (.string ⟨xs.toArray⟩) w6 := conv_row HN.out (H.out.next BB6.out); generalize (⟨xs.toArray⟩ : ByteArray) = Z at y1 y2; clear O2 B2)
  clear y1 y2
  generalize w3.heap.size = U at *
  generalize w5.heap.size = G at *
  go_loopw [7] (fun i wr => ∃ (k : Nat) (ys : List UInt8), k ≤ n ∧ i = .int .i64 (k : Int) ∧ ys.length = n ∧ wr.ownsRow w1.heap.size 5 1 (.slice a2 n c2) n (Lib.byteCells ys) ∧ w6.grownBy wr (Value.slice a2 n c2).ownBlock ∧ Below w1.heap.size w6 wr) (fun i _ => n - (intOf i).toNat)
  case atStart => exact ⟨0, xs, Nat.zero_le _, rfl, HN.out, O6.out.own, ⟨rfl, rfl, rfl, Nat.le_refl _, fun _ _ _ => rfl⟩, Below.refl _ _⟩
  case round =>
    obtain ⟨j, zs, hk, rfl, hyl, hown, hgr, hbw⟩ := hrel
    by_cases hlt : (j : Int) < (n : Int)
    · have hk' : j < n := by omega
      rcases hown.2 with ⟨hv, h0⟩ | ⟨g, c', cur, hv, hB', _, _, _, _, _⟩
      · omega
      · simp only [Value.slice.injEq, true_and] at hv
        obtain ⟨rfl, rfl⟩ := hv
        have hcell := hown.cellAt j (by omega)
        have hfz := hown.frozenAt j
        have hyk : (Lib.byteCells zs)[j]? = some (.int .u8 ((zs[j]'(by omega)).toNat : Int)) := by simp [Lib.byteCells, hyl, hk']
        rw [hyk] at hcell
        clear hyk
        obtain ⟨y, hy⟩ : ∃ y, y = zs[j]'(by omega) := ⟨_, rfl⟩
        rw [← hy] at hcell
        have hy255 := y.toNat_lt
        clear hy
        have hst := hown.stored j (.int .u8 ((y + 1).toNat : Int))
        rw [← cells_set] at hst
        have Hst := Lib.hid hst
        have hvy : ((y + 1).toNat : Int) = ((y.toNat : Int) + 1) % 256 := by simp
        have Hvy := Lib.hid hvy
        clear hst hvy
        go_wp2
        go_roundw
        case rel => exact ⟨j + 1, zs.set j (y + 1), by omega, by go_num, by simpa using hyl, by rw [← Hvy.out]; exact Hst.out.1, by rw [← Hvy.out]; exact grownBy_trans hgr Hst.out.2, by rw [← Hvy.out]; exact hbw.setCell hB' _⟩
        case measure => simp [intOf]; omega
    · have BR := Lib.hid (BB6.out.trans (hbw.mono s1))
      have LR := Lib.hid (L6.out.kept hgr (fun e => by have := HQ2.out U e.symm; omega))
      have VR := Lib.hid (row_of_own HV.out (own_kept' V6.out.own hgr (fun q hq => HQ2.out q hq)))
      have GR := Lib.hid ((hgr.block G (lt_of_block G6.out) (fun e => by have := HQ2.out G e.symm; omega)).trans G6.out)
      clear hgr hbw hown BB6 L6 V6 G6 O6 B6
      go_wp2_with fail
      refine (refRead_any a n cap xs wr HN.out (by omega) (H.out.next BR.out)).mono ?_
      intro e w7 q7
      obtain ⟨p7, c7, rfl, o7⟩ := q7.at HR.out HV.out rfl
      have B7 := Lib.hid (Below.chain BR.out o7.bel)
      have L7 := Lib.hid (LR.out.next o7.bel)
      have V7 := Lib.hid (VR.out.next o7.bel)
      have G7 := Lib.hid (block_next GR.out o7.bel)
      have X7 := Lib.hid o7.row
      clear q7 o7 BR LR VR GR
      go_wp2_with (refine wpList_chIn (w := w7) rfl (.tmp 8) (.tmp 53) rfl p7 m c7 s rfl rfl ?_; intro w8 l8 b8; have K8 : Hid (KpAt w U w7.heap.size G p3 c3 p7 c7 m v s D w8) := ⟨L7.out.next b8, l8, V7.out.next b8, X7.out.next b8, block_next G7.out b8, Below.chain B7.out b8⟩; clear l8 b8 B7 L7 V7 G7 X7)
      have hS := K8.out.next ((Below.refl _ _).drew)
      generalize w7.heap.size = V at *
      refine held_start (S := fun W => KpAt w U V G p3 c3 p7 c7 m v s D W) 10 (by kernel_rfl) rfl ?_
      clear K8
      generalize w8.drew = w9 at *
      refine held_take 0 (v := .agg (ccells p3 m c3 s).toArray) rfl (by kernel_rfl) (by kernel_rfl) (by kernel_rfl) (fun _ _ _ h => h) hS (by rfl) (fun W hW => run_load_ch (.tmp 4) rfl U p3 m c3 s rfl hW.ch1) ?_
      simp only [Act.put, List.setIfInBounds_toArray, List.set_cons_zero, List.set_cons_succ]
      refine held_take 1 (v := .agg (ccells p7 m c7 s).toArray) rfl (by kernel_rfl) (by kernel_rfl) (by kernel_rfl) (fun _ _ _ h => h) hS (by rfl) (fun W hW => run_load_ch (.tmp 8) rfl V p7 m c7 s rfl hW.ch2) ?_
      simp only [Act.put, List.setIfInBounds_toArray, List.set_cons_zero, List.set_cons_succ]
      refine held_call 2 (f := 14) (args := #[.agg (ccells p3 m c3 s).toArray, .agg (ccells p7 m c7 s).toArray]) rfl (by kernel_rfl) (by rfl) (by go_simp) ?_
      refine (same_any p3 p7 m c3 c7 v s w9 HV.out hS.r1 hS.r2).mono ?_
      rintro e w10 ⟨rfl, b10⟩
      have hS2 := hS.next b10
      clear b10 hS
      refine ⟨_, rfl, hS2, ?_⟩
      simp only [Act.put, List.setIfInBounds_toArray, List.set_cons_zero, List.set_cons_succ]
      refine held_take 3 (v := ?_) rfl (by kernel_rfl) (by kernel_rfl) (by kernel_rfl) (fun _ _ _ h => h) (by assumption) (by rfl) ?_ ?_
      rotate_left
      · (intro W hW; go_simp; try with_reducible rfl)
      simp only [Act.put, List.setIfInBounds_toArray, List.set_cons_zero, List.set_cons_succ]
      refine held_take 4 (v := ?_) rfl (by kernel_rfl) (by kernel_rfl) (by kernel_rfl) (fun _ _ _ h => h) (by assumption) (by rfl) ?_ ?_
      rotate_left
      · (intro W hW; go_simp; try with_reducible rfl)
      simp only [Act.put, List.setIfInBounds_toArray, List.set_cons_zero, List.set_cons_succ]
      refine held_take 5 (v := .agg (Lib.byteCells D).toArray) rfl (by kernel_rfl) (by kernel_rfl) (by kernel_rfl) (fun _ _ _ h => h) hS2 (by rfl) (fun W hW => S3.run_load_row 38 (.tmp 6) rfl G rfl 38 _ _ _ hW.dig Tryd.underlying38 rfl (dig_size HL.out)) ?_
      simp only [Act.put, List.setIfInBounds_toArray, List.set_cons_zero, List.set_cons_succ]
      refine held_take 6 (v := ?_) rfl (by kernel_rfl) (by kernel_rfl) (by kernel_rfl) (fun _ _ _ h => h) (by assumption) (by rfl) ?_ ?_
      rotate_left
      · (intro W hW; go_simp; try with_reducible rfl)
      simp only [Act.put, List.setIfInBounds_toArray, List.set_cons_zero, List.set_cons_succ]
      refine held_call 7 (f := 15) (args := #[.int .i64 1, .string ⟨[115].toArray⟩, .slice a n cap]) rfl (by kernel_rfl) (by rfl) (by go_simp) ?_
      refine (HA.out w10 hS2.bel a cap (H.out.next hS2.bel)).mono ?_
      rintro e w11 ⟨rfl, b11⟩
      have hS := hS2.next b11
      clear b11 hS2
      refine ⟨_, rfl, hS, ?_⟩
      simp only [Act.put, List.setIfInBounds_toArray, List.set_cons_zero, List.set_cons_succ]
      refine held_take 8 (v := .bool false) rfl (by kernel_rfl) (by kernel_rfl) (by kernel_rfl) (fun _ _ _ h => h) hS (by rfl) (fun W _ => (run_neq_16 (.tmp 60) (.tmp 62) rfl D D HL.out HL.out rfl rfl W).trans (by rw [decide_eq_true (rfl : D = D)]; rfl)) ?_
      simp only [Act.put, List.setIfInBounds_toArray, List.set_cons_zero, List.set_cons_succ]
      refine held_take 9 (v := ?_) rfl (by kernel_rfl) (by kernel_rfl) (by kernel_rfl) (fun _ _ _ h => h) (by assumption) (by rfl) ?_ ?_
      rotate_left
      · (intro W hW; go_simp; try with_reducible rfl)
      simp only [Act.put, List.setIfInBounds_toArray, List.set_cons_zero, List.set_cons_succ]
      refine held_done (by kernel_rfl) ?_
      go_wp2_with (refine wpList_value (by rfl) (run_load_ch (.tmp 4) rfl U p3 m c3 s rfl hS.ch1) ?_)
      refine (put_any p3 m c3 v s w11 HV.out j5 j6 hS.r1).mono ?_
      intro e w12 q12
      obtain ⟨p12, c12, rfl, o12⟩ := q12.at HP.out HY.out rfl
      have O12 := Lib.hid o12
      have KS := Lib.hid hS
      clear q12 o12 hS
      go_wp2_with fail
      go_loopw [12] (fun i wr => ∃ (k : Nat) (ys : List UInt8), k ≤ m1 ∧ i = .int .i64 (k : Int) ∧ ys.length = m1 ∧ wr.ownsRow w11.heap.size 5 1 (.slice p12 m1 c12) m1 (Lib.byteCells ys) ∧ w12.grownBy wr (Value.slice p12 m1 c12).ownBlock ∧ Below w11.heap.size w12 wr) (fun i _ => m1 - (intOf i).toNat)
      case atStart => exact ⟨0, ys, Nat.zero_le _, rfl, HY.out, O12.out.own, ⟨rfl, rfl, rfl, Nat.le_refl _, fun _ _ _ => rfl⟩, Below.refl _ _⟩
      case round =>
        obtain ⟨j, zs, hk, rfl, hyl, hown, hgr, hbw⟩ := hrel
        by_cases hlt : (j : Int) < (m1 : Int)
        · have hk' : j < m1 := by omega
          rcases hown.2 with ⟨hv, h0⟩ | ⟨g, c', cur, hv, hB', _, _, _, _, _⟩
          · omega
          · simp only [Value.slice.injEq, true_and] at hv
            obtain ⟨rfl, rfl⟩ := hv
            have hcell := hown.cellAt j (by omega)
            have hfz := hown.frozenAt j
            have hyk : (Lib.byteCells zs)[j]? = some (.int .u8 ((zs[j]'(by omega)).toNat : Int)) := by simp [Lib.byteCells, hyl, hk']
            rw [hyk] at hcell
            clear hyk
            obtain ⟨y, hy⟩ : ∃ y, y = zs[j]'(by omega) := ⟨_, rfl⟩
            rw [← hy] at hcell
            have hy255 := y.toNat_lt
            clear hy
            have hst := hown.stored j (.int .u8 ((y + 1).toNat : Int))
            rw [← cells_set] at hst
            have Hst := Lib.hid hst
            have hvy : ((y + 1).toNat : Int) = ((y.toNat : Int) + 1) % 256 := by simp
            have Hvy := Lib.hid hvy
            clear hst hvy
            go_wp2
            go_roundw
            case rel => exact ⟨j + 1, zs.set j (y + 1), by omega, by go_num, by simpa using hyl, by rw [← Hvy.out]; exact Hst.out.1, by rw [← Hvy.out]; exact grownBy_trans hgr Hst.out.2, by rw [← Hvy.out]; exact hbw.setCell hB' _⟩
            case measure => simp [intOf]; omega
        · have KE := Lib.hid (KS.out.next (Below.trans O12.out.bel hbw))
          clear hown hgr hbw KS O12
          go_wp2_with (first
            | (refine wpList_value (by rfl) (run_load_ch (.tmp 4) rfl U p3 m c3 s rfl KE.out.ch1) ?_)
            | (refine wpList_value (by rfl) (run_load_ch (.tmp 8) rfl V p7 m c7 s rfl KE.out.ch2) ?_))
          refine (same_any p3 p7 m c3 c7 v s _ HV.out KE.out.r1 KE.out.r2).mono ?_
          rintro e w14 ⟨rfl, b14⟩
          have BZ := Lib.hid (Below.chain KE.out.bel b14)
          clear b14 KE
          go_wp2
          go_ret
          exact ⟨rfl, BZ.out⟩
theorem keeps_walk (a : Option Addr) (n cap : Nat) (xs : List UInt8) (w : World) (hn : xs.length = n) (h : RowAt w a cap xs) (ht : S3.Tabs w) (hg : S3.Trig w) :
    Calls Tryd.prog 8 #[.slice a n cap] w fun e w' => e = .returned (.bool true) ∧ Below w.heap.size w w' := by
  by_cases hb : (70000 : Int) < (n : Int)
  · exact keeps_long a n cap w ht hg hb
  · exact keeps_short a n cap xs w hn h ht hg (by omega)
end Go.Proofs.YtjalhlofpoknoaaDoor
