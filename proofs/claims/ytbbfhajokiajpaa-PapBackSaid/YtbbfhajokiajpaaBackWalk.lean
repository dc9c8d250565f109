/- The law of what is put and read again. -/
import Derived.Test.YtbbfhajokiajpaaPutsWalk
namespace Go.Proofs.Ytbbfhajokiajpaa
open Go.RowKit

set_option maxRecDepth 100000 in
set_option maxHeartbeats 4000000 in
theorem back_walk (s u t : List UInt8) (a : Option Addr) (n cap : Nat) (xs : List UInt8) (w : World) (hn : xs.length = n) (h : RowAt w a cap xs) :
    Calls Try.prog 5 #[.agg (lcells s u).toArray, .string ⟨t.toArray⟩, .slice a n cap] w fun e w' => e = .returned (.bool true) ∧ Below w.heap.size w w' := by
  have H := Lib.hid h
  have HN := Lib.hid hn
  clear h hn
  by_cases h1 : 1000 < s.length
  · have i1 : (1000 : Int) < (s.length : Int) := by omega
    have L0 := Lib.hid (show LgAt (w.alloc (.cells (lcells s u).toArray 23)) w.heap.size s u from heap_alloc_new _ _)
    have B0 := Lib.hid (below_one w (.cells (lcells s u).toArray 23))
    simp only [lcells]
    go_enter Try.func5, Try.ntmps5
    go_wp2_with fail
    refine (awake_any _).mono ?_
    rintro e w1 ⟨rfl, b1⟩
    have L1 := Lib.hid (L0.out.next b1)
    have B1 := Lib.hid (Below.chain B0.out b1)
    have x0 := L1.out.fst
    have x1 := L1.out.snd
    clear b1 L0 B0
    clear L1
    go_wp2_with fail
    clear x0 x1
    refine (awake_any _).mono ?_
    rintro e w2 ⟨rfl, b2⟩
    have B2 := Lib.hid (Below.chain B1.out b2)
    clear b2 B1
    go_wp2
    go_ret
    exact ⟨rfl, B2.out⟩
  have i1 : (s.length : Int) ≤ 1000 := by omega
  by_cases h2 : 1000 < u.length
  · have i2 : (1000 : Int) < (u.length : Int) := by omega
    have L0 := Lib.hid (show LgAt (w.alloc (.cells (lcells s u).toArray 23)) w.heap.size s u from heap_alloc_new _ _)
    have B0 := Lib.hid (below_one w (.cells (lcells s u).toArray 23))
    simp only [lcells]
    go_enter Try.func5, Try.ntmps5
    go_wp2_with fail
    refine (awake_any _).mono ?_
    rintro e w1 ⟨rfl, b1⟩
    have L1 := Lib.hid (L0.out.next b1)
    have B1 := Lib.hid (Below.chain B0.out b1)
    have x0 := L1.out.fst
    have x1 := L1.out.snd
    clear b1 L0 B0
    clear L1
    go_wp2_with fail
    clear x0 x1
    refine (awake_any _).mono ?_
    rintro e w2 ⟨rfl, b2⟩
    have B2 := Lib.hid (Below.chain B1.out b2)
    clear b2 B1
    go_wp2
    go_ret
    exact ⟨rfl, B2.out⟩
  have i2 : (u.length : Int) ≤ 1000 := by omega
  by_cases h3 : 1000 < t.length
  · have i3 : (1000 : Int) < (t.length : Int) := by omega
    have L0 := Lib.hid (show LgAt (w.alloc (.cells (lcells s u).toArray 23)) w.heap.size s u from heap_alloc_new _ _)
    have B0 := Lib.hid (below_one w (.cells (lcells s u).toArray 23))
    simp only [lcells]
    go_enter Try.func5, Try.ntmps5
    go_wp2_with fail
    refine (awake_any _).mono ?_
    rintro e w1 ⟨rfl, b1⟩
    have L1 := Lib.hid (L0.out.next b1)
    have B1 := Lib.hid (Below.chain B0.out b1)
    have x0 := L1.out.fst
    have x1 := L1.out.snd
    clear b1 L0 B0
    clear L1
    go_wp2_with fail
    clear x0 x1
    refine (awake_any _).mono ?_
    rintro e w2 ⟨rfl, b2⟩
    have B2 := Lib.hid (Below.chain B1.out b2)
    clear b2 B1
    go_wp2
    go_ret
    exact ⟨rfl, B2.out⟩
  have i3 : (t.length : Int) ≤ 1000 := by omega
  by_cases h4 : 3000 < n
  · have i4 : (3000 : Int) < (n : Int) := by omega
    have L0 := Lib.hid (show LgAt (w.alloc (.cells (lcells s u).toArray 23)) w.heap.size s u from heap_alloc_new _ _)
    have B0 := Lib.hid (below_one w (.cells (lcells s u).toArray 23))
    simp only [lcells]
    go_enter Try.func5, Try.ntmps5
    go_wp2_with fail
    refine (awake_any _).mono ?_
    rintro e w1 ⟨rfl, b1⟩
    have L1 := Lib.hid (L0.out.next b1)
    have B1 := Lib.hid (Below.chain B0.out b1)
    have x0 := L1.out.fst
    have x1 := L1.out.snd
    clear b1 L0 B0
    clear L1
    go_wp2_with fail
    clear x0 x1
    refine (awake_any _).mono ?_
    rintro e w2 ⟨rfl, b2⟩
    have B2 := Lib.hid (Below.chain B1.out b2)
    clear b2 B1
    go_wp2
    go_ret
    exact ⟨rfl, B2.out⟩
  have i4 : (n : Int) ≤ 3000 := by omega
  have i5 : n ≤ 300000 := by omega
  rcases hA : Pp.ask xs with ⟨s', u', k⟩
  rcases hS : Pp.say xs with ⟨t', m⟩
  rcases hX : Pp.put [s', u'] with ⟨xs1, k1⟩
  rcases hY : Pp.put [t'] with ⟨xs2, k2⟩
  have hK : k = 0 → xs1 = xs := fun e => by
    have := Pp.ask_back (b := xs) (by rw [hA]; exact e)
    rw [hA] at this
    exact congrArg Prod.fst (hX.symm.trans this)
  have hM : m = 0 → xs2 = xs := fun e => by
    have := Pp.say_back (b := xs) (by rw [hS]; exact e)
    rw [hS] at this
    exact congrArg Prod.fst (hY.symm.trans this)
  have HA := Lib.hid hA
  have HS := Lib.hid hS
  have HX := Lib.hid hX
  have HY := Lib.hid hY
  have HK := Lib.hid hK
  have HM := Lib.hid hM
  have HQ := Lib.hid (Pp.put_cases [t])
  clear hA hS hX hY hK hM h1 h2 h3 h4
  rcases Pp.put_cases [s, u] with ⟨_, hp⟩ | ⟨hg, hp⟩
  · have HP := Lib.hid hp
    clear hp
    have L0 := Lib.hid (show LgAt (w.alloc (.cells (lcells s u).toArray 23)) w.heap.size s u from heap_alloc_new _ _)
    have B0 := Lib.hid (below_one w (.cells (lcells s u).toArray 23))
    simp only [lcells]
    go_enter Try.func5, Try.ntmps5
    go_wp2_with fail
    refine (awake_any _).mono ?_
    rintro e w1 ⟨rfl, b1⟩
    have L1 := Lib.hid (L0.out.next b1)
    have B1 := Lib.hid (Below.chain B0.out b1)
    have x0 := L1.out.fst
    have x1 := L1.out.snd
    clear b1 L0 B0
    go_wp2_with (refine wpList_value (by rfl) (run_load_lg (.tmp 3) rfl w.heap.size s u rfl L1.out) ?_)
    refine (putAsk_any s u w1).mono ?_
    intro e wa p2
    obtain ⟨p, cp, rfl, _, b2⟩ := p2.at (n := 0) (z := 4) HP.out rfl rfl
    have BA := Lib.hid (Below.chain B1.out b2)
    clear p2 b2 B1 L1 x0 x1 HP
    go_wp2_with fail
    rcases HQ.out with ⟨_, hq⟩ | ⟨hg, hq⟩
    · refine (putSay_any t wa).mono ?_
      intro e wb p4
      obtain ⟨q, cq, rfl, _, b4⟩ := p4.at (n := 0) (z := 4) hq rfl rfl
      have BB := Lib.hid (Below.chain BA.out b4)
      clear p4 b4 BA hq
      go_wp2_with fail
      refine (readAsk_any a n cap xs wb HN.out i5 (H.out.next BB.out)).mono ?_
      intro e wc p5
      obtain ⟨rfl, b5⟩ := p5.at HA.out rfl
      have BC := Lib.hid (Below.chain BB.out b5)
      clear p5 b5 BB
      go_wp2_with (first
        | (refine wpList_lgIn (w := wc) rfl (.tmp 15) (.tmp 89) rfl s' u' rfl rfl ?_; intro wd l6 b6; have LD := Lib.hid l6; have BD := Lib.hid (Below.chain BC.out b6); clear l6 b6 BC)
        | (refine wpList_value (by rfl) (run_load_lg (.tmp 15) rfl wc.heap.size s' u' rfl LD.out) ?_))
      refine (putAsk_any s' u' wd).mono ?_
      intro e we p7
      obtain ⟨p2, c2, rfl, r7, b7⟩ := p7.at HX.out rfl rfl
      have BE := Lib.hid (Below.chain BD.out b7)
      have RE := Lib.hid r7
      clear p7 b7 BD LD r7
      go_wp2_with fail
      refine (readSay_any a n cap xs we HN.out i5 (H.out.next BE.out)).mono ?_
      intro e wf p8
      obtain ⟨rfl, b8⟩ := p8.at HS.out rfl
      have BF := Lib.hid (Below.chain BE.out b8)
      have RF := Lib.hid (RE.out.next b8)
      clear p8 b8 BE RE
      go_wp2_with fail
      refine (putSay_any t' wf).mono ?_
      intro e wg p9
      obtain ⟨p3, c3, rfl, r9, b9⟩ := p9.at HY.out rfl rfl
      have BG := Lib.hid (Below.chain BF.out b9)
      have v1 := conv_row rfl (RF.out.next b9)
      have v2 := conv_row HN.out (H.out.next BG.out)
      have v3 := conv_row rfl r9
      clear p9 b9 BF RF r9 HA HS HX HY
      by_cases hk : k = 0
      · have e1 := HK.out hk
        rw [e1] at v1
        have f1 : ((k : Int) != 0) = false := by rw [hk]; rfl
        by_cases hm : m = 0
        · have e2 := HM.out hm
          rw [e2] at v3
          have f2 : ((m : Int) != 0) = false := by rw [hm]; rfl
          rw [e1, e2]
          generalize (⟨xs.toArray⟩ : ByteArray) = X at *
          go_wp2
          go_ret
          exact ⟨rfl, BG.out⟩
        · have f2 := ne_zero hm
          rw [e1]
          generalize (⟨xs.toArray⟩ : ByteArray) = X at *
          go_wp2
          go_ret
          exact ⟨rfl, BG.out⟩
      · have f1 := ne_zero hk
        by_cases hm : m = 0
        · have e2 := HM.out hm
          rw [e2] at v3
          have f2 : ((m : Int) != 0) = false := by rw [hm]; rfl
          rw [e2]
          generalize (⟨xs.toArray⟩ : ByteArray) = X at *
          go_wp2
          go_ret
          exact ⟨rfl, BG.out⟩
        · have f2 := ne_zero hm
          go_wp2
          go_ret
          exact ⟨rfl, BG.out⟩
    · have hk2 := Pp.say_put hg
      have hsz := Pp.bytes_small _ hg
      generalize Pp.bytes [t] = zs at *
      refine (putSay_any t wa).mono ?_
      intro e w3 p4
      obtain ⟨q, cq, rfl, r4, b4⟩ := p4.at (z := 0) hq rfl rfl
      have B3 := Lib.hid (Below.chain BA.out b4)
      have HK2 := Lib.hid hk2
      have R3 := Lib.hid r4
      clear p4 b4 BA hq hk2 r4 hg
      have i6 : zs.length ≤ 300000 := by simp at hsz; omega
      clear hsz
      go_wp2_with fail
      refine (readSay_any q zs.length cq zs w3 rfl i6 R3.out).mono ?_
      intro e wb p6
      obtain ⟨rfl, b6⟩ := p6.at (z := 0) HK2.out rfl
      have BB := Lib.hid (Below.chain B3.out b6)
      clear p6 b6 B3 HK2 R3
      go_wp2_with fail
      refine (readAsk_any a n cap xs wb HN.out i5 (H.out.next BB.out)).mono ?_
      intro e wc p5
      obtain ⟨rfl, b5⟩ := p5.at HA.out rfl
      have BC := Lib.hid (Below.chain BB.out b5)
      clear p5 b5 BB
      go_wp2_with (first
        | (refine wpList_lgIn (w := wc) rfl (.tmp 15) (.tmp 89) rfl s' u' rfl rfl ?_; intro wd l6 b6; have LD := Lib.hid l6; have BD := Lib.hid (Below.chain BC.out b6); clear l6 b6 BC)
        | (refine wpList_value (by rfl) (run_load_lg (.tmp 15) rfl wc.heap.size s' u' rfl LD.out) ?_))
      refine (putAsk_any s' u' wd).mono ?_
      intro e we p7
      obtain ⟨p2, c2, rfl, r7, b7⟩ := p7.at HX.out rfl rfl
      have BE := Lib.hid (Below.chain BD.out b7)
      have RE := Lib.hid r7
      clear p7 b7 BD LD r7
      go_wp2_with fail
      refine (readSay_any a n cap xs we HN.out i5 (H.out.next BE.out)).mono ?_
      intro e wf p8
      obtain ⟨rfl, b8⟩ := p8.at HS.out rfl
      have BF := Lib.hid (Below.chain BE.out b8)
      have RF := Lib.hid (RE.out.next b8)
      clear p8 b8 BE RE
      go_wp2_with fail
      refine (putSay_any t' wf).mono ?_
      intro e wg p9
      obtain ⟨p3, c3, rfl, r9, b9⟩ := p9.at HY.out rfl rfl
      have BG := Lib.hid (Below.chain BF.out b9)
      have v1 := conv_row rfl (RF.out.next b9)
      have v2 := conv_row HN.out (H.out.next BG.out)
      have v3 := conv_row rfl r9
      clear p9 b9 BF RF r9 HA HS HX HY
      by_cases hk : k = 0
      · have e1 := HK.out hk
        rw [e1] at v1
        have f1 : ((k : Int) != 0) = false := by rw [hk]; rfl
        by_cases hm : m = 0
        · have e2 := HM.out hm
          rw [e2] at v3
          have f2 : ((m : Int) != 0) = false := by rw [hm]; rfl
          rw [e1, e2]
          generalize (⟨xs.toArray⟩ : ByteArray) = X at *
          go_wp2
          go_ret
          exact ⟨rfl, BG.out⟩
        · have f2 := ne_zero hm
          rw [e1]
          generalize (⟨xs.toArray⟩ : ByteArray) = X at *
          go_wp2
          go_ret
          exact ⟨rfl, BG.out⟩
      · have f1 := ne_zero hk
        by_cases hm : m = 0
        · have e2 := HM.out hm
          rw [e2] at v3
          have f2 : ((m : Int) != 0) = false := by rw [hm]; rfl
          rw [e2]
          generalize (⟨xs.toArray⟩ : ByteArray) = X at *
          go_wp2
          go_ret
          exact ⟨rfl, BG.out⟩
        · have f2 := ne_zero hm
          go_wp2
          go_ret
          exact ⟨rfl, BG.out⟩
  · have hk2 := Pp.ask_put hg
    have hsz := Pp.bytes_small _ hg
    generalize Pp.bytes [s, u] = zs at *
    have HP := Lib.hid hp
    have HK2 := Lib.hid hk2
    have i6 : zs.length ≤ 300000 := by simp at hsz; omega
    clear hp hk2 hg hsz
    have L0 := Lib.hid (show LgAt (w.alloc (.cells (lcells s u).toArray 23)) w.heap.size s u from heap_alloc_new _ _)
    have B0 := Lib.hid (below_one w (.cells (lcells s u).toArray 23))
    simp only [lcells]
    go_enter Try.func5, Try.ntmps5
    go_wp2_with fail
    refine (awake_any _).mono ?_
    rintro e w1 ⟨rfl, b1⟩
    have L1 := Lib.hid (L0.out.next b1)
    have B1 := Lib.hid (Below.chain B0.out b1)
    have x0 := L1.out.fst
    have x1 := L1.out.snd
    clear b1 L0 B0
    go_wp2_with (refine wpList_value (by rfl) (run_load_lg (.tmp 3) rfl w.heap.size s u rfl L1.out) ?_)
    refine (putAsk_any s u w1).mono ?_
    intro e w2 p2
    obtain ⟨p, cp, rfl, r2, b2⟩ := p2.at (z := 0) HP.out rfl rfl
    have B2 := Lib.hid (Below.chain B1.out b2)
    have R2 := Lib.hid r2
    have L2 := Lib.hid (L1.out.next b2)
    clear p2 b2 B1 L1 x0 x1 HP r2
    go_wp2_with fail
    refine (readAsk_any p zs.length cp zs w2 rfl i6 R2.out).mono ?_
    intro e w3 p3
    obtain ⟨rfl, b3⟩ := p3.at (z := 0) HK2.out rfl
    have B3 := Lib.hid (Below.chain B2.out b3)
    have L3 := Lib.hid (L2.out.next b3)
    clear p3 b3 B2 L2 HK2 R2
    go_wp2_with (first
      | (refine wpList_lgIn (w := w3) rfl (.tmp 9) (.tmp 58) rfl s u rfl rfl ?_; intro wa l4 b4; have BA := Lib.hid (Below.chain B3.out b4); have L4 := Lib.hid (L3.out.next b4); have M4 := Lib.hid l4; clear l4 b4 B3 L3)
      | (refine wpList_value (by rfl) (run_load_lg (.tmp 9) rfl w3.heap.size s u rfl M4.out) ?_)
      | (refine wpList_value (by rfl) (run_load_lg (.tmp 3) rfl w.heap.size s u rfl L4.out) ?_)
      | (refine wpList_value (by rfl) (run_neq_lg (.tmp 63) (.tmp 64) rfl s u rfl rfl _) ?_))
    clear L4 M4 i6
    rcases HQ.out with ⟨_, hq⟩ | ⟨hg, hq⟩
    · refine (putSay_any t wa).mono ?_
      intro e wb p4
      obtain ⟨q, cq, rfl, _, b4⟩ := p4.at (n := 0) (z := 4) hq rfl rfl
      have BB := Lib.hid (Below.chain BA.out b4)
      clear p4 b4 BA hq
      go_wp2_with fail
      refine (readAsk_any a n cap xs wb HN.out i5 (H.out.next BB.out)).mono ?_
      intro e wc p5
      obtain ⟨rfl, b5⟩ := p5.at HA.out rfl
      have BC := Lib.hid (Below.chain BB.out b5)
      clear p5 b5 BB
      go_wp2_with (first
        | (refine wpList_lgIn (w := wc) rfl (.tmp 15) (.tmp 89) rfl s' u' rfl rfl ?_; intro wd l6 b6; have LD := Lib.hid l6; have BD := Lib.hid (Below.chain BC.out b6); clear l6 b6 BC)
        | (refine wpList_value (by rfl) (run_load_lg (.tmp 15) rfl wc.heap.size s' u' rfl LD.out) ?_))
      refine (putAsk_any s' u' wd).mono ?_
      intro e we p7
      obtain ⟨p2, c2, rfl, r7, b7⟩ := p7.at HX.out rfl rfl
      have BE := Lib.hid (Below.chain BD.out b7)
      have RE := Lib.hid r7
      clear p7 b7 BD LD r7
      go_wp2_with fail
      refine (readSay_any a n cap xs we HN.out i5 (H.out.next BE.out)).mono ?_
      intro e wf p8
      obtain ⟨rfl, b8⟩ := p8.at HS.out rfl
      have BF := Lib.hid (Below.chain BE.out b8)
      have RF := Lib.hid (RE.out.next b8)
      clear p8 b8 BE RE
      go_wp2_with fail
      refine (putSay_any t' wf).mono ?_
      intro e wg p9
      obtain ⟨p3, c3, rfl, r9, b9⟩ := p9.at HY.out rfl rfl
      have BG := Lib.hid (Below.chain BF.out b9)
      have v1 := conv_row rfl (RF.out.next b9)
      have v2 := conv_row HN.out (H.out.next BG.out)
      have v3 := conv_row rfl r9
      clear p9 b9 BF RF r9 HA HS HX HY
      by_cases hk : k = 0
      · have e1 := HK.out hk
        rw [e1] at v1
        have f1 : ((k : Int) != 0) = false := by rw [hk]; rfl
        by_cases hm : m = 0
        · have e2 := HM.out hm
          rw [e2] at v3
          have f2 : ((m : Int) != 0) = false := by rw [hm]; rfl
          rw [e1, e2]
          generalize (⟨xs.toArray⟩ : ByteArray) = X at *
          go_wp2
          go_ret
          exact ⟨rfl, BG.out⟩
        · have f2 := ne_zero hm
          rw [e1]
          generalize (⟨xs.toArray⟩ : ByteArray) = X at *
          go_wp2
          go_ret
          exact ⟨rfl, BG.out⟩
      · have f1 := ne_zero hk
        by_cases hm : m = 0
        · have e2 := HM.out hm
          rw [e2] at v3
          have f2 : ((m : Int) != 0) = false := by rw [hm]; rfl
          rw [e2]
          generalize (⟨xs.toArray⟩ : ByteArray) = X at *
          go_wp2
          go_ret
          exact ⟨rfl, BG.out⟩
        · have f2 := ne_zero hm
          go_wp2
          go_ret
          exact ⟨rfl, BG.out⟩
    · have hk2 := Pp.say_put hg
      have hsz := Pp.bytes_small _ hg
      generalize Pp.bytes [t] = zs at *
      refine (putSay_any t wa).mono ?_
      intro e w3 p4
      obtain ⟨q, cq, rfl, r4, b4⟩ := p4.at (z := 0) hq rfl rfl
      have B3 := Lib.hid (Below.chain BA.out b4)
      have HK2 := Lib.hid hk2
      have R3 := Lib.hid r4
      clear p4 b4 BA hq hk2 r4 hg
      have i6 : zs.length ≤ 300000 := by simp at hsz; omega
      clear hsz
      go_wp2_with fail
      refine (readSay_any q zs.length cq zs w3 rfl i6 R3.out).mono ?_
      intro e wb p6
      obtain ⟨rfl, b6⟩ := p6.at (z := 0) HK2.out rfl
      have BB := Lib.hid (Below.chain B3.out b6)
      clear p6 b6 B3 HK2 R3
      go_wp2_with fail
      refine (readAsk_any a n cap xs wb HN.out i5 (H.out.next BB.out)).mono ?_
      intro e wc p5
      obtain ⟨rfl, b5⟩ := p5.at HA.out rfl
      have BC := Lib.hid (Below.chain BB.out b5)
      clear p5 b5 BB
      go_wp2_with (first
        | (refine wpList_lgIn (w := wc) rfl (.tmp 15) (.tmp 89) rfl s' u' rfl rfl ?_; intro wd l6 b6; have LD := Lib.hid l6; have BD := Lib.hid (Below.chain BC.out b6); clear l6 b6 BC)
        | (refine wpList_value (by rfl) (run_load_lg (.tmp 15) rfl wc.heap.size s' u' rfl LD.out) ?_))
      refine (putAsk_any s' u' wd).mono ?_
      intro e we p7
      obtain ⟨p2, c2, rfl, r7, b7⟩ := p7.at HX.out rfl rfl
      have BE := Lib.hid (Below.chain BD.out b7)
      have RE := Lib.hid r7
      clear p7 b7 BD LD r7
      go_wp2_with fail
      refine (readSay_any a n cap xs we HN.out i5 (H.out.next BE.out)).mono ?_
      intro e wf p8
      obtain ⟨rfl, b8⟩ := p8.at HS.out rfl
      have BF := Lib.hid (Below.chain BE.out b8)
      have RF := Lib.hid (RE.out.next b8)
      clear p8 b8 BE RE
      go_wp2_with fail
      refine (putSay_any t' wf).mono ?_
      intro e wg p9
      obtain ⟨p3, c3, rfl, r9, b9⟩ := p9.at HY.out rfl rfl
      have BG := Lib.hid (Below.chain BF.out b9)
      have v1 := conv_row rfl (RF.out.next b9)
      have v2 := conv_row HN.out (H.out.next BG.out)
      have v3 := conv_row rfl r9
      clear p9 b9 BF RF r9 HA HS HX HY
      by_cases hk : k = 0
      · have e1 := HK.out hk
        rw [e1] at v1
        have f1 : ((k : Int) != 0) = false := by rw [hk]; rfl
        by_cases hm : m = 0
        · have e2 := HM.out hm
          rw [e2] at v3
          have f2 : ((m : Int) != 0) = false := by rw [hm]; rfl
          rw [e1, e2]
          generalize (⟨xs.toArray⟩ : ByteArray) = X at *
          go_wp2
          go_ret
          exact ⟨rfl, BG.out⟩
        · have f2 := ne_zero hm
          rw [e1]
          generalize (⟨xs.toArray⟩ : ByteArray) = X at *
          go_wp2
          go_ret
          exact ⟨rfl, BG.out⟩
      · have f1 := ne_zero hk
        by_cases hm : m = 0
        · have e2 := HM.out hm
          rw [e2] at v3
          have f2 : ((m : Int) != 0) = false := by rw [hm]; rfl
          rw [e2]
          generalize (⟨xs.toArray⟩ : ByteArray) = X at *
          go_wp2
          go_ret
          exact ⟨rfl, BG.out⟩
        · have f2 := ne_zero hm
          go_wp2
          go_ret
          exact ⟨rfl, BG.out⟩
end Go.Proofs.Ytbbfhajokiajpaa
