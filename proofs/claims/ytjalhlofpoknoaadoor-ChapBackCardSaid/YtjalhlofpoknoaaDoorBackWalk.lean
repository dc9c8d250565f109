/- The law of what is put, and read again. -/
import Derived.Test.YtjalhlofpoknoaaDoorCg
namespace Go.Proofs.YtjalhlofpoknoaaDoor
open Go.RowKit

set_option maxRecDepth 100000 in
set_option maxHeartbeats 4000000 in
theorem back_walk (p : Option Addr) (n c : Nat) (v s : List UInt8) (a : Option Addr) (m cap : Nat) (xs : List UInt8) (w : World) (hn : v.length = n) (h : RowAt w p c v) (hm : xs.length = m) (k : RowAt w a cap xs) (ht : S3.Tabs w) (hg : S3.Trig w) :
    Calls Tryd.prog 7 #[.agg (ccells p n c s).toArray, .slice a m cap] w fun e w' => e = .returned (.bool true) ∧ Below w.heap.size w w' := by
  have HT := Lib.hid ht
  have HG := Lib.hid hg
  have H := Lib.hid h
  have HN := Lib.hid hn
  have X := Lib.hid k
  have HM := Lib.hid hm
  clear ht hg h hn k hm
  by_cases h1 : 1000 < n
  · have i1 : (1000 : Int) < (n : Int) := by omega
    have L0 := Lib.hid (show ChAt (w.alloc (.cells (ccells p n c s).toArray 24)) w.heap.size p n c s from heap_alloc_new _ _)
    have B0 := Lib.hid (below_one w (.cells (ccells p n c s).toArray 24))
    simp only [ccells]
    go_enter Tryd.func7, Tryd.ntmps7
    go_wp2_with fail
    refine (awake_any _ (HT.out.next B0.out) (HG.out.next B0.out)).mono ?_
    rintro e w1 ⟨rfl, b1⟩
    have L1 := Lib.hid (L0.out.next b1)
    have B1 := Lib.hid (Below.chain B0.out b1)
    have x0 := L1.out.fst
    have x1 := L1.out.snd
    clear b1 L0 B0
    clear L1
    go_wp2_with fail
    clear x0 x1
    refine (awake_any _ (HT.out.next B1.out) (HG.out.next B1.out)).mono ?_
    rintro e w2 ⟨rfl, b2⟩
    have B2 := Lib.hid (Below.chain B1.out b2)
    clear b2 B1
    go_wp2
    go_ret
    exact ⟨rfl, B2.out⟩
  have i1 : (n : Int) ≤ 1000 := by omega
  by_cases h2 : 70000 < s.length
  · have i2 : (70000 : Int) < (s.length : Int) := by omega
    have L0 := Lib.hid (show ChAt (w.alloc (.cells (ccells p n c s).toArray 24)) w.heap.size p n c s from heap_alloc_new _ _)
    have B0 := Lib.hid (below_one w (.cells (ccells p n c s).toArray 24))
    simp only [ccells]
    go_enter Tryd.func7, Tryd.ntmps7
    go_wp2_with fail
    refine (awake_any _ (HT.out.next B0.out) (HG.out.next B0.out)).mono ?_
    rintro e w1 ⟨rfl, b1⟩
    have L1 := Lib.hid (L0.out.next b1)
    have B1 := Lib.hid (Below.chain B0.out b1)
    have x0 := L1.out.fst
    have x1 := L1.out.snd
    clear b1 L0 B0
    clear L1
    go_wp2_with fail
    clear x0 x1
    refine (awake_any _ (HT.out.next B1.out) (HG.out.next B1.out)).mono ?_
    rintro e w2 ⟨rfl, b2⟩
    have B2 := Lib.hid (Below.chain B1.out b2)
    clear b2 B1
    go_wp2
    go_ret
    exact ⟨rfl, B2.out⟩
  have i2 : (s.length : Int) ≤ 70000 := by omega
  by_cases h3 : 70000 < m
  · have i3 : (70000 : Int) < (m : Int) := by omega
    have L0 := Lib.hid (show ChAt (w.alloc (.cells (ccells p n c s).toArray 24)) w.heap.size p n c s from heap_alloc_new _ _)
    have B0 := Lib.hid (below_one w (.cells (ccells p n c s).toArray 24))
    simp only [ccells]
    go_enter Tryd.func7, Tryd.ntmps7
    go_wp2_with fail
    refine (awake_any _ (HT.out.next B0.out) (HG.out.next B0.out)).mono ?_
    rintro e w1 ⟨rfl, b1⟩
    have L1 := Lib.hid (L0.out.next b1)
    have B1 := Lib.hid (Below.chain B0.out b1)
    have x0 := L1.out.fst
    have x1 := L1.out.snd
    clear b1 L0 B0
    clear L1
    go_wp2_with fail
    clear x0 x1
    refine (awake_any _ (HT.out.next B1.out) (HG.out.next B1.out)).mono ?_
    rintro e w2 ⟨rfl, b2⟩
    have B2 := Lib.hid (Below.chain B1.out b2)
    clear b2 B1
    go_wp2
    go_ret
    exact ⟨rfl, B2.out⟩
  have i3 : (m : Int) ≤ 70000 := by omega
  have j1 : n ≤ 300000 := by omega
  have j2 : s.length ≤ 300000 := by omega
  have j3 : m ≤ 300000 := by omega
  have hps := Ch.put_small v s
  have hrp := Ch.read_put (v := v) (s := s)
  have hrs := Ch.read_small xs
  have hrb := Ch.read_back (b := xs)
  have hre := Ch.read_bad (b := xs)
  rcases hp : Ch.put v s with ⟨ys, k1⟩
  rcases hr : Ch.read xs with ⟨v2, s2, k2⟩
  rw [hp] at hps hrp
  rw [hr] at hrs hrb hre
  simp only at hps hrp hrs hrb hre
  obtain ⟨n2, hn2⟩ : ∃ n2, v2.length = n2 := ⟨_, rfl⟩
  obtain ⟨m1, hm1⟩ : ∃ m1, ys.length = m1 := ⟨_, rfl⟩
  have j4 : m1 ≤ 300000 := by omega
  have j5 : n2 ≤ 300000 := by omega
  have j6 : s2.length ≤ 300000 := by omega
  have HP := Lib.hid hp
  have HR := Lib.hid hr
  have HV := Lib.hid hn2
  have HY := Lib.hid hm1
  have HA := Lib.hid hrp
  have HB := Lib.hid hrb
  have HE : Hid (k2 ≠ 0 → Ch.read xs = ([], [], k2)) := fun e => hr.trans (hre e)
  clear hp hr hn2 hm1 hrp hrb hre hps hrs h1 h2 h3
  by_cases hk1 : k1 = 0
  · subst hk1
    have hA := Lib.hid (HA.out rfl)
    clear HA
    have L0 := Lib.hid (show ChAt (w.alloc (.cells (ccells p n c s).toArray 24)) w.heap.size p n c s from heap_alloc_new _ _)
    have B0 := Lib.hid (below_one w (.cells (ccells p n c s).toArray 24))
    simp only [ccells]
    go_enter Tryd.func7, Tryd.ntmps7
    go_wp2_with fail
    refine (awake_any _ (HT.out.next B0.out) (HG.out.next B0.out)).mono ?_
    rintro e w1 ⟨rfl, b1⟩
    have L1 := Lib.hid (L0.out.next b1)
    have B1 := Lib.hid (Below.chain B0.out b1)
    have x0 := L1.out.fst
    have x1 := L1.out.snd
    clear b1 L0 B0
    go_wp2_with (refine wpList_value (by rfl) (run_load_ch (.tmp 2) rfl w.heap.size p n c s rfl L1.out) ?_)
    refine (put_any p n c v s w1 HN.out j1 j2 (H.out.next B1.out)).mono ?_
    intro e w2 r2
    obtain ⟨p2, c2, rfl, o2⟩ := r2.at HP.out HY.out rfl
    have L2 := Lib.hid (L1.out.next o2.bel)
    have B2 := Lib.hid (Below.chain B1.out o2.bel)
    have R2 := Lib.hid o2.row
    clear L1 B1 x0 x1 o2 r2
    go_wp2_with fail
    refine (read_any p2 m1 c2 ys w2 HY.out j4 R2.out).mono ?_
    intro e w3 r3
    obtain ⟨p3, c3, rfl, o3⟩ := r3.at hA.out HN.out rfl
    have L3 := Lib.hid (L2.out.next o3.bel)
    have B3 := Lib.hid (Below.chain B2.out o3.bel)
    have R3 := Lib.hid o3.row
    clear L2 B2 R2 o3 r3
    go_wp2_with (first
      | (refine wpList_chIn (w := w3) rfl (.tmp 7) (.tmp 43) rfl p3 n c3 s rfl rfl ?_; intro w4 l4 b4; have M4 := Lib.hid l4; have L4 := Lib.hid (L3.out.next b4); have R4 := Lib.hid (R3.out.next b4); have B4 := Lib.hid (Below.chain B3.out b4); clear l4 b4 B3 L3 R3)
      | (refine wpList_value (by rfl) (run_load_ch (.tmp 2) rfl w.heap.size p n c s rfl L4.out) ?_)
      | (refine wpList_value (by rfl) (run_load_ch (.tmp 7) rfl w3.heap.size p3 n c3 s rfl M4.out) ?_))
    refine (same_any p p3 n c c3 v s w4 HN.out (H.out.next B4.out) R4.out).mono ?_
    rintro e w5 ⟨rfl, b5⟩
    have B5 := Lib.hid (Below.chain B4.out b5)
    clear b5 B4 L4 R4 M4
    generalize w3.heap.size = U at *
    go_wp2_with fail
    refine (read_any a m cap xs w5 HM.out j3 (X.out.next B5.out)).mono ?_
    intro e u1 q1
    by_cases hk2 : k2 = 0
    · subst hk2
      obtain ⟨a1, d1, rfl, o1⟩ := q1.at HR.out HV.out rfl
      have U1 := Lib.hid (Below.chain B5.out o1.bel)
      have V1 := Lib.hid o1.row
      clear q1 o1 B5
      go_wp2_with (first
        | (refine wpList_chIn (w := u1) rfl (.tmp 9) (.tmp 56) rfl a1 n2 d1 s2 rfl rfl ?_; intro u2 l2 b2; have M2 := Lib.hid l2; have V2 := Lib.hid (V1.out.next b2); have U2 := Lib.hid (Below.chain U1.out b2); clear l2 b2 U1 V1)
        | (refine wpList_value (by rfl) (run_load_ch (.tmp 9) rfl u1.heap.size a1 n2 d1 s2 rfl M2.out) ?_))
      refine (put_any a1 n2 d1 v2 s2 u2 HV.out j5 j6 V2.out).mono ?_
      intro e u3 q3
      obtain ⟨a3, d3, rfl, o3⟩ := q3.at (n := m) (HB.out (by trivial)) HM.out rfl
      have U3 := Lib.hid (Below.chain U2.out o3.bel)
      have y1 := conv_row HM.out o3.row
      have y2 := conv_row HM.out (X.out.next U3.out)
      clear q3 o3 U2 V2 M2
      generalize (⟨xs.toArray⟩ : ByteArray) = Z at *
      go_wp2
      go_ret
      exact ⟨rfl, U3.out⟩
    · have hbad := HE.out hk2
      obtain ⟨a1, d1, rfl, o1⟩ := q1.at hbad rfl rfl
      have i9 : ((k2 : Int) != 0) = true := by simp; omega
      have U1 := Lib.hid (Below.chain B5.out o1.bel)
      have V1 := Lib.hid o1.row
      clear q1 o1 B5
      go_wp2_with (first
        | (refine wpList_chIn (w := u1) rfl (.tmp 9) (.tmp 56) rfl a1 0 d1 [] rfl rfl ?_; intro u2 l2 b2; have M2 := Lib.hid l2; have V2 := Lib.hid (V1.out.next b2); have U2 := Lib.hid (Below.chain U1.out b2); clear l2 b2 U1 V1)
        | (refine wpList_value (by rfl) (run_load_ch (.tmp 9) rfl u1.heap.size a1 0 d1 [] rfl M2.out) ?_)
        | (refine wpList_value (by rfl) (run_build_none rfl _) ?_))
      refine (same_any a1 none 0 d1 0 [] [] u2 rfl V2.out (rowAt_nil _)).mono ?_
      rintro e u3 ⟨rfl, b3⟩
      have U3 := Lib.hid (Below.chain U2.out b3)
      clear b3 U2 V2 M2
      go_wp2
      go_ret
      exact ⟨rfl, U3.out⟩
  · have i4 : ((k1 : Int) == 0) = false := by simp; omega
    have L0 := Lib.hid (show ChAt (w.alloc (.cells (ccells p n c s).toArray 24)) w.heap.size p n c s from heap_alloc_new _ _)
    have B0 := Lib.hid (below_one w (.cells (ccells p n c s).toArray 24))
    simp only [ccells]
    go_enter Tryd.func7, Tryd.ntmps7
    go_wp2_with fail
    refine (awake_any _ (HT.out.next B0.out) (HG.out.next B0.out)).mono ?_
    rintro e w1 ⟨rfl, b1⟩
    have L1 := Lib.hid (L0.out.next b1)
    have B1 := Lib.hid (Below.chain B0.out b1)
    have x0 := L1.out.fst
    have x1 := L1.out.snd
    clear b1 L0 B0
    go_wp2_with (refine wpList_value (by rfl) (run_load_ch (.tmp 2) rfl w.heap.size p n c s rfl L1.out) ?_)
    refine (put_any p n c v s w1 HN.out j1 j2 (H.out.next B1.out)).mono ?_
    intro e w2 r2
    obtain ⟨p2, c2, rfl, o2⟩ := r2.at HP.out HY.out rfl
    have B2 := Lib.hid (Below.chain B1.out o2.bel)
    clear L1 B1 x0 x1 o2 r2
    go_wp2_with fail
    refine (read_any a m cap xs w2 HM.out j3 (X.out.next B2.out)).mono ?_
    intro e u1 q1
    by_cases hk2 : k2 = 0
    · subst hk2
      obtain ⟨a1, d1, rfl, o1⟩ := q1.at HR.out HV.out rfl
      have U1 := Lib.hid (Below.chain B2.out o1.bel)
      have V1 := Lib.hid o1.row
      clear q1 o1 B2
      go_wp2_with (first
        | (refine wpList_chIn (w := u1) rfl (.tmp 9) (.tmp 56) rfl a1 n2 d1 s2 rfl rfl ?_; intro u2 l2 b2; have M2 := Lib.hid l2; have V2 := Lib.hid (V1.out.next b2); have U2 := Lib.hid (Below.chain U1.out b2); clear l2 b2 U1 V1)
        | (refine wpList_value (by rfl) (run_load_ch (.tmp 9) rfl u1.heap.size a1 n2 d1 s2 rfl M2.out) ?_))
      refine (put_any a1 n2 d1 v2 s2 u2 HV.out j5 j6 V2.out).mono ?_
      intro e u3 q3
      obtain ⟨a3, d3, rfl, o3⟩ := q3.at (n := m) (HB.out (by trivial)) HM.out rfl
      have U3 := Lib.hid (Below.chain U2.out o3.bel)
      have y1 := conv_row HM.out o3.row
      have y2 := conv_row HM.out (X.out.next U3.out)
      clear q3 o3 U2 V2 M2
      generalize (⟨xs.toArray⟩ : ByteArray) = Z at *
      go_wp2
      go_ret
      exact ⟨rfl, U3.out⟩
    · have hbad := HE.out hk2
      obtain ⟨a1, d1, rfl, o1⟩ := q1.at hbad rfl rfl
      have i9 : ((k2 : Int) != 0) = true := by simp; omega
      have U1 := Lib.hid (Below.chain B2.out o1.bel)
      have V1 := Lib.hid o1.row
      clear q1 o1 B2
      go_wp2_with (first
        | (refine wpList_chIn (w := u1) rfl (.tmp 9) (.tmp 56) rfl a1 0 d1 [] rfl rfl ?_; intro u2 l2 b2; have M2 := Lib.hid l2; have V2 := Lib.hid (V1.out.next b2); have U2 := Lib.hid (Below.chain U1.out b2); clear l2 b2 U1 V1)
        | (refine wpList_value (by rfl) (run_load_ch (.tmp 9) rfl u1.heap.size a1 0 d1 [] rfl M2.out) ?_)
        | (refine wpList_value (by rfl) (run_build_none rfl _) ?_))
      refine (same_any a1 none 0 d1 0 [] [] u2 rfl V2.out (rowAt_nil _)).mono ?_
      rintro e u3 ⟨rfl, b3⟩
      have U3 := Lib.hid (Below.chain U2.out b3)
      clear b3 U2 V2 M2
      go_wp2
      go_ret
      exact ⟨rfl, U3.out⟩
end Go.Proofs.YtjalhlofpoknoaaDoor
