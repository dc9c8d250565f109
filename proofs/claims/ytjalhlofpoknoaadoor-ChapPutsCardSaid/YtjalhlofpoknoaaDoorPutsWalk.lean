/- The law of what is put. -/
import Derived.Test.YtjalhlofpoknoaaDoorCg
namespace Go.Proofs.YtjalhlofpoknoaaDoor
open Go.RowKit

set_option maxRecDepth 100000 in
set_option maxHeartbeats 2000000 in
theorem puts_walk (p : Option Addr) (n c : Nat) (v s : List UInt8) (w : World) (hn : v.length = n) (h : RowAt w p c v) (ht : S3.Tabs w) (hg : S3.Trig w) :
    Calls Tryd.prog 3 #[.agg (ccells p n c s).toArray] w fun e w' => e = .returned (.bool true) ∧ Below w.heap.size w w' := by
  have HT := Lib.hid ht
  have HG := Lib.hid hg
  have H := Lib.hid h
  have HN := Lib.hid hn
  clear ht hg h hn
  by_cases h1 : 1000 < n
  · have i1 : (1000 : Int) < (n : Int) := by omega
    have L0 := Lib.hid (show ChAt (w.alloc (.cells (ccells p n c s).toArray 24)) w.heap.size p n c s from heap_alloc_new _ _)
    have B0 := Lib.hid (below_one w (.cells (ccells p n c s).toArray 24))
    simp only [ccells]
    go_enter Tryd.func3, Tryd.ntmps3
    go_wp2_with fail
    refine (awake_any _ (HT.out.next B0.out) (HG.out.next B0.out)).mono ?_
    rintro e w1 ⟨rfl, b1⟩
    have L1 := Lib.hid (L0.out.next b1)
    have B1 := Lib.hid (Below.chain B0.out b1)
    have x0 := L1.out.fst
    have x1 := L1.out.snd
    clear b1 L0 B0
    clear L1
    go_wp2_with fail
    clear x0 x1
    refine (awake_any _ (HT.out.next B1.out) (HG.out.next B1.out)).mono ?_
    rintro e w2 ⟨rfl, b2⟩
    have B2 := Lib.hid (Below.chain B1.out b2)
    clear b2 B1
    go_wp2
    go_ret
    exact ⟨rfl, B2.out⟩
  have i1 : (n : Int) ≤ 1000 := by omega
  by_cases h2 : 70000 < s.length
  · have i2 : (70000 : Int) < (s.length : Int) := by omega
    have L0 := Lib.hid (show ChAt (w.alloc (.cells (ccells p n c s).toArray 24)) w.heap.size p n c s from heap_alloc_new _ _)
    have B0 := Lib.hid (below_one w (.cells (ccells p n c s).toArray 24))
    simp only [ccells]
    go_enter Tryd.func3, Tryd.ntmps3
    go_wp2_with fail
    refine (awake_any _ (HT.out.next B0.out) (HG.out.next B0.out)).mono ?_
    rintro e w1 ⟨rfl, b1⟩
    have L1 := Lib.hid (L0.out.next b1)
    have B1 := Lib.hid (Below.chain B0.out b1)
    have x0 := L1.out.fst
    have x1 := L1.out.snd
    clear b1 L0 B0
    clear L1
    go_wp2_with fail
    clear x0 x1
    refine (awake_any _ (HT.out.next B1.out) (HG.out.next B1.out)).mono ?_
    rintro e w2 ⟨rfl, b2⟩
    have B2 := Lib.hid (Below.chain B1.out b2)
    clear b2 B1
    go_wp2
    go_ret
    exact ⟨rfl, B2.out⟩
  have i2 : (s.length : Int) ≤ 70000 := by omega
  have h3 : n ≤ 300000 := by omega
  have h4 : s.length ≤ 300000 := by omega
  rcases hp : Ch.put v s with ⟨xs, k⟩
  have HP := Lib.hid hp
  clear hp h1 h2
  have L0 := Lib.hid (show ChAt (w.alloc (.cells (ccells p n c s).toArray 24)) w.heap.size p n c s from heap_alloc_new _ _)
  have B0 := Lib.hid (below_one w (.cells (ccells p n c s).toArray 24))
  simp only [ccells]
  go_enter Tryd.func3, Tryd.ntmps3
  go_wp2_with fail
  refine (awake_any _ (HT.out.next B0.out) (HG.out.next B0.out)).mono ?_
  rintro e w1 ⟨rfl, b1⟩
  have L1 := Lib.hid (L0.out.next b1)
  have B1 := Lib.hid (Below.chain B0.out b1)
  have x0 := L1.out.fst
  have x1 := L1.out.snd
  clear b1 L0 B0
  go_wp2_with (refine wpList_value (by rfl) (run_load_ch (.tmp 1) rfl w.heap.size p n c s rfl L1.out) ?_)
  refine (put_any p n c v s w1 HN.out h3 h4 (H.out.next B1.out)).mono ?_
  intro e w2 p2
  obtain ⟨p2, c2, rfl, o2⟩ := p2.at HP.out rfl rfl
  have L2 := Lib.hid (L1.out.next o2.bel)
  have B2 := Lib.hid (Below.chain B1.out o2.bel)
  have R2 := Lib.hid o2.row
  clear L1 B1 x0 x1 o2
  go_wp2_with (refine wpList_value (by rfl) (run_load_ch (.tmp 1) rfl w.heap.size p n c s rfl L2.out) ?_)
  refine (refPut_any p n c v s w2 HN.out h3 h4 (H.out.next B2.out)).mono ?_
  intro e w3 p3
  obtain ⟨p3, c3, rfl, o3⟩ := p3.at HP.out rfl rfl
  have B3 := Lib.hid (Below.chain B2.out o3.bel)
  have y1 := conv_row rfl (R2.out.next o3.bel)
  have y2 := conv_row rfl o3.row
  clear L2 B2 R2 o3
  generalize xs.length = m at *
  generalize (⟨xs.toArray⟩ : ByteArray) = Z at *
  go_wp2
  go_ret
  exact ⟨rfl, B3.out⟩
end Go.Proofs.YtjalhlofpoknoaaDoor
