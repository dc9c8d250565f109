/- The law of data that are cut off, and that have something behind. -/
import Derived.Test.YtbbfhajokiajpaaPutsWalk
namespace Go.Proofs.Ytbbfhajokiajpaa
open Go.RowKit

theorem bytes_two (s u : List UInt8) : (Pp.bytes [s, u]).length = s.length + u.length + 2 := by
  rw [Pp.bytes_cons, Pp.bytes_cons, List.length_cons, List.length_append, List.length_cons, List.length_append, show (Pp.bytes []).length = 0 from rfl]
  omega
set_option maxRecDepth 100000 in
set_option maxHeartbeats 2000000 in
theorem cuts_walk (s u : List UInt8) (cut m : Nat) (w : World) (hcut : cut ≤ 65535) (hm : m ≤ 255) :
    Calls Try.prog 6 #[.agg (lcells s u).toArray, .int .u16 (cut : Int), .int .u8 (m : Int)] w fun e w' => e = .returned (.bool true) ∧ Below w.heap.size w w' := by
  by_cases h1 : 1000 < s.length
  · have i1 : (1000 : Int) < (s.length : Int) := by omega
    have L0 := Lib.hid (show LgAt (w.alloc (.cells (lcells s u).toArray 23)) w.heap.size s u from heap_alloc_new _ _)
    have B0 := Lib.hid (below_one w (.cells (lcells s u).toArray 23))
    simp only [lcells]
    go_enter Try.func6, Try.ntmps6
    go_wp2_with fail
    refine (awake_any _).mono ?_
    rintro e w1 ⟨rfl, b1⟩
    have L1 := Lib.hid (L0.out.next b1)
    have B1 := Lib.hid (Below.chain B0.out b1)
    have x0 := L1.out.fst
    have x1 := L1.out.snd
    clear b1 L0 B0
    clear L1
    go_wp2_with fail
    clear x0 x1
    refine (awake_any _).mono ?_
    rintro e w2 ⟨rfl, b2⟩
    have B2 := Lib.hid (Below.chain B1.out b2)
    clear b2 B1
    go_wp2
    go_ret
    exact ⟨rfl, B2.out⟩
  have i1 : (s.length : Int) ≤ 1000 := by omega
  by_cases h2 : 1000 < u.length
  · have i2 : (1000 : Int) < (u.length : Int) := by omega
    have L0 := Lib.hid (show LgAt (w.alloc (.cells (lcells s u).toArray 23)) w.heap.size s u from heap_alloc_new _ _)
    have B0 := Lib.hid (below_one w (.cells (lcells s u).toArray 23))
    simp only [lcells]
    go_enter Try.func6, Try.ntmps6
    go_wp2_with fail
    refine (awake_any _).mono ?_
    rintro e w1 ⟨rfl, b1⟩
    have L1 := Lib.hid (L0.out.next b1)
    have B1 := Lib.hid (Below.chain B0.out b1)
    have x0 := L1.out.fst
    have x1 := L1.out.snd
    clear b1 L0 B0
    clear L1
    go_wp2_with fail
    clear x0 x1
    refine (awake_any _).mono ?_
    rintro e w2 ⟨rfl, b2⟩
    have B2 := Lib.hid (Below.chain B1.out b2)
    clear b2 B1
    go_wp2
    go_ret
    exact ⟨rfl, B2.out⟩
  have i2 : (u.length : Int) ≤ 1000 := by omega
  rcases Pp.put_cases [s, u] with ⟨_, hp⟩ | ⟨hg, hp⟩
  · have HP := Lib.hid hp
    clear hp h1 h2
    have L0 := Lib.hid (show LgAt (w.alloc (.cells (lcells s u).toArray 23)) w.heap.size s u from heap_alloc_new _ _)
    have B0 := Lib.hid (below_one w (.cells (lcells s u).toArray 23))
    simp only [lcells]
    go_enter Try.func6, Try.ntmps6
    go_wp2_with fail
    refine (awake_any _).mono ?_
    rintro e w1 ⟨rfl, b1⟩
    have L1 := Lib.hid (L0.out.next b1)
    have B1 := Lib.hid (Below.chain B0.out b1)
    have x0 := L1.out.fst
    have x1 := L1.out.snd
    clear b1 L0 B0
    go_wp2_with (refine wpList_value (by rfl) (run_load_lg (.tmp 3) rfl w.heap.size s u rfl L1.out) ?_)
    refine (putAsk_any s u w1).mono ?_
    intro e w2 p2
    obtain ⟨p, cp, rfl, r2, b2⟩ := p2.at (n := 0) (z := 4) HP.out rfl rfl
    have B2 := Lib.hid (Below.chain B1.out b2)
    clear p2 r2 b2 B1 L1 x0 x1
    go_wp2
    go_ret
    exact ⟨rfl, B2.out⟩
  · have hl := bytes_two s u
    obtain ⟨n, hn⟩ : ∃ n, (Pp.bytes [s, u]).length = n := ⟨_, rfl⟩
    rw [hn] at hl
    have i3 : ((n : Int) == 0) = false := by simp; omega
    have i4 : ¬ (n : Int) = 0 := by omega
    have hwc : IntKind.i64.wrap (cut : Int) = (cut : Int) := by rw [IntKind.wrap_i64]; omega
    obtain ⟨k, hk⟩ : ∃ k, cut % n = k := ⟨_, rfl⟩
    have hkn : k < n := by rw [← hk]; exact Nat.mod_lt _ (by omega)
    have hmod : (cut : Int).tmod (n : Int) = (k : Int) := by rw [Int.tmod_eq_emod_of_nonneg (by omega), ← hk]; simp
    have hc1 := Pp.ask_cut hg (k := k) (by rw [hn]; exact hkn)
    have hc2 := Pp.ask_more (UInt8.ofNat m) hg
    have hmo : (m : Int) = ((UInt8.ofNat m).toNat : Int) := by simp; omega
    have hn5 : n ≤ 2002 := by omega
    generalize UInt8.ofNat m = y at *
    generalize Pp.bytes [s, u] = xs at *
    have HP := Lib.hid hp
    have HN := Lib.hid hn
    have HC := Lib.hid hc1
    have HM := Lib.hid hc2
    have HMO := Lib.hid hmo
    clear hp h1 h2 hn hl hk hc1 hc2 hg hmo
    have L0 := Lib.hid (show LgAt (w.alloc (.cells (lcells s u).toArray 23)) w.heap.size s u from heap_alloc_new _ _)
    have B0 := Lib.hid (below_one w (.cells (lcells s u).toArray 23))
    simp only [lcells]
    go_enter Try.func6, Try.ntmps6
    go_wp2_with fail
    refine (awake_any _).mono ?_
    rintro e w1 ⟨rfl, b1⟩
    have L1 := Lib.hid (L0.out.next b1)
    have B1 := Lib.hid (Below.chain B0.out b1)
    have x0 := L1.out.fst
    have x1 := L1.out.snd
    clear b1 L0 B0
    go_wp2_with (refine wpList_value (by rfl) (run_load_lg (.tmp 3) rfl w.heap.size s u rfl L1.out) ?_)
    refine (putAsk_any s u w1).mono ?_
    intro e w2 p2
    obtain ⟨p, cp, rfl, r2, b2⟩ := p2.at (n := n) (z := 0) HP.out HN.out rfl
    have B2 := Lib.hid (Below.chain B1.out b2)
    have R2 := Lib.hid r2
    have hcn := r2.le
    rw [HN.out] at hcn
    have i5 : (k : Int) ≤ (cp : Int) := by omega
    clear p2 r2 b2 B1 L1 x0 x1
    go_wp2_with fail
    refine (readAsk_any p k cp (xs.take k) w2 (by rw [List.length_take, HN.out]; omega) (by omega) (R2.out.head k (by rw [HN.out]; omega))).mono ?_
    intro e w3 p3
    obtain ⟨rfl, b3⟩ := p3.at (z := 2) HC.out rfl
    have B3 := Lib.hid (Below.chain B2.out b3)
    have R3 := Lib.hid (R2.out.next b3)
    clear p3 b3 B2 R2
    go_wp2_with (first
      | (refine wpList_lgIn (w := w3) rfl (.tmp 9) (.tmp 51) rfl [] [] rfl rfl ?_; intro W4 l4 b4; have B4 := Lib.hid (Below.chain B3.out b4); have R4 := Lib.hid (R3.out.next b4); clear l4 b4 B3 R3)
      | (at_builtin; refine wpList_append_mine (W0 := W4) rfl (.tmp 54) (.tmp 55) rfl (some ⟨W4.heap.size, 0, none⟩) 0 0 n [] rfl ⟨rfl, World.ownsRow_made W4 #[] 0 (Nat.le_refl _) (Nat.zero_le _) rfl, below_one _ _⟩ p n cp xs rfl HN.out (R4.out.next (below_one _ _)) (by omega) (by omega) ?_; intro p5 c5 w5 O5'; have O5 : Hid (Own W4 w5 p5 n c5 xs) := O5'; clear O5' R4)
      | (at_builtin; refine wpList_append_mine (W0 := W4) rfl (.tmp 56) (.tmp 58) rfl p5 n c5 (n + 1) xs rfl (O5.out.next (below_one w5 _)) (some ⟨w5.heap.size, 0, none⟩) 1 1 [y] rfl rfl (one_built w5 y _ HMO.out) rfl (by omega) ?_; intro p6 c6 w6 O6'; have O6 := Lib.hid O6'; clear O6' O5))
    have B6 := Lib.hid (Below.chain B4.out O6.out.bel)
    refine (readAsk_any p6 (n + 1) c6 (xs ++ [y]) w6 O6.out.len (by omega) O6.out.row).mono ?_
    intro e w7 p7
    obtain ⟨rfl, b7⟩ := p7.at (z := 3) HM.out rfl
    have B7 := Lib.hid (Below.chain B6.out b7)
    clear p7 b7 B6 B4 O6
    go_wp2_with (refine wpList_lgIn (w := w7) rfl (.tmp 11) (.tmp 61) rfl [] [] rfl rfl ?_; intro W8 l8 b8; have B8 := Lib.hid (Below.chain B7.out b8); clear l8 b8 B7)
    go_ret
    exact ⟨rfl, B8.out⟩
end Go.Proofs.Ytbbfhajokiajpaa
