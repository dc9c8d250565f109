/- Contracts of the document's May, Put and Read. -/
import Derived.Test.YtphamnpafafpkaaHc
namespace Go.Proofs.Ytphamnpafafpkaa
open Go.RowKit

theorem refMay_any (p : Int) (w : World) :
    Calls Try.prog 10 #[.int .i64 p] w fun e w' => e = .returned (.bool (Hd.may p)) ∧ w' = w := by
  by_cases h1 : 0 < p
  · by_cases h2 : p < 65536
    · have hm : Hd.may p = (decide (p % 2 = 1) && (decide (p / 256 % 2 = 0) && decide (p ≠ 255))) := by
        rw [Bool.eq_iff_iff, Hd.may_iff]; simp; omega
      rw [hm]
      by_cases h3 : p % 2 = 1
      · by_cases h4 : p / 256 % 2 = 0
        · go_enter Try.func10, Try.ntmps10
          go_wp2
          go_ret
          exact ⟨ret_bool (by simp [h3, h4, bne]; rfl), rfl⟩
        · go_enter Try.func10, Try.ntmps10
          go_wp2
          go_ret
          exact ⟨ret_bool (by simp [h4]), rfl⟩
      · go_enter Try.func10, Try.ntmps10
        go_wp2
        go_ret
        exact ⟨ret_bool (by simp [h3]), rfl⟩
    · have hm : Hd.may p = false := (Hd.may_not p).2 (by omega)
      rw [hm]
      go_enter Try.func10, Try.ntmps10
      go_wp2
      go_ret
      exact ⟨rfl, rfl⟩
  · have hm : Hd.may p = false := (Hd.may_not p).2 (by omega)
    rw [hm]
    go_enter Try.func10, Try.ntmps10
    go_wp2
    go_ret
    exact ⟨rfl, rfl⟩

theorem bt_cell {w : World} {a : Option Addr} {c : Nat} {xs : List UInt8} (h : RowAt w a c xs) (h0 : 0 < xs.length) : ∃ b off, a = some ⟨b, off, none⟩ ∧ b < w.heap.size ∧ ∀ k, k < xs.length → w.cell? ⟨b, off + k, none⟩ = some (.int .u8 (Hd.bt xs k : Nat)) := by
  rcases h.bytes with rfl | ⟨b, off, rfl, hb, hc⟩
  · simp at h0
  · exact ⟨b, off, rfl, hb, fun k hk => by rw [Hd.bt_in xs k hk]; exact hc k hk⟩

/-- Two heads of nothing. -/
def w00 (w : World) : World := (w.alloc (.cells #[.int .i64 0, .int .i64 0] 31)).alloc (.cells #[.int .i64 0, .int .i64 0] 31)
theorem w00_first (w : World) : (w00 w).heap[w.heap.size]? = some (.cells (hcells 0 0).toArray 31 (0, 0)) := by
  unfold w00
  rw [Below.heap_alloc _ _ _ (by simp)]; exact heap_alloc_new w _
theorem w00_second (w : World) : (w00 w).heap[w.heap.size + 1]? = some (.cells (hcells 0 0).toArray 31 (0, 0)) := by
  have h := heap_alloc_new (w.alloc (.cells #[.int .i64 0, .int .i64 0] 31)) (.cells #[.int .i64 0, .int .i64 0] 31)
  rw [show (w.alloc (.cells #[.int .i64 0, .int .i64 0] 31)).heap.size = w.heap.size + 1 by simp] at h
  exact h
theorem w00_below (w : World) : Below w.heap.size w (w00 w) := ((Below.refl _ _).alloc (Nat.le_refl _) _).alloc (by simp) _
theorem w00_cell (w : World) (b o : Nat) (h : b < w.heap.size) : (w00 w).cell? ⟨b, o, none⟩ = w.cell? ⟨b, o, none⟩ := (w00_below w).cell (p := ⟨b, o, none⟩) h

set_option maxHeartbeats 4000000 in
theorem refRead_any (a : Option Addr) (cap n : Nat) (xs : List UInt8) (w : World) (hn : xs.length = n) (hm : n ≤ 90000) (h : RowAt w a cap xs) :
    Calls Try.prog 14 #[.slice a n cap] w fun e w' => HeadRes w w' e (Hd.read xs).1 (Hd.read xs).2.1 (Hd.read xs).2.2 := by
  have hR0 := w00_first w
  have hB0 := w00_below w
  have z0 : (w00 w).cell? ⟨w.heap.size + 1, 0, none⟩ = some (.int .i64 0) := cell_of_row _ _ _ _ _ _ (w00_second w)
  have z1 : (w00 w).cell? ⟨w.heap.size + 1, 1, none⟩ = some (.int .i64 0) := cell_of_row _ _ _ _ _ _ (w00_second w)
  unfold w00 at z0 z1 hR0 hB0
  have hR := Lib.hid hR0
  have hB := Lib.hid hB0
  clear hR0 hB0
  by_cases h0 : n = 0
  · subst h0
    rw [Hd.read_pass xs 0 (Hd.pass_zero xs (by rw [Hd.bt_out xs 0 (by omega)]; omega)), Hd.tail_end xs 0 (by rw [Hd.bt_out xs 0 (by omega)]; omega) (by omega)]
    clear h
    go_enter Try.func14, Try.ntmps14
    go_wp2_with (refine wpList_store_head rfl (.tmp 2) (.tmp 31) rfl w.heap.size 0 0 _ rfl rfl hR.out rfl ?_)
    refine bodyPost_ret (head_ret (r := 2) Try.results14 rfl rfl hR.out) rfl ⟨rfl, below_setRow hB.out (Nat.le_refl _) _⟩
  · obtain ⟨b, off, rfl, hb, hc⟩ := bt_cell h (by omega)
    have hcc : ∀ k, k < n → ((w.alloc (.cells #[.int .i64 0, .int .i64 0] 31)).alloc (.cells #[.int .i64 0, .int .i64 0] 31)).cell? ⟨b, off + k, none⟩ = some (.int .u8 (Hd.bt xs k : Nat)) := fun k hk => by
      have := w00_cell w b (off + k) hb
      rw [hc k (by omega)] at this
      exact this
    have n0 : (0 : Int) < (n : Int) := by omega
    clear hc h h0
    by_cases hx : Hd.bt xs 0 = 255
    · have c0 := hcc 0 (by omega)
      rw [hx, Nat.add_zero] at c0
      by_cases h2 : n < 2
      · rw [Hd.read_err xs 2 (Hd.pass_end xs hx (by omega)) (by omega)]
        have j2 : (n : Int) < 2 := by omega
        clear hcc hx h2
        go_enter Try.func14, Try.ntmps14
        go_wp2_with (refine wpList_store_head rfl (.tmp 2) (.tmp 21) rfl w.heap.size 0 0 _ rfl rfl hR.out rfl ?_)
        refine bodyPost_ret (head_ret (r := 2) Try.results14 rfl rfl hR.out) rfl ⟨rfl, below_setRow hB.out (Nat.le_refl _) _⟩
      · have j2 : ¬ (n : Int) < 2 := by omega
        have c1 := hcc 1 (by omega)
        by_cases hy : Hd.bt xs 1 = 3
        · rw [hy] at c1
          have hp := Hd.pass_full xs hx (by omega) hy
          clear hx hy h2
          rw [Hd.read_pass xs 2 hp]
          clear hp
          by_cases hk0 : 2 < n
          · have ck := hcc 2 hk0
            have hb := Hd.bt_lt xs 2
            have hb1 := Hd.bt_lt xs 3
            have q0 := Hd.tail_one xs 2
            have q1 := Hd.tail_ff xs 2
            have q2 := Hd.tail_end xs 2
            have q3 := Hd.tail_two xs 2
            have q4 := Hd.tail_form xs 2
            have hmt := Hd.may_two (Hd.bt xs 2) (Hd.bt xs 3) hb hb1
            have cd := fun h => hcc 3 h
            rw [hn] at q2 q3 q4
            simp only [Nat.reduceAdd] at q0 q2 q3 q4
            clear hcc
            generalize Hd.bt xs 2 = c at *
            generalize Hd.bt xs 3 = d at *
            generalize Hd.tail xs 2 = A at *
            have j0 : ¬ (n : Int) ≤ 2 := by omega
            by_cases hc : c % 2 = 1
            · have i1 : (c : Int) % 2 = 1 := by omega
              by_cases hc2 : c = 255
              · obtain rfl := q1 hc2
                subst hc2
                clear q0 q1 q2 q3 q4 hmt cd hc i1
                go_enter Try.func14, Try.ntmps14
                go_wp2_with (refine wpList_store_head rfl (.tmp 2) (.tmp 42) rfl w.heap.size 0 0 _ rfl rfl hR.out rfl ?_)
                refine bodyPost_ret (head_ret (r := 3) Try.results14 rfl rfl hR.out) rfl ⟨rfl, below_setRow hB.out (Nat.le_refl _) _⟩
              · obtain rfl := q0 hc hc2
                have i2 : ¬ (c : Int) = 255 := by omega
                clear q0 q1 q2 q3 q4 hmt cd hc hc2
                go_enter Try.func14, Try.ntmps14
                go_wp2_with (refine wpList_store_head rfl (.tmp 2) (.tmp 46) rfl w.heap.size c 3 _ rfl rfl hR.out rfl ?_)
                refine bodyPost_ret (head_ret (r := 0) Try.results14 rfl rfl hR.out) rfl ⟨rfl, below_setRow hB.out (Nat.le_refl _) _⟩
            · have i1 : ¬ (c : Int) % 2 = 1 := by omega
              by_cases h2 : n < 4
              · obtain rfl := q2 hc h2
                have j1 : (n : Int) ≤ 3 := by omega
                clear q0 q1 q2 q3 q4 hmt cd hc h2
                go_enter Try.func14, Try.ntmps14
                go_wp2_with (refine wpList_store_head rfl (.tmp 2) (.tmp 52) rfl w.heap.size 0 0 _ rfl rfl hR.out rfl ?_)
                refine bodyPost_ret (head_ret (r := 2) Try.results14 rfl rfl hR.out) rfl ⟨rfl, below_setRow hB.out (Nat.le_refl _) _⟩
              · have j1 : ¬ (n : Int) ≤ 3 := by omega
                have cd1 := cd (by omega)
                have hmt1 := hmt (by omega)
                by_cases hd : d % 2 = 1
                · have i2 : ¬ (d : Int) % 2 = 0 := by omega
                  by_cases h0 : c = 0
                  · by_cases hd2 : d = 255
                    · obtain rfl := q4 hc h2 (by rw [hmt1]; exact decide_eq_false (by omega))
                      subst hd2
                      subst h0
                      clear q0 q1 q2 q3 q4 hmt hmt1 cd hc h2 hd i1 i2
                      go_enter Try.func14, Try.ntmps14
                      go_wp2_with (refine wpList_store_head rfl (.tmp 2) (.tmp 70) rfl w.heap.size 0 0 _ rfl rfl hR.out rfl ?_)
                      refine bodyPost_ret (head_ret (r := 3) Try.results14 rfl rfl hR.out) rfl ⟨rfl, below_setRow hB.out (Nat.le_refl _) _⟩
                    · obtain rfl := q3 hc h2 (by rw [hmt1]; exact decide_eq_true (by omega))
                      subst h0
                      have i3 : ((d : Int) == 255) = false := by simp; omega
                      clear q0 q1 q2 q3 q4 hmt hmt1 cd hc h2 hd hd2 i1
                      go_enter Try.func14, Try.ntmps14
                      go_wp2_with (refine wpList_store_head rfl (.tmp 2) (.tmp 77) rfl w.heap.size d 4 _ rfl rfl hR.out rfl ?_)
                      refine bodyPost_ret (head_ret (r := 0) Try.results14 rfl rfl hR.out) rfl ⟨rfl, below_setRow hB.out (Nat.le_refl _) _⟩
                  · obtain rfl := q3 hc h2 (by rw [hmt1]; exact decide_eq_true (by omega))
                    have i3 : ¬ (c : Int) = 0 := by omega
                    clear q0 q1 q2 q3 q4 hmt hmt1 cd hc h2 hd h0
                    go_enter Try.func14, Try.ntmps14
                    go_wp2_with (refine wpList_store_head rfl (.tmp 2) (.tmp 77) rfl w.heap.size (256 * c + d) 4 _ rfl rfl hR.out rfl ?_)
                    refine bodyPost_ret (head_ret (r := 0) Try.results14 rfl rfl hR.out) rfl ⟨rfl, below_setRow hB.out (Nat.le_refl _) _⟩
                · obtain rfl := q4 hc h2 (by rw [hmt1]; exact decide_eq_false (by omega))
                  have i2 : (d : Int) % 2 = 0 := by omega
                  clear q0 q1 q2 q3 q4 hmt hmt1 cd hc h2 hd
                  go_enter Try.func14, Try.ntmps14
                  go_wp2_with (refine wpList_store_head rfl (.tmp 2) (.tmp 70) rfl w.heap.size 0 0 _ rfl rfl hR.out rfl ?_)
                  refine bodyPost_ret (head_ret (r := 3) Try.results14 rfl rfl hR.out) rfl ⟨rfl, below_setRow hB.out (Nat.le_refl _) _⟩
          · have j0 : (n : Int) ≤ 2 := by omega
            rw [Hd.tail_end xs 2 (by rw [Hd.bt_out xs 2 (by omega)]; omega) (by omega)]
            clear hcc hk0
            go_enter Try.func14, Try.ntmps14
            go_wp2_with (refine wpList_store_head rfl (.tmp 2) (.tmp 31) rfl w.heap.size 0 0 _ rfl rfl hR.out rfl ?_)
            refine bodyPost_ret (head_ret (r := 2) Try.results14 rfl rfl hR.out) rfl ⟨rfl, below_setRow hB.out (Nat.le_refl _) _⟩
        · rw [Hd.read_err xs 3 (Hd.pass_form xs hx (by omega) hy) (by omega)]
          generalize Hd.bt xs 1 = y at *
          have i1 : ¬ (y : Int) = 3 := by omega
          clear hcc hx hy h2
          go_enter Try.func14, Try.ntmps14
          go_wp2_with (refine wpList_store_head rfl (.tmp 2) (.tmp 26) rfl w.heap.size 0 0 _ rfl rfl hR.out rfl ?_)
          refine bodyPost_ret (head_ret (r := 3) Try.results14 rfl rfl hR.out) rfl ⟨rfl, below_setRow hB.out (Nat.le_refl _) _⟩
    · have hp := Hd.pass_zero xs hx
      have i0 : ¬ (Hd.bt xs 0 : Int) = 255 := by omega
      clear hx
      rw [Hd.read_pass xs 0 hp]
      clear hp
      by_cases hk0 : 0 < n
      · have ck := hcc 0 hk0
        have hb := Hd.bt_lt xs 0
        rw [Nat.add_zero] at ck
        have hb1 := Hd.bt_lt xs 1
        have q0 := Hd.tail_one xs 0
        have q1 := Hd.tail_ff xs 0
        have q2 := Hd.tail_end xs 0
        have q3 := Hd.tail_two xs 0
        have q4 := Hd.tail_form xs 0
        have hmt := Hd.may_two (Hd.bt xs 0) (Hd.bt xs 1) hb hb1
        have cd := fun h => hcc 1 h
        rw [hn] at q2 q3 q4
        simp only [Nat.reduceAdd] at q0 q2 q3 q4
        clear hcc
        generalize Hd.bt xs 0 = c at *
        generalize Hd.bt xs 1 = d at *
        generalize Hd.tail xs 0 = A at *
        have j0 : ¬ (n : Int) ≤ 0 := by omega
        by_cases hc : c % 2 = 1
        · have i1 : (c : Int) % 2 = 1 := by omega
          by_cases hc2 : c = 255
          · omega
          · obtain rfl := q0 hc hc2
            have i2 : ¬ (c : Int) = 255 := by omega
            clear q0 q1 q2 q3 q4 hmt cd hc hc2
            go_enter Try.func14, Try.ntmps14
            go_wp2_with (refine wpList_store_head rfl (.tmp 2) (.tmp 46) rfl w.heap.size c 1 _ rfl rfl hR.out rfl ?_)
            refine bodyPost_ret (head_ret (r := 0) Try.results14 rfl rfl hR.out) rfl ⟨rfl, below_setRow hB.out (Nat.le_refl _) _⟩
        · have i1 : ¬ (c : Int) % 2 = 1 := by omega
          by_cases h2 : n < 2
          · obtain rfl := q2 hc h2
            have j1 : (n : Int) ≤ 1 := by omega
            clear q0 q1 q2 q3 q4 hmt cd hc h2
            go_enter Try.func14, Try.ntmps14
            go_wp2_with (refine wpList_store_head rfl (.tmp 2) (.tmp 52) rfl w.heap.size 0 0 _ rfl rfl hR.out rfl ?_)
            refine bodyPost_ret (head_ret (r := 2) Try.results14 rfl rfl hR.out) rfl ⟨rfl, below_setRow hB.out (Nat.le_refl _) _⟩
          · have j1 : ¬ (n : Int) ≤ 1 := by omega
            have cd1 := cd (by omega)
            have hmt1 := hmt (by omega)
            by_cases hd : d % 2 = 1
            · have i2 : ¬ (d : Int) % 2 = 0 := by omega
              by_cases h0 : c = 0
              · by_cases hd2 : d = 255
                · obtain rfl := q4 hc h2 (by rw [hmt1]; exact decide_eq_false (by omega))
                  subst hd2
                  subst h0
                  clear q0 q1 q2 q3 q4 hmt hmt1 cd hc h2 hd i1 i2
                  go_enter Try.func14, Try.ntmps14
                  go_wp2_with (refine wpList_store_head rfl (.tmp 2) (.tmp 70) rfl w.heap.size 0 0 _ rfl rfl hR.out rfl ?_)
                  refine bodyPost_ret (head_ret (r := 3) Try.results14 rfl rfl hR.out) rfl ⟨rfl, below_setRow hB.out (Nat.le_refl _) _⟩
                · obtain rfl := q3 hc h2 (by rw [hmt1]; exact decide_eq_true (by omega))
                  subst h0
                  have i3 : ((d : Int) == 255) = false := by simp; omega
                  clear q0 q1 q2 q3 q4 hmt hmt1 cd hc h2 hd hd2 i1
                  go_enter Try.func14, Try.ntmps14
                  go_wp2_with (refine wpList_store_head rfl (.tmp 2) (.tmp 77) rfl w.heap.size d 2 _ rfl rfl hR.out rfl ?_)
                  refine bodyPost_ret (head_ret (r := 0) Try.results14 rfl rfl hR.out) rfl ⟨rfl, below_setRow hB.out (Nat.le_refl _) _⟩
              · obtain rfl := q3 hc h2 (by rw [hmt1]; exact decide_eq_true (by omega))
                have i3 : ¬ (c : Int) = 0 := by omega
                clear q0 q1 q2 q3 q4 hmt hmt1 cd hc h2 hd h0
                go_enter Try.func14, Try.ntmps14
                go_wp2_with (refine wpList_store_head rfl (.tmp 2) (.tmp 77) rfl w.heap.size (256 * c + d) 2 _ rfl rfl hR.out rfl ?_)
                refine bodyPost_ret (head_ret (r := 0) Try.results14 rfl rfl hR.out) rfl ⟨rfl, below_setRow hB.out (Nat.le_refl _) _⟩
            · obtain rfl := q4 hc h2 (by rw [hmt1]; exact decide_eq_false (by omega))
              have i2 : (d : Int) % 2 = 0 := by omega
              clear q0 q1 q2 q3 q4 hmt hmt1 cd hc h2 hd
              go_enter Try.func14, Try.ntmps14
              go_wp2_with (refine wpList_store_head rfl (.tmp 2) (.tmp 70) rfl w.heap.size 0 0 _ rfl rfl hR.out rfl ?_)
              refine bodyPost_ret (head_ret (r := 3) Try.results14 rfl rfl hR.out) rfl ⟨rfl, below_setRow hB.out (Nat.le_refl _) _⟩
      · omega
end Go.Proofs.Ytphamnpafafpkaa
