/- HeadOnly: the walk. -/
import Derived.Test.YtphamnpafafpkaaPutsWalk
namespace Go.Proofs.Ytphamnpafafpkaa
open Go.RowKit

theorem only_long (a : Option Addr) (len cap : Nat) (w : World) (hg : (1000 : Int) < (len : Int)) :
    Calls Try.prog 6 #[.slice a len cap] w fun e w' => e = .returned (.bool true) ∧ Below w.heap.size w w' := by
  go_enter Try.func6, Try.ntmps6
  go_wp2_with fail
  refine (awake_any _).mono ?_
  rintro e w1 ⟨rfl, b1⟩
  go_wp2_with fail
  refine (awake_any _).mono ?_
  rintro e w2 ⟨rfl, b2⟩
  go_wp2
  go_ret
  exact ⟨rfl, Below.chain b1 b2⟩

theorem text_eq (X Y : List UInt8) (A B : ByteArray) (hA : A = ⟨X.toArray⟩) (hB : B = ⟨Y.toArray⟩) : (A.toList == B.toList) = decide (X = Y) := by
  rw [Bool.eq_iff_iff, beq_iff_eq, decide_eq_true_eq, Lib.toList_data, Lib.toList_data, hA, hB]
theorem full_eq (k : Nat) : ((k : Int) % 2 == 1) = decide (k % 2 = 1) := by
  rw [Bool.eq_iff_iff, beq_iff_eq, decide_eq_true_eq]; omega
theorem short_eq (k : Nat) : ((k : Int) / 2 == 1) = decide (k / 2 = 1) := by
  rw [Bool.eq_iff_iff, beq_iff_eq, decide_eq_true_eq]; omega
theorem way_any (p k : Nat) (w : World) (h : Hd.may (p : Int) = true) :
    Calls Try.prog 9 #[.int .i64 (p : Int), .bool ((k : Int) % 2 == 1), .bool ((k : Int) / 2 == 1)] w fun e w' => PutRes w w' e (Hd.way p k) := by
  rw [full_eq, short_eq]
  exact headput_good p _ _ w h
/-- Between the rounds. -/
structure OnlyAt (wr w : World) (T p t : Nat) (a : Option Addr) (cap : Nat) (xs : List UInt8) : Prop where
  blk : wr.heap[T]? = some (.cells (hcells p t).toArray 31 (0, 0))
  row : RowAt wr a cap xs
  bel : Below w.heap.size w wr
theorem OnlyAt.next {wr w w' : World} {T p t : Nat} {a : Option Addr} {cap : Nat} {xs : List UInt8} (h : OnlyAt wr w T p t a cap xs) (b : Below wr.heap.size wr w') : OnlyAt w' w T p t a cap xs := ⟨block_next h.blk b, h.row.next b, Below.chain h.bel b⟩

set_option maxRecDepth 100000 in
set_option maxHeartbeats 4000000 in
theorem only_short (a : Option Addr) (cap n : Nat) (xs : List UInt8) (w : World) (hn : xs.length = n) (h : RowAt w a cap xs) (hg : ¬ (1000 : Int) < (n : Int)) :
    Calls Try.prog 6 #[.slice a n cap] w fun e w' => e = .returned (.bool true) ∧ Below w.heap.size w w' := by
  have c13 := fun W (h : RowAt W a cap xs) => read_any a cap n xs W hn (by omega) h
  have hk := Hd.read_known xs
  have hh := Hd.read_hit xs
  generalize Hd.read xs = A at *
  obtain ⟨p, t, r⟩ := A
  have hcn := h.le
  rw [hn] at hcn
  have H := Lib.hid h
  have C13 := Lib.hid c13
  have Hn := Lib.hid hn
  clear h c13
  by_cases hr : r = 0
  · have ht : t ≤ n := by have := hk.le; simpa [hn] using this
    obtain ⟨hm, ht1⟩ := hk.good hr
    have hm : Hd.may (p : Int) = true := hm
    have ht1 : 1 ≤ t := ht1
    have hh4 := hh hr
    have hh4 : Hd.hit p (xs.take t) 4 = true := hh4
    have hyl : (xs.take t).length = t := by rw [List.length_take, hn]; omega
    obtain ⟨ys, hy⟩ : ∃ ys, ys = xs.take t := ⟨_, rfl⟩
    rw [← hy] at hh4 hyl
    have Hy := Lib.hid hy
    have Hyl := Lib.hid hyl
    have Hh := Lib.hid hh4
    have i0 : ¬ (t : Int) < 1 := by omega
    have i1 : ¬ (n : Int) < (t : Int) := by omega
    have i2 : (t : Int) ≤ (cap : Int) := by omega
    subst hr
    clear hk hh hn hy hyl hh4
    go_enter Try.func6, Try.ntmps6
    go_wp2_with fail
    refine (awake_any _).mono ?_
    rintro e w1 ⟨rfl, b1⟩
    have H1 := Lib.hid (H.out.next b1)
    go_wp2_with fail
    refine (C13.out _ H1.out).mono ?_
    rintro e w2 ⟨rfl, b2⟩
    simp only [hcells]
    have B2 := Lib.hid (Below.chain b1 b2)
    have H2 := Lib.hid (rowAt_alloc (H1.out.next b2) (.cells (hcells p t).toArray 31))
    clear b1 b2 H1 C13
    have T2 : (w2.alloc (.cells (hcells p t).toArray 31)).heap[w2.heap.size]? = some (.cells (hcells p t).toArray 31 (0, 0)) := heap_alloc_new w2 _
    have O2 := Lib.hid (OnlyAt.mk T2 H2.out (B2.out.alloc B2.out.size _))
    have q0 : (w2.alloc (.cells (hcells p t).toArray 31)).cell? ⟨w2.heap.size, 0, none⟩ = some (.int .i64 (p : Int)) := cell_of_row _ _ _ _ _ _ T2
    have q1 : (w2.alloc (.cells (hcells p t).toArray 31)).cell? ⟨w2.heap.size, 1, none⟩ = some (.int .i64 (t : Int)) := cell_of_row _ _ _ _ _ _ T2
    simp only [hcells] at q0 q1
    clear T2
    go_wp2_with fail
    refine (may_any p _).mono ?_
    rintro e w3 ⟨rfl, h3⟩
    rw [h3, hm]
    clear h3 q0 q1
    go_wp2_with fail
    generalize w2.heap.size = T at O2 ⊢
    obtain ⟨w3, hw3⟩ : ∃ w3, w3 = w2.alloc (.cells (hcells p t).toArray 31) := ⟨_, rfl⟩
    have e3 : w2.alloc (.cells #[.int .i64 (p : Int), .int .i64 (t : Int)] 31) = w3 := by rw [hw3]; rfl
    rw [e3]
    rw [← hw3] at O2
    clear hw3 e3 B2 H2 H
    have k0 : decide (n < t) = false := decide_eq_false (by omega)
    have k1 : decide ((t : Int) < 1) = false := decide_eq_false (by omega)
    simp only [k0, k1, Bool.or_false]
    clear k0 k1
    go_loopw [5, 6] (fun s i wr => ∃ k : Nat, k ≤ 4 ∧ i = .int .i64 (k : Int) ∧ s = .bool (Hd.hit p ys k) ∧ OnlyAt wr w T p t a cap xs) (fun _ i _ => 4 - (intOf i).toNat)
    case atStart => exact ⟨0, Nat.zero_le _, rfl, rfl, O2.out⟩
    case round =>
      obtain ⟨k, hk4, rfl, rfl, hO⟩ := hrel
      have HO := Lib.hid hO
      by_cases hlt : (k : Int) < 4
      · have q0 : wr.cell? ⟨T, 0, none⟩ = some (.int .i64 (p : Int)) := cell_of_row _ _ _ _ _ _ hO.blk
        have C9 := Lib.hid (fun W => way_any p k W hm)
        obtain ⟨x, hx⟩ : ∃ x, (Hd.way p k).length = x := ⟨_, rfl⟩
        have Hx := Lib.hid hx
        clear hx hO O2
        cases hhit : Hd.hit p ys k with
        | true =>
          go_wp2_with fail
          refine (C9.out _).mono ?_
          intro e w4 hp4
          obtain ⟨a4, c4, rfl, _, _, b4⟩ := hp4.row Hx.out
          have O4 := Lib.hid (HO.out.next b4)
          clear hp4 b4 HO C9 q0
          go_wp2_with fail
          have O5 : OnlyAt w4.drew w T p t a cap xs := O4.out.next (Below.refl _ _).drew
          have hS : True := trivial
          refine held_start (S := fun _ => True) 12 (by kernel_rfl) rfl ?_
          generalize w4.drew = w5 at O5 ⊢
          clear O4
          refine held_take 0 (v := ?_) rfl (by kernel_rfl) (by kernel_rfl) (by kernel_rfl) (fun _ _ _ h => h) (by assumption) (by rfl) ?_ ?_
          rotate_left
          · (intro W hW; go_simp; try with_reducible rfl)
          simp only [Act.put, List.setIfInBounds_toArray, List.set_cons_zero, List.set_cons_succ]
          refine held_take 1 (v := ?_) rfl (by kernel_rfl) (by kernel_rfl) (by kernel_rfl) (fun _ _ _ h => h) (by assumption) (by rfl) ?_ ?_
          rotate_left
          · (intro W hW; go_simp; try with_reducible rfl)
          simp only [Act.put, List.setIfInBounds_toArray, List.set_cons_zero, List.set_cons_succ]
          refine held_skip 2 rfl (by kernel_rfl) (by kernel_rfl) (by kernel_rfl) (fun _ _ _ h => h) (by assumption) (by rfl) ?_
          simp only [Act.put, List.setIfInBounds_toArray, List.set_cons_zero, List.set_cons_succ]
          refine held_skip 3 rfl (by kernel_rfl) (by kernel_rfl) (by kernel_rfl) (fun _ _ _ h => h) (by assumption) (by rfl) ?_
          simp only [Act.put, List.setIfInBounds_toArray, List.set_cons_zero, List.set_cons_succ]
          refine held_skip 4 rfl (by kernel_rfl) (by kernel_rfl) (by kernel_rfl) (fun _ _ _ h => h) (by assumption) (by rfl) ?_
          simp only [Act.put, List.setIfInBounds_toArray, List.set_cons_zero, List.set_cons_succ]
          refine held_skip 5 rfl (by kernel_rfl) (by kernel_rfl) (by kernel_rfl) (fun _ _ _ h => h) (by assumption) (by rfl) ?_
          simp only [Act.put, List.setIfInBounds_toArray, List.set_cons_zero, List.set_cons_succ]
          refine held_skip 6 rfl (by kernel_rfl) (by kernel_rfl) (by kernel_rfl) (fun _ _ _ h => h) (by assumption) (by rfl) ?_
          simp only [Act.put, List.setIfInBounds_toArray, List.set_cons_zero, List.set_cons_succ]
          refine held_skip 7 rfl (by kernel_rfl) (by kernel_rfl) (by kernel_rfl) (fun _ _ _ h => h) (by assumption) (by rfl) ?_
          simp only [Act.put, List.setIfInBounds_toArray, List.set_cons_zero, List.set_cons_succ]
          refine held_skip 8 rfl (by kernel_rfl) (by kernel_rfl) (by kernel_rfl) (fun _ _ _ h => h) (by assumption) (by rfl) ?_
          simp only [Act.put, List.setIfInBounds_toArray, List.set_cons_zero, List.set_cons_succ]
          refine held_skip 9 rfl (by kernel_rfl) (by kernel_rfl) (by kernel_rfl) (fun _ _ _ h => h) (by assumption) (by rfl) ?_
          simp only [Act.put, List.setIfInBounds_toArray, List.set_cons_zero, List.set_cons_succ]
          refine held_take 10 (v := ?_) rfl (by kernel_rfl) (by kernel_rfl) (by kernel_rfl) (fun _ _ _ h => h) (by assumption) (by rfl) ?_ ?_
          rotate_left
          · (intro W hW; go_simp; try with_reducible rfl)
          simp only [Act.put, List.setIfInBounds_toArray, List.set_cons_zero, List.set_cons_succ]
          refine held_take 11 (v := ?_) rfl (by kernel_rfl) (by kernel_rfl) (by kernel_rfl) (fun _ _ _ h => h) (by assumption) (by rfl) ?_ ?_
          rotate_left
          · (intro W hW; go_simp; try with_reducible rfl)
          simp only [Act.put, List.setIfInBounds_toArray, List.set_cons_zero, List.set_cons_succ]
          refine held_done (by kernel_rfl) ?_
          go_wp2
          go_roundw
          case rel => exact ⟨k + 1, by omega, by go_num, by rw [show Hd.hit p ys (k + 1) = (Hd.hit p ys k || decide (Hd.way p k = ys)) from rfl, hhit]; rfl, O5⟩
          case measure => simp [intOf]; omega
        | false =>
          go_wp2_with fail
          refine (C9.out _).mono ?_
          intro e w4 hp4
          obtain ⟨a4, c4, rfl, r4, _, b4⟩ := hp4.row Hx.out
          have O4 := Lib.hid (HO.out.next b4)
          have R4 := Lib.hid r4
          clear hp4 b4 r4 HO C9 q0
          go_wp2_with fail
          have O5 : OnlyAt w4.drew w T p t a cap xs := O4.out.next (Below.refl _ _).drew
          have hS : RowAt w4.drew a4 c4 (Hd.way p k) ∧ RowAt w4.drew a cap xs ∧ w4.drew.heap[T]? = some (.cells (hcells p t).toArray 31 (0, 0)) := ⟨R4.out.next (Below.refl _ _).drew, O5.row, O5.blk⟩
          refine held_start (S := fun W => RowAt W a4 c4 (Hd.way p k) ∧ RowAt W a cap xs ∧ W.heap[T]? = some (.cells (hcells p t).toArray 31 (0, 0))) 12 (by kernel_rfl) rfl ?_
          generalize w4.drew = w5 at O5 hS ⊢
          clear O4 R4
          obtain ⟨Z, hZ⟩ : ∃ Z : ByteArray, Z = ⟨(Hd.way p k).toArray⟩ := ⟨_, rfl⟩
          obtain ⟨Z2, hZ2⟩ : ∃ Z : ByteArray, Z = ⟨ys.toArray⟩ := ⟨_, rfl⟩
          have hq := text_eq _ _ Z Z2 hZ hZ2
          have HZ := Lib.hid hZ
          have HZ2 := Lib.hid hZ2
          clear hZ hZ2
          obtain ⟨q, hqq⟩ : ∃ q, q = decide (Hd.way p k = ys) := ⟨_, rfl⟩
          rw [← hqq] at hq
          have Hq := Lib.hid hqq
          clear hqq
          refine held_take 0 (v := ?_) rfl (by kernel_rfl) (by kernel_rfl) (by kernel_rfl) (fun _ _ _ h => h) (by assumption) (by rfl) ?_ ?_
          rotate_left
          · (intro W hW; go_simp; try with_reducible rfl)
          simp only [Act.put, List.setIfInBounds_toArray, List.set_cons_zero, List.set_cons_succ]
          refine held_take 1 (v := ?_) rfl (by kernel_rfl) (by kernel_rfl) (by kernel_rfl) (fun _ _ _ h => h) (by assumption) (by rfl) ?_ ?_
          rotate_left
          · (intro W hW; go_simp; try with_reducible rfl)
          simp only [Act.put, List.setIfInBounds_toArray, List.set_cons_zero, List.set_cons_succ]
          refine held_take 2 (v := ?_) rfl (by kernel_rfl) (by kernel_rfl) (by kernel_rfl) (fun _ _ _ h => h) (by assumption) (by rfl) ?_ ?_
          rotate_left
          · (intro W hW; go_simp; try with_reducible rfl)
          simp only [Act.put, List.setIfInBounds_toArray, List.set_cons_zero, List.set_cons_succ]
          refine held_take 3 (v := ?_) rfl (by kernel_rfl) (by kernel_rfl) (by kernel_rfl) (fun _ _ _ h => h) (by assumption) (by rfl) ?_ ?_
          rotate_left
          · (intro W hW; (have t0 : (convert 23 9 (.slice a4 x c4)).run Try.prog W = .ok (.string Z) W := by rw [HZ.out]; exact conv_row Hx.out hW.1); clear hW; go_simp; try with_reducible rfl)
          simp only [Act.put, List.setIfInBounds_toArray, List.set_cons_zero, List.set_cons_succ]
          refine held_take 4 (v := ?_) rfl (by kernel_rfl) (by kernel_rfl) (by kernel_rfl) (fun _ _ _ h => h) (by assumption) (by rfl) ?_ ?_
          rotate_left
          · (intro W hW; go_simp; try with_reducible rfl)
          simp only [Act.put, List.setIfInBounds_toArray, List.set_cons_zero, List.set_cons_succ]
          refine held_take 5 (v := ?_) rfl (by kernel_rfl) (by kernel_rfl) (by kernel_rfl) (fun _ _ _ h => h) (by assumption) (by rfl) ?_ ?_
          rotate_left
          · (intro W hW; go_simp; try with_reducible rfl)
          simp only [Act.put, List.setIfInBounds_toArray, List.set_cons_zero, List.set_cons_succ]
          refine held_take 6 (v := ?_) rfl (by kernel_rfl) (by kernel_rfl) (by kernel_rfl) (fun _ _ _ h => h) (by assumption) (by rfl) ?_ ?_
          rotate_left
          · (intro W hW; (have t0 : W.cell? ⟨T, 1, none⟩ = some (.int .i64 (t : Int)) := cell_of_row _ _ _ _ _ _ hW.2.2); clear hW; go_simp; try with_reducible rfl)
          simp only [Act.put, List.setIfInBounds_toArray, List.set_cons_zero, List.set_cons_succ]
          refine held_take 7 (v := ?_) rfl (by kernel_rfl) (by kernel_rfl) (by kernel_rfl) (fun _ _ _ h => h) (by assumption) (by rfl) ?_ ?_
          rotate_left
          · (intro W hW; go_simp; try with_reducible rfl)
          simp only [Act.put, List.setIfInBounds_toArray, List.set_cons_zero, List.set_cons_succ]
          refine held_take 8 (v := ?_) rfl (by kernel_rfl) (by kernel_rfl) (by kernel_rfl) (fun _ _ _ h => h) (by assumption) (by rfl) ?_ ?_
          rotate_left
          · (intro W hW; (have t0 : (convert 23 9 (.slice a t cap)).run Try.prog W = .ok (.string Z2) W := by { rw [HZ2.out, Hy.out]; exact conv_row (by rw [← Hy.out]; exact Hyl.out) (hW.2.1.head t (by rw [Hn.out]; exact ht)) }); clear hW; go_simp; try with_reducible rfl)
          simp only [Act.put, List.setIfInBounds_toArray, List.set_cons_zero, List.set_cons_succ]
          refine held_take 9 (v := ?_) rfl (by kernel_rfl) (by kernel_rfl) (by kernel_rfl) (fun _ _ _ h => h) (by assumption) (by rfl) ?_ ?_
          rotate_left
          · (intro W hW; go_simp; try with_reducible rfl)
          simp only [Act.put, List.setIfInBounds_toArray, List.set_cons_zero, List.set_cons_succ]
          refine held_take 10 (v := ?_) rfl (by kernel_rfl) (by kernel_rfl) (by kernel_rfl) (fun _ _ _ h => h) (by assumption) (by rfl) ?_ ?_
          rotate_left
          · (intro W hW; go_simp; try with_reducible rfl)
          simp only [Act.put, List.setIfInBounds_toArray, List.set_cons_zero, List.set_cons_succ]
          refine held_take 11 (v := ?_) rfl (by kernel_rfl) (by kernel_rfl) (by kernel_rfl) (fun _ _ _ h => h) (by assumption) (by rfl) ?_ ?_
          rotate_left
          · (intro W hW; go_simp; try with_reducible rfl)
          simp only [Act.put, List.setIfInBounds_toArray, List.set_cons_zero, List.set_cons_succ]
          refine held_done (by kernel_rfl) ?_
          go_wp2
          go_roundw
          case rel => exact ⟨k + 1, by omega, by go_num, by rw [show Hd.hit p ys (k + 1) = (Hd.hit p ys k || decide (Hd.way p k = ys)) from rfl, hhit, ← Hq.out]; rfl, O5⟩
          case measure => simp [intOf]; omega
      · have hk : k = 4 := by omega
        subst hk
        rw [Hh.out]
        have B := Lib.hid hO.bel
        clear hO O2
        go_wp2
        go_ret
        exact ⟨rfl, B.out⟩
  · obtain ⟨rfl, rfl⟩ := hk.bad hr
    have he := hk.err
    have i1 : ((r : Int) == 0) = false := by simp; omega
    clear hk hh hn hr
    go_enter Try.func6, Try.ntmps6
    go_wp2_with fail
    refine (awake_any _).mono ?_
    rintro e w1 ⟨rfl, b1⟩
    have H1 := Lib.hid (H.out.next b1)
    go_wp2_with fail
    refine (C13.out _ H1.out).mono ?_
    rintro e w2 ⟨rfl, b2⟩
    simp only [hcells]
    have B2 := Lib.hid (Below.chain b1 b2)
    have H2 := Lib.hid (rowAt_alloc (H1.out.next b2) (.cells (hcells 0 0).toArray 31))
    clear b1 b2 H1 C13
    go_wp2
    go_ret
    exact ⟨rfl, B2.out.alloc B2.out.size _⟩
theorem only_walk (a : Option Addr) (cap : Nat) (xs : List UInt8) (w : World) (h : RowAt w a cap xs) :
    Calls Try.prog 6 #[.slice a xs.length cap] w fun e w' => e = .returned (.bool true) ∧ Below w.heap.size w w' := by
  by_cases hg : (1000 : Int) < (xs.length : Int)
  · exact only_long a _ cap w hg
  · exact only_short a cap _ xs w rfl h hg
end Go.Proofs.Ytphamnpafafpkaa
