/- Contracts of Body and Put. -/
import Derived.Test.YtphamnpafafpkaaHb
namespace Go.Proofs.Ytphamnpafafpkaa
open Go.RowKit

/-- What stands behind a beginning. -/
def Hd.body (xs : List UInt8) : List UInt8 := if (Hd.read xs).2.2 = 0 then xs.drop (Hd.read xs).2.1 else []
theorem Hd.body_good (xs : List UInt8) (h : (Hd.read xs).2.2 = 0) : Hd.body xs = xs.drop (Hd.read xs).2.1 := by unfold Hd.body; rw [if_pos h]
theorem Hd.body_bad (xs : List UInt8) (h : (Hd.read xs).2.2 ≠ 0) : Hd.body xs = [] := by unfold Hd.body; rw [if_neg h]
theorem Hd.body_le (xs : List UInt8) : (Hd.body xs).length ≤ xs.length := by
  unfold Hd.body
  split
  · simp
  · simp

theorem behind_n (a : Option Addr) (cap n : Nat) (xs : List UInt8) (t : Nat) (w : World) (hn : xs.length = n) (hm : n ≤ 90000) (h : RowAt w a cap xs) :
    Calls Try.prog 22 #[.slice a n cap, .int .i64 (t : Int)] w fun e w' => ∃ v, e = .returned v ∧ w'.ownsRow w.heap.size 5 1 v (xs.drop t).length (Lib.byteCells (xs.drop t)) ∧ Below w.heap.size w w' := by
  subst hn
  exact behind_at a cap xs t w (by omega) h

/-- A body that is answered. -/
def BodyRes (w w' : World) (e : Ending) (p : Nat) (X : List UInt8) (r : Nat) : Prop :=
  ∃ v, e = .returned (.tuple #[.int .i64 (p : Int), v, .int .i64 (r : Int)]) ∧ w'.ownsRow w.heap.size 5 1 v X.length (Lib.byteCells X) ∧ Below w.heap.size w w'

set_option maxHeartbeats 1000000 in
theorem body_any (a : Option Addr) (cap n : Nat) (xs : List UInt8) (w : World) (hn : xs.length = n) (hm : n ≤ 90000) (h : RowAt w a cap xs) :
    Calls Try.prog 15 #[.slice a n cap] w fun e w' => BodyRes w w' e (Hd.read xs).1 (Hd.body xs) (Hd.read xs).2.2 := by
  have c1 := read_any a cap n xs w hn hm h
  have c2 := fun W (h : RowAt W a cap xs) => behind_n a cap n xs (Hd.read xs).2.1 W hn hm h
  have hk := Hd.read_known xs
  have q0 := Hd.body_good xs
  have q1 := Hd.body_bad xs
  generalize Hd.read xs = A at *
  generalize Hd.body xs = X at *
  obtain ⟨p, t, r⟩ := A
  have H := Lib.hid h
  have C1 := Lib.hid c1
  have C2 := Lib.hid c2
  clear h c1 c2
  by_cases hr : r = 0
  · have hX := q0 hr
    rw [show (xs.drop (p, t, r).2.1) = X from hX.symm] at C2
    have hp := hk.small
    clear q0 q1 hX hk
    subst hr
    go_enter Try.func15, Try.ntmps15
    go_wp2_with fail
    refine C1.out.mono ?_
    rintro e w1 ⟨rfl, b1⟩
    have H1 := Lib.hid (H.out.next b1)
    simp only [hcells]
    go_wp2_with fail
    have hS : (w1.alloc (.cells (hcells p t).toArray 31)).drew.heap[w1.heap.size]? = some (.cells (hcells p t).toArray 31 (0, 0)) := heap_alloc_new w1 _
    have b2 : Below w.heap.size w (w1.alloc (.cells (hcells p t).toArray 31)).drew := (b1.alloc b1.size _).drew
    have H2 := Lib.hid (H1.out.next ((Below.refl w1.heap.size w1).alloc (Nat.le_refl _) (.cells (hcells p t).toArray 31)).drew)
    have e2 : (w1.alloc (.cells #[.int .i64 (p : Int), .int .i64 (t : Int)] 31)).drew = (w1.alloc (.cells (hcells p t).toArray 31)).drew := rfl
    refine held_start (S := fun W => W.heap[w1.heap.size]? = some (.cells (hcells p t).toArray 31 (0, 0))) 9 (by kernel_rfl) rfl ?_
    rw [e2]
    clear e2 H1 C1
    generalize (w1.alloc (.cells (hcells p t).toArray 31)).drew = w2 at hS b2 H2 ⊢
    generalize w1.heap.size = T at hS ⊢
    clear b1
    refine held_take 0 (v := ?_) rfl (by kernel_rfl) (by kernel_rfl) (by kernel_rfl) (fun _ _ _ h => h) (by assumption) (by rfl) ?_ ?_
    rotate_left
    · (intro W hW; go_simp; try with_reducible rfl)
    simp only [Act.put, List.setIfInBounds_toArray, List.set_cons_zero, List.set_cons_succ]
    refine held_take 1 (v := ?_) rfl (by kernel_rfl) (by kernel_rfl) (by kernel_rfl) (fun _ _ _ h => h) (by assumption) (by rfl) ?_ ?_
    rotate_left
    · (intro W hW; (have t0 : W.cell? ⟨T, 0, none⟩ = some (.int .i64 (p : Int)) := cell_of_row _ _ _ _ _ _ hW); clear hW; go_simp; try with_reducible rfl)
    simp only [Act.put, List.setIfInBounds_toArray, List.set_cons_zero, List.set_cons_succ]
    refine held_take 2 (v := ?_) rfl (by kernel_rfl) (by kernel_rfl) (by kernel_rfl) (fun _ _ _ h => h) (by assumption) (by rfl) ?_ ?_
    rotate_left
    · (intro W hW; go_simp; try with_reducible rfl)
    simp only [Act.put, List.setIfInBounds_toArray, List.set_cons_zero, List.set_cons_succ]
    refine held_take 3 (v := ?_) rfl (by kernel_rfl) (by kernel_rfl) (by kernel_rfl) (fun _ _ _ h => h) (by assumption) (by rfl) ?_ ?_
    rotate_left
    · (intro W hW; go_simp; try with_reducible rfl)
    simp only [Act.put, List.setIfInBounds_toArray, List.set_cons_zero, List.set_cons_succ]
    refine held_take 4 (v := ?_) rfl (by kernel_rfl) (by kernel_rfl) (by kernel_rfl) (fun _ _ _ h => h) (by assumption) (by rfl) ?_ ?_
    rotate_left
    · (intro W hW; (have t0 : W.cell? ⟨T, 1, none⟩ = some (.int .i64 (t : Int)) := cell_of_row _ _ _ _ _ _ hW); clear hW; go_simp; try with_reducible rfl)
    simp only [Act.put, List.setIfInBounds_toArray, List.set_cons_zero, List.set_cons_succ]
    refine held_call 5 (f := 22) (args := #[.slice a n cap, .int .i64 (t : Int)]) rfl (by kernel_rfl) (by rfl) (by go_simp) ?_
    refine (C2.out _ H2.out).mono ?_
    rintro e w3 ⟨v, rfl, o3, b3⟩
    have hS3 : w3.heap[T]? = some (.cells (hcells p t).toArray 31 (0, 0)) := by rw [b3.block T (lt_of_block hS)]; exact hS
    have B3 := Lib.hid (Below.chain b2 b3)
    have O3 := Lib.hid (ownsRow_lower o3 b2.size)
    refine ⟨_, rfl, hS3, ?_⟩
    clear o3 b3 b2 hS H2
    simp only [Act.put, List.setIfInBounds_toArray, List.set_cons_zero, List.set_cons_succ]
    refine held_take 6 (v := ?_) rfl (by kernel_rfl) (by kernel_rfl) (by kernel_rfl) (fun _ _ _ h => h) (by assumption) (by rfl) ?_ ?_
    rotate_left
    · (intro W hW; go_simp; try with_reducible rfl)
    simp only [Act.put, List.setIfInBounds_toArray, List.set_cons_zero, List.set_cons_succ]
    refine held_take 7 (v := ?_) rfl (by kernel_rfl) (by kernel_rfl) (by kernel_rfl) (fun _ _ _ h => h) (by assumption) (by rfl) ?_ ?_
    rotate_left
    · (intro W hW; go_simp; try with_reducible rfl)
    simp only [Act.put, List.setIfInBounds_toArray, List.set_cons_zero, List.set_cons_succ]
    refine held_take 8 (v := ?_) rfl (by kernel_rfl) (by kernel_rfl) (by kernel_rfl) (fun _ _ _ h => h) (by assumption) (by rfl) ?_ ?_
    rotate_left
    · (intro W hW; go_simp; try with_reducible rfl)
    simp only [Act.put, List.setIfInBounds_toArray, List.set_cons_zero, List.set_cons_succ]
    refine held_done (by kernel_rfl) ?_
    go_wp2
    go_ret3
    exact ⟨_, rfl, O3.out, B3.out⟩
  · have hX := q1 hr
    obtain ⟨rfl, rfl⟩ := hk.bad hr
    have he := hk.err
    subst hX
    have i1 : ((r : Int) == 0) = false := by simp; omega
    clear q0 q1 C2 hk
    go_enter Try.func15, Try.ntmps15
    go_wp2_with fail
    refine C1.out.mono ?_
    rintro e w1 ⟨rfl, b1⟩
    simp only [hcells]
    clear hr
    go_wp2
    go_ret3
    exact ⟨_, rfl, World.ownsRow_nil _ _ _ _, b1.alloc b1.size _⟩

theorem headput_bad (p : Int) (full short : Bool) (w : World) (h : Hd.may p = false) :
    Calls Try.prog 9 #[.int .i64 p, .bool full, .bool short] w fun e w' => e = .returned (.tuple #[.slice none 0 0, .int .i64 1]) ∧ w' = w := by
  go_enter Try.func9, Try.ntmps9
  go_wp2_with (go_at_call 11; refine (may_any _ _).mono ?_; rintro e w' ⟨rfl, h⟩; rw [h]; clear h)
  go_ret2
  exact ⟨rfl, rfl⟩

/-- Address and control, and what stands behind them. -/
theorem parts_full {w : World} {p : Option Addr} {c n : Nat} {ys : List UInt8} (hn : ys.length = n) (h : RowAt w p c ys) :
    PartsAt ((w.alloc (.cells #[.int .u8 255, .int .u8 3] 5)).alloc (.cells #[.slice (some ⟨w.heap.size, 0, none⟩) 2 2, .slice p n c] 23)) (some ⟨w.heap.size + 1, 0, none⟩) [[255, 3], ys] := by
  subst hn
  have hx := rowAt_built w [255, 3] 2 _ rfl rfl (by omega) (0, 0)
  have hy := rowAt_alloc h (.cells #[.int .u8 255, .int .u8 3] 5)
  have e : w.heap.size + 1 = (w.alloc (.cells #[.int .u8 255, .int .u8 3] 5)).heap.size := by simp
  rw [e]
  refine .inr ⟨_, 0, rfl, by simp, fun j hj => ?_⟩
  have h2 : j = 0 ∨ j = 1 := by simp at hj; omega
  rcases h2 with rfl | rfl
  · exact ⟨_, 2, by simp only [World.cell?, heap_alloc_new]; rfl, rowAt_alloc hx _⟩
  · exact ⟨p, c, by simp only [World.cell?, heap_alloc_new]; rfl, rowAt_alloc hy _⟩

/-- A list that is answered. -/
def PutRes (w w' : World) (e : Ending) (X : List UInt8) : Prop := ∃ v, e = .returned (.tuple #[v, .int .i64 0]) ∧ w'.ownsRow w.heap.size 5 1 v X.length (Lib.byteCells X) ∧ Below w.heap.size w w'

set_option maxHeartbeats 1000000 in
theorem headput_size (p s : Nat) (full short : Bool) (w : World) (h : Hd.may (p : Int) = true) (hs : Hd.wide p short = s) :
    Calls Try.prog 9 #[.int .i64 (p : Int), .bool full, .bool short] w fun e w' => PutRes w w' e (Hd.put p full short) := by
  have hm := (Hd.may_iff _).1 h
  have hw := Hd.wide_le p short
  have hf := Hd.wide_fits p short (by omega)
  rw [hs] at hw hf
  have F := fun W => fits_any p 1 W
  have hF : Oc.fits p 1 = decide (p < 256) := Oc.fits_in p 1 (by omega) (by omega)
  rw [hF] at F
  clear hF
  have i1 : (p : Int) ≤ 65535 := by omega
  have hz : short = true ∧ p < 256 ∧ s = 1 ∨ short = true ∧ ¬ p < 256 ∧ s = 2 ∨ short = false ∧ s = 2 := by
    unfold Hd.wide at hs
    cases short
    · right; right; exact ⟨rfl, by simpa using hs.symm⟩
    · by_cases h2 : p < 256
      · left; rw [if_pos ⟨rfl, h2⟩] at hs; exact ⟨rfl, h2, hs.symm⟩
      · right; left; rw [if_neg (by omega)] at hs; exact ⟨rfl, h2, hs.symm⟩
  have C := Lib.hid (put_fits p s true w (by omega) (by omega) hf)
  have hl := Oc.put_length p s true
  obtain ⟨Y, hY⟩ : ∃ Y, Y = Oc.put p s true := ⟨_, rfl⟩
  rw [← hY] at C hl
  rw [Hd.put, hs, ← hY]
  have Hl := Lib.hid hl
  clear hY hl hf hs
  clear hm hw
  have i0 : ¬ (p : Int) < 0 := by omega
  rcases hz with ⟨rfl, h2, rfl⟩ | ⟨rfl, h2, rfl⟩ | ⟨rfl, rfl⟩
  · rw [decide_eq_true h2] at F
    have HF := Lib.hid F
    clear h2 F
    cases full
    · go_enter Try.func9, Try.ntmps9
      go_wp2_with (first | (go_at_call 11; refine (may_any _ _).mono ?_; rintro e w' ⟨rfl, h0⟩; rw [h0, h]; clear h0) | (go_at_call 16; refine (HF.out _).mono ?_; rintro e w' ⟨rfl, h0⟩; rw [h0]; clear h0) | (go_at_call 17; refine C.out.mono ?_; rintro e w1 ⟨v, rfl, o1, b1⟩))
      go_ret2
      exact ⟨v, rfl, by simpa [Hd.ahead, Hl.out] using o1, b1⟩
    · go_enter Try.func9, Try.ntmps9
      go_wp2_with (first | (go_at_call 11; refine (may_any _ _).mono ?_; rintro e w' ⟨rfl, h0⟩; rw [h0, h]; clear h0) | (go_at_call 16; refine (HF.out _).mono ?_; rintro e w' ⟨rfl, h0⟩; rw [h0]; clear h0) | (go_at_call 17; refine C.out.mono ?_; rintro e w1 ⟨v, rfl, o1, b1⟩; obtain ⟨a1, c1, rfl, r1⟩ := rowAt_own Hl.out o1; have R1 := Lib.hid r1; clear r1 o1) | (go_at_call 18; refine (join_at _ 2 2 [[255, 3], Y] ([255, 3] ++ Y) _ rfl (by simp) (by simp) (by simp [Hl.out]) (parts_full Hl.out R1.out)).mono ?_; rintro e w2 ⟨v2, rfl, o2, b2⟩))
      go_ret2
      exact ⟨v2, rfl, ownsRow_lower o2 (by have := b1.size; simp; omega), Below.chain b1 (below_alloc (below_alloc b2))⟩
  · rw [decide_eq_false h2] at F
    have HF := Lib.hid F
    clear h2 F
    cases full
    · go_enter Try.func9, Try.ntmps9
      go_wp2_with (first | (go_at_call 11; refine (may_any _ _).mono ?_; rintro e w' ⟨rfl, h0⟩; rw [h0, h]; clear h0) | (go_at_call 16; refine (HF.out _).mono ?_; rintro e w' ⟨rfl, h0⟩; rw [h0]; clear h0) | (go_at_call 17; refine C.out.mono ?_; rintro e w1 ⟨v, rfl, o1, b1⟩))
      go_ret2
      exact ⟨v, rfl, by simpa [Hd.ahead, Hl.out] using o1, b1⟩
    · go_enter Try.func9, Try.ntmps9
      go_wp2_with (first | (go_at_call 11; refine (may_any _ _).mono ?_; rintro e w' ⟨rfl, h0⟩; rw [h0, h]; clear h0) | (go_at_call 16; refine (HF.out _).mono ?_; rintro e w' ⟨rfl, h0⟩; rw [h0]; clear h0) | (go_at_call 17; refine C.out.mono ?_; rintro e w1 ⟨v, rfl, o1, b1⟩; obtain ⟨a1, c1, rfl, r1⟩ := rowAt_own Hl.out o1; have R1 := Lib.hid r1; clear r1 o1) | (go_at_call 18; refine (join_at _ 2 2 [[255, 3], Y] ([255, 3] ++ Y) _ rfl (by simp) (by simp) (by simp [Hl.out]) (parts_full Hl.out R1.out)).mono ?_; rintro e w2 ⟨v2, rfl, o2, b2⟩))
      go_ret2
      exact ⟨v2, rfl, ownsRow_lower o2 (by have := b1.size; simp; omega), Below.chain b1 (below_alloc (below_alloc b2))⟩
  · clear F
    cases full
    · go_enter Try.func9, Try.ntmps9
      go_wp2_with (first | (go_at_call 11; refine (may_any _ _).mono ?_; rintro e w' ⟨rfl, h0⟩; rw [h0, h]; clear h0) | (go_at_call 17; refine C.out.mono ?_; rintro e w1 ⟨v, rfl, o1, b1⟩))
      go_ret2
      exact ⟨v, rfl, by simpa [Hd.ahead, Hl.out] using o1, b1⟩
    · go_enter Try.func9, Try.ntmps9
      go_wp2_with (first | (go_at_call 11; refine (may_any _ _).mono ?_; rintro e w' ⟨rfl, h0⟩; rw [h0, h]; clear h0) | (go_at_call 17; refine C.out.mono ?_; rintro e w1 ⟨v, rfl, o1, b1⟩; obtain ⟨a1, c1, rfl, r1⟩ := rowAt_own Hl.out o1; have R1 := Lib.hid r1; clear r1 o1) | (go_at_call 18; refine (join_at _ 2 2 [[255, 3], Y] ([255, 3] ++ Y) _ rfl (by simp) (by simp) (by simp [Hl.out]) (parts_full Hl.out R1.out)).mono ?_; rintro e w2 ⟨v2, rfl, o2, b2⟩))
      go_ret2
      exact ⟨v2, rfl, ownsRow_lower o2 (by have := b1.size; simp; omega), Below.chain b1 (below_alloc (below_alloc b2))⟩

theorem headput_good (p : Nat) (full short : Bool) (w : World) (h : Hd.may (p : Int) = true) :
    Calls Try.prog 9 #[.int .i64 (p : Int), .bool full, .bool short] w fun e w' => PutRes w w' e (Hd.put p full short) := headput_size p _ full short w h rfl
end Go.Proofs.Ytphamnpafafpkaa
