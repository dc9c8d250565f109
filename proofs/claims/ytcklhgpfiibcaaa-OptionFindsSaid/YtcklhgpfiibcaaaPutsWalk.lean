/- The walk of OptionPuts. -/
import Derived.Test.YtcklhgpfiibcaaaOz
import Derived.Test.YtcklhgpfiibcaaaOh
namespace Go.Proofs.Ytcklhgpfiibcaaa
open Go.RowKit

theorem few_short {L : List Ot.O} {n : Nat} (h : Ot.few L = true) (hL : L.length = n) : n ≤ 50 ∧ ∀ x ∈ L, x.data.length ≤ 300000 := by
  obtain ⟨h1, h2⟩ := Ot.few_of L h
  exact ⟨by omega, fun x hx => by have := h2 x hx; omega⟩

theorem puts_many (a : Option Addr) (n cap : Nat) (L : List Ot.O) (w : World) (hL : L.length = n) (h : OptsAt w a L) (hf : Ot.few L = false) :
    Calls Try.prog 3 #[.slice a n cap] w fun e w' => e = .returned (.bool true) ∧ Below w.heap.size w w' := by
  go_enter Try.func3, Try.ntmps3
  go_wp2_with fail
  refine (awake_any w).mono ?_
  rintro e w1 ⟨rfl, b1⟩
  go_wp2_with fail
  refine (few_any a n cap L w1 hL (h.next b1)).mono ?_
  rintro e w2 ⟨rfl, h2⟩; rw [h2, hf]; clear h2
  go_wp2_with fail
  refine (awake_any w1).mono ?_
  rintro e w3 ⟨rfl, b3⟩
  go_wp2
  go_ret
  exact ⟨rfl, Below.chain b1 b3⟩

set_option maxRecDepth 100000 in
set_option maxHeartbeats 1000000 in
theorem puts_few (a : Option Addr) (n cap : Nat) (L : List Ot.O) (w : World) (hL : L.length = n) (h : OptsAt w a L) (hf : Ot.few L = true) :
    Calls Try.prog 3 #[.slice a n cap] w fun e w' => e = .returned (.bool true) ∧ Below w.heap.size w w' := by
  obtain ⟨hn, _⟩ := few_short hf hL
  have H := Lib.hid h
  clear h
  go_enter Try.func3, Try.ntmps3
  go_wp2_with fail
  refine (awake_any w).mono ?_
  rintro e w1 ⟨rfl, b1⟩
  have B1 := Lib.hid b1
  clear b1
  go_wp2_with fail
  refine (few_any a n cap L w1 hL (H.out.next B1.out)).mono ?_
  rintro e w2 ⟨rfl, h2⟩; rw [h2, hf]; clear h2
  go_wp2_with fail
  refine (put_any a n cap L w1 hL (by omega) (H.out.next B1.out)).mono ?_
  intro e w3 h3
  by_cases he : Ot.err L = 0
  · obtain ⟨ax, cx, rfl, rx, b3, _⟩ := put_fine h3 he
    have hfi := Lib.hid ((Ot.err_zero L).1 he)
    obtain ⟨X, hX⟩ : ∃ X, Ot.bytes L = X := ⟨_, rfl⟩
    obtain ⟨m, hm⟩ : ∃ m, X.length = m := ⟨_, rfl⟩
    rw [hX] at rx ⊢
    rw [hm]
    have HX := Lib.hid hX
    have HM := Lib.hid hm
    have RX := Lib.hid rx
    have B3 := Lib.hid (Below.chain B1.out b3)
    clear h3 rx b3 hX hm
    go_wp2_with fail
    refine (wrong_any a n cap L w3 hL (by omega) (H.out.next B3.out)).mono ?_
    rintro e w4 ⟨rfl, h4⟩; rw [h4, he]; clear h4 he
    go_wp2_with fail
    have bd : Below w.heap.size w w3.drew := B3.out.drew
    have hS : RowAt w3.drew ax cx X := RX.out.next (Below.refl _ _).drew
    refine held_start (S := fun W => RowAt W ax cx X) 11 (by kernel_rfl) rfl ?_
    generalize w3.drew = Wd at *
    refine held_take 0 (v := ?_) rfl (by kernel_rfl) (by kernel_rfl) (by kernel_rfl) (fun _ _ _ h => h) (by assumption) (by rfl) ?_ ?_
    rotate_left
    · (intro W hW; go_simp; try with_reducible rfl)
    simp only [Act.put, List.setIfInBounds_toArray, List.set_cons_zero, List.set_cons_succ]
    refine held_take 1 (v := ?_) rfl (by kernel_rfl) (by kernel_rfl) (by kernel_rfl) (fun _ _ _ h => h) (by assumption) (by rfl) ?_ ?_
    rotate_left
    · (intro W hW; go_simp; try with_reducible rfl)
    simp only [Act.put, List.setIfInBounds_toArray, List.set_cons_zero, List.set_cons_succ]
    refine held_take 2 (v := ?_) rfl (by kernel_rfl) (by kernel_rfl) (by kernel_rfl) (fun _ _ _ h => h) (by assumption) (by rfl) ?_ ?_
    rotate_left
    · (intro W hW; go_simp; try with_reducible rfl)
    simp only [Act.put, List.setIfInBounds_toArray, List.set_cons_zero, List.set_cons_succ]
    refine held_take 3 (v := ?_) rfl (by kernel_rfl) (by kernel_rfl) (by kernel_rfl) (fun _ _ _ h => h) (by assumption) (by rfl) ?_ ?_
    rotate_left
    · (intro W hW; go_simp; try with_reducible rfl)
    simp only [Act.put, List.setIfInBounds_toArray, List.set_cons_zero, List.set_cons_succ]
    refine held_take 4 (v := ?_) rfl (by kernel_rfl) (by kernel_rfl) (by kernel_rfl) (fun _ _ _ h => h) (by assumption) (by rfl) ?_ ?_
    rotate_left
    · (intro W hW; have hc := conv_row HM.out hW; go_simp; try with_reducible rfl)
    simp only [Act.put, List.setIfInBounds_toArray, List.set_cons_zero, List.set_cons_succ]
    refine held_take 5 (v := ?_) rfl (by kernel_rfl) (by kernel_rfl) (by kernel_rfl) (fun _ _ _ h => h) (by assumption) (by rfl) ?_ ?_
    rotate_left
    · (intro W hW; go_simp; try with_reducible rfl)
    simp only [Act.put, List.setIfInBounds_toArray, List.set_cons_zero, List.set_cons_succ]
    refine held_call 6 (f := 13) (args := #[.slice a n cap]) rfl (by kernel_rfl) (by rfl) (by go_simp) ?_
    refine (refPut_any a n cap L Wd hL (by omega) hfi.out (H.out.next bd)).mono ?_
    rintro e w5 ⟨v5, rfl, o5, b5⟩
    rw [HX.out, HM.out] at o5
    obtain ⟨a5, c5, rfl, r5⟩ := rowAt_own HM.out o5
    have hS5 : RowAt w5 ax cx X := hS.next b5
    refine ⟨_, rfl, hS5, ?_⟩
    simp only [Act.put, List.setIfInBounds_toArray, List.set_cons_zero, List.set_cons_succ]
    refine held_one 7 rfl (by kernel_rfl) (by rfl) ?_
    have hc5 := conv_row HM.out r5
    refine wp_value (v := .string ⟨X.toArray⟩) (w' := w5) (by go_simp) ⟨hS5, ?_⟩
    simp only [Act.put, List.setIfInBounds_toArray, List.set_cons_zero, List.set_cons_succ]
    refine held_take 8 (v := ?_) rfl (by kernel_rfl) (by kernel_rfl) (by kernel_rfl) (fun _ _ _ h => h) (by assumption) (by rfl) ?_ ?_
    rotate_left
    · (intro W hW; go_simp; try with_reducible rfl)
    simp only [Act.put, List.setIfInBounds_toArray, List.set_cons_zero, List.set_cons_succ]
    refine held_take 9 (v := ?_) rfl (by kernel_rfl) (by kernel_rfl) (by kernel_rfl) (fun _ _ _ h => h) (by assumption) (by rfl) ?_ ?_
    rotate_left
    · (intro W hW; go_simp; try with_reducible rfl)
    simp only [Act.put, List.setIfInBounds_toArray, List.set_cons_zero, List.set_cons_succ]
    refine held_take 10 (v := ?_) rfl (by kernel_rfl) (by kernel_rfl) (by kernel_rfl) (fun _ _ _ h => h) (by assumption) (by rfl) ?_ ?_
    rotate_left
    · (intro W hW; go_simp; try with_reducible rfl)
    simp only [Act.put, List.setIfInBounds_toArray, List.set_cons_zero, List.set_cons_succ]
    refine held_done (by kernel_rfl) ?_
    have BB := Lib.hid (Below.chain bd b5)
    clear hS hS5 r5 o5 b5 bd hc5
    go_wp2
    go_ret
    exact ⟨rfl, BB.out⟩
  · obtain ⟨rfl, b3⟩ := put_bad h3 he
    have B3 := Lib.hid (Below.chain B1.out b3)
    clear h3 b3
    go_wp2_with fail
    refine (wrong_any a n cap L w3 hL (by omega) (H.out.next B3.out)).mono ?_
    rintro e w4 ⟨rfl, h4⟩; rw [h4]; clear h4
    have i1 : ((Ot.err L : Int) != 0) = true := by simp; omega
    generalize Ot.err L = er at *
    go_wp2
    go_ret
    exact ⟨rfl, B3.out⟩

theorem puts_walk (a : Option Addr) (n cap : Nat) (L : List Ot.O) (w : World) (hL : L.length = n) (h : OptsAt w a L) :
    Calls Try.prog 3 #[.slice a n cap] w fun e w' => e = .returned (.bool true) ∧ Below w.heap.size w w' := by
  cases hf : Ot.few L with
  | false => exact puts_many a n cap L w hL h hf
  | true => exact puts_few a n cap L w hL h hf
end Go.Proofs.Ytcklhgpfiibcaaa
