/- Contracts of Known, the document's Known, tell and Right. -/
import Derived.Test.YtacnlancncmpmaaTb
import Derived.Test.YtacnlancncmpmaaOf
namespace Go.Proofs.Ytacnlancncmpmaa
open Go.RowKit S2 S12

theorem Ad.known_ip (t : Int) : Ad.known 32801 t = decide (t = 2 ∨ t = 3 ∨ 129 ≤ t ∧ t ≤ 132) := decide_eq_decide.2 (by omega)
theorem Ad.known_six (t : Int) : Ad.known 32855 t = decide (t = 1) := decide_eq_decide.2 (by omega)
theorem Ad.known_other {P : Int} (t : Int) (h1 : P ≠ 32801) (h2 : P ≠ 32855) : Ad.known P t = false := decide_eq_false (by omega)
theorem known_any (P t : Int) (w : World) : Calls Try.prog 10 #[.int .i64 P, .int .i64 t] w fun e w' => e = .returned (.bool (Ad.known P t)) ∧ w' = w := by
  by_cases hP : P = 32801
  · subst hP
    rw [Ad.known_ip]
    by_cases h2 : t = 2
    · subst h2
      go_enter Try.func10, Try.ntmps10
      go_wp2
      go_ret
      exact ⟨rfl, rfl⟩
    by_cases h3 : t = 3
    · subst h3
      go_enter Try.func10, Try.ntmps10
      go_wp2
      go_ret
      exact ⟨rfl, rfl⟩
    have e2 : (t == 2) = false := by simpa using h2
    have e3 : (t == 3) = false := by simpa using h3
    by_cases h4 : 129 ≤ t
    · by_cases h5 : t ≤ 132
      · rw [decide_eq_true (by omega)]
        go_enter Try.func10, Try.ntmps10
        go_wp2
        go_ret
        exact ⟨rfl, rfl⟩
      · rw [decide_eq_false (by omega)]
        go_enter Try.func10, Try.ntmps10
        go_wp2
        go_ret
        exact ⟨rfl, rfl⟩
    · rw [decide_eq_false (by omega)]
      go_enter Try.func10, Try.ntmps10
      go_wp2
      go_ret
      exact ⟨rfl, rfl⟩
  by_cases hQ : P = 32855
  · subst hQ
    rw [Ad.known_six]
    clear hP
    by_cases h1 : t = 1
    · subst h1
      go_enter Try.func10, Try.ntmps10
      go_wp2
      go_ret
      exact ⟨rfl, rfl⟩
    · rw [decide_eq_false h1]
      have e1 : (t == 1) = false := by simpa using h1
      go_enter Try.func10, Try.ntmps10
      go_wp2
      go_ret
      exact ⟨rfl, rfl⟩
  rw [Ad.known_other t hP hQ]
  go_enter Try.func10, Try.ntmps10
  go_wp2
  go_ret
  exact ⟨rfl, rfl⟩
theorem refKnown_any (P t : Int) (w : World) : Calls Try.prog 11 #[.int .i64 P, .int .i64 t] w fun e w' => e = .returned (.bool (Ad.known P t)) ∧ w' = w := by
  by_cases hP : P = 32801
  · subst hP
    rw [Ad.known_ip]
    by_cases h2 : t = 2
    · subst h2
      go_enter Try.func11, Try.ntmps11
      go_wp2
      go_ret
      exact ⟨rfl, rfl⟩
    by_cases h3 : t = 3
    · subst h3
      go_enter Try.func11, Try.ntmps11
      go_wp2
      go_ret
      exact ⟨rfl, rfl⟩
    have e2 : (t == 2) = false := by simpa using h2
    have e3 : (t == 3) = false := by simpa using h3
    by_cases h4 : 129 ≤ t
    · by_cases h5 : t ≤ 132
      · rw [decide_eq_true (by omega)]
        go_enter Try.func11, Try.ntmps11
        go_wp2
        go_ret
        exact ⟨rfl, rfl⟩
      · rw [decide_eq_false (by omega)]
        go_enter Try.func11, Try.ntmps11
        go_wp2
        go_ret
        exact ⟨rfl, rfl⟩
    · rw [decide_eq_false (by omega)]
      go_enter Try.func11, Try.ntmps11
      go_wp2
      go_ret
      exact ⟨rfl, rfl⟩
  by_cases hQ : P = 32855
  · subst hQ
    rw [Ad.known_six]
    clear hP
    by_cases h1 : t = 1
    · subst h1
      go_enter Try.func11, Try.ntmps11
      go_wp2
      go_ret
      exact ⟨rfl, rfl⟩
    · rw [decide_eq_false h1]
      have e1 : (t == 1) = false := by simpa using h1
      go_enter Try.func11, Try.ntmps11
      go_wp2
      go_ret
      exact ⟨rfl, rfl⟩
  rw [Ad.known_other t hP hQ]
  go_enter Try.func11, Try.ntmps11
  go_wp2
  go_ret
  exact ⟨rfl, rfl⟩

set_option maxRecDepth 100000 in
set_option maxHeartbeats 400000 in
theorem tell_any (g : Nat) (t : Ad.T) (P : Int) (x : Ot.O) (q : Option Addr) (m c : Nat) (w w0 : World) (hm : x.data.length = m) (h : RowAt w0 q c x.data) (hb : Below w0.heap.size w0 w) (hg0 : w0.heap.size ≤ g) (hT : TmAt w g t) :
    Calls Try.prog 25 #[.pointer (some ⟨g, 0, none⟩), .int .i64 P, .agg (ocells x (.slice q m c)).toArray] w fun e w' => RdRes w w' e g t x (Ad.right P x) := by
  obtain ⟨ty, d⟩ := x
  have hgl := hT.lt
  simp only [ocells] at hm h ⊢
  by_cases hk : Ad.known P ty = true
  · rcases Ad.known_cases P hk with ⟨rfl, rfl⟩ | ⟨rfl, rfl | rfl | rfl | rfl | rfl | rfl⟩
    · by_cases h4 : m = 8
      · subst h4
        obtain ⟨y, rfl⟩ := Ad.eight_of hm
        have hr : Ad.right 32855 ⟨1, y.list⟩ = !decide (y = Ad.o8) := decide_not
        rw [hr]
        clear hr
        have HK := Lib.hid hk
        have b1 := below_one w (.cells #[.int .i64 1, .slice q 8 c] 24)
        have hg := heap_alloc_new w (.cells #[.int .i64 1, .slice q 8 c] 24)
        have k0 : (w.alloc (.cells #[.int .i64 1, .slice q 8 c] 24)).cell? ⟨w.heap.size, 0, none⟩ = some (.int .i64 1) := cell_of_row _ _ _ _ _ _ hg
        have k1 : (w.alloc (.cells #[.int .i64 1, .slice q 8 c] 24)).cell? ⟨w.heap.size, 1, none⟩ = some (.slice q 8 c) := cell_of_row _ _ _ _ _ _ hg
        have T1 := hT.next b1
        have BB := Lib.hid b1
        have HH := Lib.hid ((h.next hb).next b1)
        have C0 := Lib.hid (known_any 32855 1 (w.alloc (.cells #[.int .i64 1, .slice q 8 c] 24)))
        have c0 : (w.alloc (.cells #[.int .i64 1, .slice q 8 c] 24)).cell? ⟨g, 28, none⟩ = some (.bool t.hasId) := T1.cell 28
        have f0 := T1.frozen 28
        have T2 := Lib.hid (T1.set 28 (.bool true) { t with hasId := true } rfl)
        have G2 := Lib.hid (grown_trans (grown_below b1 (some g)) (grown_cell _ g 28 (.bool true)))
        have k3 : ((w.alloc (.cells #[.int .i64 1, .slice q 8 c] 24)).setCell ⟨g, 28, none⟩ (.bool true)).cell? ⟨w.heap.size, 1, none⟩ = some (.slice q 8 c) := by
          simp only [World.cell?]
          rw [heap_setCell_other _ _ _ _ (by show w.heap.size ≠ g; omega)]
          exact k1
        have k4 : ((w.alloc (.cells #[.int .i64 1, .slice q 8 c] 24)).setCell ⟨g, 28, none⟩ (.bool true)).cell? ⟨w.heap.size, 0, none⟩ = some (.int .i64 1) := by
          simp only [World.cell?]
          rw [heap_setCell_other _ _ _ _ (by show w.heap.size ≠ g; omega)]
          exact k0
        have hsz : w.heap.size ≠ g := by omega
        clear hT b1 hg T1 HH hk BB
        go_enter Try.func25, Try.ntmps25
        go_wp2_with fail
        refine C0.out.mono ?_
        rintro e w1 ⟨rfl, h1⟩
        rw [HK.out]
        rw [← h1] at c0 f0 T2 G2 k3 k4 k0 k1
        clear h1 C0 HK
        go_wp2
        have hS : (w1.setCell ⟨g, 28, none⟩ (.bool true)).drew.cell? ⟨w.heap.size, 1, none⟩ = some (.slice q 8 c) := k3
        have TD : Hid (TmAt (w1.setCell ⟨g, 28, none⟩ (.bool true)).drew g { t with hasId := true }) := T2.out
        have GD : Hid (w.grownBy (w1.setCell ⟨g, 28, none⟩ (.bool true)).drew (some g)) := grown_next G2.out (Below.refl _ _).drew
        have RD := Lib.hid (h.next (Below.grown hb GD.out hb.size (fun k e => by cases e; exact hg0)))
        refine held_start (S := fun W => W.cell? ⟨w.heap.size, 1, none⟩ = some (.slice q 8 c)) 16 (by kernel_rfl) rfl ?_
        generalize (w1.setCell ⟨g, 28, none⟩ (.bool true)).drew = WD at *
        clear c0 f0 k3 k4 T2 G2 k0 k1 h hb hg0
        refine held_take 0 (v := ?_) rfl (by kernel_rfl) (by kernel_rfl) (by kernel_rfl) (fun _ _ _ h => h) (by assumption) (by rfl) ?_ ?_
        rotate_left
        · (intro W hW; go_simp; try with_reducible rfl)
        simp only [Act.put, List.setIfInBounds_toArray, List.set_cons_zero, List.set_cons_succ]
        refine held_take 1 (v := ?_) rfl (by kernel_rfl) (by kernel_rfl) (by kernel_rfl) (fun _ _ _ h => h) (by assumption) (by rfl) ?_ ?_
        rotate_left
        · (intro W hW; go_simp; try with_reducible rfl)
        simp only [Act.put, List.setIfInBounds_toArray, List.set_cons_zero, List.set_cons_succ]
        refine held_take 2 (v := ?_) rfl (by kernel_rfl) (by kernel_rfl) (by kernel_rfl) (fun _ _ _ h => h) (by assumption) (by rfl) ?_ ?_
        rotate_left
        · (intro W hW; go_simp; try with_reducible rfl)
        simp only [Act.put, List.setIfInBounds_toArray, List.set_cons_zero, List.set_cons_succ]
        refine held_take 3 (v := ?_) rfl (by kernel_rfl) (by kernel_rfl) (by kernel_rfl) (fun _ _ _ h => h) (by assumption) (by rfl) ?_ ?_
        rotate_left
        · (intro W hW; go_simp; try with_reducible rfl)
        simp only [Act.put, List.setIfInBounds_toArray, List.set_cons_zero, List.set_cons_succ]
        refine held_take 4 (v := ?_) rfl (by kernel_rfl) (by kernel_rfl) (by kernel_rfl) (fun _ _ _ h => h) (by assumption) (by rfl) ?_ ?_
        rotate_left
        · (intro W hW; go_simp; try with_reducible rfl)
        simp only [Act.put, List.setIfInBounds_toArray, List.set_cons_zero, List.set_cons_succ]
        refine held_take 5 (v := ?_) rfl (by kernel_rfl) (by kernel_rfl) (by kernel_rfl) (fun _ _ _ h => h) (by assumption) (by rfl) ?_ ?_
        rotate_left
        · (intro W hW; have e0 := hW; go_simp; try with_reducible rfl)
        simp only [Act.put, List.setIfInBounds_toArray, List.set_cons_zero, List.set_cons_succ]
        refine held_call 6 (f := 32) (args := #[.slice (some ⟨g, 29, none⟩) 8 8, .slice q 8 c]) rfl (by kernel_rfl) (by rfl) (by go_simp) ?_
        refine (fill_yes g 29 8 8 c q y.list (acells { t with hasId := true }) 35 WD rfl (by omega) TD.out (by show _ ≤ 37; omega) RD.out).mono ?_
        rintro e w5 ⟨rfl, h5⟩
        have T5 : TmAt w5 g { t with hasId := true, id := y } := by rw [h5]; exact TmAt.put TD.out _ rfl
        have G5 := Lib.hid (grown_trans GD.out (by rw [h5]; exact grown_setRow WD g _ : WD.grownBy w5 (some g)))
        have hS5 : w5.cell? ⟨w.heap.size, 1, none⟩ = some (.slice q 8 c) := by rw [h5, cell_setRow_other _ _ _ _ hsz]; exact hS
        clear h5
        refine ⟨_, rfl, hS5, ?_⟩
        simp only [Act.put, List.setIfInBounds_toArray, List.set_cons_zero, List.set_cons_succ]
        refine held_more (S' := fun W => W.cell? ⟨w.heap.size, 1, none⟩ = some (.slice q 8 c) ∧ W.rangeAt g 29 (cells8 y)) (fun W h => h.1) _ _ _ _ ?_
        have hR : w5.cell? ⟨w.heap.size, 1, none⟩ = some (.slice q 8 c) ∧ w5.rangeAt g 29 (cells8 y) := ⟨hS5, T5.range 29 _ rfl⟩
        clear hS hS5
        refine held_take 7 (v := ?_) rfl (by kernel_rfl) (by kernel_rfl) (by kernel_rfl) (fun _ _ _ h => h) (by assumption) (by rfl) ?_ ?_
        rotate_left
        · (intro W hW; go_simp; try with_reducible rfl)
        simp only [Act.put, List.setIfInBounds_toArray, List.set_cons_zero, List.set_cons_succ]
        refine held_take 8 (v := ?_) rfl (by kernel_rfl) (by kernel_rfl) (by kernel_rfl) (fun _ _ _ h => h) (by assumption) (by rfl) ?_ ?_
        rotate_left
        · (intro W hW; go_simp; try with_reducible rfl)
        simp only [Act.put, List.setIfInBounds_toArray, List.set_cons_zero, List.set_cons_succ]
        refine held_take 9 (v := ?_) rfl (by kernel_rfl) (by kernel_rfl) (by kernel_rfl) (fun _ _ _ h => h) (by assumption) (by rfl) ?_ ?_
        rotate_left
        · (intro W hW; go_simp; try with_reducible rfl)
        simp only [Act.put, List.setIfInBounds_toArray, List.set_cons_zero, List.set_cons_succ]
        refine held_take 10 (v := ?_) rfl (by kernel_rfl) (by kernel_rfl) (by kernel_rfl) (fun _ _ _ h => h) (by assumption) (by rfl) ?_ ?_
        rotate_left
        · (intro W hW; go_simp; try with_reducible rfl)
        simp only [Act.put, List.setIfInBounds_toArray, List.set_cons_zero, List.set_cons_succ]
        refine held_take 11 (v := .agg (cells8 y).toArray) rfl (by kernel_rfl) (by kernel_rfl) (by kernel_rfl) (fun _ _ _ h => h) (by assumption) (by rfl) (fun W hW => run_load_arr (.tmp 30) rfl g 29 rfl (cells8 y) _ Try.underlying33 rfl info8 hW.2) ?_
        simp only [Act.put, List.setIfInBounds_toArray, List.set_cons_zero, List.set_cons_succ]
        refine held_take 12 (v := ?_) rfl (by kernel_rfl) (by kernel_rfl) (by kernel_rfl) (fun _ _ _ h => h) (by assumption) (by rfl) ?_ ?_
        rotate_left
        · (intro W hW; go_simp; try with_reducible rfl)
        simp only [Act.put, List.setIfInBounds_toArray, List.set_cons_zero, List.set_cons_succ]
        refine held_take 13 (v := ?_) rfl (by kernel_rfl) (by kernel_rfl) (by kernel_rfl) (fun _ _ _ h => h) (by assumption) (by rfl) ?_ ?_
        rotate_left
        · (intro W hW; have h30 : (Op.equalIn 10000 33 (.agg (cells8 y).toArray) (.agg (cells8 Ad.o8).toArray)).run Try.prog W = _ := eq8 9998 y Ad.o8 W; rw [show (cells8 Ad.o8).toArray = #[.int .u8 0, .int .u8 0, .int .u8 0, .int .u8 0, .int .u8 0, .int .u8 0, .int .u8 0, .int .u8 0] from rfl] at h30; have hgd := guard8; go_simp; try with_reducible rfl)
        simp only [Act.put, List.setIfInBounds_toArray, List.set_cons_zero, List.set_cons_succ]
        refine held_take 14 (v := ?_) rfl (by kernel_rfl) (by kernel_rfl) (by kernel_rfl) (fun _ _ _ h => h) (by assumption) (by rfl) ?_ ?_
        rotate_left
        · (intro W hW; go_simp; try with_reducible rfl)
        simp only [Act.put, List.setIfInBounds_toArray, List.set_cons_zero, List.set_cons_succ]
        refine held_take 15 (v := ?_) rfl (by kernel_rfl) (by kernel_rfl) (by kernel_rfl) (fun _ _ _ h => h) (by assumption) (by rfl) ?_ ?_
        rotate_left
        · (intro W hW; go_simp; try with_reducible rfl)
        simp only [Act.put, List.setIfInBounds_toArray, List.set_cons_zero, List.set_cons_succ]
        refine held_done (by kernel_rfl) ?_
        go_wp2
        go_ret
        exact ⟨rfl, G5.out, _, T5, fun _ => rfl⟩
      · rw [show Ad.right 32855 ⟨1, d⟩ = false by show (decide (d.length = 8) && _) = false; rw [decide_eq_false (by omega)]; rfl]
        have HK := Lib.hid hk
        have b1 := below_one w (.cells #[.int .i64 1, .slice q m c] 24)
        have hg := heap_alloc_new w (.cells #[.int .i64 1, .slice q m c] 24)
        have k0 : (w.alloc (.cells #[.int .i64 1, .slice q m c] 24)).cell? ⟨w.heap.size, 0, none⟩ = some (.int .i64 1) := cell_of_row _ _ _ _ _ _ hg
        have k1 : (w.alloc (.cells #[.int .i64 1, .slice q m c] 24)).cell? ⟨w.heap.size, 1, none⟩ = some (.slice q m c) := cell_of_row _ _ _ _ _ _ hg
        have T1 := hT.next b1
        have BB := Lib.hid b1
        have HH := Lib.hid ((h.next hb).next b1)
        have C0 := Lib.hid (known_any 32855 1 (w.alloc (.cells #[.int .i64 1, .slice q m c] 24)))
        have c0 : (w.alloc (.cells #[.int .i64 1, .slice q m c] 24)).cell? ⟨g, 28, none⟩ = some (.bool t.hasId) := T1.cell 28
        have f0 := T1.frozen 28
        have T2 := Lib.hid (T1.set 28 (.bool true) { t with hasId := true } rfl)
        have G2 := Lib.hid (grown_trans (grown_below b1 (some g)) (grown_cell _ g 28 (.bool true)))
        have k3 : ((w.alloc (.cells #[.int .i64 1, .slice q m c] 24)).setCell ⟨g, 28, none⟩ (.bool true)).cell? ⟨w.heap.size, 1, none⟩ = some (.slice q m c) := by
          simp only [World.cell?]
          rw [heap_setCell_other _ _ _ _ (by show w.heap.size ≠ g; omega)]
          exact k1
        have k4 : ((w.alloc (.cells #[.int .i64 1, .slice q m c] 24)).setCell ⟨g, 28, none⟩ (.bool true)).cell? ⟨w.heap.size, 0, none⟩ = some (.int .i64 1) := by
          simp only [World.cell?]
          rw [heap_setCell_other _ _ _ _ (by show w.heap.size ≠ g; omega)]
          exact k0
        have hsz : w.heap.size ≠ g := by omega
        clear hT b1 hg T1 HH hk BB
        go_enter Try.func25, Try.ntmps25
        go_wp2_with fail
        refine C0.out.mono ?_
        rintro e w1 ⟨rfl, h1⟩
        rw [HK.out]
        rw [← h1] at c0 f0 T2 G2 k3 k4 k0 k1
        clear h1 C0 HK
        go_wp2
        have hS : (w1.setCell ⟨g, 28, none⟩ (.bool true)).drew.cell? ⟨w.heap.size, 1, none⟩ = some (.slice q m c) := k3
        have TD : Hid (TmAt (w1.setCell ⟨g, 28, none⟩ (.bool true)).drew g { t with hasId := true }) := T2.out
        have GD : Hid (w.grownBy (w1.setCell ⟨g, 28, none⟩ (.bool true)).drew (some g)) := grown_next G2.out (Below.refl _ _).drew
        have RD := Lib.hid (h.next (Below.grown hb GD.out hb.size (fun k e => by cases e; exact hg0)))
        refine held_start (S := fun W => W.cell? ⟨w.heap.size, 1, none⟩ = some (.slice q m c)) 16 (by kernel_rfl) rfl ?_
        generalize (w1.setCell ⟨g, 28, none⟩ (.bool true)).drew = WD at *
        clear c0 f0 k3 k4 T2 G2 k0 k1 h hb hg0
        refine held_take 0 (v := ?_) rfl (by kernel_rfl) (by kernel_rfl) (by kernel_rfl) (fun _ _ _ h => h) (by assumption) (by rfl) ?_ ?_
        rotate_left
        · (intro W hW; go_simp; try with_reducible rfl)
        simp only [Act.put, List.setIfInBounds_toArray, List.set_cons_zero, List.set_cons_succ]
        refine held_take 1 (v := ?_) rfl (by kernel_rfl) (by kernel_rfl) (by kernel_rfl) (fun _ _ _ h => h) (by assumption) (by rfl) ?_ ?_
        rotate_left
        · (intro W hW; go_simp; try with_reducible rfl)
        simp only [Act.put, List.setIfInBounds_toArray, List.set_cons_zero, List.set_cons_succ]
        refine held_take 2 (v := ?_) rfl (by kernel_rfl) (by kernel_rfl) (by kernel_rfl) (fun _ _ _ h => h) (by assumption) (by rfl) ?_ ?_
        rotate_left
        · (intro W hW; go_simp; try with_reducible rfl)
        simp only [Act.put, List.setIfInBounds_toArray, List.set_cons_zero, List.set_cons_succ]
        refine held_take 3 (v := ?_) rfl (by kernel_rfl) (by kernel_rfl) (by kernel_rfl) (fun _ _ _ h => h) (by assumption) (by rfl) ?_ ?_
        rotate_left
        · (intro W hW; go_simp; try with_reducible rfl)
        simp only [Act.put, List.setIfInBounds_toArray, List.set_cons_zero, List.set_cons_succ]
        refine held_take 4 (v := ?_) rfl (by kernel_rfl) (by kernel_rfl) (by kernel_rfl) (fun _ _ _ h => h) (by assumption) (by rfl) ?_ ?_
        rotate_left
        · (intro W hW; go_simp; try with_reducible rfl)
        simp only [Act.put, List.setIfInBounds_toArray, List.set_cons_zero, List.set_cons_succ]
        refine held_take 5 (v := ?_) rfl (by kernel_rfl) (by kernel_rfl) (by kernel_rfl) (fun _ _ _ h => h) (by assumption) (by rfl) ?_ ?_
        rotate_left
        · (intro W hW; have e0 := hW; go_simp; try with_reducible rfl)
        simp only [Act.put, List.setIfInBounds_toArray, List.set_cons_zero, List.set_cons_succ]
        refine held_call 6 (f := 32) (args := #[.slice (some ⟨g, 29, none⟩) 8 8, .slice q m c]) rfl (by kernel_rfl) (by rfl) (by go_simp) ?_
        refine (fill_no _ q 8 8 m c WD h4).mono ?_
        rintro e w5 ⟨rfl, h5⟩
        rw [h5]; clear h5
        refine ⟨_, rfl, hS, ?_⟩
        simp only [Act.put, List.setIfInBounds_toArray, List.set_cons_zero, List.set_cons_succ]
        refine held_take 7 (v := ?_) rfl (by kernel_rfl) (by kernel_rfl) (by kernel_rfl) (fun _ _ _ h => h) (by assumption) (by rfl) ?_ ?_
        rotate_left
        · (intro W hW; go_simp; try with_reducible rfl)
        simp only [Act.put, List.setIfInBounds_toArray, List.set_cons_zero, List.set_cons_succ]
        refine held_skip 8 rfl (by kernel_rfl) (by kernel_rfl) (by kernel_rfl) (fun _ _ _ h => h) (by assumption) (by rfl) ?_
        simp only [Act.put, List.setIfInBounds_toArray, List.set_cons_zero, List.set_cons_succ]
        refine held_skip 9 rfl (by kernel_rfl) (by kernel_rfl) (by kernel_rfl) (fun _ _ _ h => h) (by assumption) (by rfl) ?_
        simp only [Act.put, List.setIfInBounds_toArray, List.set_cons_zero, List.set_cons_succ]
        refine held_skip 10 rfl (by kernel_rfl) (by kernel_rfl) (by kernel_rfl) (fun _ _ _ h => h) (by assumption) (by rfl) ?_
        simp only [Act.put, List.setIfInBounds_toArray, List.set_cons_zero, List.set_cons_succ]
        refine held_skip 11 rfl (by kernel_rfl) (by kernel_rfl) (by kernel_rfl) (fun _ _ _ h => h) (by assumption) (by rfl) ?_
        simp only [Act.put, List.setIfInBounds_toArray, List.set_cons_zero, List.set_cons_succ]
        refine held_skip 12 rfl (by kernel_rfl) (by kernel_rfl) (by kernel_rfl) (fun _ _ _ h => h) (by assumption) (by rfl) ?_
        simp only [Act.put, List.setIfInBounds_toArray, List.set_cons_zero, List.set_cons_succ]
        refine held_skip 13 rfl (by kernel_rfl) (by kernel_rfl) (by kernel_rfl) (fun _ _ _ h => h) (by assumption) (by rfl) ?_
        simp only [Act.put, List.setIfInBounds_toArray, List.set_cons_zero, List.set_cons_succ]
        refine held_take 14 (v := ?_) rfl (by kernel_rfl) (by kernel_rfl) (by kernel_rfl) (fun _ _ _ h => h) (by assumption) (by rfl) ?_ ?_
        rotate_left
        · (intro W hW; go_simp; try with_reducible rfl)
        simp only [Act.put, List.setIfInBounds_toArray, List.set_cons_zero, List.set_cons_succ]
        refine held_take 15 (v := ?_) rfl (by kernel_rfl) (by kernel_rfl) (by kernel_rfl) (fun _ _ _ h => h) (by assumption) (by rfl) ?_ ?_
        rotate_left
        · (intro W hW; go_simp; try with_reducible rfl)
        simp only [Act.put, List.setIfInBounds_toArray, List.set_cons_zero, List.set_cons_succ]
        refine held_done (by kernel_rfl) ?_
        go_wp2
        go_ret
        exact ⟨rfl, GD.out, _, TD.out, fun e => by cases e⟩
    · rw [show Ad.right 32801 ⟨2, d⟩ = Ad.fits 2 d from rfl]
      have HK := Lib.hid hk
      have b1 := below_one w (.cells #[.int .i64 2, .slice q m c] 24)
      have hg := heap_alloc_new w (.cells #[.int .i64 2, .slice q m c] 24)
      have k0 : (w.alloc (.cells #[.int .i64 2, .slice q m c] 24)).cell? ⟨w.heap.size, 0, none⟩ = some (.int .i64 2) := cell_of_row _ _ _ _ _ _ hg
      have k1 : (w.alloc (.cells #[.int .i64 2, .slice q m c] 24)).cell? ⟨w.heap.size, 1, none⟩ = some (.slice q m c) := cell_of_row _ _ _ _ _ _ hg
      have T1 := hT.next b1
      have BB := Lib.hid b1
      have HH := Lib.hid ((h.next hb).next b1)
      have C0 := Lib.hid (known_any 32801 2 (w.alloc (.cells #[.int .i64 2, .slice q m c] 24)))
      have C2 := Lib.hid (tellVj_any g t q m c d _ hm HH.out T1)
      clear hT h b1 hg T1 HH hk hm
      go_enter Try.func25, Try.ntmps25
      go_wp2_with fail
      refine C0.out.mono ?_
      rintro e w1 ⟨rfl, h1⟩
      rw [HK.out]
      rw [h1]; clear h1 C0 HK
      go_wp2_with fail
      refine C2.out.mono ?_
      rintro e w2 ⟨rfl, g2, t2, T2, e2⟩
      have R2 := Lib.hid (grown_trans (grown_below BB.out (some g)) g2)
      clear g2 C2 BB k0 k1
      go_wp2
      go_ret
      exact ⟨rfl, R2.out, t2, T2, e2⟩
    · skip
      by_cases h4 : m = 4
      · subst h4
        obtain ⟨y, rfl⟩ := Ad.four_of hm
        rw [show Ad.right 32801 ⟨3, y.list⟩ = true from rfl]
        have HK := Lib.hid hk
        have b1 := below_one w (.cells #[.int .i64 3, .slice q 4 c] 24)
        have hg := heap_alloc_new w (.cells #[.int .i64 3, .slice q 4 c] 24)
        have k0 : (w.alloc (.cells #[.int .i64 3, .slice q 4 c] 24)).cell? ⟨w.heap.size, 0, none⟩ = some (.int .i64 3) := cell_of_row _ _ _ _ _ _ hg
        have k1 : (w.alloc (.cells #[.int .i64 3, .slice q 4 c] 24)).cell? ⟨w.heap.size, 1, none⟩ = some (.slice q 4 c) := cell_of_row _ _ _ _ _ _ hg
        have T1 := hT.next b1
        have BB := Lib.hid b1
        have HH := Lib.hid ((h.next hb).next b1)
        have C0 := Lib.hid (known_any 32801 3 (w.alloc (.cells #[.int .i64 3, .slice q 4 c] 24)))
        have c0 : (w.alloc (.cells #[.int .i64 3, .slice q 4 c] 24)).cell? ⟨g, 0, none⟩ = some (.bool t.hasIp) := T1.cell 0
        have f0 := T1.frozen 0
        have T2 := Lib.hid (T1.set 0 (.bool true) { t with hasIp := true } rfl)
        have G2 := Lib.hid (grown_trans (grown_below b1 (some g)) (grown_cell _ g 0 (.bool true)))
        have k3 : ((w.alloc (.cells #[.int .i64 3, .slice q 4 c] 24)).setCell ⟨g, 0, none⟩ (.bool true)).cell? ⟨w.heap.size, 1, none⟩ = some (.slice q 4 c) := by
          simp only [World.cell?]
          rw [heap_setCell_other _ _ _ _ (by show w.heap.size ≠ g; omega)]
          exact k1
        have k4 : ((w.alloc (.cells #[.int .i64 3, .slice q 4 c] 24)).setCell ⟨g, 0, none⟩ (.bool true)).cell? ⟨w.heap.size, 0, none⟩ = some (.int .i64 3) := by
          simp only [World.cell?]
          rw [heap_setCell_other _ _ _ _ (by show w.heap.size ≠ g; omega)]
          exact k0
        have hsz : w.heap.size ≠ g := by omega
        clear hT b1 hg T1 HH hk BB
        go_enter Try.func25, Try.ntmps25
        go_wp2_with fail
        refine C0.out.mono ?_
        rintro e w1 ⟨rfl, h1⟩
        rw [HK.out]
        rw [← h1] at c0 f0 T2 G2 k3 k4 k0 k1
        clear h1 C0 HK
        go_wp2
        have hS : (w1.setCell ⟨g, 0, none⟩ (.bool true)).drew.cell? ⟨w.heap.size, 1, none⟩ = some (.slice q 4 c) := k3
        have TD : Hid (TmAt (w1.setCell ⟨g, 0, none⟩ (.bool true)).drew g { t with hasIp := true }) := T2.out
        have GD : Hid (w.grownBy (w1.setCell ⟨g, 0, none⟩ (.bool true)).drew (some g)) := grown_next G2.out (Below.refl _ _).drew
        have RD := Lib.hid (h.next (Below.grown hb GD.out hb.size (fun k e => by cases e; exact hg0)))
        refine held_start (S := fun W => W.cell? ⟨w.heap.size, 1, none⟩ = some (.slice q 4 c)) 8 (by kernel_rfl) rfl ?_
        generalize (w1.setCell ⟨g, 0, none⟩ (.bool true)).drew = WD at *
        clear c0 f0 k3 k4 T2 G2 k0 k1 h hb hg0
        refine held_take 0 (v := ?_) rfl (by kernel_rfl) (by kernel_rfl) (by kernel_rfl) (fun _ _ _ h => h) (by assumption) (by rfl) ?_ ?_
        rotate_left
        · (intro W hW; go_simp; try with_reducible rfl)
        simp only [Act.put, List.setIfInBounds_toArray, List.set_cons_zero, List.set_cons_succ]
        refine held_take 1 (v := ?_) rfl (by kernel_rfl) (by kernel_rfl) (by kernel_rfl) (fun _ _ _ h => h) (by assumption) (by rfl) ?_ ?_
        rotate_left
        · (intro W hW; go_simp; try with_reducible rfl)
        simp only [Act.put, List.setIfInBounds_toArray, List.set_cons_zero, List.set_cons_succ]
        refine held_take 2 (v := ?_) rfl (by kernel_rfl) (by kernel_rfl) (by kernel_rfl) (fun _ _ _ h => h) (by assumption) (by rfl) ?_ ?_
        rotate_left
        · (intro W hW; go_simp; try with_reducible rfl)
        simp only [Act.put, List.setIfInBounds_toArray, List.set_cons_zero, List.set_cons_succ]
        refine held_take 3 (v := ?_) rfl (by kernel_rfl) (by kernel_rfl) (by kernel_rfl) (fun _ _ _ h => h) (by assumption) (by rfl) ?_ ?_
        rotate_left
        · (intro W hW; go_simp; try with_reducible rfl)
        simp only [Act.put, List.setIfInBounds_toArray, List.set_cons_zero, List.set_cons_succ]
        refine held_take 4 (v := ?_) rfl (by kernel_rfl) (by kernel_rfl) (by kernel_rfl) (fun _ _ _ h => h) (by assumption) (by rfl) ?_ ?_
        rotate_left
        · (intro W hW; go_simp; try with_reducible rfl)
        simp only [Act.put, List.setIfInBounds_toArray, List.set_cons_zero, List.set_cons_succ]
        refine held_take 5 (v := ?_) rfl (by kernel_rfl) (by kernel_rfl) (by kernel_rfl) (fun _ _ _ h => h) (by assumption) (by rfl) ?_ ?_
        rotate_left
        · (intro W hW; have e0 := hW; go_simp; try with_reducible rfl)
        simp only [Act.put, List.setIfInBounds_toArray, List.set_cons_zero, List.set_cons_succ]
        refine held_call 6 (f := 32) (args := #[.slice (some ⟨g, 1, none⟩) 4 4, .slice q 4 c]) rfl (by kernel_rfl) (by rfl) (by go_simp) ?_
        refine (fill_yes g 1 4 4 c q y.list (acells { t with hasIp := true }) 35 WD rfl (by omega) TD.out (by show _ ≤ 37; omega) RD.out).mono ?_
        rintro e w5 ⟨rfl, h5⟩
        have T5 : TmAt w5 g { t with hasIp := true, ip := y } := by rw [h5]; exact TmAt.put TD.out _ rfl
        have G5 := Lib.hid (grown_trans GD.out (by rw [h5]; exact grown_setRow WD g _ : WD.grownBy w5 (some g)))
        have hS5 : w5.cell? ⟨w.heap.size, 1, none⟩ = some (.slice q 4 c) := by rw [h5, cell_setRow_other _ _ _ _ hsz]; exact hS
        clear h5
        refine ⟨_, rfl, hS5, ?_⟩
        simp only [Act.put, List.setIfInBounds_toArray, List.set_cons_zero, List.set_cons_succ]
        refine held_take 7 (v := ?_) rfl (by kernel_rfl) (by kernel_rfl) (by kernel_rfl) (fun _ _ _ h => h) (by assumption) (by rfl) ?_ ?_
        rotate_left
        · (intro W hW; go_simp; try with_reducible rfl)
        simp only [Act.put, List.setIfInBounds_toArray, List.set_cons_zero, List.set_cons_succ]
        refine held_done (by kernel_rfl) ?_
        go_wp2
        go_ret
        exact ⟨rfl, G5.out, _, T5, fun _ => rfl⟩
      · rw [show Ad.right 32801 ⟨3, d⟩ = false by show decide (d.length = 4) = false; exact decide_eq_false (by omega)]
        have HK := Lib.hid hk
        have b1 := below_one w (.cells #[.int .i64 3, .slice q m c] 24)
        have hg := heap_alloc_new w (.cells #[.int .i64 3, .slice q m c] 24)
        have k0 : (w.alloc (.cells #[.int .i64 3, .slice q m c] 24)).cell? ⟨w.heap.size, 0, none⟩ = some (.int .i64 3) := cell_of_row _ _ _ _ _ _ hg
        have k1 : (w.alloc (.cells #[.int .i64 3, .slice q m c] 24)).cell? ⟨w.heap.size, 1, none⟩ = some (.slice q m c) := cell_of_row _ _ _ _ _ _ hg
        have T1 := hT.next b1
        have BB := Lib.hid b1
        have HH := Lib.hid ((h.next hb).next b1)
        have C0 := Lib.hid (known_any 32801 3 (w.alloc (.cells #[.int .i64 3, .slice q m c] 24)))
        have c0 : (w.alloc (.cells #[.int .i64 3, .slice q m c] 24)).cell? ⟨g, 0, none⟩ = some (.bool t.hasIp) := T1.cell 0
        have f0 := T1.frozen 0
        have T2 := Lib.hid (T1.set 0 (.bool true) { t with hasIp := true } rfl)
        have G2 := Lib.hid (grown_trans (grown_below b1 (some g)) (grown_cell _ g 0 (.bool true)))
        have k3 : ((w.alloc (.cells #[.int .i64 3, .slice q m c] 24)).setCell ⟨g, 0, none⟩ (.bool true)).cell? ⟨w.heap.size, 1, none⟩ = some (.slice q m c) := by
          simp only [World.cell?]
          rw [heap_setCell_other _ _ _ _ (by show w.heap.size ≠ g; omega)]
          exact k1
        have k4 : ((w.alloc (.cells #[.int .i64 3, .slice q m c] 24)).setCell ⟨g, 0, none⟩ (.bool true)).cell? ⟨w.heap.size, 0, none⟩ = some (.int .i64 3) := by
          simp only [World.cell?]
          rw [heap_setCell_other _ _ _ _ (by show w.heap.size ≠ g; omega)]
          exact k0
        have hsz : w.heap.size ≠ g := by omega
        clear hT b1 hg T1 HH hk BB
        go_enter Try.func25, Try.ntmps25
        go_wp2_with fail
        refine C0.out.mono ?_
        rintro e w1 ⟨rfl, h1⟩
        rw [HK.out]
        rw [← h1] at c0 f0 T2 G2 k3 k4 k0 k1
        clear h1 C0 HK
        go_wp2
        have hS : (w1.setCell ⟨g, 0, none⟩ (.bool true)).drew.cell? ⟨w.heap.size, 1, none⟩ = some (.slice q m c) := k3
        have TD : Hid (TmAt (w1.setCell ⟨g, 0, none⟩ (.bool true)).drew g { t with hasIp := true }) := T2.out
        have GD : Hid (w.grownBy (w1.setCell ⟨g, 0, none⟩ (.bool true)).drew (some g)) := grown_next G2.out (Below.refl _ _).drew
        have RD := Lib.hid (h.next (Below.grown hb GD.out hb.size (fun k e => by cases e; exact hg0)))
        refine held_start (S := fun W => W.cell? ⟨w.heap.size, 1, none⟩ = some (.slice q m c)) 8 (by kernel_rfl) rfl ?_
        generalize (w1.setCell ⟨g, 0, none⟩ (.bool true)).drew = WD at *
        clear c0 f0 k3 k4 T2 G2 k0 k1 h hb hg0
        refine held_take 0 (v := ?_) rfl (by kernel_rfl) (by kernel_rfl) (by kernel_rfl) (fun _ _ _ h => h) (by assumption) (by rfl) ?_ ?_
        rotate_left
        · (intro W hW; go_simp; try with_reducible rfl)
        simp only [Act.put, List.setIfInBounds_toArray, List.set_cons_zero, List.set_cons_succ]
        refine held_take 1 (v := ?_) rfl (by kernel_rfl) (by kernel_rfl) (by kernel_rfl) (fun _ _ _ h => h) (by assumption) (by rfl) ?_ ?_
        rotate_left
        · (intro W hW; go_simp; try with_reducible rfl)
        simp only [Act.put, List.setIfInBounds_toArray, List.set_cons_zero, List.set_cons_succ]
        refine held_take 2 (v := ?_) rfl (by kernel_rfl) (by kernel_rfl) (by kernel_rfl) (fun _ _ _ h => h) (by assumption) (by rfl) ?_ ?_
        rotate_left
        · (intro W hW; go_simp; try with_reducible rfl)
        simp only [Act.put, List.setIfInBounds_toArray, List.set_cons_zero, List.set_cons_succ]
        refine held_take 3 (v := ?_) rfl (by kernel_rfl) (by kernel_rfl) (by kernel_rfl) (fun _ _ _ h => h) (by assumption) (by rfl) ?_ ?_
        rotate_left
        · (intro W hW; go_simp; try with_reducible rfl)
        simp only [Act.put, List.setIfInBounds_toArray, List.set_cons_zero, List.set_cons_succ]
        refine held_take 4 (v := ?_) rfl (by kernel_rfl) (by kernel_rfl) (by kernel_rfl) (fun _ _ _ h => h) (by assumption) (by rfl) ?_ ?_
        rotate_left
        · (intro W hW; go_simp; try with_reducible rfl)
        simp only [Act.put, List.setIfInBounds_toArray, List.set_cons_zero, List.set_cons_succ]
        refine held_take 5 (v := ?_) rfl (by kernel_rfl) (by kernel_rfl) (by kernel_rfl) (fun _ _ _ h => h) (by assumption) (by rfl) ?_ ?_
        rotate_left
        · (intro W hW; have e0 := hW; go_simp; try with_reducible rfl)
        simp only [Act.put, List.setIfInBounds_toArray, List.set_cons_zero, List.set_cons_succ]
        refine held_call 6 (f := 32) (args := #[.slice (some ⟨g, 1, none⟩) 4 4, .slice q m c]) rfl (by kernel_rfl) (by rfl) (by go_simp) ?_
        refine (fill_no _ q 4 4 m c WD h4).mono ?_
        rintro e w5 ⟨rfl, h5⟩
        rw [h5]; clear h5
        refine ⟨_, rfl, hS, ?_⟩
        simp only [Act.put, List.setIfInBounds_toArray, List.set_cons_zero, List.set_cons_succ]
        refine held_take 7 (v := ?_) rfl (by kernel_rfl) (by kernel_rfl) (by kernel_rfl) (fun _ _ _ h => h) (by assumption) (by rfl) ?_ ?_
        rotate_left
        · (intro W hW; go_simp; try with_reducible rfl)
        simp only [Act.put, List.setIfInBounds_toArray, List.set_cons_zero, List.set_cons_succ]
        refine held_done (by kernel_rfl) ?_
        go_wp2
        go_ret
        exact ⟨rfl, GD.out, _, TD.out, fun e => by cases e⟩
    · skip
      by_cases h4 : m = 4
      · subst h4
        obtain ⟨y, rfl⟩ := Ad.four_of hm
        rw [show Ad.right 32801 ⟨129, y.list⟩ = true from rfl]
        have HK := Lib.hid hk
        have b1 := below_one w (.cells #[.int .i64 129, .slice q 4 c] 24)
        have hg := heap_alloc_new w (.cells #[.int .i64 129, .slice q 4 c] 24)
        have k0 : (w.alloc (.cells #[.int .i64 129, .slice q 4 c] 24)).cell? ⟨w.heap.size, 0, none⟩ = some (.int .i64 129) := cell_of_row _ _ _ _ _ _ hg
        have k1 : (w.alloc (.cells #[.int .i64 129, .slice q 4 c] 24)).cell? ⟨w.heap.size, 1, none⟩ = some (.slice q 4 c) := cell_of_row _ _ _ _ _ _ hg
        have T1 := hT.next b1
        have BB := Lib.hid b1
        have HH := Lib.hid ((h.next hb).next b1)
        have C0 := Lib.hid (known_any 32801 129 (w.alloc (.cells #[.int .i64 129, .slice q 4 c] 24)))
        have c0 : (w.alloc (.cells #[.int .i64 129, .slice q 4 c] 24)).cell? ⟨g, 8, none⟩ = some (.bool t.d0) := T1.cell 8
        have f0 := T1.frozen 8
        have T2 := Lib.hid (T1.set 8 (.bool true) { t with d0 := true } rfl)
        have G2 := Lib.hid (grown_trans (grown_below b1 (some g)) (grown_cell _ g 8 (.bool true)))
        have k3 : ((w.alloc (.cells #[.int .i64 129, .slice q 4 c] 24)).setCell ⟨g, 8, none⟩ (.bool true)).cell? ⟨w.heap.size, 1, none⟩ = some (.slice q 4 c) := by
          simp only [World.cell?]
          rw [heap_setCell_other _ _ _ _ (by show w.heap.size ≠ g; omega)]
          exact k1
        have k4 : ((w.alloc (.cells #[.int .i64 129, .slice q 4 c] 24)).setCell ⟨g, 8, none⟩ (.bool true)).cell? ⟨w.heap.size, 0, none⟩ = some (.int .i64 129) := by
          simp only [World.cell?]
          rw [heap_setCell_other _ _ _ _ (by show w.heap.size ≠ g; omega)]
          exact k0
        have hsz : w.heap.size ≠ g := by omega
        clear hT b1 hg T1 HH hk BB
        go_enter Try.func25, Try.ntmps25
        go_wp2_with fail
        refine C0.out.mono ?_
        rintro e w1 ⟨rfl, h1⟩
        rw [HK.out]
        rw [← h1] at c0 f0 T2 G2 k3 k4 k0 k1
        clear h1 C0 HK
        go_wp2
        have hS : (w1.setCell ⟨g, 8, none⟩ (.bool true)).drew.cell? ⟨w.heap.size, 1, none⟩ = some (.slice q 4 c) := k3
        have TD : Hid (TmAt (w1.setCell ⟨g, 8, none⟩ (.bool true)).drew g { t with d0 := true }) := T2.out
        have GD : Hid (w.grownBy (w1.setCell ⟨g, 8, none⟩ (.bool true)).drew (some g)) := grown_next G2.out (Below.refl _ _).drew
        have RD := Lib.hid (h.next (Below.grown hb GD.out hb.size (fun k e => by cases e; exact hg0)))
        refine held_start (S := fun W => W.cell? ⟨w.heap.size, 1, none⟩ = some (.slice q 4 c)) 10 (by kernel_rfl) rfl ?_
        generalize (w1.setCell ⟨g, 8, none⟩ (.bool true)).drew = WD at *
        clear c0 f0 k3 k4 T2 G2 k0 k1 h hb hg0
        refine held_take 0 (v := ?_) rfl (by kernel_rfl) (by kernel_rfl) (by kernel_rfl) (fun _ _ _ h => h) (by assumption) (by rfl) ?_ ?_
        rotate_left
        · (intro W hW; go_simp; try with_reducible rfl)
        simp only [Act.put, List.setIfInBounds_toArray, List.set_cons_zero, List.set_cons_succ]
        refine held_take 1 (v := ?_) rfl (by kernel_rfl) (by kernel_rfl) (by kernel_rfl) (fun _ _ _ h => h) (by assumption) (by rfl) ?_ ?_
        rotate_left
        · (intro W hW; go_simp; try with_reducible rfl)
        simp only [Act.put, List.setIfInBounds_toArray, List.set_cons_zero, List.set_cons_succ]
        refine held_take 2 (v := ?_) rfl (by kernel_rfl) (by kernel_rfl) (by kernel_rfl) (fun _ _ _ h => h) (by assumption) (by rfl) ?_ ?_
        rotate_left
        · (intro W hW; go_simp; try with_reducible rfl)
        simp only [Act.put, List.setIfInBounds_toArray, List.set_cons_zero, List.set_cons_succ]
        refine held_take 3 (v := ?_) rfl (by kernel_rfl) (by kernel_rfl) (by kernel_rfl) (fun _ _ _ h => h) (by assumption) (by rfl) ?_ ?_
        rotate_left
        · (intro W hW; go_simp; try with_reducible rfl)
        simp only [Act.put, List.setIfInBounds_toArray, List.set_cons_zero, List.set_cons_succ]
        refine held_take 4 (v := ?_) rfl (by kernel_rfl) (by kernel_rfl) (by kernel_rfl) (fun _ _ _ h => h) (by assumption) (by rfl) ?_ ?_
        rotate_left
        · (intro W hW; go_simp; try with_reducible rfl)
        simp only [Act.put, List.setIfInBounds_toArray, List.set_cons_zero, List.set_cons_succ]
        refine held_take 5 (v := ?_) rfl (by kernel_rfl) (by kernel_rfl) (by kernel_rfl) (fun _ _ _ h => h) (by assumption) (by rfl) ?_ ?_
        rotate_left
        · (intro W hW; go_simp; try with_reducible rfl)
        simp only [Act.put, List.setIfInBounds_toArray, List.set_cons_zero, List.set_cons_succ]
        refine held_take 6 (v := ?_) rfl (by kernel_rfl) (by kernel_rfl) (by kernel_rfl) (fun _ _ _ h => h) (by assumption) (by rfl) ?_ ?_
        rotate_left
        · (intro W hW; go_simp; try with_reducible rfl)
        simp only [Act.put, List.setIfInBounds_toArray, List.set_cons_zero, List.set_cons_succ]
        refine held_take 7 (v := ?_) rfl (by kernel_rfl) (by kernel_rfl) (by kernel_rfl) (fun _ _ _ h => h) (by assumption) (by rfl) ?_ ?_
        rotate_left
        · (intro W hW; have e0 := hW; go_simp; try with_reducible rfl)
        simp only [Act.put, List.setIfInBounds_toArray, List.set_cons_zero, List.set_cons_succ]
        refine held_call 8 (f := 32) (args := #[.slice (some ⟨g, 12, none⟩) 4 4, .slice q 4 c]) rfl (by kernel_rfl) (by rfl) (by go_simp) ?_
        refine (fill_yes g 12 4 4 c q y.list (acells { t with d0 := true }) 35 WD rfl (by omega) TD.out (by show _ ≤ 37; omega) RD.out).mono ?_
        rintro e w5 ⟨rfl, h5⟩
        have T5 : TmAt w5 g { t with d0 := true, n0 := y } := by rw [h5]; exact TmAt.put TD.out _ rfl
        have G5 := Lib.hid (grown_trans GD.out (by rw [h5]; exact grown_setRow WD g _ : WD.grownBy w5 (some g)))
        have hS5 : w5.cell? ⟨w.heap.size, 1, none⟩ = some (.slice q 4 c) := by rw [h5, cell_setRow_other _ _ _ _ hsz]; exact hS
        clear h5
        refine ⟨_, rfl, hS5, ?_⟩
        simp only [Act.put, List.setIfInBounds_toArray, List.set_cons_zero, List.set_cons_succ]
        refine held_take 9 (v := ?_) rfl (by kernel_rfl) (by kernel_rfl) (by kernel_rfl) (fun _ _ _ h => h) (by assumption) (by rfl) ?_ ?_
        rotate_left
        · (intro W hW; go_simp; try with_reducible rfl)
        simp only [Act.put, List.setIfInBounds_toArray, List.set_cons_zero, List.set_cons_succ]
        refine held_done (by kernel_rfl) ?_
        go_wp2
        go_ret
        exact ⟨rfl, G5.out, _, T5, fun _ => rfl⟩
      · rw [show Ad.right 32801 ⟨129, d⟩ = false by show decide (d.length = 4) = false; exact decide_eq_false (by omega)]
        have HK := Lib.hid hk
        have b1 := below_one w (.cells #[.int .i64 129, .slice q m c] 24)
        have hg := heap_alloc_new w (.cells #[.int .i64 129, .slice q m c] 24)
        have k0 : (w.alloc (.cells #[.int .i64 129, .slice q m c] 24)).cell? ⟨w.heap.size, 0, none⟩ = some (.int .i64 129) := cell_of_row _ _ _ _ _ _ hg
        have k1 : (w.alloc (.cells #[.int .i64 129, .slice q m c] 24)).cell? ⟨w.heap.size, 1, none⟩ = some (.slice q m c) := cell_of_row _ _ _ _ _ _ hg
        have T1 := hT.next b1
        have BB := Lib.hid b1
        have HH := Lib.hid ((h.next hb).next b1)
        have C0 := Lib.hid (known_any 32801 129 (w.alloc (.cells #[.int .i64 129, .slice q m c] 24)))
        have c0 : (w.alloc (.cells #[.int .i64 129, .slice q m c] 24)).cell? ⟨g, 8, none⟩ = some (.bool t.d0) := T1.cell 8
        have f0 := T1.frozen 8
        have T2 := Lib.hid (T1.set 8 (.bool true) { t with d0 := true } rfl)
        have G2 := Lib.hid (grown_trans (grown_below b1 (some g)) (grown_cell _ g 8 (.bool true)))
        have k3 : ((w.alloc (.cells #[.int .i64 129, .slice q m c] 24)).setCell ⟨g, 8, none⟩ (.bool true)).cell? ⟨w.heap.size, 1, none⟩ = some (.slice q m c) := by
          simp only [World.cell?]
          rw [heap_setCell_other _ _ _ _ (by show w.heap.size ≠ g; omega)]
          exact k1
        have k4 : ((w.alloc (.cells #[.int .i64 129, .slice q m c] 24)).setCell ⟨g, 8, none⟩ (.bool true)).cell? ⟨w.heap.size, 0, none⟩ = some (.int .i64 129) := by
          simp only [World.cell?]
          rw [heap_setCell_other _ _ _ _ (by show w.heap.size ≠ g; omega)]
          exact k0
        have hsz : w.heap.size ≠ g := by omega
        clear hT b1 hg T1 HH hk BB
        go_enter Try.func25, Try.ntmps25
        go_wp2_with fail
        refine C0.out.mono ?_
        rintro e w1 ⟨rfl, h1⟩
        rw [HK.out]
        rw [← h1] at c0 f0 T2 G2 k3 k4 k0 k1
        clear h1 C0 HK
        go_wp2
        have hS : (w1.setCell ⟨g, 8, none⟩ (.bool true)).drew.cell? ⟨w.heap.size, 1, none⟩ = some (.slice q m c) := k3
        have TD : Hid (TmAt (w1.setCell ⟨g, 8, none⟩ (.bool true)).drew g { t with d0 := true }) := T2.out
        have GD : Hid (w.grownBy (w1.setCell ⟨g, 8, none⟩ (.bool true)).drew (some g)) := grown_next G2.out (Below.refl _ _).drew
        have RD := Lib.hid (h.next (Below.grown hb GD.out hb.size (fun k e => by cases e; exact hg0)))
        refine held_start (S := fun W => W.cell? ⟨w.heap.size, 1, none⟩ = some (.slice q m c)) 10 (by kernel_rfl) rfl ?_
        generalize (w1.setCell ⟨g, 8, none⟩ (.bool true)).drew = WD at *
        clear c0 f0 k3 k4 T2 G2 k0 k1 h hb hg0
        refine held_take 0 (v := ?_) rfl (by kernel_rfl) (by kernel_rfl) (by kernel_rfl) (fun _ _ _ h => h) (by assumption) (by rfl) ?_ ?_
        rotate_left
        · (intro W hW; go_simp; try with_reducible rfl)
        simp only [Act.put, List.setIfInBounds_toArray, List.set_cons_zero, List.set_cons_succ]
        refine held_take 1 (v := ?_) rfl (by kernel_rfl) (by kernel_rfl) (by kernel_rfl) (fun _ _ _ h => h) (by assumption) (by rfl) ?_ ?_
        rotate_left
        · (intro W hW; go_simp; try with_reducible rfl)
        simp only [Act.put, List.setIfInBounds_toArray, List.set_cons_zero, List.set_cons_succ]
        refine held_take 2 (v := ?_) rfl (by kernel_rfl) (by kernel_rfl) (by kernel_rfl) (fun _ _ _ h => h) (by assumption) (by rfl) ?_ ?_
        rotate_left
        · (intro W hW; go_simp; try with_reducible rfl)
        simp only [Act.put, List.setIfInBounds_toArray, List.set_cons_zero, List.set_cons_succ]
        refine held_take 3 (v := ?_) rfl (by kernel_rfl) (by kernel_rfl) (by kernel_rfl) (fun _ _ _ h => h) (by assumption) (by rfl) ?_ ?_
        rotate_left
        · (intro W hW; go_simp; try with_reducible rfl)
        simp only [Act.put, List.setIfInBounds_toArray, List.set_cons_zero, List.set_cons_succ]
        refine held_take 4 (v := ?_) rfl (by kernel_rfl) (by kernel_rfl) (by kernel_rfl) (fun _ _ _ h => h) (by assumption) (by rfl) ?_ ?_
        rotate_left
        · (intro W hW; go_simp; try with_reducible rfl)
        simp only [Act.put, List.setIfInBounds_toArray, List.set_cons_zero, List.set_cons_succ]
        refine held_take 5 (v := ?_) rfl (by kernel_rfl) (by kernel_rfl) (by kernel_rfl) (fun _ _ _ h => h) (by assumption) (by rfl) ?_ ?_
        rotate_left
        · (intro W hW; go_simp; try with_reducible rfl)
        simp only [Act.put, List.setIfInBounds_toArray, List.set_cons_zero, List.set_cons_succ]
        refine held_take 6 (v := ?_) rfl (by kernel_rfl) (by kernel_rfl) (by kernel_rfl) (fun _ _ _ h => h) (by assumption) (by rfl) ?_ ?_
        rotate_left
        · (intro W hW; go_simp; try with_reducible rfl)
        simp only [Act.put, List.setIfInBounds_toArray, List.set_cons_zero, List.set_cons_succ]
        refine held_take 7 (v := ?_) rfl (by kernel_rfl) (by kernel_rfl) (by kernel_rfl) (fun _ _ _ h => h) (by assumption) (by rfl) ?_ ?_
        rotate_left
        · (intro W hW; have e0 := hW; go_simp; try with_reducible rfl)
        simp only [Act.put, List.setIfInBounds_toArray, List.set_cons_zero, List.set_cons_succ]
        refine held_call 8 (f := 32) (args := #[.slice (some ⟨g, 12, none⟩) 4 4, .slice q m c]) rfl (by kernel_rfl) (by rfl) (by go_simp) ?_
        refine (fill_no _ q 4 4 m c WD h4).mono ?_
        rintro e w5 ⟨rfl, h5⟩
        rw [h5]; clear h5
        refine ⟨_, rfl, hS, ?_⟩
        simp only [Act.put, List.setIfInBounds_toArray, List.set_cons_zero, List.set_cons_succ]
        refine held_take 9 (v := ?_) rfl (by kernel_rfl) (by kernel_rfl) (by kernel_rfl) (fun _ _ _ h => h) (by assumption) (by rfl) ?_ ?_
        rotate_left
        · (intro W hW; go_simp; try with_reducible rfl)
        simp only [Act.put, List.setIfInBounds_toArray, List.set_cons_zero, List.set_cons_succ]
        refine held_done (by kernel_rfl) ?_
        go_wp2
        go_ret
        exact ⟨rfl, GD.out, _, TD.out, fun e => by cases e⟩
    · skip
      by_cases h4 : m = 4
      · subst h4
        obtain ⟨y, rfl⟩ := Ad.four_of hm
        rw [show Ad.right 32801 ⟨130, y.list⟩ = true from rfl]
        have HK := Lib.hid hk
        have b1 := below_one w (.cells #[.int .i64 130, .slice q 4 c] 24)
        have hg := heap_alloc_new w (.cells #[.int .i64 130, .slice q 4 c] 24)
        have k0 : (w.alloc (.cells #[.int .i64 130, .slice q 4 c] 24)).cell? ⟨w.heap.size, 0, none⟩ = some (.int .i64 130) := cell_of_row _ _ _ _ _ _ hg
        have k1 : (w.alloc (.cells #[.int .i64 130, .slice q 4 c] 24)).cell? ⟨w.heap.size, 1, none⟩ = some (.slice q 4 c) := cell_of_row _ _ _ _ _ _ hg
        have T1 := hT.next b1
        have BB := Lib.hid b1
        have HH := Lib.hid ((h.next hb).next b1)
        have C0 := Lib.hid (known_any 32801 130 (w.alloc (.cells #[.int .i64 130, .slice q 4 c] 24)))
        have c0 : (w.alloc (.cells #[.int .i64 130, .slice q 4 c] 24)).cell? ⟨g, 9, none⟩ = some (.bool t.d1) := T1.cell 9
        have f0 := T1.frozen 9
        have T2 := Lib.hid (T1.set 9 (.bool true) { t with d1 := true } rfl)
        have G2 := Lib.hid (grown_trans (grown_below b1 (some g)) (grown_cell _ g 9 (.bool true)))
        have k3 : ((w.alloc (.cells #[.int .i64 130, .slice q 4 c] 24)).setCell ⟨g, 9, none⟩ (.bool true)).cell? ⟨w.heap.size, 1, none⟩ = some (.slice q 4 c) := by
          simp only [World.cell?]
          rw [heap_setCell_other _ _ _ _ (by show w.heap.size ≠ g; omega)]
          exact k1
        have k4 : ((w.alloc (.cells #[.int .i64 130, .slice q 4 c] 24)).setCell ⟨g, 9, none⟩ (.bool true)).cell? ⟨w.heap.size, 0, none⟩ = some (.int .i64 130) := by
          simp only [World.cell?]
          rw [heap_setCell_other _ _ _ _ (by show w.heap.size ≠ g; omega)]
          exact k0
        have hsz : w.heap.size ≠ g := by omega
        clear hT b1 hg T1 HH hk BB
        go_enter Try.func25, Try.ntmps25
        go_wp2_with fail
        refine C0.out.mono ?_
        rintro e w1 ⟨rfl, h1⟩
        rw [HK.out]
        rw [← h1] at c0 f0 T2 G2 k3 k4 k0 k1
        clear h1 C0 HK
        go_wp2
        have hS : (w1.setCell ⟨g, 9, none⟩ (.bool true)).drew.cell? ⟨w.heap.size, 1, none⟩ = some (.slice q 4 c) := k3
        have TD : Hid (TmAt (w1.setCell ⟨g, 9, none⟩ (.bool true)).drew g { t with d1 := true }) := T2.out
        have GD : Hid (w.grownBy (w1.setCell ⟨g, 9, none⟩ (.bool true)).drew (some g)) := grown_next G2.out (Below.refl _ _).drew
        have RD := Lib.hid (h.next (Below.grown hb GD.out hb.size (fun k e => by cases e; exact hg0)))
        refine held_start (S := fun W => W.cell? ⟨w.heap.size, 1, none⟩ = some (.slice q 4 c)) 10 (by kernel_rfl) rfl ?_
        generalize (w1.setCell ⟨g, 9, none⟩ (.bool true)).drew = WD at *
        clear c0 f0 k3 k4 T2 G2 k0 k1 h hb hg0
        refine held_take 0 (v := ?_) rfl (by kernel_rfl) (by kernel_rfl) (by kernel_rfl) (fun _ _ _ h => h) (by assumption) (by rfl) ?_ ?_
        rotate_left
        · (intro W hW; go_simp; try with_reducible rfl)
        simp only [Act.put, List.setIfInBounds_toArray, List.set_cons_zero, List.set_cons_succ]
        refine held_take 1 (v := ?_) rfl (by kernel_rfl) (by kernel_rfl) (by kernel_rfl) (fun _ _ _ h => h) (by assumption) (by rfl) ?_ ?_
        rotate_left
        · (intro W hW; go_simp; try with_reducible rfl)
        simp only [Act.put, List.setIfInBounds_toArray, List.set_cons_zero, List.set_cons_succ]
        refine held_take 2 (v := ?_) rfl (by kernel_rfl) (by kernel_rfl) (by kernel_rfl) (fun _ _ _ h => h) (by assumption) (by rfl) ?_ ?_
        rotate_left
        · (intro W hW; go_simp; try with_reducible rfl)
        simp only [Act.put, List.setIfInBounds_toArray, List.set_cons_zero, List.set_cons_succ]
        refine held_take 3 (v := ?_) rfl (by kernel_rfl) (by kernel_rfl) (by kernel_rfl) (fun _ _ _ h => h) (by assumption) (by rfl) ?_ ?_
        rotate_left
        · (intro W hW; go_simp; try with_reducible rfl)
        simp only [Act.put, List.setIfInBounds_toArray, List.set_cons_zero, List.set_cons_succ]
        refine held_take 4 (v := ?_) rfl (by kernel_rfl) (by kernel_rfl) (by kernel_rfl) (fun _ _ _ h => h) (by assumption) (by rfl) ?_ ?_
        rotate_left
        · (intro W hW; go_simp; try with_reducible rfl)
        simp only [Act.put, List.setIfInBounds_toArray, List.set_cons_zero, List.set_cons_succ]
        refine held_take 5 (v := ?_) rfl (by kernel_rfl) (by kernel_rfl) (by kernel_rfl) (fun _ _ _ h => h) (by assumption) (by rfl) ?_ ?_
        rotate_left
        · (intro W hW; go_simp; try with_reducible rfl)
        simp only [Act.put, List.setIfInBounds_toArray, List.set_cons_zero, List.set_cons_succ]
        refine held_take 6 (v := ?_) rfl (by kernel_rfl) (by kernel_rfl) (by kernel_rfl) (fun _ _ _ h => h) (by assumption) (by rfl) ?_ ?_
        rotate_left
        · (intro W hW; go_simp; try with_reducible rfl)
        simp only [Act.put, List.setIfInBounds_toArray, List.set_cons_zero, List.set_cons_succ]
        refine held_take 7 (v := ?_) rfl (by kernel_rfl) (by kernel_rfl) (by kernel_rfl) (fun _ _ _ h => h) (by assumption) (by rfl) ?_ ?_
        rotate_left
        · (intro W hW; have e0 := hW; go_simp; try with_reducible rfl)
        simp only [Act.put, List.setIfInBounds_toArray, List.set_cons_zero, List.set_cons_succ]
        refine held_call 8 (f := 32) (args := #[.slice (some ⟨g, 16, none⟩) 4 4, .slice q 4 c]) rfl (by kernel_rfl) (by rfl) (by go_simp) ?_
        refine (fill_yes g 16 4 4 c q y.list (acells { t with d1 := true }) 35 WD rfl (by omega) TD.out (by show _ ≤ 37; omega) RD.out).mono ?_
        rintro e w5 ⟨rfl, h5⟩
        have T5 : TmAt w5 g { t with d1 := true, n1 := y } := by rw [h5]; exact TmAt.put TD.out _ rfl
        have G5 := Lib.hid (grown_trans GD.out (by rw [h5]; exact grown_setRow WD g _ : WD.grownBy w5 (some g)))
        have hS5 : w5.cell? ⟨w.heap.size, 1, none⟩ = some (.slice q 4 c) := by rw [h5, cell_setRow_other _ _ _ _ hsz]; exact hS
        clear h5
        refine ⟨_, rfl, hS5, ?_⟩
        simp only [Act.put, List.setIfInBounds_toArray, List.set_cons_zero, List.set_cons_succ]
        refine held_take 9 (v := ?_) rfl (by kernel_rfl) (by kernel_rfl) (by kernel_rfl) (fun _ _ _ h => h) (by assumption) (by rfl) ?_ ?_
        rotate_left
        · (intro W hW; go_simp; try with_reducible rfl)
        simp only [Act.put, List.setIfInBounds_toArray, List.set_cons_zero, List.set_cons_succ]
        refine held_done (by kernel_rfl) ?_
        go_wp2
        go_ret
        exact ⟨rfl, G5.out, _, T5, fun _ => rfl⟩
      · rw [show Ad.right 32801 ⟨130, d⟩ = false by show decide (d.length = 4) = false; exact decide_eq_false (by omega)]
        have HK := Lib.hid hk
        have b1 := below_one w (.cells #[.int .i64 130, .slice q m c] 24)
        have hg := heap_alloc_new w (.cells #[.int .i64 130, .slice q m c] 24)
        have k0 : (w.alloc (.cells #[.int .i64 130, .slice q m c] 24)).cell? ⟨w.heap.size, 0, none⟩ = some (.int .i64 130) := cell_of_row _ _ _ _ _ _ hg
        have k1 : (w.alloc (.cells #[.int .i64 130, .slice q m c] 24)).cell? ⟨w.heap.size, 1, none⟩ = some (.slice q m c) := cell_of_row _ _ _ _ _ _ hg
        have T1 := hT.next b1
        have BB := Lib.hid b1
        have HH := Lib.hid ((h.next hb).next b1)
        have C0 := Lib.hid (known_any 32801 130 (w.alloc (.cells #[.int .i64 130, .slice q m c] 24)))
        have c0 : (w.alloc (.cells #[.int .i64 130, .slice q m c] 24)).cell? ⟨g, 9, none⟩ = some (.bool t.d1) := T1.cell 9
        have f0 := T1.frozen 9
        have T2 := Lib.hid (T1.set 9 (.bool true) { t with d1 := true } rfl)
        have G2 := Lib.hid (grown_trans (grown_below b1 (some g)) (grown_cell _ g 9 (.bool true)))
        have k3 : ((w.alloc (.cells #[.int .i64 130, .slice q m c] 24)).setCell ⟨g, 9, none⟩ (.bool true)).cell? ⟨w.heap.size, 1, none⟩ = some (.slice q m c) := by
          simp only [World.cell?]
          rw [heap_setCell_other _ _ _ _ (by show w.heap.size ≠ g; omega)]
          exact k1
        have k4 : ((w.alloc (.cells #[.int .i64 130, .slice q m c] 24)).setCell ⟨g, 9, none⟩ (.bool true)).cell? ⟨w.heap.size, 0, none⟩ = some (.int .i64 130) := by
          simp only [World.cell?]
          rw [heap_setCell_other _ _ _ _ (by show w.heap.size ≠ g; omega)]
          exact k0
        have hsz : w.heap.size ≠ g := by omega
        clear hT b1 hg T1 HH hk BB
        go_enter Try.func25, Try.ntmps25
        go_wp2_with fail
        refine C0.out.mono ?_
        rintro e w1 ⟨rfl, h1⟩
        rw [HK.out]
        rw [← h1] at c0 f0 T2 G2 k3 k4 k0 k1
        clear h1 C0 HK
        go_wp2
        have hS : (w1.setCell ⟨g, 9, none⟩ (.bool true)).drew.cell? ⟨w.heap.size, 1, none⟩ = some (.slice q m c) := k3
        have TD : Hid (TmAt (w1.setCell ⟨g, 9, none⟩ (.bool true)).drew g { t with d1 := true }) := T2.out
        have GD : Hid (w.grownBy (w1.setCell ⟨g, 9, none⟩ (.bool true)).drew (some g)) := grown_next G2.out (Below.refl _ _).drew
        have RD := Lib.hid (h.next (Below.grown hb GD.out hb.size (fun k e => by cases e; exact hg0)))
        refine held_start (S := fun W => W.cell? ⟨w.heap.size, 1, none⟩ = some (.slice q m c)) 10 (by kernel_rfl) rfl ?_
        generalize (w1.setCell ⟨g, 9, none⟩ (.bool true)).drew = WD at *
        clear c0 f0 k3 k4 T2 G2 k0 k1 h hb hg0
        refine held_take 0 (v := ?_) rfl (by kernel_rfl) (by kernel_rfl) (by kernel_rfl) (fun _ _ _ h => h) (by assumption) (by rfl) ?_ ?_
        rotate_left
        · (intro W hW; go_simp; try with_reducible rfl)
        simp only [Act.put, List.setIfInBounds_toArray, List.set_cons_zero, List.set_cons_succ]
        refine held_take 1 (v := ?_) rfl (by kernel_rfl) (by kernel_rfl) (by kernel_rfl) (fun _ _ _ h => h) (by assumption) (by rfl) ?_ ?_
        rotate_left
        · (intro W hW; go_simp; try with_reducible rfl)
        simp only [Act.put, List.setIfInBounds_toArray, List.set_cons_zero, List.set_cons_succ]
        refine held_take 2 (v := ?_) rfl (by kernel_rfl) (by kernel_rfl) (by kernel_rfl) (fun _ _ _ h => h) (by assumption) (by rfl) ?_ ?_
        rotate_left
        · (intro W hW; go_simp; try with_reducible rfl)
        simp only [Act.put, List.setIfInBounds_toArray, List.set_cons_zero, List.set_cons_succ]
        refine held_take 3 (v := ?_) rfl (by kernel_rfl) (by kernel_rfl) (by kernel_rfl) (fun _ _ _ h => h) (by assumption) (by rfl) ?_ ?_
        rotate_left
        · (intro W hW; go_simp; try with_reducible rfl)
        simp only [Act.put, List.setIfInBounds_toArray, List.set_cons_zero, List.set_cons_succ]
        refine held_take 4 (v := ?_) rfl (by kernel_rfl) (by kernel_rfl) (by kernel_rfl) (fun _ _ _ h => h) (by assumption) (by rfl) ?_ ?_
        rotate_left
        · (intro W hW; go_simp; try with_reducible rfl)
        simp only [Act.put, List.setIfInBounds_toArray, List.set_cons_zero, List.set_cons_succ]
        refine held_take 5 (v := ?_) rfl (by kernel_rfl) (by kernel_rfl) (by kernel_rfl) (fun _ _ _ h => h) (by assumption) (by rfl) ?_ ?_
        rotate_left
        · (intro W hW; go_simp; try with_reducible rfl)
        simp only [Act.put, List.setIfInBounds_toArray, List.set_cons_zero, List.set_cons_succ]
        refine held_take 6 (v := ?_) rfl (by kernel_rfl) (by kernel_rfl) (by kernel_rfl) (fun _ _ _ h => h) (by assumption) (by rfl) ?_ ?_
        rotate_left
        · (intro W hW; go_simp; try with_reducible rfl)
        simp only [Act.put, List.setIfInBounds_toArray, List.set_cons_zero, List.set_cons_succ]
        refine held_take 7 (v := ?_) rfl (by kernel_rfl) (by kernel_rfl) (by kernel_rfl) (fun _ _ _ h => h) (by assumption) (by rfl) ?_ ?_
        rotate_left
        · (intro W hW; have e0 := hW; go_simp; try with_reducible rfl)
        simp only [Act.put, List.setIfInBounds_toArray, List.set_cons_zero, List.set_cons_succ]
        refine held_call 8 (f := 32) (args := #[.slice (some ⟨g, 16, none⟩) 4 4, .slice q m c]) rfl (by kernel_rfl) (by rfl) (by go_simp) ?_
        refine (fill_no _ q 4 4 m c WD h4).mono ?_
        rintro e w5 ⟨rfl, h5⟩
        rw [h5]; clear h5
        refine ⟨_, rfl, hS, ?_⟩
        simp only [Act.put, List.setIfInBounds_toArray, List.set_cons_zero, List.set_cons_succ]
        refine held_take 9 (v := ?_) rfl (by kernel_rfl) (by kernel_rfl) (by kernel_rfl) (fun _ _ _ h => h) (by assumption) (by rfl) ?_ ?_
        rotate_left
        · (intro W hW; go_simp; try with_reducible rfl)
        simp only [Act.put, List.setIfInBounds_toArray, List.set_cons_zero, List.set_cons_succ]
        refine held_done (by kernel_rfl) ?_
        go_wp2
        go_ret
        exact ⟨rfl, GD.out, _, TD.out, fun e => by cases e⟩
    · skip
      by_cases h4 : m = 4
      · subst h4
        obtain ⟨y, rfl⟩ := Ad.four_of hm
        rw [show Ad.right 32801 ⟨131, y.list⟩ = true from rfl]
        have HK := Lib.hid hk
        have b1 := below_one w (.cells #[.int .i64 131, .slice q 4 c] 24)
        have hg := heap_alloc_new w (.cells #[.int .i64 131, .slice q 4 c] 24)
        have k0 : (w.alloc (.cells #[.int .i64 131, .slice q 4 c] 24)).cell? ⟨w.heap.size, 0, none⟩ = some (.int .i64 131) := cell_of_row _ _ _ _ _ _ hg
        have k1 : (w.alloc (.cells #[.int .i64 131, .slice q 4 c] 24)).cell? ⟨w.heap.size, 1, none⟩ = some (.slice q 4 c) := cell_of_row _ _ _ _ _ _ hg
        have T1 := hT.next b1
        have BB := Lib.hid b1
        have HH := Lib.hid ((h.next hb).next b1)
        have C0 := Lib.hid (known_any 32801 131 (w.alloc (.cells #[.int .i64 131, .slice q 4 c] 24)))
        have c0 : (w.alloc (.cells #[.int .i64 131, .slice q 4 c] 24)).cell? ⟨g, 10, none⟩ = some (.bool t.d2) := T1.cell 10
        have f0 := T1.frozen 10
        have T2 := Lib.hid (T1.set 10 (.bool true) { t with d2 := true } rfl)
        have G2 := Lib.hid (grown_trans (grown_below b1 (some g)) (grown_cell _ g 10 (.bool true)))
        have k3 : ((w.alloc (.cells #[.int .i64 131, .slice q 4 c] 24)).setCell ⟨g, 10, none⟩ (.bool true)).cell? ⟨w.heap.size, 1, none⟩ = some (.slice q 4 c) := by
          simp only [World.cell?]
          rw [heap_setCell_other _ _ _ _ (by show w.heap.size ≠ g; omega)]
          exact k1
        have k4 : ((w.alloc (.cells #[.int .i64 131, .slice q 4 c] 24)).setCell ⟨g, 10, none⟩ (.bool true)).cell? ⟨w.heap.size, 0, none⟩ = some (.int .i64 131) := by
          simp only [World.cell?]
          rw [heap_setCell_other _ _ _ _ (by show w.heap.size ≠ g; omega)]
          exact k0
        have hsz : w.heap.size ≠ g := by omega
        clear hT b1 hg T1 HH hk BB
        go_enter Try.func25, Try.ntmps25
        go_wp2_with fail
        refine C0.out.mono ?_
        rintro e w1 ⟨rfl, h1⟩
        rw [HK.out]
        rw [← h1] at c0 f0 T2 G2 k3 k4 k0 k1
        clear h1 C0 HK
        go_wp2
        have hS : (w1.setCell ⟨g, 10, none⟩ (.bool true)).drew.cell? ⟨w.heap.size, 1, none⟩ = some (.slice q 4 c) := k3
        have TD : Hid (TmAt (w1.setCell ⟨g, 10, none⟩ (.bool true)).drew g { t with d2 := true }) := T2.out
        have GD : Hid (w.grownBy (w1.setCell ⟨g, 10, none⟩ (.bool true)).drew (some g)) := grown_next G2.out (Below.refl _ _).drew
        have RD := Lib.hid (h.next (Below.grown hb GD.out hb.size (fun k e => by cases e; exact hg0)))
        refine held_start (S := fun W => W.cell? ⟨w.heap.size, 1, none⟩ = some (.slice q 4 c)) 10 (by kernel_rfl) rfl ?_
        generalize (w1.setCell ⟨g, 10, none⟩ (.bool true)).drew = WD at *
        clear c0 f0 k3 k4 T2 G2 k0 k1 h hb hg0
        refine held_take 0 (v := ?_) rfl (by kernel_rfl) (by kernel_rfl) (by kernel_rfl) (fun _ _ _ h => h) (by assumption) (by rfl) ?_ ?_
        rotate_left
        · (intro W hW; go_simp; try with_reducible rfl)
        simp only [Act.put, List.setIfInBounds_toArray, List.set_cons_zero, List.set_cons_succ]
        refine held_take 1 (v := ?_) rfl (by kernel_rfl) (by kernel_rfl) (by kernel_rfl) (fun _ _ _ h => h) (by assumption) (by rfl) ?_ ?_
        rotate_left
        · (intro W hW; go_simp; try with_reducible rfl)
        simp only [Act.put, List.setIfInBounds_toArray, List.set_cons_zero, List.set_cons_succ]
        refine held_take 2 (v := ?_) rfl (by kernel_rfl) (by kernel_rfl) (by kernel_rfl) (fun _ _ _ h => h) (by assumption) (by rfl) ?_ ?_
        rotate_left
        · (intro W hW; go_simp; try with_reducible rfl)
        simp only [Act.put, List.setIfInBounds_toArray, List.set_cons_zero, List.set_cons_succ]
        refine held_take 3 (v := ?_) rfl (by kernel_rfl) (by kernel_rfl) (by kernel_rfl) (fun _ _ _ h => h) (by assumption) (by rfl) ?_ ?_
        rotate_left
        · (intro W hW; go_simp; try with_reducible rfl)
        simp only [Act.put, List.setIfInBounds_toArray, List.set_cons_zero, List.set_cons_succ]
        refine held_take 4 (v := ?_) rfl (by kernel_rfl) (by kernel_rfl) (by kernel_rfl) (fun _ _ _ h => h) (by assumption) (by rfl) ?_ ?_
        rotate_left
        · (intro W hW; go_simp; try with_reducible rfl)
        simp only [Act.put, List.setIfInBounds_toArray, List.set_cons_zero, List.set_cons_succ]
        refine held_take 5 (v := ?_) rfl (by kernel_rfl) (by kernel_rfl) (by kernel_rfl) (fun _ _ _ h => h) (by assumption) (by rfl) ?_ ?_
        rotate_left
        · (intro W hW; go_simp; try with_reducible rfl)
        simp only [Act.put, List.setIfInBounds_toArray, List.set_cons_zero, List.set_cons_succ]
        refine held_take 6 (v := ?_) rfl (by kernel_rfl) (by kernel_rfl) (by kernel_rfl) (fun _ _ _ h => h) (by assumption) (by rfl) ?_ ?_
        rotate_left
        · (intro W hW; go_simp; try with_reducible rfl)
        simp only [Act.put, List.setIfInBounds_toArray, List.set_cons_zero, List.set_cons_succ]
        refine held_take 7 (v := ?_) rfl (by kernel_rfl) (by kernel_rfl) (by kernel_rfl) (fun _ _ _ h => h) (by assumption) (by rfl) ?_ ?_
        rotate_left
        · (intro W hW; have e0 := hW; go_simp; try with_reducible rfl)
        simp only [Act.put, List.setIfInBounds_toArray, List.set_cons_zero, List.set_cons_succ]
        refine held_call 8 (f := 32) (args := #[.slice (some ⟨g, 20, none⟩) 4 4, .slice q 4 c]) rfl (by kernel_rfl) (by rfl) (by go_simp) ?_
        refine (fill_yes g 20 4 4 c q y.list (acells { t with d2 := true }) 35 WD rfl (by omega) TD.out (by show _ ≤ 37; omega) RD.out).mono ?_
        rintro e w5 ⟨rfl, h5⟩
        have T5 : TmAt w5 g { t with d2 := true, n2 := y } := by rw [h5]; exact TmAt.put TD.out _ rfl
        have G5 := Lib.hid (grown_trans GD.out (by rw [h5]; exact grown_setRow WD g _ : WD.grownBy w5 (some g)))
        have hS5 : w5.cell? ⟨w.heap.size, 1, none⟩ = some (.slice q 4 c) := by rw [h5, cell_setRow_other _ _ _ _ hsz]; exact hS
        clear h5
        refine ⟨_, rfl, hS5, ?_⟩
        simp only [Act.put, List.setIfInBounds_toArray, List.set_cons_zero, List.set_cons_succ]
        refine held_take 9 (v := ?_) rfl (by kernel_rfl) (by kernel_rfl) (by kernel_rfl) (fun _ _ _ h => h) (by assumption) (by rfl) ?_ ?_
        rotate_left
        · (intro W hW; go_simp; try with_reducible rfl)
        simp only [Act.put, List.setIfInBounds_toArray, List.set_cons_zero, List.set_cons_succ]
        refine held_done (by kernel_rfl) ?_
        go_wp2
        go_ret
        exact ⟨rfl, G5.out, _, T5, fun _ => rfl⟩
      · rw [show Ad.right 32801 ⟨131, d⟩ = false by show decide (d.length = 4) = false; exact decide_eq_false (by omega)]
        have HK := Lib.hid hk
        have b1 := below_one w (.cells #[.int .i64 131, .slice q m c] 24)
        have hg := heap_alloc_new w (.cells #[.int .i64 131, .slice q m c] 24)
        have k0 : (w.alloc (.cells #[.int .i64 131, .slice q m c] 24)).cell? ⟨w.heap.size, 0, none⟩ = some (.int .i64 131) := cell_of_row _ _ _ _ _ _ hg
        have k1 : (w.alloc (.cells #[.int .i64 131, .slice q m c] 24)).cell? ⟨w.heap.size, 1, none⟩ = some (.slice q m c) := cell_of_row _ _ _ _ _ _ hg
        have T1 := hT.next b1
        have BB := Lib.hid b1
        have HH := Lib.hid ((h.next hb).next b1)
        have C0 := Lib.hid (known_any 32801 131 (w.alloc (.cells #[.int .i64 131, .slice q m c] 24)))
        have c0 : (w.alloc (.cells #[.int .i64 131, .slice q m c] 24)).cell? ⟨g, 10, none⟩ = some (.bool t.d2) := T1.cell 10
        have f0 := T1.frozen 10
        have T2 := Lib.hid (T1.set 10 (.bool true) { t with d2 := true } rfl)
        have G2 := Lib.hid (grown_trans (grown_below b1 (some g)) (grown_cell _ g 10 (.bool true)))
        have k3 : ((w.alloc (.cells #[.int .i64 131, .slice q m c] 24)).setCell ⟨g, 10, none⟩ (.bool true)).cell? ⟨w.heap.size, 1, none⟩ = some (.slice q m c) := by
          simp only [World.cell?]
          rw [heap_setCell_other _ _ _ _ (by show w.heap.size ≠ g; omega)]
          exact k1
        have k4 : ((w.alloc (.cells #[.int .i64 131, .slice q m c] 24)).setCell ⟨g, 10, none⟩ (.bool true)).cell? ⟨w.heap.size, 0, none⟩ = some (.int .i64 131) := by
          simp only [World.cell?]
          rw [heap_setCell_other _ _ _ _ (by show w.heap.size ≠ g; omega)]
          exact k0
        have hsz : w.heap.size ≠ g := by omega
        clear hT b1 hg T1 HH hk BB
        go_enter Try.func25, Try.ntmps25
        go_wp2_with fail
        refine C0.out.mono ?_
        rintro e w1 ⟨rfl, h1⟩
        rw [HK.out]
        rw [← h1] at c0 f0 T2 G2 k3 k4 k0 k1
        clear h1 C0 HK
        go_wp2
        have hS : (w1.setCell ⟨g, 10, none⟩ (.bool true)).drew.cell? ⟨w.heap.size, 1, none⟩ = some (.slice q m c) := k3
        have TD : Hid (TmAt (w1.setCell ⟨g, 10, none⟩ (.bool true)).drew g { t with d2 := true }) := T2.out
        have GD : Hid (w.grownBy (w1.setCell ⟨g, 10, none⟩ (.bool true)).drew (some g)) := grown_next G2.out (Below.refl _ _).drew
        have RD := Lib.hid (h.next (Below.grown hb GD.out hb.size (fun k e => by cases e; exact hg0)))
        refine held_start (S := fun W => W.cell? ⟨w.heap.size, 1, none⟩ = some (.slice q m c)) 10 (by kernel_rfl) rfl ?_
        generalize (w1.setCell ⟨g, 10, none⟩ (.bool true)).drew = WD at *
        clear c0 f0 k3 k4 T2 G2 k0 k1 h hb hg0
        refine held_take 0 (v := ?_) rfl (by kernel_rfl) (by kernel_rfl) (by kernel_rfl) (fun _ _ _ h => h) (by assumption) (by rfl) ?_ ?_
        rotate_left
        · (intro W hW; go_simp; try with_reducible rfl)
        simp only [Act.put, List.setIfInBounds_toArray, List.set_cons_zero, List.set_cons_succ]
        refine held_take 1 (v := ?_) rfl (by kernel_rfl) (by kernel_rfl) (by kernel_rfl) (fun _ _ _ h => h) (by assumption) (by rfl) ?_ ?_
        rotate_left
        · (intro W hW; go_simp; try with_reducible rfl)
        simp only [Act.put, List.setIfInBounds_toArray, List.set_cons_zero, List.set_cons_succ]
        refine held_take 2 (v := ?_) rfl (by kernel_rfl) (by kernel_rfl) (by kernel_rfl) (fun _ _ _ h => h) (by assumption) (by rfl) ?_ ?_
        rotate_left
        · (intro W hW; go_simp; try with_reducible rfl)
        simp only [Act.put, List.setIfInBounds_toArray, List.set_cons_zero, List.set_cons_succ]
        refine held_take 3 (v := ?_) rfl (by kernel_rfl) (by kernel_rfl) (by kernel_rfl) (fun _ _ _ h => h) (by assumption) (by rfl) ?_ ?_
        rotate_left
        · (intro W hW; go_simp; try with_reducible rfl)
        simp only [Act.put, List.setIfInBounds_toArray, List.set_cons_zero, List.set_cons_succ]
        refine held_take 4 (v := ?_) rfl (by kernel_rfl) (by kernel_rfl) (by kernel_rfl) (fun _ _ _ h => h) (by assumption) (by rfl) ?_ ?_
        rotate_left
        · (intro W hW; go_simp; try with_reducible rfl)
        simp only [Act.put, List.setIfInBounds_toArray, List.set_cons_zero, List.set_cons_succ]
        refine held_take 5 (v := ?_) rfl (by kernel_rfl) (by kernel_rfl) (by kernel_rfl) (fun _ _ _ h => h) (by assumption) (by rfl) ?_ ?_
        rotate_left
        · (intro W hW; go_simp; try with_reducible rfl)
        simp only [Act.put, List.setIfInBounds_toArray, List.set_cons_zero, List.set_cons_succ]
        refine held_take 6 (v := ?_) rfl (by kernel_rfl) (by kernel_rfl) (by kernel_rfl) (fun _ _ _ h => h) (by assumption) (by rfl) ?_ ?_
        rotate_left
        · (intro W hW; go_simp; try with_reducible rfl)
        simp only [Act.put, List.setIfInBounds_toArray, List.set_cons_zero, List.set_cons_succ]
        refine held_take 7 (v := ?_) rfl (by kernel_rfl) (by kernel_rfl) (by kernel_rfl) (fun _ _ _ h => h) (by assumption) (by rfl) ?_ ?_
        rotate_left
        · (intro W hW; have e0 := hW; go_simp; try with_reducible rfl)
        simp only [Act.put, List.setIfInBounds_toArray, List.set_cons_zero, List.set_cons_succ]
        refine held_call 8 (f := 32) (args := #[.slice (some ⟨g, 20, none⟩) 4 4, .slice q m c]) rfl (by kernel_rfl) (by rfl) (by go_simp) ?_
        refine (fill_no _ q 4 4 m c WD h4).mono ?_
        rintro e w5 ⟨rfl, h5⟩
        rw [h5]; clear h5
        refine ⟨_, rfl, hS, ?_⟩
        simp only [Act.put, List.setIfInBounds_toArray, List.set_cons_zero, List.set_cons_succ]
        refine held_take 9 (v := ?_) rfl (by kernel_rfl) (by kernel_rfl) (by kernel_rfl) (fun _ _ _ h => h) (by assumption) (by rfl) ?_ ?_
        rotate_left
        · (intro W hW; go_simp; try with_reducible rfl)
        simp only [Act.put, List.setIfInBounds_toArray, List.set_cons_zero, List.set_cons_succ]
        refine held_done (by kernel_rfl) ?_
        go_wp2
        go_ret
        exact ⟨rfl, GD.out, _, TD.out, fun e => by cases e⟩
    · skip
      by_cases h4 : m = 4
      · subst h4
        obtain ⟨y, rfl⟩ := Ad.four_of hm
        rw [show Ad.right 32801 ⟨132, y.list⟩ = true from rfl]
        have HK := Lib.hid hk
        have b1 := below_one w (.cells #[.int .i64 132, .slice q 4 c] 24)
        have hg := heap_alloc_new w (.cells #[.int .i64 132, .slice q 4 c] 24)
        have k0 : (w.alloc (.cells #[.int .i64 132, .slice q 4 c] 24)).cell? ⟨w.heap.size, 0, none⟩ = some (.int .i64 132) := cell_of_row _ _ _ _ _ _ hg
        have k1 : (w.alloc (.cells #[.int .i64 132, .slice q 4 c] 24)).cell? ⟨w.heap.size, 1, none⟩ = some (.slice q 4 c) := cell_of_row _ _ _ _ _ _ hg
        have T1 := hT.next b1
        have BB := Lib.hid b1
        have HH := Lib.hid ((h.next hb).next b1)
        have C0 := Lib.hid (known_any 32801 132 (w.alloc (.cells #[.int .i64 132, .slice q 4 c] 24)))
        have c0 : (w.alloc (.cells #[.int .i64 132, .slice q 4 c] 24)).cell? ⟨g, 11, none⟩ = some (.bool t.d3) := T1.cell 11
        have f0 := T1.frozen 11
        have T2 := Lib.hid (T1.set 11 (.bool true) { t with d3 := true } rfl)
        have G2 := Lib.hid (grown_trans (grown_below b1 (some g)) (grown_cell _ g 11 (.bool true)))
        have k3 : ((w.alloc (.cells #[.int .i64 132, .slice q 4 c] 24)).setCell ⟨g, 11, none⟩ (.bool true)).cell? ⟨w.heap.size, 1, none⟩ = some (.slice q 4 c) := by
          simp only [World.cell?]
          rw [heap_setCell_other _ _ _ _ (by show w.heap.size ≠ g; omega)]
          exact k1
        have k4 : ((w.alloc (.cells #[.int .i64 132, .slice q 4 c] 24)).setCell ⟨g, 11, none⟩ (.bool true)).cell? ⟨w.heap.size, 0, none⟩ = some (.int .i64 132) := by
          simp only [World.cell?]
          rw [heap_setCell_other _ _ _ _ (by show w.heap.size ≠ g; omega)]
          exact k0
        have hsz : w.heap.size ≠ g := by omega
        clear hT b1 hg T1 HH hk BB
        go_enter Try.func25, Try.ntmps25
        go_wp2_with fail
        refine C0.out.mono ?_
        rintro e w1 ⟨rfl, h1⟩
        rw [HK.out]
        rw [← h1] at c0 f0 T2 G2 k3 k4 k0 k1
        clear h1 C0 HK
        go_wp2
        have hS : (w1.setCell ⟨g, 11, none⟩ (.bool true)).drew.cell? ⟨w.heap.size, 1, none⟩ = some (.slice q 4 c) := k3
        have TD : Hid (TmAt (w1.setCell ⟨g, 11, none⟩ (.bool true)).drew g { t with d3 := true }) := T2.out
        have GD : Hid (w.grownBy (w1.setCell ⟨g, 11, none⟩ (.bool true)).drew (some g)) := grown_next G2.out (Below.refl _ _).drew
        have RD := Lib.hid (h.next (Below.grown hb GD.out hb.size (fun k e => by cases e; exact hg0)))
        refine held_start (S := fun W => W.cell? ⟨w.heap.size, 1, none⟩ = some (.slice q 4 c)) 10 (by kernel_rfl) rfl ?_
        generalize (w1.setCell ⟨g, 11, none⟩ (.bool true)).drew = WD at *
        clear c0 f0 k3 k4 T2 G2 k0 k1 h hb hg0
        refine held_take 0 (v := ?_) rfl (by kernel_rfl) (by kernel_rfl) (by kernel_rfl) (fun _ _ _ h => h) (by assumption) (by rfl) ?_ ?_
        rotate_left
        · (intro W hW; go_simp; try with_reducible rfl)
        simp only [Act.put, List.setIfInBounds_toArray, List.set_cons_zero, List.set_cons_succ]
        refine held_take 1 (v := ?_) rfl (by kernel_rfl) (by kernel_rfl) (by kernel_rfl) (fun _ _ _ h => h) (by assumption) (by rfl) ?_ ?_
        rotate_left
        · (intro W hW; go_simp; try with_reducible rfl)
        simp only [Act.put, List.setIfInBounds_toArray, List.set_cons_zero, List.set_cons_succ]
        refine held_take 2 (v := ?_) rfl (by kernel_rfl) (by kernel_rfl) (by kernel_rfl) (fun _ _ _ h => h) (by assumption) (by rfl) ?_ ?_
        rotate_left
        · (intro W hW; go_simp; try with_reducible rfl)
        simp only [Act.put, List.setIfInBounds_toArray, List.set_cons_zero, List.set_cons_succ]
        refine held_take 3 (v := ?_) rfl (by kernel_rfl) (by kernel_rfl) (by kernel_rfl) (fun _ _ _ h => h) (by assumption) (by rfl) ?_ ?_
        rotate_left
        · (intro W hW; go_simp; try with_reducible rfl)
        simp only [Act.put, List.setIfInBounds_toArray, List.set_cons_zero, List.set_cons_succ]
        refine held_take 4 (v := ?_) rfl (by kernel_rfl) (by kernel_rfl) (by kernel_rfl) (fun _ _ _ h => h) (by assumption) (by rfl) ?_ ?_
        rotate_left
        · (intro W hW; go_simp; try with_reducible rfl)
        simp only [Act.put, List.setIfInBounds_toArray, List.set_cons_zero, List.set_cons_succ]
        refine held_take 5 (v := ?_) rfl (by kernel_rfl) (by kernel_rfl) (by kernel_rfl) (fun _ _ _ h => h) (by assumption) (by rfl) ?_ ?_
        rotate_left
        · (intro W hW; go_simp; try with_reducible rfl)
        simp only [Act.put, List.setIfInBounds_toArray, List.set_cons_zero, List.set_cons_succ]
        refine held_take 6 (v := ?_) rfl (by kernel_rfl) (by kernel_rfl) (by kernel_rfl) (fun _ _ _ h => h) (by assumption) (by rfl) ?_ ?_
        rotate_left
        · (intro W hW; go_simp; try with_reducible rfl)
        simp only [Act.put, List.setIfInBounds_toArray, List.set_cons_zero, List.set_cons_succ]
        refine held_take 7 (v := ?_) rfl (by kernel_rfl) (by kernel_rfl) (by kernel_rfl) (fun _ _ _ h => h) (by assumption) (by rfl) ?_ ?_
        rotate_left
        · (intro W hW; have e0 := hW; go_simp; try with_reducible rfl)
        simp only [Act.put, List.setIfInBounds_toArray, List.set_cons_zero, List.set_cons_succ]
        refine held_call 8 (f := 32) (args := #[.slice (some ⟨g, 24, none⟩) 4 4, .slice q 4 c]) rfl (by kernel_rfl) (by rfl) (by go_simp) ?_
        refine (fill_yes g 24 4 4 c q y.list (acells { t with d3 := true }) 35 WD rfl (by omega) TD.out (by show _ ≤ 37; omega) RD.out).mono ?_
        rintro e w5 ⟨rfl, h5⟩
        have T5 : TmAt w5 g { t with d3 := true, n3 := y } := by rw [h5]; exact TmAt.put TD.out _ rfl
        have G5 := Lib.hid (grown_trans GD.out (by rw [h5]; exact grown_setRow WD g _ : WD.grownBy w5 (some g)))
        have hS5 : w5.cell? ⟨w.heap.size, 1, none⟩ = some (.slice q 4 c) := by rw [h5, cell_setRow_other _ _ _ _ hsz]; exact hS
        clear h5
        refine ⟨_, rfl, hS5, ?_⟩
        simp only [Act.put, List.setIfInBounds_toArray, List.set_cons_zero, List.set_cons_succ]
        refine held_take 9 (v := ?_) rfl (by kernel_rfl) (by kernel_rfl) (by kernel_rfl) (fun _ _ _ h => h) (by assumption) (by rfl) ?_ ?_
        rotate_left
        · (intro W hW; go_simp; try with_reducible rfl)
        simp only [Act.put, List.setIfInBounds_toArray, List.set_cons_zero, List.set_cons_succ]
        refine held_done (by kernel_rfl) ?_
        go_wp2
        go_ret
        exact ⟨rfl, G5.out, _, T5, fun _ => rfl⟩
      · rw [show Ad.right 32801 ⟨132, d⟩ = false by show decide (d.length = 4) = false; exact decide_eq_false (by omega)]
        have HK := Lib.hid hk
        have b1 := below_one w (.cells #[.int .i64 132, .slice q m c] 24)
        have hg := heap_alloc_new w (.cells #[.int .i64 132, .slice q m c] 24)
        have k0 : (w.alloc (.cells #[.int .i64 132, .slice q m c] 24)).cell? ⟨w.heap.size, 0, none⟩ = some (.int .i64 132) := cell_of_row _ _ _ _ _ _ hg
        have k1 : (w.alloc (.cells #[.int .i64 132, .slice q m c] 24)).cell? ⟨w.heap.size, 1, none⟩ = some (.slice q m c) := cell_of_row _ _ _ _ _ _ hg
        have T1 := hT.next b1
        have BB := Lib.hid b1
        have HH := Lib.hid ((h.next hb).next b1)
        have C0 := Lib.hid (known_any 32801 132 (w.alloc (.cells #[.int .i64 132, .slice q m c] 24)))
        have c0 : (w.alloc (.cells #[.int .i64 132, .slice q m c] 24)).cell? ⟨g, 11, none⟩ = some (.bool t.d3) := T1.cell 11
        have f0 := T1.frozen 11
        have T2 := Lib.hid (T1.set 11 (.bool true) { t with d3 := true } rfl)
        have G2 := Lib.hid (grown_trans (grown_below b1 (some g)) (grown_cell _ g 11 (.bool true)))
        have k3 : ((w.alloc (.cells #[.int .i64 132, .slice q m c] 24)).setCell ⟨g, 11, none⟩ (.bool true)).cell? ⟨w.heap.size, 1, none⟩ = some (.slice q m c) := by
          simp only [World.cell?]
          rw [heap_setCell_other _ _ _ _ (by show w.heap.size ≠ g; omega)]
          exact k1
        have k4 : ((w.alloc (.cells #[.int .i64 132, .slice q m c] 24)).setCell ⟨g, 11, none⟩ (.bool true)).cell? ⟨w.heap.size, 0, none⟩ = some (.int .i64 132) := by
          simp only [World.cell?]
          rw [heap_setCell_other _ _ _ _ (by show w.heap.size ≠ g; omega)]
          exact k0
        have hsz : w.heap.size ≠ g := by omega
        clear hT b1 hg T1 HH hk BB
        go_enter Try.func25, Try.ntmps25
        go_wp2_with fail
        refine C0.out.mono ?_
        rintro e w1 ⟨rfl, h1⟩
        rw [HK.out]
        rw [← h1] at c0 f0 T2 G2 k3 k4 k0 k1
        clear h1 C0 HK
        go_wp2
        have hS : (w1.setCell ⟨g, 11, none⟩ (.bool true)).drew.cell? ⟨w.heap.size, 1, none⟩ = some (.slice q m c) := k3
        have TD : Hid (TmAt (w1.setCell ⟨g, 11, none⟩ (.bool true)).drew g { t with d3 := true }) := T2.out
        have GD : Hid (w.grownBy (w1.setCell ⟨g, 11, none⟩ (.bool true)).drew (some g)) := grown_next G2.out (Below.refl _ _).drew
        have RD := Lib.hid (h.next (Below.grown hb GD.out hb.size (fun k e => by cases e; exact hg0)))
        refine held_start (S := fun W => W.cell? ⟨w.heap.size, 1, none⟩ = some (.slice q m c)) 10 (by kernel_rfl) rfl ?_
        generalize (w1.setCell ⟨g, 11, none⟩ (.bool true)).drew = WD at *
        clear c0 f0 k3 k4 T2 G2 k0 k1 h hb hg0
        refine held_take 0 (v := ?_) rfl (by kernel_rfl) (by kernel_rfl) (by kernel_rfl) (fun _ _ _ h => h) (by assumption) (by rfl) ?_ ?_
        rotate_left
        · (intro W hW; go_simp; try with_reducible rfl)
        simp only [Act.put, List.setIfInBounds_toArray, List.set_cons_zero, List.set_cons_succ]
        refine held_take 1 (v := ?_) rfl (by kernel_rfl) (by kernel_rfl) (by kernel_rfl) (fun _ _ _ h => h) (by assumption) (by rfl) ?_ ?_
        rotate_left
        · (intro W hW; go_simp; try with_reducible rfl)
        simp only [Act.put, List.setIfInBounds_toArray, List.set_cons_zero, List.set_cons_succ]
        refine held_take 2 (v := ?_) rfl (by kernel_rfl) (by kernel_rfl) (by kernel_rfl) (fun _ _ _ h => h) (by assumption) (by rfl) ?_ ?_
        rotate_left
        · (intro W hW; go_simp; try with_reducible rfl)
        simp only [Act.put, List.setIfInBounds_toArray, List.set_cons_zero, List.set_cons_succ]
        refine held_take 3 (v := ?_) rfl (by kernel_rfl) (by kernel_rfl) (by kernel_rfl) (fun _ _ _ h => h) (by assumption) (by rfl) ?_ ?_
        rotate_left
        · (intro W hW; go_simp; try with_reducible rfl)
        simp only [Act.put, List.setIfInBounds_toArray, List.set_cons_zero, List.set_cons_succ]
        refine held_take 4 (v := ?_) rfl (by kernel_rfl) (by kernel_rfl) (by kernel_rfl) (fun _ _ _ h => h) (by assumption) (by rfl) ?_ ?_
        rotate_left
        · (intro W hW; go_simp; try with_reducible rfl)
        simp only [Act.put, List.setIfInBounds_toArray, List.set_cons_zero, List.set_cons_succ]
        refine held_take 5 (v := ?_) rfl (by kernel_rfl) (by kernel_rfl) (by kernel_rfl) (fun _ _ _ h => h) (by assumption) (by rfl) ?_ ?_
        rotate_left
        · (intro W hW; go_simp; try with_reducible rfl)
        simp only [Act.put, List.setIfInBounds_toArray, List.set_cons_zero, List.set_cons_succ]
        refine held_take 6 (v := ?_) rfl (by kernel_rfl) (by kernel_rfl) (by kernel_rfl) (fun _ _ _ h => h) (by assumption) (by rfl) ?_ ?_
        rotate_left
        · (intro W hW; go_simp; try with_reducible rfl)
        simp only [Act.put, List.setIfInBounds_toArray, List.set_cons_zero, List.set_cons_succ]
        refine held_take 7 (v := ?_) rfl (by kernel_rfl) (by kernel_rfl) (by kernel_rfl) (fun _ _ _ h => h) (by assumption) (by rfl) ?_ ?_
        rotate_left
        · (intro W hW; have e0 := hW; go_simp; try with_reducible rfl)
        simp only [Act.put, List.setIfInBounds_toArray, List.set_cons_zero, List.set_cons_succ]
        refine held_call 8 (f := 32) (args := #[.slice (some ⟨g, 24, none⟩) 4 4, .slice q m c]) rfl (by kernel_rfl) (by rfl) (by go_simp) ?_
        refine (fill_no _ q 4 4 m c WD h4).mono ?_
        rintro e w5 ⟨rfl, h5⟩
        rw [h5]; clear h5
        refine ⟨_, rfl, hS, ?_⟩
        simp only [Act.put, List.setIfInBounds_toArray, List.set_cons_zero, List.set_cons_succ]
        refine held_take 9 (v := ?_) rfl (by kernel_rfl) (by kernel_rfl) (by kernel_rfl) (fun _ _ _ h => h) (by assumption) (by rfl) ?_ ?_
        rotate_left
        · (intro W hW; go_simp; try with_reducible rfl)
        simp only [Act.put, List.setIfInBounds_toArray, List.set_cons_zero, List.set_cons_succ]
        refine held_done (by kernel_rfl) ?_
        go_wp2
        go_ret
        exact ⟨rfl, GD.out, _, TD.out, fun e => by cases e⟩
  · rw [Bool.not_eq_true] at hk
    rw [show Ad.right P ⟨ty, d⟩ = false by show (Ad.known P ty && _) = false; rw [hk]; rfl]
    have HK := Lib.hid hk
    have b1 := below_one w (.cells #[.int .i64 ty, .slice q m c] 24)
    have hg := heap_alloc_new w (.cells #[.int .i64 ty, .slice q m c] 24)
    have k0 : (w.alloc (.cells #[.int .i64 ty, .slice q m c] 24)).cell? ⟨w.heap.size, 0, none⟩ = some (.int .i64 ty) := cell_of_row _ _ _ _ _ _ hg
    have k1 : (w.alloc (.cells #[.int .i64 ty, .slice q m c] 24)).cell? ⟨w.heap.size, 1, none⟩ = some (.slice q m c) := cell_of_row _ _ _ _ _ _ hg
    have T1 := hT.next b1
    have BB := Lib.hid b1
    have HH := Lib.hid ((h.next hb).next b1)
    have C0 := Lib.hid (known_any P ty (w.alloc (.cells #[.int .i64 ty, .slice q m c] 24)))
    have TT := Lib.hid T1
    clear hT h b1 hg T1 HH hk
    go_enter Try.func25, Try.ntmps25
    go_wp2_with fail
    refine C0.out.mono ?_
    rintro e w1 ⟨rfl, h1⟩
    rw [HK.out]
    rw [h1]; clear h1 C0 HK
    go_wp2
    go_ret
    exact ⟨rfl, grown_below BB.out _, t, TT.out, fun e => by cases e⟩
set_option maxRecDepth 100000 in
set_option maxHeartbeats 400000 in
theorem right_any (P : Int) (x : Ot.O) (q : Option Addr) (m c : Nat) (w : World) (hm : x.data.length = m) (h : RowAt w q c x.data) :
    Calls Try.prog 12 #[.int .i64 P, .agg (ocells x (.slice q m c)).toArray] w fun e w' => e = .returned (.bool (Ad.right P x)) ∧ Below w.heap.size w w' := by
  have b1 := below_one w (.cells (ocells x (.slice q m c)).toArray 24)
  have hg := heap_alloc_new w (.cells (ocells x (.slice q m c)).toArray 24)
  have B2 := Below.chain b1 (below_one (w.alloc (.cells (ocells x (.slice q m c)).toArray 24)) (.cells (acells Ad.z).toArray 35))
  have T2 : TmAt ((w.alloc (.cells (ocells x (.slice q m c)).toArray 24)).alloc (.cells (acells Ad.z).toArray 35)) (w.heap.size + 1) Ad.z := heap_alloc2_new _ _ _
  have G2 : ((w.alloc (.cells (ocells x (.slice q m c)).toArray 24)).alloc (.cells (acells Ad.z).toArray 35)).heap[w.heap.size]? = some (.cells (ocells x (.slice q m c)).toArray 24 (0, 0)) := heap_alloc2_old _ _ _
  have C1 := Lib.hid (tell_any (w.heap.size + 1) Ad.z P x q m c _ w hm h B2 (Nat.le_succ _) T2)
  have HB := Lib.hid B2
  simp only [ocells] at C1 G2 HB ⊢
  clear b1 hg B2 T2 h hm
  have HG := Lib.hid G2
  clear G2
  go_enter Try.func12, Try.ntmps12
  go_wp2_with (refine wpList_load_row rfl 24 (.tmp 3) rfl w.heap.size rfl 24 #[.int .i64 x.ty, .slice q m c] (0, 0) _ HG.out Try.underlying24 rfl infoOpt ?_)
  refine C1.out.mono ?_
  rintro e w2 ⟨rfl, g2, _⟩
  have B4 := Lib.hid (Below.grown HB.out g2 HB.out.size (fun k e => by cases e; exact Nat.le_succ _))
  clear g2 C1 HB HG
  go_wp2
  go_ret
  exact ⟨rfl, B4.out⟩
end Go.Proofs.Ytacnlancncmpmaa
