/- Contracts of the document's Right and Login; what its Find tells of what lies ahead. -/
import Derived.Test.YtnhjpbhndckfgaaTe
import Derived.Test.YtnhjpbhndckfgaaOf
import Derived.Deep.QuietTactic
namespace Go.Proofs.Ytnhjpbhndckfgaa
open Go.RowKit Go.Maps S2 S12

theorem placeIs_unique {L : List Ot.O} {t u v : Int} (h : PlaceIs L t u) (k : PlaceIs L t v) : u = v := by
  rcases h with ⟨rfl, h⟩ | ⟨i, hi, rfl, h1, h2⟩ <;> rcases k with ⟨rfl, k⟩ | ⟨j, hj, rfl, k1, k2⟩
  · rfl
  · exact absurd k1 (h _ (List.getElem_mem hj))
  · exact absurd h1 (k _ (List.getElem_mem hi))
  · rcases Nat.lt_trichotomy i j with e | rfl | e
    · exact absurd h1 (k2 _ (Tm.mem_take e hj))
    · rfl
    · exact absurd k1 (h2 _ (Tm.mem_take e hi))
theorem find_first (a : Option Addr) (n cap : Nat) (L : List Ot.O) (t : Int) (w : World) (hL : L.length = n) (hn : n ≤ 1000000) (h : OptsAt w a L) (hf : ∀ x ∈ L, x.ty ≠ t) :
    Calls Try.prog 26 #[.slice a n cap, .int .i64 t] w fun e w' => e = .returned (.int .i64 (-1)) ∧ w' = w := by
  refine (place_any a n cap L t w hL hn h).mono ?_
  rintro e w1 ⟨⟨v, rfl, hp⟩, h1⟩
  rw [placeIs_unique hp (.inl ⟨rfl, hf⟩)]
  exact ⟨rfl, h1⟩
theorem find_again (L : List Ot.O) (t : Int) (hf : ∃ x ∈ L, x.ty = t) : ∃ j : Nat, ∀ (a : Option Addr) (n cap : Nat) (w : World), L.length = n → n ≤ 1000000 → OptsAt w a L →
    Calls Try.prog 26 #[.slice a n cap, .int .i64 t] w fun e w' => e = .returned (.int .i64 (j : Int)) ∧ w' = w := by
  have hex : ∃ k : Nat, PlaceIs L t (k : Int) := by
    induction L with
    | nil => obtain ⟨x, hx, _⟩ := hf; simp at hx
    | cons y l ih =>
      by_cases hy : y.ty = t
      · exact ⟨0, .inr ⟨0, by simp, rfl, hy, fun x hx => by simp at hx⟩⟩
      · obtain ⟨x, hx, he⟩ := hf
        simp only [List.mem_cons] at hx
        rcases hx with rfl | hx
        · exact absurd he hy
        · obtain ⟨k, hk⟩ := ih ⟨x, hx, he⟩
          rcases hk with ⟨e, _⟩ | ⟨i, hi, e, h1, h2⟩
          · omega
          · have hki : k = i := by omega
            subst hki
            refine ⟨k + 1, .inr ⟨k + 1, by simpa using hi, by simp, by simpa using h1, fun z hz => ?_⟩⟩
            simp only [List.take_succ_cons, List.mem_cons] at hz
            rcases hz with rfl | hz
            · exact hy
            · exact h2 z hz
  obtain ⟨j, hj⟩ := hex
  refine ⟨j, fun a n cap w hL hn h => (place_any a n cap L t w hL hn h).mono ?_⟩
  rintro e w1 ⟨⟨v, rfl, hp⟩, h1⟩
  rw [placeIs_unique hp hj]
  exact ⟨rfl, h1⟩
theorem refGet_row (a : Option Addr) (n cap : Nat) (xs : List UInt8) (w : World) (hn : xs.length = n) (h0 : 0 < n) (h8 : n ≤ 8) (h : RowAt w a cap xs) :
    Calls Try.prog 28 #[.slice a n cap, .bool true] w fun e w' => e = .returned (.int .u64 (Oc.get xs true : Nat)) ∧ w' = w := by
  subst hn
  obtain ⟨b, off, rfl⟩ := h.some h0
  exact refGet_some b off cap xs true w h8 (fun j hj => by rw [← Go.WideShapes.add_plain]; exact h.cell _ rfl j _ (by simp [Lib.byteCells, hj]))

theorem lit_dec (m k : Nat) : ((m : Int) == (k : Int)) = decide (m = k) := by
  by_cases h : m = k
  · subst h; simp
  · rw [decide_eq_false h, beq_eq_false_iff_ne]; omega
theorem Tm.right_three {x y : UInt8} {l : List UInt8} {P : Nat} (hP : 256 * x.toNat + y.toNat = P) : Tm.right ⟨3, x :: y :: l⟩ = if P = 49187 then decide (l.length = 0) else if P = 49699 then decide (l = [5]) else true := by
  show decide (Tm.asked (x :: y :: l) ≠ 0) = _
  unfold Tm.asked
  rw [if_neg (by simp), Tm.get_two, hP]
  by_cases h1 : P = 49187
  · rw [if_pos h1, if_pos h1]
    by_cases h2 : l.length = 0
    · rw [if_pos (by simp [h2]), decide_eq_true h2]; rfl
    · rw [if_neg (by simp only [List.length_cons]; omega), decide_eq_false h2]; rfl
  · rw [if_neg h1, if_neg h1]
    by_cases h2 : P = 49699
    · rw [if_pos h2, if_pos h2]
      have e : List.drop 2 (x :: y :: l) = l := rfl
      simp only [e]
      by_cases h3 : l = [5] <;> simp [h3]
    · rw [if_neg h2, if_neg h2]; rfl
theorem Tm.asks_right {x y : UInt8} {l : List UInt8} (h : Tm.asked (x :: y :: l) ≠ 0) : Tm.asks (256 * x.toNat + y.toNat) = Tm.asked (x :: y :: l) := by
  unfold Tm.asked at h ⊢
  rw [if_neg (by simp), Tm.get_two] at h ⊢
  unfold Tm.asks
  by_cases h1 : 256 * x.toNat + y.toNat = 49187
  · rw [if_pos h1] at h ⊢
    rw [if_pos (.inl h1)]
    split at h
    · rw [if_pos ‹_›, h1]
    · exact absurd rfl h
  · rw [if_neg h1] at h ⊢
    by_cases h2 : 256 * x.toNat + y.toNat = 49699
    · rw [if_pos h2] at h ⊢
      rw [if_pos (.inr h2)]
      split at h
      · rw [if_pos ‹_›, h2]
      · exact absurd rfl h
    · rw [if_neg h2, if_neg (by omega)]
theorem Tm.two_of {d : List UInt8} (h : Tm.asked d ≠ 0) : ∃ x y l, d = x :: y :: l := by
  unfold Tm.asked at h
  match d, h with
  | [], h => exact absurd rfl h
  | [x], h => exact absurd rfl h
  | x :: y :: l, _ => exact ⟨x, y, l, rfl⟩
/-- Data of a right login are asked by their two bytes. -/
theorem asks_row (a : Option Addr) (n cap : Nat) (d : List UInt8) (w : World) (hn : d.length = n) (h : RowAt w a cap d) (hr : Tm.asked d ≠ 0) :
    Calls Try.prog 29 #[.slice a n cap] w fun e w' => e = .returned (.int .i64 (Tm.asked d : Nat)) ∧ Below w.heap.size w w' := by
  obtain ⟨x, y, l, rfl⟩ := Tm.two_of hr
  obtain ⟨b, off, rfl⟩ := h.some (by simp)
  rw [← Tm.asks_right hr]
  exact refAsks_any b off n cap x y l w hn h

set_option maxRecDepth 100000 in
set_option maxHeartbeats 1000000 in
theorem refRight_any (x : Ot.O) (p : Option Addr) (m c : Nat) (w : World) (hm : x.data.length = m) (h : RowAt w p c x.data) :
    Calls Try.prog 13 #[.agg (ocells x (.slice p m c)).toArray] w fun e w' => e = .returned (.bool (Tm.right x)) ∧ Below w.heap.size w w' := by
  obtain ⟨ty, D⟩ := x
  simp only at hm h
  by_cases t1 : ty = 1
  · subst t1
    rw [show Tm.right ⟨1, D⟩ = decide (D.length = 2) from rfl, hm, ← lit_dec]
    clear h hm
    have b1 := below_one w (.cells #[.int .i64 1, .slice p m c] 24)
    have hg := heap_alloc_new w (.cells #[.int .i64 1, .slice p m c] 24)
    have k0 : (w.alloc (.cells #[.int .i64 1, .slice p m c] 24)).cell? ⟨w.heap.size, 0, none⟩ = some (.int .i64 1) := cell_of_row _ _ _ _ _ _ hg
    have k1 : (w.alloc (.cells #[.int .i64 1, .slice p m c] 24)).cell? ⟨w.heap.size, 1, none⟩ = some (.slice p m c) := cell_of_row _ _ _ _ _ _ hg
    have BB := Lib.hid b1
    simp only [ocells]
    clear b1 hg
    go_enter Try.func13, Try.ntmps13
    go_wp2
    go_ret
    exact ⟨rfl, BB.out⟩
  by_cases t2 : ty = 2
  · subst t2
    rw [show Tm.right ⟨2, D⟩ = decide (D.length = 4) from rfl, hm, ← lit_dec]
    clear h hm t1
    have b1 := below_one w (.cells #[.int .i64 2, .slice p m c] 24)
    have hg := heap_alloc_new w (.cells #[.int .i64 2, .slice p m c] 24)
    have k0 : (w.alloc (.cells #[.int .i64 2, .slice p m c] 24)).cell? ⟨w.heap.size, 0, none⟩ = some (.int .i64 2) := cell_of_row _ _ _ _ _ _ hg
    have k1 : (w.alloc (.cells #[.int .i64 2, .slice p m c] 24)).cell? ⟨w.heap.size, 1, none⟩ = some (.slice p m c) := cell_of_row _ _ _ _ _ _ hg
    have BB := Lib.hid b1
    simp only [ocells]
    clear b1 hg
    go_enter Try.func13, Try.ntmps13
    go_wp2
    go_ret
    exact ⟨rfl, BB.out⟩
  by_cases t3 : ty = 3
  · subst t3
    clear t1 t2
    have b1 := below_one w (.cells #[.int .i64 3, .slice p m c] 24)
    have hg := heap_alloc_new w (.cells #[.int .i64 3, .slice p m c] 24)
    have k0 : (w.alloc (.cells #[.int .i64 3, .slice p m c] 24)).cell? ⟨w.heap.size, 0, none⟩ = some (.int .i64 3) := cell_of_row _ _ _ _ _ _ hg
    have k1 : (w.alloc (.cells #[.int .i64 3, .slice p m c] 24)).cell? ⟨w.heap.size, 1, none⟩ = some (.slice p m c) := cell_of_row _ _ _ _ _ _ hg
    have BB := Lib.hid b1
    simp only [ocells]
    by_cases h2 : m < 2
    · rw [show Tm.right ⟨3, D⟩ = false by show decide (Tm.asked D ≠ 0) = false; unfold Tm.asked; rw [if_pos (by rw [hm]; exact h2)]; rfl]
      have i1 : (m : Int) < 2 := by omega
      clear h hm b1 hg h2
      go_enter Try.func13, Try.ntmps13
      go_wp2
      go_ret
      exact ⟨rfl, BB.out⟩
    · have i1 : ¬ (m : Int) < 2 := by omega
      obtain ⟨x, y, l, rfl⟩ : ∃ x y l, D = x :: y :: l := by
        match D, hm with
        | [], e => exact absurd e (by simp; omega)
        | [x], e => exact absurd e (by simp; omega)
        | x :: y :: l, _ => exact ⟨x, y, l, rfl⟩
      obtain ⟨b, off, rfl⟩ := h.some (by simp)
      have hr := h.next b1
      have q0 : ∀ j, ((w.alloc (.cells #[.int .i64 3, .slice (some ⟨b, off, none⟩) m c] 24)).drewN j).cell? ⟨w.heap.size, 1, none⟩ = some (.slice (some ⟨b, off, none⟩) m c) := fun _ => k1
      have q1 : ∀ j, ((w.alloc (.cells #[.int .i64 3, .slice (some ⟨b, off, none⟩) m c] 24)).drewN j).cell? ⟨b, off, none⟩ = some (.int .u8 (x.toNat : Int)) := fun _ => hr.cell _ rfl 0 _ rfl
      have q2 : ∀ j, ((w.alloc (.cells #[.int .i64 3, .slice (some ⟨b, off, none⟩) m c] 24)).drewN j).cell? ⟨b, off + 1, none⟩ = some (.int .u8 (y.toNat : Int)) := fun _ => hr.cell _ rfl 1 _ rfl
      have n0 : (0 : Int) < (m : Int) := by omega
      have n1 : (1 : Int) < (m : Int) := by omega
      have hx := UInt8.toNat_lt x
      have hy := UInt8.toNat_lt y
      obtain ⟨P, hP⟩ : ∃ P, 256 * x.toNat + y.toNat = P := ⟨_, rfl⟩
      rw [Tm.right_three hP]
      have hPI : 256 * (x.toNat : Int) + (y.toNat : Int) = (P : Int) := by omega
      have hlm : l.length + 2 = m := by rw [← hm]; simp
      by_cases p1 : P = 49187
      · subst p1
        rw [if_pos rfl, show decide (l.length = 0) = ((m : Int) == 2) by rw [show ((2 : Int)) = ((2 : Nat) : Int) from rfl, lit_dec]; exact decide_eq_decide.2 (by omega)]
        clear hP hlm hr h hm b1 hg h2
        go_enter Try.func13, Try.ntmps13
        go_wp2
        go_quiet (fail)
        go_wp2
        go_ret
        exact ⟨rfl, keeps_below BB.out _⟩
      · rw [if_neg p1]
        have e1 : ((P : Int) == 49187) = false := by simp; omega
        by_cases p2 : P = 49699
        · subst p2
          rw [if_pos rfl]
          by_cases h3 : m = 3
          · have e3 : ((m : Int) == 3) = true := by simp; omega
            obtain ⟨z, rfl⟩ : ∃ z, l = [z] := by
              match l, hlm with
              | [], e => exact absurd e (by simp; omega)
              | [z], _ => exact ⟨z, rfl⟩
              | _ :: _ :: _, e => exact absurd e (by simp; omega)
            have q3 : ∀ j, ((w.alloc (.cells #[.int .i64 3, .slice (some ⟨b, off, none⟩) m c] 24)).drewN j).cell? ⟨b, off + 2, none⟩ = some (.int .u8 (z.toNat : Int)) := fun _ => hr.cell _ rfl 2 _ rfl
            have n2 : (2 : Int) < (m : Int) := by omega
            rw [show decide ([z] = [5]) = ((z.toNat : Int) == 5) by
              by_cases e : z = 5
              · subst e; rfl
              · rw [decide_eq_false (by simpa using e)]
                have : z.toNat ≠ 5 := fun e' => e (UInt8.toNat_inj.1 (by simpa using e'))
                symm; simp; omega]
            clear hP hlm hr h hm b1 hg h2 h3 p1 e1
            go_enter Try.func13, Try.ntmps13
            go_wp2
            go_quiet (fail)
            go_wp2
            go_ret
            exact ⟨rfl, keeps_below BB.out _⟩
          · have e3 : ((m : Int) == 3) = false := by simp; omega
            rw [decide_eq_false (fun e => h3 (by rw [e] at hlm; exact hlm.symm))]
            clear hP hlm hr h hm b1 hg h2 h3 p1 e1
            go_enter Try.func13, Try.ntmps13
            go_wp2
            go_quiet (fail)
            go_wp2
            go_ret
            exact ⟨rfl, keeps_below BB.out _⟩
        · rw [if_neg p2]
          have e2 : ((P : Int) == 49699) = false := by simp; omega
          clear hP hlm hr h hm b1 hg h2
          go_enter Try.func13, Try.ntmps13
          go_wp2
          go_quiet (fail)
          go_wp2
          go_ret
          exact ⟨rfl, keeps_below BB.out _⟩
  by_cases t4 : ty = 4
  · subst t4
    rw [show Tm.right ⟨4, D⟩ = decide (2 ≤ D.length) from rfl, hm, show decide (2 ≤ m) = decide (2 ≤ (m : Int)) from decide_eq_decide.2 (by omega)]
    clear h hm t1 t2 t3
    have b1 := below_one w (.cells #[.int .i64 4, .slice p m c] 24)
    have hg := heap_alloc_new w (.cells #[.int .i64 4, .slice p m c] 24)
    have k0 : (w.alloc (.cells #[.int .i64 4, .slice p m c] 24)).cell? ⟨w.heap.size, 0, none⟩ = some (.int .i64 4) := cell_of_row _ _ _ _ _ _ hg
    have k1 : (w.alloc (.cells #[.int .i64 4, .slice p m c] 24)).cell? ⟨w.heap.size, 1, none⟩ = some (.slice p m c) := cell_of_row _ _ _ _ _ _ hg
    have BB := Lib.hid b1
    simp only [ocells]
    clear b1 hg
    go_enter Try.func13, Try.ntmps13
    go_wp2
    go_ret
    exact ⟨rfl, BB.out⟩
  by_cases t5 : ty = 5
  · subst t5
    clear t1 t2 t3 t4
    rw [show Tm.right ⟨5, D⟩ = decide (D.length = 4 ∧ Oc.get D true ≠ 0) from rfl, hm]
    have b1 := below_one w (.cells #[.int .i64 5, .slice p m c] 24)
    have hg := heap_alloc_new w (.cells #[.int .i64 5, .slice p m c] 24)
    have k0 : (w.alloc (.cells #[.int .i64 5, .slice p m c] 24)).cell? ⟨w.heap.size, 0, none⟩ = some (.int .i64 5) := cell_of_row _ _ _ _ _ _ hg
    have k1 : (w.alloc (.cells #[.int .i64 5, .slice p m c] 24)).cell? ⟨w.heap.size, 1, none⟩ = some (.slice p m c) := cell_of_row _ _ _ _ _ _ hg
    have BB := Lib.hid b1
    simp only [ocells]
    by_cases h4 : m = 4
    · subst h4
      have C1 := Lib.hid (refGet_row p 4 c D _ hm (by omega) (by omega) (h.next b1))
      generalize Oc.get D true = g at *
      have hb : ((g : Int) != 0) = decide (4 = 4 ∧ g ≠ 0) := by
        by_cases e : g = 0
        · subst e; rfl
        · rw [decide_eq_true ⟨rfl, e⟩]; simpa using e
      rw [← hb]
      clear h hm b1 hg hb
      go_enter Try.func13, Try.ntmps13
      go_wp2_with (refine C1.out.mono ?_; rintro e w1 ⟨rfl, h1⟩; rw [h1]; clear h1 C1)
      go_ret
      exact ⟨rfl, BB.out⟩
    · have e4 : ((m : Int) == 4) = false := by simp; omega
      rw [decide_eq_false (fun e => h4 e.1)]
      clear h hm b1 hg h4
      go_enter Try.func13, Try.ntmps13
      go_wp2
      go_ret
      exact ⟨rfl, BB.out⟩
  by_cases t7 : ty = 7
  · subst t7
    rw [show Tm.right ⟨7, D⟩ = decide (D.length = 0) from rfl, hm, ← lit_dec]
    clear h hm t1 t2 t3 t4 t5
    have b1 := below_one w (.cells #[.int .i64 7, .slice p m c] 24)
    have hg := heap_alloc_new w (.cells #[.int .i64 7, .slice p m c] 24)
    have k0 : (w.alloc (.cells #[.int .i64 7, .slice p m c] 24)).cell? ⟨w.heap.size, 0, none⟩ = some (.int .i64 7) := cell_of_row _ _ _ _ _ _ hg
    have k1 : (w.alloc (.cells #[.int .i64 7, .slice p m c] 24)).cell? ⟨w.heap.size, 1, none⟩ = some (.slice p m c) := cell_of_row _ _ _ _ _ _ hg
    have BB := Lib.hid b1
    simp only [ocells]
    clear b1 hg
    go_enter Try.func13, Try.ntmps13
    go_wp2
    go_ret
    exact ⟨rfl, BB.out⟩
  by_cases t8 : ty = 8
  · subst t8
    rw [show Tm.right ⟨8, D⟩ = decide (D.length = 0) from rfl, hm, ← lit_dec]
    clear h hm t1 t2 t3 t4 t5 t7
    have b1 := below_one w (.cells #[.int .i64 8, .slice p m c] 24)
    have hg := heap_alloc_new w (.cells #[.int .i64 8, .slice p m c] 24)
    have k0 : (w.alloc (.cells #[.int .i64 8, .slice p m c] 24)).cell? ⟨w.heap.size, 0, none⟩ = some (.int .i64 8) := cell_of_row _ _ _ _ _ _ hg
    have k1 : (w.alloc (.cells #[.int .i64 8, .slice p m c] 24)).cell? ⟨w.heap.size, 1, none⟩ = some (.slice p m c) := cell_of_row _ _ _ _ _ _ hg
    have BB := Lib.hid b1
    simp only [ocells]
    clear b1 hg
    go_enter Try.func13, Try.ntmps13
    go_wp2
    go_ret
    exact ⟨rfl, BB.out⟩
  rw [Tm.known_of_right ⟨ty, D⟩ (decide_eq_false (by simp only; omega))]
  clear h hm
  have b1 := below_one w (.cells #[.int .i64 ty, .slice p m c] 24)
  have hg := heap_alloc_new w (.cells #[.int .i64 ty, .slice p m c] 24)
  have k0 : (w.alloc (.cells #[.int .i64 ty, .slice p m c] 24)).cell? ⟨w.heap.size, 0, none⟩ = some (.int .i64 ty) := cell_of_row _ _ _ _ _ _ hg
  have k1 : (w.alloc (.cells #[.int .i64 ty, .slice p m c] 24)).cell? ⟨w.heap.size, 1, none⟩ = some (.slice p m c) := cell_of_row _ _ _ _ _ _ hg
  have BB := Lib.hid b1
  simp only [ocells]
  clear b1 hg
  go_enter Try.func13, Try.ntmps13
  go_wp2
  go_ret
  exact ⟨rfl, BB.out⟩
end Go.Proofs.Ytnhjpbhndckfgaa
