/- What the document's Find tells of what lies ahead; contract of the document's Right. -/
import Derived.Test.YtacnlancncmpmaaTd
import Derived.Deep.QuietTactic
namespace Go.Proofs.Ytacnlancncmpmaa
open Go.RowKit Go.Maps S2 S12

theorem placeIs_unique {L : List Ot.O} {t u v : Int} (h : PlaceIs L t u) (k : PlaceIs L t v) : u = v := by
  rcases h with ⟨rfl, h⟩ | ⟨i, hi, rfl, h1, h2⟩ <;> rcases k with ⟨rfl, k⟩ | ⟨j, hj, rfl, k1, k2⟩
  · rfl
  · exact absurd k1 (h _ (List.getElem_mem hj))
  · exact absurd h1 (k _ (List.getElem_mem hi))
  · rcases Nat.lt_trichotomy i j with e | rfl | e
    · exact absurd h1 (k2 _ (Ad.mem_take e hj))
    · rfl
    · exact absurd k1 (h2 _ (Ad.mem_take e hi))
theorem find_first (a : Option Addr) (n cap : Nat) (L : List Ot.O) (t : Int) (w : World) (hL : L.length = n) (hn : n ≤ 1000000) (h : OptsAt w a L) (hf : ∀ x ∈ L, x.ty ≠ t) :
    Calls Try.prog 24 #[.slice a n cap, .int .i64 t] w fun e w' => e = .returned (.int .i64 (-1)) ∧ w' = w := by
  refine (place_any a n cap L t w hL hn h).mono ?_
  rintro e w1 ⟨⟨v, rfl, hp⟩, h1⟩
  rw [placeIs_unique hp (.inl ⟨rfl, hf⟩)]
  exact ⟨rfl, h1⟩
theorem find_again (L : List Ot.O) (t : Int) (hf : ∃ x ∈ L, x.ty = t) : ∃ j : Nat, ∀ (a : Option Addr) (n cap : Nat) (w : World), L.length = n → n ≤ 1000000 → OptsAt w a L →
    Calls Try.prog 24 #[.slice a n cap, .int .i64 t] w fun e w' => e = .returned (.int .i64 (j : Int)) ∧ w' = w := by
  have hex : ∃ k : Nat, PlaceIs L t (k : Int) := by
    induction L with
    | nil => obtain ⟨x, hx, _⟩ := hf; simp at hx
    | cons y l ih =>
      by_cases hy : y.ty = t
      · exact ⟨0, .inr ⟨0, by simp, rfl, hy, fun x hx => by simp at hx⟩⟩
      · obtain ⟨x, hx, he⟩ := hf
        simp only [List.mem_cons] at hx
        rcases hx with rfl | hx
        · exact absurd he hy
        · obtain ⟨k, hk⟩ := ih ⟨x, hx, he⟩
          rcases hk with ⟨e, _⟩ | ⟨i, hi, e, h1, h2⟩
          · omega
          · have hki : k = i := by omega
            subst hki
            refine ⟨k + 1, .inr ⟨k + 1, by simpa using hi, by simp, by simpa using h1, fun z hz => ?_⟩⟩
            simp only [List.take_succ_cons, List.mem_cons] at hz
            rcases hz with rfl | hz
            · exact hy
            · exact h2 z hz
  obtain ⟨j, hj⟩ := hex
  refine ⟨j, fun a n cap w hL hn h => (place_any a n cap L t w hL hn h).mono ?_⟩
  rintro e w1 ⟨⟨v, rfl, hp⟩, h1⟩
  rw [placeIs_unique hp hj]
  exact ⟨rfl, h1⟩
theorem lit_dec (m k : Nat) : ((m : Int) == (k : Int)) = decide (m = k) := by
  by_cases h : m = k
  · subst h; simp
  · rw [decide_eq_false h, beq_eq_false_iff_ne]; omega
theorem Ad.any_eight (y : Ad.B8) : y.list.any (fun b => decide (b ≠ 0)) = decide (y ≠ Ad.o8) := by
  obtain ⟨a, b, c, d, e, f, g, h⟩ := y
  rw [Bool.eq_iff_iff]
  simp [Ad.B8.list, Ad.o8]
  grind
theorem any_step (d : List UInt8) (k : Nat) (h : k < d.length) : (d.take (k + 1)).any (fun b => decide (b ≠ 0)) = ((d.take k).any (fun b => decide (b ≠ 0)) || decide (d[k] ≠ 0)) := by
  rw [List.take_succ_eq_append_getElem h, List.any_append]; simp
theorem byte_neq (y : UInt8) : ((y.toNat : Int) != 0) = decide (y ≠ 0) := by
  by_cases h : y = 0
  · subst h; rfl
  · rw [decide_eq_true h]
    have : y.toNat ≠ 0 := fun e => h (UInt8.toNat_inj.1 (by simpa using e))
    simp; omega

set_option maxRecDepth 100000 in
set_option maxHeartbeats 1000000 in
theorem refRight_any (P : Int) (x : Ot.O) (p : Option Addr) (m c : Nat) (w : World) (hm : x.data.length = m) (h : RowAt w p c x.data) :
    Calls Try.prog 13 #[.int .i64 P, .agg (ocells x (.slice p m c)).toArray] w fun e w' => e = .returned (.bool (Ad.right P x)) ∧ Below w.heap.size w w' := by
  obtain ⟨ty, D⟩ := x
  simp only at hm h
  by_cases hk : Ad.known P ty = true
  · rcases Ad.known_cases P hk with ⟨rfl, rfl⟩ | ⟨rfl, ht⟩
    · have HK := Lib.hid hk
      clear hk
      have b1 := below_one w (.cells #[.int .i64 1, .slice p m c] 24)
      have hg := heap_alloc_new w (.cells #[.int .i64 1, .slice p m c] 24)
      have k0 : (w.alloc (.cells #[.int .i64 1, .slice p m c] 24)).cell? ⟨w.heap.size, 0, none⟩ = some (.int .i64 1) := cell_of_row _ _ _ _ _ _ hg
      have k1 : (w.alloc (.cells #[.int .i64 1, .slice p m c] 24)).cell? ⟨w.heap.size, 1, none⟩ = some (.slice p m c) := cell_of_row _ _ _ _ _ _ hg
      have BB := Lib.hid b1
      have C0 := Lib.hid (refKnown_any 32855 1 (w.alloc (.cells #[.int .i64 1, .slice p m c] 24)))
      simp only [ocells]
      have HR := Lib.hid (h.next b1)
      have HM := Lib.hid hm
      have hmx := h.max
      have hle := h.le
      rw [hm] at hle
      obtain ⟨Z, hZ⟩ : ∃ Z, Ad.right 32855 ⟨1, D⟩ = Z := ⟨_, rfl⟩
      rw [hZ]
      have HZ := Lib.hid hZ.symm
      clear b1 hg h hm hZ
      unfold maxLen at hmx
      go_enter Try.func13, Try.ntmps13
      go_wp2_with fail
      refine C0.out.mono ?_
      rintro e w1 ⟨rfl, h1⟩
      rw [HK.out, h1]
      clear h1 C0 HK
      go_wp2
      generalize w.alloc (.cells #[.int .i64 1, .slice p m c] 24) = W at *
      go_loopw [5, 6] (fun s i wr => ∃ k : Nat, i = .int .i64 (k : Int) ∧ k ≤ m ∧ s = .bool ((D.take k).any (fun b => decide (b ≠ 0))) ∧ wr = W) (fun _ i _ => m - (intOf i).toNat)
      case atStart => exact ⟨0, rfl, Nat.zero_le _, by rw [List.take_zero]; rfl, rfl⟩
      case round =>
        obtain ⟨k, rfl, hk, rfl, hw⟩ := hrel
        rw [← hw] at k0 k1 BB HR
        by_cases hlt : (k : Int) < (m : Int)
        · have hkD : k < D.length := by rw [HM.out]; omega
          obtain ⟨b, off, rfl⟩ := HR.out.some (by omega)
          have q0 := HR.out.cell _ rfl k (.int .u8 (D[k].toNat : Int)) (by simp [Lib.byteCells, hkD])
          rw [Go.WideShapes.add_plain] at q0
          have HS := Lib.hid (any_step D k hkD)
          have HN := Lib.hid (byte_neq D[k])
          have HW := Lib.hid hw
          generalize D[k] = z at *
          generalize (D.take k).any (fun b => decide (b ≠ 0)) = s at *
          clear hw hkD
          cases s with
          | true =>
            go_wp2
            go_roundw
            case rel => exact ⟨k + 1, by simp, by omega, by rw [HS.out]; rfl, HW.out⟩
            case measure => simp [intOf]; omega
          | false =>
            go_wp2
            go_roundw
            case rel => exact ⟨k + 1, by simp, by omega, by rw [HS.out, HN.out]; rfl, HW.out⟩
            case measure => simp [intOf]; omega
        · have hall : D.take k = D := List.take_of_length_le (by rw [HM.out]; omega)
          rw [hall]
          by_cases h8 : m = 8
          · subst h8
            obtain ⟨y, rfl⟩ := Ad.eight_of HM.out
            have hz : Z = decide (y ≠ Ad.o8) := HZ.out.trans rfl
            rw [Ad.any_eight, ← hz]
            clear hw hall HZ HM hz
            go_wp2
            go_ret
            exact ⟨rfl, BB.out⟩
          · have hz : Z = false := by
              refine HZ.out.trans ?_
              show (decide (D.length = 8) && _) = false
              rw [decide_eq_false (by rw [HM.out]; exact h8)]; rfl
            subst hz
            have i8 : ((m : Int) == 8) = false := by simp; omega
            generalize D.any (fun b => decide (b ≠ 0)) = s at *
            clear hw hall HZ HM h8
            go_wp2
            go_ret
            exact ⟨rfl, BB.out⟩
    · have HK := Lib.hid hk
      by_cases h4 : m = 4
      · subst h4
        obtain ⟨y, rfl⟩ := Ad.four_of hm
        by_cases h2 : ty = 2
        · subst h2
          rw [show Ad.right 32801 ⟨2, y.list⟩ = decide (y.a = 0 ∧ y.b = 45 ∧ y.d.toNat < 2) from rfl]
          obtain ⟨b, off, rfl⟩ := h.some (by show 0 < 4; omega)
          clear ht hk
          have b1 := below_one w (.cells #[.int .i64 2, .slice (some ⟨b, off, none⟩) 4 c] 24)
          have hg := heap_alloc_new w (.cells #[.int .i64 2, .slice (some ⟨b, off, none⟩) 4 c] 24)
          have k0 : (w.alloc (.cells #[.int .i64 2, .slice (some ⟨b, off, none⟩) 4 c] 24)).cell? ⟨w.heap.size, 0, none⟩ = some (.int .i64 2) := cell_of_row _ _ _ _ _ _ hg
          have k1 : (w.alloc (.cells #[.int .i64 2, .slice (some ⟨b, off, none⟩) 4 c] 24)).cell? ⟨w.heap.size, 1, none⟩ = some (.slice (some ⟨b, off, none⟩) 4 c) := cell_of_row _ _ _ _ _ _ hg
          have BB := Lib.hid b1
          have C0 := Lib.hid (refKnown_any 32801 2 (w.alloc (.cells #[.int .i64 2, .slice (some ⟨b, off, none⟩) 4 c] 24)))
          simp only [ocells]
          have hr := h.next b1
          have q0 : (w.alloc (.cells #[.int .i64 2, .slice (some ⟨b, off, none⟩) 4 c] 24)).cell? ⟨b, off, none⟩ = some (.int .u8 (y.a.toNat : Int)) := hr.cell _ rfl 0 _ rfl
          have q1 : (w.alloc (.cells #[.int .i64 2, .slice (some ⟨b, off, none⟩) 4 c] 24)).cell? ⟨b, off + 1, none⟩ = some (.int .u8 (y.b.toNat : Int)) := hr.cell _ rfl 1 _ rfl
          have q3 : (w.alloc (.cells #[.int .i64 2, .slice (some ⟨b, off, none⟩) 4 c] 24)).cell? ⟨b, off + 3, none⟩ = some (.int .u8 (y.d.toNat : Int)) := hr.cell _ rfl 3 _ rfl
          have e0 : ((y.a.toNat : Int) == 0) = decide (y.a = 0) := eq_byte y.a 0
          have e1 : ((y.b.toNat : Int) == 45) = decide (y.b = 45) := eq_byte y.b 45
          have e3 : decide ((y.d.toNat : Int) < 2) = decide (y.d.toNat < 2) := decide_eq_decide.2 (by omega)
          clear b1 hg h hm hr
          by_cases ha : y.a = 0
          · rw [decide_eq_true ha] at e0
            by_cases hb : y.b = 45
            · rw [decide_eq_true hb] at e1
              rw [show decide (y.a = 0 ∧ y.b = 45 ∧ y.d.toNat < 2) = decide (y.d.toNat < 2) from decide_eq_decide.2 (by simp [ha, hb]), ← e3]
              clear ha hb e3
              go_enter Try.func13, Try.ntmps13
              go_wp2_with fail
              refine C0.out.mono ?_
              rintro e w1 ⟨rfl, h1⟩
              rw [HK.out, h1]
              clear h1 C0 HK
              go_wp2
              go_ret
              exact ⟨rfl, BB.out⟩
            · rw [decide_eq_false hb] at e1
              rw [decide_eq_false (fun e => hb e.2.1)]
              clear ha hb e3
              go_enter Try.func13, Try.ntmps13
              go_wp2_with fail
              refine C0.out.mono ?_
              rintro e w1 ⟨rfl, h1⟩
              rw [HK.out, h1]
              clear h1 C0 HK
              go_wp2
              go_ret
              exact ⟨rfl, BB.out⟩
          · rw [decide_eq_false ha] at e0
            rw [decide_eq_false (fun e => ha e.1)]
            clear ha e3
            go_enter Try.func13, Try.ntmps13
            go_wp2_with fail
            refine C0.out.mono ?_
            rintro e w1 ⟨rfl, h1⟩
            rw [HK.out, h1]
            clear h1 C0 HK
            go_wp2
            go_ret
            exact ⟨rfl, BB.out⟩
        · rw [show Ad.right 32801 ⟨ty, y.list⟩ = true by
            show (Ad.known 32801 ty && Ad.fits ty y.list) = true
            rw [hk, Ad.fits, if_neg (by omega), if_neg h2]; rfl]
          have i2 : (ty != 2) = true := by simpa using h2
          clear ht hk h h2 hm
          have b1 := below_one w (.cells #[.int .i64 ty, .slice p 4 c] 24)
          have hg := heap_alloc_new w (.cells #[.int .i64 ty, .slice p 4 c] 24)
          have k0 : (w.alloc (.cells #[.int .i64 ty, .slice p 4 c] 24)).cell? ⟨w.heap.size, 0, none⟩ = some (.int .i64 ty) := cell_of_row _ _ _ _ _ _ hg
          have k1 : (w.alloc (.cells #[.int .i64 ty, .slice p 4 c] 24)).cell? ⟨w.heap.size, 1, none⟩ = some (.slice p 4 c) := cell_of_row _ _ _ _ _ _ hg
          have BB := Lib.hid b1
          have C0 := Lib.hid (refKnown_any 32801 ty (w.alloc (.cells #[.int .i64 ty, .slice p 4 c] 24)))
          simp only [ocells]
          clear b1 hg
          go_enter Try.func13, Try.ntmps13
          go_wp2_with fail
          refine C0.out.mono ?_
          rintro e w1 ⟨rfl, h1⟩
          rw [HK.out, h1]
          clear h1 C0 HK
          go_wp2
          go_ret
          exact ⟨rfl, BB.out⟩
      · rw [show Ad.right 32801 ⟨ty, D⟩ = false by
          show (Ad.known 32801 ty && Ad.fits ty D) = false
          rw [hk, Ad.fits, if_neg (by omega), decide_eq_false (show ¬ D.length = 4 by omega)]
          split <;> rfl]
        have i4 : ((m : Int) != 4) = true := by simp; omega
        clear ht hk h hm h4
        have b1 := below_one w (.cells #[.int .i64 ty, .slice p m c] 24)
        have hg := heap_alloc_new w (.cells #[.int .i64 ty, .slice p m c] 24)
        have k0 : (w.alloc (.cells #[.int .i64 ty, .slice p m c] 24)).cell? ⟨w.heap.size, 0, none⟩ = some (.int .i64 ty) := cell_of_row _ _ _ _ _ _ hg
        have k1 : (w.alloc (.cells #[.int .i64 ty, .slice p m c] 24)).cell? ⟨w.heap.size, 1, none⟩ = some (.slice p m c) := cell_of_row _ _ _ _ _ _ hg
        have BB := Lib.hid b1
        have C0 := Lib.hid (refKnown_any 32801 ty (w.alloc (.cells #[.int .i64 ty, .slice p m c] 24)))
        simp only [ocells]
        clear b1 hg
        go_enter Try.func13, Try.ntmps13
        go_wp2_with fail
        refine C0.out.mono ?_
        rintro e w1 ⟨rfl, h1⟩
        rw [HK.out, h1]
        clear h1 C0 HK
        go_wp2
        go_ret
        exact ⟨rfl, BB.out⟩
  · rw [Bool.not_eq_true] at hk
    rw [show Ad.right P ⟨ty, D⟩ = false by show (Ad.known P ty && _) = false; rw [hk]; rfl]
    have HK := Lib.hid hk
    clear hk h hm
    have b1 := below_one w (.cells #[.int .i64 ty, .slice p m c] 24)
    have hg := heap_alloc_new w (.cells #[.int .i64 ty, .slice p m c] 24)
    have k0 : (w.alloc (.cells #[.int .i64 ty, .slice p m c] 24)).cell? ⟨w.heap.size, 0, none⟩ = some (.int .i64 ty) := cell_of_row _ _ _ _ _ _ hg
    have k1 : (w.alloc (.cells #[.int .i64 ty, .slice p m c] 24)).cell? ⟨w.heap.size, 1, none⟩ = some (.slice p m c) := cell_of_row _ _ _ _ _ _ hg
    have BB := Lib.hid b1
    have C0 := Lib.hid (refKnown_any P ty (w.alloc (.cells #[.int .i64 ty, .slice p m c] 24)))
    simp only [ocells]
    clear b1 hg
    go_enter Try.func13, Try.ntmps13
    go_wp2_with fail
    refine C0.out.mono ?_
    rintro e w1 ⟨rfl, h1⟩
    rw [HK.out, h1]
    clear h1 C0 HK
    go_wp2
    go_ret
    exact ⟨rfl, BB.out⟩
end Go.Proofs.Ytacnlancncmpmaa
