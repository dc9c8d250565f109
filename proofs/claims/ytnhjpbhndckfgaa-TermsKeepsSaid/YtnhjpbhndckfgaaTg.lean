/- Contracts of the document's Login and Read. -/
import Derived.Test.YtnhjpbhndckfgaaTf
import Derived.Test.YtnhjpbhndckfgaaOg
namespace Go.Proofs.Ytnhjpbhndckfgaa
open Go.RowKit Go.Maps S2 S12

set_option maxRecDepth 100000 in
set_option maxHeartbeats 1000000 in
theorem refLogin_any (a : Option Addr) (n cap : Nat) (L : List Ot.O) (w : World) (hL : L.length = n) (hn : n ≤ 1000000) (h : OptsAt w a L) :
    Calls Try.prog 18 #[.slice a n cap] w fun e w' => e = .returned (.int .i64 (Tm.login L : Nat)) ∧ Below w.heap.size w w' := by
  obtain ⟨Z, hZ⟩ : ∃ Z, Tm.login L = Z := ⟨_, rfl⟩
  rw [hZ]
  have HZ := Lib.hid hZ.symm
  have H := Lib.hid h
  have HL := Lib.hid hL
  clear h hL hZ
  go_enter Try.func18, Try.ntmps18
  go_wp2
  go_loopw [3] (fun i wr => ∃ k : Nat, i = .int .i64 (k : Int) ∧ k ≤ n ∧ Hid (∀ x ∈ L.take k, ¬ (x.ty = 3 ∧ Tm.asked x.data ≠ 0)) ∧ Below w.heap.size w wr) (fun i _ => n - (intOf i).toNat)
  case atStart => exact ⟨0, rfl, Nat.zero_le _, fun x hx => by simp at hx, Below.refl _ _⟩
  case round =>
    obtain ⟨k, rfl, hk, HP, hbw⟩ := hrel
    by_cases hlt : (k : Int) < (n : Int)
    · have hkn : k < n := by omega
      have hkL : k < L.length := by rw [HL.out]; omega
      obtain ⟨b, off, q, d, rfl, r1, hb1⟩ := H.out.at k hkL
      have HN := Lib.hid (Tm.notyet hkL HP.out)
      have HAT := Lib.hid (Tm.login_at L k hkL HP.out)
      clear HP
      generalize L[k] = r at *
      obtain ⟨m, hm⟩ : ∃ m, r.data.length = m := ⟨_, rfl⟩
      have r2 := r1.next hb1 hbw
      have k0 : wr.cell? ⟨b, off + k * 2, none⟩ = some (.int .i64 r.ty) := r2.ty
      have k1 : wr.cell? ⟨b, off + k * 2 + 1, none⟩ = some (.slice q m d) := by rw [← hm]; exact r2.data
      by_cases h3 : r.ty = 3
      · have C1 := Lib.hid (refRight_any r q m d wr hm r2.row)
        rw [h3] at HN HAT k0
        simp only [ocells, h3] at C1
        have hr3 : Tm.right r = decide (Tm.asked r.data ≠ 0) := by
          rw [show Tm.right r = Tm.good r.ty r.data from rfl, h3]; rfl
        by_cases hq : Tm.asked r.data = 0
        · have HN2 := Lib.hid (HN.out (fun e => e.2 hq))
          rw [hr3, decide_eq_false (fun e => e hq)] at C1
          have B2 := Lib.hid hbw
          clear HN HAT hq hr3 r2 r1 hm hbw
          go_wp2_with (refine C1.out.mono ?_; rintro e w5 ⟨rfl, b5⟩)
          go_roundw
          case rel => exact ⟨k + 1, by simp, by omega, HN2.out, Below.chain B2.out b5⟩
          case measure => simp [intOf]; omega
        · have hz := HZ.out.trans (HAT.out rfl hq)
          rw [hr3, decide_eq_true hq] at C1
          have C2 := Lib.hid (fun W (hB : Below w.heap.size w W) => asks_row q m d r.data W hm (r1.next hb1 hB).row hq)
          have HK := Lib.hid (fun W (hB : Below w.heap.size w W) => (r1.next hb1 hB).data)
          rw [hm] at HK
          generalize Tm.asked r.data = v at *
          subst hz
          have B2 := Lib.hid hbw
          clear HN HAT hq HZ hr3 r2 r1 hm hbw
          go_wp2_with (first
            | (go_at_call 13; refine C1.out.mono ?_; rintro e w5 ⟨rfl, b5⟩
               have k5 := HK.out w5 (Below.chain B2.out b5))
            | (go_at_call 29; refine (C2.out w5 (Below.chain B2.out b5)).mono ?_; rintro e w6 ⟨rfl, b6⟩))
          go_ret
          exact ⟨rfl, Below.chain (Below.chain B2.out b5) b6⟩
      · have HN2 := Lib.hid (HN.out (fun e => h3 e.1))
        have e3 : (r.ty == 3) = false := by simpa using h3
        have B2 := Lib.hid hbw
        clear HN HAT h3 r2 r1 hm hbw
        go_wp2
        go_roundw
        case rel => exact ⟨k + 1, by simp, by omega, HN2.out, B2.out⟩
        case measure => simp [intOf]; omega
    · have hall : L.take k = L := List.take_of_length_le (by rw [HL.out]; omega)
      rw [hall] at HP
      have hZ := HZ.out.trans (Tm.login_none L HP.out)
      subst hZ
      have B2 := Lib.hid hbw
      clear hall HZ HP hbw
      go_wp2
      go_ret
      exact ⟨rfl, B2.out⟩
end Go.Proofs.Ytnhjpbhndckfgaa
