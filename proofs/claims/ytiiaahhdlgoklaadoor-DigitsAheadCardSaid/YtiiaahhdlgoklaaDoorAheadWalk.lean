/- DigitsAhead: the walk. -/
import Derived.Test.YtiiaahhdlgoklaaDoorRd
import Derived.Test.YtiiaahhdlgoklaaDoorPlainf
import Derived.Deep.RegionWith
import Derived.Deep.DeepCutAuto
namespace Go.Proofs.YtiiaahhdlgoklaaDoor
open Go.RowKit Go.Sort

theorem readDec_l (l : List UInt8) (hl : l.length ≤ 1000) (w : World) :
    Calls Tryd.prog 15 #[.string ⟨l.toArray⟩] w fun e w' => e = .returned (.tuple #[.int .u64 (((Dg.rdN 10 l).getD 0 : Nat) : Int), .bool (Dg.rdN 10 l).isSome]) ∧ Below w.heap.size w w' := by
  have h := readDec_any ⟨l.toArray⟩ w (by rw [size_mk]; unfold maxLen; omega)
  rw [data_mk] at h
  exact h
theorem readHex_l (l : List UInt8) (hl : l.length ≤ 1000) (w : World) :
    Calls Tryd.prog 17 #[.string ⟨l.toArray⟩] w fun e w' => e = .returned (.tuple #[.int .u64 (((Dg.rdN 16 l).getD 0 : Nat) : Int), .bool (Dg.rdN 16 l).isSome]) ∧ Below w.heap.size w w' := by
  have h := readHex_any ⟨l.toArray⟩ w (by rw [size_mk]; unfold maxLen; omega)
  rw [data_mk] at h
  exact h

theorem readDec_behind (n : Nat) (c : UInt8) (hn : n < 1000) (w : World) :
    Calls Tryd.prog 15 #[.string (⟨(Dg.putB 10 n).toArray⟩ ++ ⟨#[c]⟩)] w fun e w' => ∃ q, e = .returned (.tuple #[.int .u64 q, .bool (Dg.okb 10 c && decide (n ≠ 0))]) ∧ Below w.heap.size w w' := by
  rw [cat_snoc]
  refine (readDec_l (Dg.putB 10 n ++ [c]) (by have := Dg.putB_len20 10 n (by omega) (by omega); rw [List.length_append, List.length_singleton]; omega) w).mono ?_
  rintro e w' ⟨h1, h2⟩
  rw [Dg.rdN_behind 10 n c (by omega) (by omega) hn] at h1
  exact ⟨_, h1, h2⟩
theorem readHex_behind (n : Nat) (c : UInt8) (hn : n < 1000) (w : World) :
    Calls Tryd.prog 17 #[.string (⟨(Dg.putB 16 n).toArray⟩ ++ ⟨#[c]⟩)] w fun e w' => ∃ q, e = .returned (.tuple #[.int .u64 q, .bool (Dg.okb 16 c && decide (n ≠ 0))]) ∧ Below w.heap.size w w' := by
  rw [cat_snoc]
  refine (readHex_l (Dg.putB 16 n ++ [c]) (by have := Dg.putB_len20 16 n (by omega) (by omega); rw [List.length_append, List.length_singleton]; omega) w).mono ?_
  rintro e w' ⟨h1, h2⟩
  rw [Dg.rdN_behind 16 n c (by omega) (by omega) hn] at h1
  exact ⟨_, h1, h2⟩
theorem readBytes_great (c : UInt8) (w : World) :
    Calls Tryd.prog 18 #[.string (⟨#[102, 102]⟩ ++ ⟨#[70]⟩ ++ ⟨#[c]⟩)] w fun e w' => e = .returned (.tuple #[.slice none 0 0, .bool false]) ∧ Below w.heap.size w w' := by
  have e : (⟨#[102, 102]⟩ ++ ⟨#[70]⟩ ++ ⟨#[c]⟩ : ByteArray) = ⟨[102, 102, 70, c].toArray⟩ := by
    apply ByteArray.ext; simp
  rw [e]
  refine (readBytes_any ⟨[102, 102, 70, c].toArray⟩ w (by rw [size_mk]; simp)).mono ?_
  have h0 : Dg.unhex [102, 102, 70, c] = none := Dg.unhex_bad _ 70 (by simp) (by decide)
  rintro e w' ⟨hb, ⟨h1, h2⟩ | ⟨v, ys, h1, _, h3, h4⟩⟩
  · exact ⟨h2, hb⟩
  · rw [data_mk, h0] at h1; cases h1

set_option maxHeartbeats 4000000 in
set_option maxRecDepth 100000 in
theorem ahead_walk (n : Nat) (c : UInt8) (w : World) (hn : n < 18446744073709551616) (ht : Tabs w) :
    Calls Tryd.prog 6 #[.int .u64 (n : Int), .int .u8 (c.toNat : Int)] w fun e w' => e = .returned (.bool true) ∧ Below w.heap.size w w' := by
  have HT := Lib.hid ht
  clear ht
  obtain ⟨X, hX⟩ : ∃ X : ByteArray, X = ⟨(Dg.putB 10 n).toArray⟩ := ⟨_, rfl⟩
  obtain ⟨X6, hX6⟩ : ∃ X : ByteArray, X = ⟨(Dg.putB 16 n).toArray⟩ := ⟨_, rfl⟩
  have z1 : X.size ≤ 20 := by rw [hX, size_mk]; exact Dg.putB_len20 10 n (by omega) hn
  have z3 : X6.size ≤ 20 := by rw [hX6, size_mk]; exact Dg.putB_len20 16 n (by omega) hn
  have dX : Hid (∀ W, Tabs W → Calls Tryd.prog 10 #[.int .u64 (n : Int)] W fun e w' => e = .returned (.string X) ∧ Below W.heap.size W w') := fun W t => by rw [hX]; exact dec_any n hn W t
  have eX : Hid (∀ W, Tabs W → Calls Tryd.prog 12 #[.int .u64 (n : Int)] W fun e w' => e = .returned (.string X6) ∧ Below W.heap.size W w') := fun W t => by rw [hX6]; exact hex_any n hn W t
  have rX : Hid (∀ W, Calls Tryd.prog 15 #[.string (⟨#[48]⟩ ++ X)] W fun e w' => e = .returned (.tuple #[.int .u64 0, .bool false]) ∧ Below W.heap.size W w') := fun W => by
    have h := readDec_l (48 :: Dg.putB 10 n) (by have := Dg.putB_len20 10 n (by omega) hn; rw [List.length_cons]; omega) W
    rw [Dg.rdN_ahead, ← cat_cons, ← hX] at h
    exact h
  have rX6 : Hid (∀ W, Calls Tryd.prog 17 #[.string (⟨#[48]⟩ ++ X6)] W fun e w' => e = .returned (.tuple #[.int .u64 0, .bool false]) ∧ Below W.heap.size W w') := fun W => by
    have h := readHex_l (48 :: Dg.putB 16 n) (by have := Dg.putB_len20 16 n (by omega) hn; rw [List.length_cons]; omega) W
    rw [Dg.rdN_ahead, ← cat_cons, ← hX6] at h
    exact h
  clear hX hX6
  have hm0 : (0 : Int) ≤ (n : Int) % 1000 := by omega
  have hm1 : (n : Int) % 1000 < 1000 := by omega
  have hnm : n % 1000 < 1000 := by omega
  have cM : ((n % 1000 : Nat) : Int) = (n : Int) % 1000 := by omega
  obtain ⟨Y, hY⟩ : ∃ Y : ByteArray, Y = ⟨(Dg.putB 10 (n % 1000)).toArray⟩ := ⟨_, rfl⟩
  obtain ⟨D, hD⟩ : ∃ D, D = (Dg.okb 10 c && decide (n % 1000 ≠ 0)) := ⟨_, rfl⟩
  have zY : Y.size ≤ 20 := by rw [hY, size_mk]; exact Dg.putB_len20 10 (n % 1000) (by omega) (by omega)
  have dY : Hid (∀ W, Tabs W → Calls Tryd.prog 10 #[.int .u64 ((n : Int) % 1000)] W fun e w' => e = .returned (.string Y) ∧ Below W.heap.size W w') := fun W t => by rw [hY, ← cM]; exact dec_any (n % 1000) (by omega) W t
  have rY : Hid (∀ W, Calls Tryd.prog 15 #[.string (Y ++ ⟨#[c]⟩)] W fun e w' => ∃ q, e = .returned (.tuple #[.int .u64 q, .bool D]) ∧ Below W.heap.size W w') := fun W => by
    rw [hY, hD]; exact readDec_behind (n % 1000) c hnm W
  obtain ⟨Y6, hY6⟩ : ∃ Y : ByteArray, Y = ⟨(Dg.putB 16 (n % 1000)).toArray⟩ := ⟨_, rfl⟩
  obtain ⟨D6, hD6⟩ : ∃ D, D = (Dg.okb 16 c && decide (n % 1000 ≠ 0)) := ⟨_, rfl⟩
  have zY6 : Y6.size ≤ 20 := by rw [hY6, size_mk]; exact Dg.putB_len20 16 (n % 1000) (by omega) (by omega)
  have eY : Hid (∀ W, Tabs W → Calls Tryd.prog 12 #[.int .u64 ((n : Int) % 1000)] W fun e w' => e = .returned (.string Y6) ∧ Below W.heap.size W w') := fun W t => by rw [hY6, ← cM]; exact hex_any (n % 1000) (by omega) W t
  have rY6 : Hid (∀ W, Calls Tryd.prog 17 #[.string (Y6 ++ ⟨#[c]⟩)] W fun e w' => ∃ q, e = .returned (.tuple #[.int .u64 q, .bool D6]) ∧ Below W.heap.size W w') := fun W => by
    rw [hY6, hD6]; exact readHex_behind (n % 1000) c hnm W
  obtain ⟨G, hG⟩ : ∃ G : ByteArray, G = ⟨#[102, 102]⟩ := ⟨_, rfl⟩
  have zG : G.size ≤ 20 := by rw [hG]; decide
  have eG : Hid (∀ W, Tabs W → Calls Tryd.prog 12 #[.int .u64 255] W fun e w' => e = .returned (.string G) ∧ Below W.heap.size W w') := fun W t => by rw [hG]; exact aw_hex255 W t
  have rG : Hid (∀ W, Calls Tryd.prog 18 #[.string (G ++ ⟨#[70]⟩ ++ ⟨#[c]⟩)] W fun e w' => e = .returned (.tuple #[.slice none 0 0, .bool false]) ∧ Below W.heap.size W w') := fun W => by
    rw [hG]; exact readBytes_great c W
  have HD := Lib.hid hD
  have HD6 := Lib.hid hD6
  clear hY hD cM hY6 hD6 hG
  have hcv : ∀ (g : Nat) (W : World), W.cell? ⟨g, 0, none⟩ = some (.int .u8 (c.toNat : Int)) → (convert 23 9 (.slice (some ⟨g, 0, none⟩) 1 1)).run Tryd.prog W = .ok (.string ⟨#[c]⟩) W := fun g W h =>
    run_convert_bytes_back (P := Tryd.prog) W 23 9 5 ⟨g, 0, none⟩ 1 [c] Tryd.underlying23 Tryd.underlying5 Tryd.underlying9 (fun j hj => by
      rw [List.length_singleton] at hj
      obtain rfl : j = 0 := by omega
      rw [Lib.add_plain]
      exact h)
  go_enter Tryd.func6, Tryd.ntmps6
  go_wp2_with fail
  refine (awake_any _ HT.out).mono ?_
  rintro e w1 ⟨rfl, b1⟩
  have T1 := Lib.hid (HT.out.next b1)
  go_wp2_with fail
  refine (dX.out _ T1.out).mono ?_
  rintro e w2 ⟨rfl, b2⟩
  have T2 := Lib.hid (T1.out.next b2)
  go_wp2_with fail
  refine (rX.out _).mono ?_
  rintro e w3 ⟨rfl, b3⟩
  have T3 := Lib.hid (T2.out.next b3)
  go_wp2_with fail
  refine (eX.out _ T3.out).mono ?_
  rintro e w4 ⟨rfl, b4⟩
  have T4 := Lib.hid (T3.out.next b4)
  go_wp2_with fail
  refine (rX6.out _).mono ?_
  rintro e w5 ⟨rfl, b5⟩
  have B5 := Below.chain (Below.chain (Below.chain (Below.chain b1 b2) b3) b4) b5
  have T5 := Lib.hid (T4.out.next b5)
  clear b1 b2 b3 b4 b5 T1 T2 T3 T4 dX eX rX rX6
  go_upto_region 5 with fail
  go_cut [9, 10] (fun q d wx => (∃ z, q = .int .u64 z) ∧ d = .bool D ∧ Below w.heap.size w wx)
  case first =>
    go_region_with (first
      | (go_at_call 10; refine (dY.out _ ?_).mono ?_; (first | exact T5.out.next ((Below.refl _ _).drew) | exact T5.out.next (((Below.refl _ _).alloc (Nat.le_refl _) _).drew)); rintro e x1 ⟨rfl, y1⟩; try (have hcx : x1.cell? ⟨w5.heap.size, 0, none⟩ = some (.int .u8 (c.toNat : Int)) := by (rw [y1.cell (p := ⟨w5.heap.size, 0, none⟩) (by simp)]; simp)))
      | (go_at_call 15; refine (rY.out _).mono ?_; rintro e x2 ⟨q, rfl, y2⟩))
    all_goals
      have hB : Below w.heap.size w x2 := by
        first
          | exact Below.chain (Below.chain (Below.chain B5.drew y1) ((Below.refl _ _).alloc (Nat.le_refl _) _)) y2
          | exact Below.chain (Below.chain ((B5.alloc B5.size _).drew) y1) y2
      go_wp2_with fail
      go_meet
      case rel => exact ⟨⟨_, rfl⟩, rfl, hB⟩
  case rest =>
    obtain ⟨⟨z, rfl⟩, rfl, hB⟩ := hcut
    have TA := Lib.hid (HT.out.next hB)
    clear T5 B5 dY rY
    obtain ⟨wa, hwa⟩ : ∃ x, x = wc := ⟨_, rfl⟩
    rw [← hwa] at hB TA ⊢
    clear hwa
    go_upto_region 6 with fail
    go_cut [11, 12] (fun q d wx => (∃ z, q = .int .u64 z) ∧ d = .bool D6 ∧ Below w.heap.size w wx)
    case first =>
      go_region_with (first
        | (go_at_call 12; refine (eY.out _ ?_).mono ?_; (first | exact TA.out.next ((Below.refl _ _).drew) | exact TA.out.next (((Below.refl _ _).alloc (Nat.le_refl _) _).drew)); rintro e x1 ⟨rfl, y1⟩; try (have hcx : x1.cell? ⟨wa.heap.size, 0, none⟩ = some (.int .u8 (c.toNat : Int)) := by (rw [y1.cell (p := ⟨wa.heap.size, 0, none⟩) (by simp)]; simp)))
        | (go_at_call 17; refine (rY6.out _).mono ?_; rintro e x2 ⟨q, rfl, y2⟩))
      all_goals
        have hB2 : Below w.heap.size w x2 := by
          first
            | exact Below.chain (Below.chain (Below.chain hB.drew y1) ((Below.refl _ _).alloc (Nat.le_refl _) _)) y2
            | exact Below.chain (Below.chain ((hB.alloc hB.size _).drew) y1) y2
        go_wp2_with fail
        go_meet
        case rel => exact ⟨⟨_, rfl⟩, rfl, hB2⟩
    case rest =>
      obtain ⟨⟨z6, rfl⟩, rfl, hB3⟩ := hcut
      have TB := Lib.hid (HT.out.next hB3)
      clear TA hB eY rY6
      obtain ⟨wb, hwb⟩ : ∃ x, x = wc := ⟨_, rfl⟩
      rw [← hwb] at hB3 TB ⊢
      clear hwb
      go_upto_region 7 with fail
      go_cut [13, 14] (fun _ d wx => d = .bool false ∧ Below w.heap.size w wx)
      case first =>
        go_region_with (first
          | (go_at_call 12; refine (eG.out _ ?_).mono ?_; (first | exact TB.out.next ((Below.refl _ _).drew) | exact TB.out.next (((Below.refl _ _).alloc (Nat.le_refl _) _).drew)); rintro e x1 ⟨rfl, y1⟩; try (have hcx : x1.cell? ⟨wb.heap.size, 0, none⟩ = some (.int .u8 (c.toNat : Int)) := by (rw [y1.cell (p := ⟨wb.heap.size, 0, none⟩) (by simp)]; simp)))
          | (go_at_call 18; refine (rG.out _).mono ?_; rintro e x2 ⟨rfl, y2⟩))
        all_goals
          have hB2 : Below w.heap.size w x2 := by
            first
              | exact Below.chain (Below.chain (Below.chain hB3.drew y1) ((Below.refl _ _).alloc (Nat.le_refl _) _)) y2
              | exact Below.chain (Below.chain ((hB3.alloc hB3.size _).drew) y1) y2
          go_wp2_with fail
          go_meet
          case rel => exact ⟨rfl, hB2⟩
      case rest =>
        obtain ⟨rfl, hB4⟩ := hcut
        clear TB hB3 eG rG HT hcv
        have cl : (c.toNat : Int) ≤ 255 := by have := c.toNat_lt; omega
        rw [Dg.okb10] at HD
        rw [Dg.okb16] at HD6
        by_cases hz : n % 1000 = 0
        · have q0 : ((n : Int) % 1000 == 0) = true := by rw [beq_iff_eq]; omega
          obtain rfl : D = false := by rw [HD.out, hz]; simp
          obtain rfl : D6 = false := by rw [HD6.out, hz]; simp
          clear HD HD6 hz
          by_cases h48 : (48 : Int) ≤ (c.toNat : Int)
          · by_cases h57 : (c.toNat : Int) ≤ 57
            · go_wp2
              go_ret
              exact ⟨rfl, hB4⟩
            · by_cases h97 : (97 : Int) ≤ (c.toNat : Int)
              · by_cases h102 : (c.toNat : Int) ≤ 102
                · go_wp2
                  go_ret
                  exact ⟨rfl, hB4⟩
                · go_wp2
                  go_ret
                  exact ⟨rfl, hB4⟩
              · go_wp2
                go_ret
                exact ⟨rfl, hB4⟩
          · have h97 : ¬ (97 : Int) ≤ (c.toNat : Int) := by omega
            go_wp2
            go_ret
            exact ⟨rfl, hB4⟩
        · have q0 : ((n : Int) % 1000 == 0) = false := by rw [beq_eq_false_iff_ne]; omega
          by_cases h48 : (48 : Int) ≤ (c.toNat : Int)
          · by_cases h57 : (c.toNat : Int) ≤ 57
            · obtain rfl : D = true := by rw [HD.out]; simp [hz]; omega
              obtain rfl : D6 = true := by rw [HD6.out]; simp [hz]; omega
              clear HD HD6 hz
              go_wp2
              go_ret
              exact ⟨rfl, hB4⟩
            · obtain rfl : D = false := by rw [HD.out]; simp; omega
              by_cases h97 : (97 : Int) ≤ (c.toNat : Int)
              · by_cases h102 : (c.toNat : Int) ≤ 102
                · obtain rfl : D6 = true := by rw [HD6.out]; simp [hz]; omega
                  clear HD HD6 hz
                  go_wp2
                  go_ret
                  exact ⟨rfl, hB4⟩
                · obtain rfl : D6 = false := by rw [HD6.out]; simp; omega
                  clear HD HD6 hz
                  go_wp2
                  go_ret
                  exact ⟨rfl, hB4⟩
              · obtain rfl : D6 = false := by rw [HD6.out]; simp; omega
                clear HD HD6 hz
                go_wp2
                go_ret
                exact ⟨rfl, hB4⟩
          · have h97 : ¬ (97 : Int) ≤ (c.toNat : Int) := by omega
            obtain rfl : D = false := by rw [HD.out]; simp; omega
            obtain rfl : D6 = false := by rw [HD6.out]; simp; omega
            clear HD HD6 hz
            go_wp2
            go_ret
            exact ⟨rfl, hB4⟩
end Go.Proofs.YtiiaahhdlgoklaaDoor
