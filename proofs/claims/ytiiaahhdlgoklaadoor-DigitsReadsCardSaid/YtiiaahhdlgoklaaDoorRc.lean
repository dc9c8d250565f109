/- Contracts of the document's answers: Digit, Get and ReadBytes. -/
import Derived.Test.YtiiaahhdlgoklaaDoorRd
namespace Go.Proofs.YtiiaahhdlgoklaaDoor
open Go.RowKit Go.Sort

/-- A byte's number by a base, or -1. -/
def Dg.dig (b : Nat) (c : UInt8) : Int := if Dg.okb b c = true then (Dg.dvv c : Int) else -1

theorem Dg.okb_sg (b k : Nat) (hk : k < b) (hb : b ≤ 16) : Dg.okb b (Dg.sg k) = true ∧ Dg.dvv (Dg.sg k) = k := by
  have h := Dg.dv_sg k (by omega)
  simp [Dg.okb, Dg.dvv, h, hk]
theorem Dg.okb_no (b : Nat) (c : UInt8) (h : ∀ j, j < b → Dg.sg j ≠ c) : Dg.okb b c = false := by
  unfold Dg.okb
  cases hv : Dg.dv c.toNat with
  | none => rfl
  | some d =>
    simp only [decide_eq_false_iff_not]
    intro hd
    exact h d hd (Dg.sg_dv c d hv)

set_option maxHeartbeats 1000000 in
set_option maxRecDepth 100000 in
theorem refDigit_any (c : UInt8) (b : Nat) (w : World) (hb : b ≤ 16) :
    Calls Tryd.prog 27 #[.int .u8 (c.toNat : Int), .int .i64 (b : Int)] w fun e w' => e = .returned (.int .i64 (Dg.dig b c)) ∧ w' = w := by
  obtain ⟨R, hR⟩ : ∃ R, R = Dg.dig b c := ⟨_, rfl⟩
  rw [← hR]
  have HR := Lib.hid hR
  clear hR
  go_enter Tryd.func27, Tryd.ntmps27
  go_wp2
  go_loop [5] (fun i => ∃ k : Nat, i = .int .i64 (k : Int) ∧ k ≤ b ∧ Hid (∀ j, j < k → Dg.sg j ≠ c)) (fun i => b - (intOf i).toNat)
  case atStart => exact ⟨0, rfl, Nat.zero_le _, fun j h => by omega⟩
  case round =>
    obtain ⟨k, rfl, hk, HN⟩ := hrel
    by_cases hlt : (k : Int) < (b : Int)
    · have g1 : (k : Int) < 16 := by omega
      have g2 := d16 k (by omega)
      by_cases he : Dg.sg k = c
      · have hq : (((Dg.sg k).toNat : Int) == (c.toNat : Int)) = true := by rw [he]; simp
        have HE := Lib.hid he
        clear he
        go_wp2
        go_ret
        have h2 := Dg.okb_sg b k (by omega) hb
        rw [HE.out] at h2
        exact ⟨by rw [HR.out, Dg.dig, if_pos h2.1, h2.2]; rfl, rfl⟩
      · have hq : (((Dg.sg k).toNat : Int) == (c.toNat : Int)) = false := by
          rw [beq_eq_false_iff_ne]; intro e; exact he (UInt8.toNat_inj.1 (by omega))
        have HE := Lib.hid he
        clear he
        go_wp2
        go_round
        case rel => exact ⟨k + 1, by go_num, by omega, fun j hj => by
          rcases Nat.lt_or_ge j k with h | h
          · exact HN.out j h
          · rw [show j = k by omega]; exact HE.out⟩
        case measure => simp [intOf]; omega
    · go_wp2
      go_ret
      have h2 := Dg.okb_no b c (fun j hj => HN.out j (by omega))
      exact ⟨by rw [HR.out, Dg.dig, h2]; rfl, rfl⟩

theorem Dg.wrap_fm (m d b : Nat) : IntKind.u64.wrap (IntKind.u64.wrap ((m : Int) * (b : Int)) + (d : Int)) = (((m * b + d) % 18446744073709551616 : Nat) : Int) := by
  have e : (m : Int) * (b : Int) = ((m * b : Nat) : Int) := by simp
  rw [e, IntKind.wrap_u64, IntKind.wrap_u64]
  omega
theorem Dg.fm_lt : ∀ (b : Nat) (l : List UInt8) (m : Nat), m < 18446744073709551616 → Dg.fm b m l < 18446744073709551616
  | _, [], _, h => h
  | b, c :: t, m, _ => Dg.fm_lt b t _ (Nat.mod_lt _ (by omega))
theorem Dg.rdN_long (b : Nat) (l : List UInt8) (hb : 10 ≤ b) (hb2 : b ≤ 16) (h : 20 < l.length) : Dg.rdN b l = none := by
  cases hr : Dg.rdN b l with
  | none => rfl
  | some v =>
    have h1 := Dg.putB_rdN b l v (by omega) hr
    have h2 := Dg.putB_len20 b v hb (Dg.rdN_lt b l v (by omega) hr)
    rw [h1] at h2
    omega
theorem Dg.rdN_other (b : Nat) (l : List UInt8) (hb : 2 ≤ b) (h : Dg.putB b (Dg.fm b 0 l) ≠ l) : Dg.rdN b l = none := by
  cases hr : Dg.rdN b l with
  | none => rfl
  | some v =>
    have h1 := Dg.putB_rdN b l v hb hr
    rw [← Dg.rdN_fm b l v (by omega) hr] at h1
    exact absurd h1 h
theorem Dg.take_mem (s : ByteArray) (k : Nat) (h : k < s.size) (P : UInt8 → Prop) (h1 : P (s[k]'h)) (h2 : ∀ c ∈ s.data.toList.take k, P c) : ∀ c ∈ s.data.toList.take (k + 1), P c := by
  intro c hc
  rw [List.take_succ_eq_append_getElem (by simpa using h), List.mem_append] at hc
  rcases hc with hc | hc
  · exact h2 c hc
  · simp only [List.mem_singleton] at hc
    subst hc
    exact h1

set_option maxHeartbeats 2000000 in
set_option maxRecDepth 100000 in
theorem get_any (s : ByteArray) (b : Nat) (w : World) (hs : s.size ≤ 100000) (hb1 : 10 ≤ b) (hb2 : b ≤ 16) :
    Calls Tryd.prog 16 #[.string s, .int .u64 (b : Int)] w fun e w' => e = .returned (.tuple #[.int .u64 (((Dg.rdN b s.data.toList).getD 0 : Nat) : Int), .bool (Dg.rdN b s.data.toList).isSome]) ∧ Below w.heap.size w w' := by
  obtain ⟨R, hR⟩ : ∃ R, R = Dg.rdN b s.data.toList := ⟨_, rfl⟩
  rw [← hR]
  have HR := Lib.hid hR
  clear hR
  by_cases h0 : s.size = 0
  · have hq : ((s.size : Int) == 0) = true := by rw [beq_iff_eq]; omega
    have HN : Hid (R = none) := by show _ = _; rw [HR.out, Dg.list_nil s (by omega)]; rfl
    clear h0
    go_enter Tryd.func16, Tryd.ntmps16
    go_wp2
    go_ret2
    exact ⟨by rw [HN.out]; rfl, Below.refl _ _⟩
  · have hq : ((s.size : Int) == 0) = false := by rw [beq_eq_false_iff_ne]; omega
    clear h0
    by_cases h20 : (20 : Int) < (s.size : Int)
    · have HN : Hid (R = none) := by show _ = _; rw [HR.out, Dg.rdN_long b _ hb1 hb2 (by rw [← Lib.size_eq]; omega)]
      go_enter Tryd.func16, Tryd.ntmps16
      go_wp2
      go_ret2
      exact ⟨by rw [HN.out]; rfl, Below.refl _ _⟩
    · have i1 : (10 : Int) ≤ (b : Int) := by omega
      have i2 : (b : Int) ≤ 16 := by omega
      go_enter Tryd.func16, Tryd.ntmps16
      go_wp2
      go_loop [6, 7] (fun uu i => ∃ m pos : Nat, uu = .int .u64 (m : Int) ∧ i = .int .i64 (pos : Int) ∧ m < 18446744073709551616 ∧ pos ≤ s.size ∧ Hid (Dg.fm b m (s.data.toList.drop pos) = Dg.fm b 0 s.data.toList) ∧ Hid (∀ c ∈ s.data.toList.take pos, Dg.okb b c = true)) (fun _ i => s.size - (intOf i).toNat)
      case atStart => exact ⟨0, 0, rfl, rfl, by omega, Nat.zero_le _, rfl, fun c h => by simp at h⟩
      case round =>
        obtain ⟨m, pos, rfl, rfl, hm, hle, HF, HO⟩ := hrel
        by_cases hlt : pos < s.size
        · have Hd := Lib.hid (Dg.drop_at s pos hlt)
          by_cases hk : Dg.okb b (s[pos]'hlt) = true
          · have hdg : Dg.dig b (s[pos]'hlt) = (Dg.dvv (s[pos]'hlt) : Int) := by rw [Dg.dig, if_pos hk]
            have hD : ∀ W, Calls Tryd.prog 27 #[.int .u8 ((s[pos]'hlt).toNat : Int), .int .i64 (b : Int)] W fun e w' => e = .returned (.int .i64 (Dg.dvv (s[pos]'hlt) : Int)) ∧ w' = W := fun W => by rw [← hdg]; exact refDigit_any _ b W hb2
            have HDD := Lib.hid hD
            have Hk := Lib.hid hk
            clear hD hk hdg
            have hd16 := Dg.dvv_lt (s[pos]'hlt)
            have hst : Hid (Dg.fm b ((m * b + Dg.dvv (s[pos]'hlt)) % 18446744073709551616) (s.data.toList.drop (pos + 1)) = Dg.fm b 0 s.data.toList) := by
              show _ = _
              rw [← HF.out, Hd.out]; rfl
            generalize Dg.dvv (s[pos]'hlt) = d at HDD hd16 hst
            have k1 : (d : Int) ≤ 15 := by omega
            go_wp2_with (go_at_call 27; refine (HDD.out _).mono ?_; rintro e w' ⟨rfl, rfl⟩)
            go_round
            case rel => exact ⟨_, pos + 1, by rw [Dg.wrap_fm], by go_num, Nat.mod_lt _ (by omega), hlt, hst.out, Dg.take_mem s pos hlt (fun c => Dg.okb b c = true) Hk.out HO.out⟩
            case measure => simp [intOf]; omega
          · have hk2 : Dg.okb b (s[pos]'hlt) = false := by simpa using hk
            have hdg : Dg.dig b (s[pos]'hlt) = -1 := by rw [Dg.dig, if_neg hk]
            have hD : ∀ W, Calls Tryd.prog 27 #[.int .u8 ((s[pos]'hlt).toNat : Int), .int .i64 (b : Int)] W fun e w' => e = .returned (.int .i64 (-1)) ∧ w' = W := fun W => by rw [← hdg]; exact refDigit_any _ b W hb2
            have HDD := Lib.hid hD
            have HN : Hid (R = none) := by show _ = _; rw [HR.out, Dg.rdN_bad b _ _ (Dg.mem_at s pos hlt) hk2]
            clear hD hk hdg hk2
            go_wp2_with (go_at_call 27; refine (HDD.out _).mono ?_; rintro e w' ⟨rfl, rfl⟩)
            go_ret2
            exact ⟨by rw [HN.out]; rfl, Below.refl _ _⟩
        · have hmf : m = Dg.fm b 0 s.data.toList := by rw [← HF.out, Dg.drop_end s pos hlt]; rfl
          by_cases he : Dg.putB b m = s.data.toList
          · have hP : ∀ W, Calls Tryd.prog 11 #[.int .u64 (m : Int), .int .u64 (b : Int)] W fun e w' => e = .returned (.string s) ∧ Below W.heap.size W w' := fun W => by
              have h1 := put_any m b W hm (by omega) hb2
              rw [he, mk_data] at h1
              exact h1
            have HP := Lib.hid hP
            have HN : Hid (R = some m) := by show _ = _; rw [HR.out, ← he, Dg.rdN_putB b m (by omega) hb2 hm]
            clear hP he hmf
            go_wp2_with (go_at_call 11; refine (HP.out _).mono ?_; rintro e w' ⟨rfl, hb⟩)
            go_ret2
            exact ⟨by rw [HN.out]; rfl, hb⟩
          · obtain ⟨X, hX⟩ : ∃ X : ByteArray, X = ⟨(Dg.putB b m).toArray⟩ := ⟨_, rfl⟩
            have hne : (X.toList == s.toList) = false := by
              rw [beq_eq_false_iff_ne, Lib.toList_data, Lib.toList_data, hX, data_mk]; exact he
            have hP : ∀ W, Calls Tryd.prog 11 #[.int .u64 (m : Int), .int .u64 (b : Int)] W fun e w' => e = .returned (.string X) ∧ Below W.heap.size W w' := fun W => by
              rw [hX]; exact put_any m b W hm (by omega) hb2
            have HP := Lib.hid hP
            have HN : Hid (R = none) := by show _ = _; rw [HR.out, Dg.rdN_other b _ (by omega) (by rw [← hmf]; exact he)]
            clear hP he hmf hX
            go_wp2_with (go_at_call 11; refine (HP.out _).mono ?_; rintro e w' ⟨rfl, hb⟩)
            go_ret2
            exact ⟨by rw [HN.out]; rfl, hb⟩

theorem Dg.unhex_step (a b : UInt8) (t : List UInt8) (x y : Nat) (ha : Dg.dv a.toNat = some x) (hb : Dg.dv b.toNat = some y) : Dg.unhex (a :: b :: t) = (Dg.unhex t).map fun r => (16 * x + y).toUInt8 :: r := by
  rw [Dg.unhex, ha, hb]
  cases Dg.unhex t <;> rfl
theorem Dg.dig_some (c : UInt8) (x : Nat) (h : Dg.dv c.toNat = some x) : Dg.dig 16 c = (x : Int) := by
  have := Dg.dv_lt h
  simp [Dg.dig, Dg.okb, Dg.dvv, h, this]
theorem Dg.dig_none (c : UInt8) (h : Dg.dv c.toNat = none) : Dg.dig 16 c = -1 := by
  simp [Dg.dig, Dg.okb, h]
theorem refDigit_some (c : UInt8) (x : Nat) (h : Dg.dv c.toNat = some x) (w : World) :
    Calls Tryd.prog 27 #[.int .u8 (c.toNat : Int), .int .i64 16] w fun e w' => e = .returned (.int .i64 (x : Int)) ∧ w' = w := by
  have h1 := refDigit_any c 16 w (by omega)
  rw [Dg.dig_some c x h] at h1
  exact h1
theorem refDigit_none (c : UInt8) (h : Dg.dv c.toNat = none) (w : World) :
    Calls Tryd.prog 27 #[.int .u8 (c.toNat : Int), .int .i64 16] w fun e w' => e = .returned (.int .i64 (-1)) ∧ w' = w := by
  have h1 := refDigit_any c 16 w (by omega)
  rw [Dg.dig_none c h] at h1
  exact h1
theorem Dg.byte16 (x y : Nat) (hx : x < 16) (hy : y < 16) : Value.int .u8 (16 * (x : Int) + (y : Int)) = .int .u8 ((16 * x + y).toUInt8.toNat : Int) := by
  congr 1
  simp
  omega

set_option maxHeartbeats 2000000 in
set_option maxRecDepth 100000 in
theorem refReadBytes_even (s : ByteArray) (n : Nat) (w : World) (hs : s.size = 2 * n) (hn : n ≤ 100000) :
    Calls Tryd.prog 19 #[.string s] w fun e w' => ∃ v, e = .returned (.tuple #[v, .bool (Dg.unhex s.data.toList).isSome]) ∧ w'.ownsRow w.heap.size 5 1 v ((Dg.unhex s.data.toList).getD []).length (Lib.byteCells ((Dg.unhex s.data.toList).getD [])) ∧ Below w.heap.size w w' := by
  obtain ⟨i0, hi, hz0, hz1, hz2⟩ := info_parts info5
  obtain ⟨R, hR⟩ : ∃ R, R = Dg.unhex s.data.toList := ⟨_, rfl⟩
  rw [← hR]
  have HR := Lib.hid hR
  have HS := Lib.hid hs
  clear hs hR
  have hsz : (s.size : Int) = 2 * (n : Int) := by have := HS.out; omega
  have hm0 : ((2 * (n : Int)) % 2 == 1) = false := by rw [beq_eq_false_iff_ne]; omega
  go_enter Tryd.func19, Tryd.ntmps19
  go_wp2
  go_loopw [4, 5] (fun v i wr => ∃ (k : Nat) (D : List UInt8), i = .int .i64 (2 * (k : Int)) ∧ k ≤ n ∧ wr.ownsRow w.heap.size 5 1 v D.length (Lib.byteCells D) ∧ Below w.heap.size w wr ∧ D.length ≤ k ∧ Hid ((Dg.unhex (s.data.toList.drop (2 * k))).map (fun r => D ++ r) = R)) (fun _ i _ => 2 * n - (intOf i).toNat)
  case atStart => exact ⟨0, [], rfl, Nat.zero_le _, World.ownsRow_nil _ _ _ _, Below.refl _ _, Nat.zero_le _, by show _ = _; rw [HR.out]; simp⟩
  case round =>
    obtain ⟨k, D, rfl, hk, hown, hbw, hDl, HU⟩ := hrel
    by_cases hlt : (k : Int) < (n : Int)
    · have hp0 : 2 * k < s.size := by rw [HS.out]; omega
      have hp1 : 2 * k + 1 < s.size := by rw [HS.out]; omega
      have Hd : Hid (s.data.toList.drop (2 * k) = (s[2 * k]'hp0) :: (s[2 * k + 1]'hp1) :: s.data.toList.drop (2 * k + 2)) := by
        show _ = _
        rw [Dg.drop_at s (2 * k) hp0, Dg.drop_at s (2 * k + 1) hp1]
      cases ha : Dg.dv (s[2 * k]'hp0).toNat with
      | none =>
        have Ha := Lib.hid ha
        clear ha
        have HN : Hid (R = none) := by
          show _ = _
          rw [← HU.out, Dg.unhex_bad _ _ (by rw [Hd.out]; simp) Ha.out]; rfl
        go_wp2_with fail
        refine (refDigit_none _ Ha.out _).mono ?_
        rintro e w1 ⟨rfl, hw1⟩
        subst hw1
        cases hb : Dg.dv (s[2 * k + 1]'hp1).toNat with
        | none =>
          have Hb := Lib.hid hb
          clear hb
          go_wp2_with fail
          refine (refDigit_none _ Hb.out _).mono ?_
          rintro e w2 ⟨rfl, hw2⟩
          subst hw2
          go_wp2_with fail
          go_ret2
          exact ⟨_, by rw [HN.out]; rfl, by rw [HN.out]; exact World.ownsRow_nil _ _ _ _, hbw⟩
        | some y =>
          have Hb := Lib.hid hb
          clear hb
          go_wp2_with fail
          refine (refDigit_some _ y Hb.out _).mono ?_
          rintro e w2 ⟨rfl, hw2⟩
          subst hw2
          go_wp2_with fail
          go_ret2
          exact ⟨_, by rw [HN.out]; rfl, by rw [HN.out]; exact World.ownsRow_nil _ _ _ _, hbw⟩
      | some x =>
        have hx := Dg.dv_lt ha
        have Ha := Lib.hid ha
        clear ha
        go_wp2_with fail
        refine (refDigit_some _ x Ha.out _).mono ?_
        rintro e w1 ⟨rfl, hw1⟩
        subst hw1
        cases hb : Dg.dv (s[2 * k + 1]'hp1).toNat with
        | none =>
          have Hb := Lib.hid hb
          clear hb
          have HN : Hid (R = none) := by
            show _ = _
            rw [← HU.out, Dg.unhex_bad _ _ (by rw [Hd.out]; simp) Hb.out]; rfl
          go_wp2_with fail
          refine (refDigit_none _ Hb.out _).mono ?_
          rintro e w2 ⟨rfl, hw2⟩
          subst hw2
          go_wp2_with fail
          go_ret2
          exact ⟨_, by rw [HN.out]; rfl, by rw [HN.out]; exact World.ownsRow_nil _ _ _ _, hbw⟩
        | some y =>
          have hy := Dg.dv_lt hb
          have Hb := Lib.hid hb
          clear hb
          have HU2 : Hid ((Dg.unhex (s.data.toList.drop (2 * (k + 1)))).map (fun r => (D ++ [(16 * x + y).toUInt8]) ++ r) = R) := by
            show _ = _
            rw [← HU.out, Hd.out, Dg.unhex_step _ _ _ x y Ha.out Hb.out, Option.map_map]
            congr 1
            funext r
            simp
          go_wp2_with fail
          refine (refDigit_some _ y Hb.out _).mono ?_
          rintro e w2 ⟨rfl, hw2⟩
          subst hw2
          go_wp2_with (at_builtin; refine wpList_append_own _ rfl _ _ 23 rfl w.heap.size 5 i0 (.int .u8 0) 1 1 Tryd.underlying23 hi hz0 hz1 hz2 rfl (by decide) _ _ _ rfl (hown.alloc _) ⟨w2.heap.size, 0, none⟩ 1 1 [.int .u8 (16 * (x : Int) + (y : Int))] rfl rfl (cell_one_new _ _ _) (fun u hu => by simp at hu; subst hu; rfl) (by unfold maxLen; omega) (by omega) (by have := hbw.size; simp; omega) ?_; intro v2 w3 hown2 hgr2 hnil2)
          have hbw2 : Below w.heap.size w w3 := Below.grown (hbw.alloc hbw.size _) hgr2 (by have := hbw.size; simp; omega) (fun j hj => (hown.lt j hj).1)
          have hown3 : w3.ownsRow w.heap.size 5 1 v2 (D ++ [(16 * x + y).toUInt8]).length (Lib.byteCells (D ++ [(16 * x + y).toUInt8])) := by
            rw [Lib.byteCells_append, List.length_append]
            rw [Dg.byte16 x y hx hy] at hown2
            exact hown2
          clear hown2 hgr2 hnil2
          go_roundw
          case rel => exact ⟨k + 1, _, by go_num, by omega, hown3, hbw2, by simp; omega, HU2.out⟩
          case measure => simp [intOf]; omega
    · have hkn : k = n := by omega
      have HN : Hid (R = some D) := by
        show _ = _
        rw [← HU.out, List.drop_of_length_le (by rw [← Lib.size_eq, HS.out]; omega)]
        simp [Dg.unhex]
      clear hkn
      go_wp2
      go_ret2
      exact ⟨_, by rw [HN.out]; rfl, by rw [HN.out]; exact hown, hbw⟩

theorem refReadBytes_odd (s : ByteArray) (n : Nat) (w : World) (hs : s.size = 2 * n + 1) (hn : n ≤ 1000000) :
    Calls Tryd.prog 19 #[.string s] w fun e w' => e = .returned (.tuple #[.slice none 0 0, .bool false]) ∧ w' = w := by
  have hsz : (s.size : Int) = 2 * (n : Int) + 1 := by omega
  clear hs
  have hm0 : ((2 * (n : Int) + 1) % 2 == 1) = true := by rw [beq_iff_eq]; omega
  go_enter Tryd.func19, Tryd.ntmps19
  go_wp2
  go_ret2
  exact ⟨rfl, rfl⟩
theorem refReadBytes_any (s : ByteArray) (w : World) (hs : s.size ≤ 100000) :
    Calls Tryd.prog 19 #[.string s] w fun e w' => ∃ v, e = .returned (.tuple #[v, .bool (Dg.unhex s.data.toList).isSome]) ∧ w'.ownsRow w.heap.size 5 1 v ((Dg.unhex s.data.toList).getD []).length (Lib.byteCells ((Dg.unhex s.data.toList).getD [])) ∧ Below w.heap.size w w' := by
  rcases Nat.mod_two_eq_zero_or_one s.size with h | h
  · exact refReadBytes_even s (s.size / 2) w (by omega) (by omega)
  · refine (refReadBytes_odd s (s.size / 2) w (by omega) (by omega)).mono ?_
    rintro e w' ⟨h1, rfl⟩
    rw [Dg.unhex_odd (s.size / 2) _ (by rw [← Lib.size_eq]; omega)]
    exact ⟨_, h1, World.ownsRow_nil _ _ _ _, Below.refl _ _⟩
end Go.Proofs.YtiiaahhdlgoklaaDoor
