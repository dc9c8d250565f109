/- Contracts of the program's small readers: digit, readNumber, ReadDec, ReadHex, Plain. -/
import Derived.Test.YtiiaahhdlgoklaaDoorChecked
import Derived.Test.YtiiaahhdlgoklaaDoorPlain
import Derived.WalkKit
import Derived.WalkSpells
import Derived.WalkLawsBesides
import Derived.Lib.OthersKept
import Derived.Lib.Hide
import Derived.BigQuiet
import Derived.Deep.QuietTactic
namespace Go.Proofs.YtiiaahhdlgoklaaDoor
open Go.RowKit

theorem ret_u64b {a b : Int} {c d : Bool} (h : a = b) (g : c = d) : Ending.returned (.tuple #[.int .u64 a, .bool c]) = .returned (.tuple #[.int .u64 b, .bool d]) := by rw [h, g]

theorem digit_any (r : Nat) (w : World) (hr : r ≤ 2147483647) :
    Calls Tryd.prog 28 #[.int .i32 (r : Int)] w fun e w' => e = .returned (.tuple #[.int .u64 (((Dg.dv r).getD 0 : Nat) : Int), .bool (Dg.dv r).isSome]) ∧ w' = w := by
  obtain ⟨D, hD⟩ : ∃ D, D = Dg.dv r := ⟨_, rfl⟩
  rw [← hD]
  have HD := Lib.hid hD
  clear hD
  have i0 : (0 : Int) ≤ (r : Int) := by omega
  have i9 : (r : Int) ≤ 2147483647 := by omega
  by_cases h1 : (48 : Int) ≤ (r : Int)
  · by_cases h2 : (r : Int) ≤ 57
    · go_enter Tryd.func28, Tryd.ntmps28
      go_wp2
      go_ret2
      have e : Dg.dv r = some (r - 48) := by unfold Dg.dv; rw [if_pos ⟨by omega, by omega⟩]
      rw [HD.out, e]
      exact ⟨ret_u64b (by simp; omega) rfl, rfl⟩
    · by_cases h3 : (97 : Int) ≤ (r : Int)
      · by_cases h4 : (r : Int) ≤ 102
        · go_enter Tryd.func28, Tryd.ntmps28
          go_wp2
          go_ret2
          have e : Dg.dv r = some (r - 87) := by unfold Dg.dv; rw [if_neg (by omega), if_pos ⟨by omega, by omega⟩]
          rw [HD.out, e]
          exact ⟨ret_u64b (by simp; omega) rfl, rfl⟩
        · go_enter Tryd.func28, Tryd.ntmps28
          go_wp2
          go_ret2
          have e : Dg.dv r = none := by unfold Dg.dv; rw [if_neg (by omega), if_neg (by omega)]
          rw [HD.out, e]
          exact ⟨rfl, rfl⟩
      · go_enter Tryd.func28, Tryd.ntmps28
        go_wp2
        go_ret2
        have e : Dg.dv r = none := by unfold Dg.dv; rw [if_neg (by omega), if_neg (by omega)]
        rw [HD.out, e]
        exact ⟨rfl, rfl⟩
  · have h3 : ¬ (97 : Int) ≤ (r : Int) := by omega
    go_enter Tryd.func28, Tryd.ntmps28
    go_wp2
    go_ret2
    have e : Dg.dv r = none := by unfold Dg.dv; rw [if_neg (by omega), if_neg (by omega)]
    rw [HD.out, e]
    exact ⟨rfl, rfl⟩
theorem digit_none (r : Nat) (w : World) (h : Dg.dv r = none) (hr : r ≤ 2147483647) :
    Calls Tryd.prog 28 #[.int .i32 (r : Int)] w fun e w' => e = .returned (.tuple #[.int .u64 0, .bool false]) ∧ w' = w := by
  have := digit_any r w hr
  rw [h] at this
  exact this
theorem digit_some (r d : Nat) (w : World) (h : Dg.dv r = some d) (hr : r ≤ 2147483647) :
    Calls Tryd.prog 28 #[.int .i32 (r : Int)] w fun e w' => e = .returned (.tuple #[.int .u64 (d : Int), .bool true]) ∧ w' = w := by
  have := digit_any r w hr
  rw [h] at this
  exact this

theorem next_low (w : World) (s : ByteArray) (pos : Nat) (h : pos < s.size) (ha : (s[pos]'h).toNat < 128) (ty : TypeId) :
    (Instr.next (.pointer (some ⟨w.heap.size, 0, none⟩)) true ty).run Tryd.prog (w.iter s pos) = .ok (.tuple #[.bool true, .int .i64 pos, .int .i32 ((s[pos]'h).toNat : Int)]) (w.iter s (pos + 1)) := by
  rw [run_next_any w s pos ty h, decode_ascii s pos h ha]
theorem below_iter (w : World) (s : ByteArray) (pos : Nat) : Below w.heap.size w (w.iter s pos) := (Below.refl _ _).alloc (Nat.le_refl _) _

set_option maxHeartbeats 400000 in
theorem plain_any (s : ByteArray) (w : World) :
    Calls Tryd.prog 23 #[.string s] w fun e w' => e = .returned (.bool (Dg.plain s.data.toList)) ∧ Below w.heap.size w w' := by
  go_enter Tryd.func23, Tryd.ntmps23
  go_wp2
  go_loopw [4] (fun _ wr => ∃ pos : Nat, wr = w.iter s pos ∧ pos ≤ s.size ∧ Dg.pl (s.data.toList.drop pos) = Dg.pl s.data.toList) (fun _ wr => s.size - wr.iterPos w.heap.size)
  case atStart => exact ⟨0, rfl, Nat.zero_le _, rfl⟩
  case round =>
    obtain ⟨pos, rfl, hle, hp⟩ := hrel
    by_cases hlt : pos < s.size
    · have hd := Dg.drop_at s pos hlt
      by_cases ha : (s[pos]'hlt).toNat < 128
      · have hnx := next_low w s pos hlt ha
        by_cases h1 : ((s[pos]'hlt).toNat : Int) < 33
        · have h2 : Dg.pl s.data.toList = false := by rw [← hp, hd, Dg.pl_cons]; simp; omega
          have H2 := Lib.hid h2
          clear h2 hp hd ha
          go_wp2
          go_ret
          exact ⟨by rw [Dg.plain, H2.out]; simp, below_iter w s _⟩
        · by_cases h3 : ((s[pos]'hlt).toNat : Int) ≤ 126
          · have h2 : Dg.pl (s.data.toList.drop (pos + 1)) = Dg.pl s.data.toList := by
              rw [← hp, hd, Dg.pl_cons]
              rw [decide_eq_true (by omega : 33 ≤ (s[pos]'hlt).toNat), decide_eq_true (by omega : (s[pos]'hlt).toNat ≤ 126)]; rfl
            have H2 := Lib.hid h2
            clear h2 hp hd ha
            go_wp2
            go_roundw
            case rel => exact ⟨pos + 1, rfl, hlt, H2.out⟩
            case measure => simp; omega
          · have h2 : Dg.pl s.data.toList = false := by rw [← hp, hd, Dg.pl_cons]; simp; omega
            have H2 := Lib.hid h2
            clear h2 hp hd ha
            go_wp2
            go_ret
            exact ⟨by rw [Dg.plain, H2.out]; simp, below_iter w s _⟩
      · have hnx : ∀ ty, (Instr.next (.pointer (some ⟨w.heap.size, 0, none⟩)) true ty).run Tryd.prog (w.iter s pos) = _ := fun ty => run_next_any w s pos ty hlt
        have hh := decode_high s pos hlt (by omega)
        have h2 : Dg.pl s.data.toList = false := by rw [← hp, hd, Dg.pl_cons]; simp; omega
        have H2 := Lib.hid h2
        have h1 : ¬ ((Utf8.decode s pos).1 : Int) < 33 := by omega
        have h3 : ¬ ((Utf8.decode s pos).1 : Int) ≤ 126 := by omega
        clear h2 hp hd ha hh
        go_wp2
        go_ret
        exact ⟨by rw [Dg.plain, H2.out]; simp, below_iter w s _⟩
    · have hnx : ∀ ty, (Instr.next (.pointer (some ⟨w.heap.size, 0, none⟩)) true ty).run Tryd.prog (w.iter s pos) = _ := fun ty => run_next_end w s pos ty hlt
      have h2 : Dg.pl s.data.toList = true := by rw [← hp, Dg.drop_end s pos hlt]; rfl
      have H2 := Lib.hid h2
      clear hp h2
      go_wp2
      go_ret
      exact ⟨by rw [Dg.plain, H2.out, Lib.toList_data, Bool.and_true]; rfl, below_iter w s _⟩

set_option maxHeartbeats 1000000 in
theorem readNumber_any (s : ByteArray) (b : Nat) (w : World) (hs : s.size ≤ maxLen) (hb1 : 2 ≤ b) (hb2 : b ≤ 16) :
    Calls Tryd.prog 26 #[.string s, .int .u64 (b : Int)] w fun e w' => e = .returned (.tuple #[.int .u64 (((Dg.rdN b s.data.toList).getD 0 : Nat) : Int), .bool (Dg.rdN b s.data.toList).isSome]) ∧ Below w.heap.size w w' := by
  unfold maxLen at hs
  obtain ⟨R, hR⟩ : ∃ R, R = Dg.rdN b s.data.toList := ⟨_, rfl⟩
  rw [← hR]
  have HR := Lib.hid hR
  clear hR
  by_cases h0 : 0 < s.size
  · have he : s.toList.isEmpty = false := by rw [Lib.toList_data, Dg.list_at s h0]; rfl
    by_cases h1 : (((s[0]'h0).toNat : Int) == 48) = true ∧ (1 : Int) < s.size
    · obtain ⟨h1, h2⟩ := h1
      have hN : Dg.rdN b s.data.toList = none := Dg.rdN_nought b s h0 (by rw [beq_iff_eq] at h1; omega) (by omega)
      have HN := Lib.hid hN
      clear hN
      go_enter Tryd.func26, Tryd.ntmps26
      go_wp2
      go_ret2
      exact ⟨by rw [HR.out, HN.out]; rfl, Below.refl _ _⟩
    · have hN : Dg.rd b 0 s.data.toList = Dg.rdN b s.data.toList := Dg.rdN_plain b s h0 (by
        intro h2 h3; apply h1; exact ⟨beq_iff_eq.2 (by omega), by omega⟩)
      have HN := Lib.hid hN
      clear hN
      have h2 : (((s[0]'h0).toNat : Int) == 48) = false ∨ ((((s[0]'h0).toNat : Int) == 48) = true ∧ ¬ (1 : Int) < s.size) := by
        cases h3 : (((s[0]'h0).toNat : Int) == 48)
        · exact .inl rfl
        · exact .inr ⟨rfl, fun h4 => h1 ⟨h3, h4⟩⟩
      clear h1
      rcases h2 with h2 | ⟨h2, h3⟩
      all_goals
        go_enter Tryd.func26, Tryd.ntmps26
        go_wp2
        go_loopw [6] (fun n wr => ∃ pos m : Nat, wr = w.iter s pos ∧ pos ≤ s.size ∧ n = .int .u64 (m : Int) ∧ m ≤ 18446744073709551615 ∧ Hid (Dg.rd b m (s.data.toList.drop pos) = Dg.rdN b s.data.toList)) (fun _ wr => s.size - wr.iterPos w.heap.size)
        case atStart => exact ⟨0, 0, rfl, Nat.zero_le _, rfl, by omega, HN.out⟩
        case round =>
          obtain ⟨pos, m, rfl, hle, rfl, hm, HS⟩ := hrel
          clear HN
          by_cases hlt : pos < s.size
          · have hd := Dg.drop_at s pos hlt
            have Hd := Lib.hid hd
            clear hd
            by_cases ha : (s[pos]'hlt).toNat < 128
            · have hnx := next_low w s pos hlt ha
              cases hv : Dg.dv (s[pos]'hlt).toNat with
              | none =>
                have Hv := Lib.hid hv
                clear hv
                go_wp2_with (go_at_call 28; refine (digit_none _ _ Hv.out (by omega)).mono ?_; rintro e w' ⟨rfl, rfl⟩)
                go_ret2
                exact ⟨by rw [HR.out, ← HS.out, Hd.out, Dg.rd_none _ _ _ _ Hv.out]; rfl, below_iter w s _⟩
              | some d =>
                have hd16 := Dg.dv_lt hv
                have Hv := Lib.hid hv
                clear hv
                by_cases h4 : (d : Int) < (b : Int)
                · have k1 : (0 : Int) ≤ (d : Int) := by omega
                  have k2 : (d : Int) ≤ 15 := by omega
                  have k3 : (2 : Int) ≤ (b : Int) := by omega
                  have k4 : (b : Int) ≤ 16 := by omega
                  go_wp2_with (go_at_call 28; refine (digit_some _ d _ Hv.out (by omega)).mono ?_; rintro e w' ⟨rfl, rfl⟩)
                  · have h5 : b ≤ d ∨ (18446744073709551615 - (d : Int)) / (b : Int) < (m : Int) := by assumption
                    have h6 := Dg.over_nat m d b (by omega) (by rcases h5 with h5 | h5; (· omega); exact h5)
                    go_ret2
                    exact ⟨by rw [HR.out, ← HS.out, Hd.out, Dg.rd_over _ _ _ _ _ Hv.out h6]; rfl, below_iter w s _⟩
                  · have h5 : ¬ b ≤ d ∧ (m : Int) ≤ (18446744073709551615 - (d : Int)) / (b : Int) := by assumption
                    have h6 := Dg.on_nat m d b (by omega) h5.2
                    have h7 := Dg.fits_nat m d b (by omega) (by omega) h6
                    go_roundw
                    case rel => exact ⟨pos + 1, m * b + d, rfl, hlt, Dg.wrap_nat m d b h7, h7, by rw [← Dg.rd_on b m _ _ d Hv.out (by omega) h6, ← Hd.out]; exact HS.out⟩
                    case measure => simp; omega
                · go_wp2_with (go_at_call 28; refine (digit_some _ d _ Hv.out (by omega)).mono ?_; rintro e w' ⟨rfl, rfl⟩)
                  go_ret2
                  exact ⟨by rw [HR.out, ← HS.out, Hd.out, Dg.rd_great _ _ _ _ _ Hv.out (by omega)]; rfl, below_iter w s _⟩
            · have hnx : ∀ ty, (Instr.next (.pointer (some ⟨w.heap.size, 0, none⟩)) true ty).run Tryd.prog (w.iter s pos) = _ := fun ty => run_next_any w s pos ty hlt
              have hh := decode_high s pos hlt (by omega)
              have hr := decode_le s pos
              go_wp2_with (go_at_call 28; refine (digit_none _ _ (Dg.dv_high hh.1) hr).mono ?_; rintro e w' ⟨rfl, rfl⟩)
              go_ret2
              exact ⟨by rw [HR.out, ← HS.out, Hd.out, Dg.rd_none _ _ _ _ (Dg.dv_high (by omega))]; rfl, below_iter w s _⟩
          · have hnx : ∀ ty, (Instr.next (.pointer (some ⟨w.heap.size, 0, none⟩)) true ty).run Tryd.prog (w.iter s pos) = _ := fun ty => run_next_end w s pos ty hlt
            go_wp2
            go_ret2
            exact ⟨by rw [HR.out, ← HS.out, Dg.drop_end s pos hlt]; rfl, below_iter w s _⟩
  · have he : s.toList.isEmpty = true := by rw [Lib.toList_data]; simpa using Dg.list_nil s h0
    have hN : Dg.rdN b s.data.toList = none := by rw [Dg.list_nil s h0]; rfl
    have HN := Lib.hid hN
    clear hN
    go_enter Tryd.func26, Tryd.ntmps26
    go_wp2
    go_ret2
    exact ⟨by rw [HR.out, HN.out]; rfl, Below.refl _ _⟩

theorem readDec_any (s : ByteArray) (w : World) (hs : s.size ≤ maxLen) :
    Calls Tryd.prog 15 #[.string s] w fun e w' => e = .returned (.tuple #[.int .u64 (((Dg.rdN 10 s.data.toList).getD 0 : Nat) : Int), .bool (Dg.rdN 10 s.data.toList).isSome]) ∧ Below w.heap.size w w' := by
  go_enter Tryd.func15, Tryd.ntmps15
  go_wp2_with (go_at_call 26; refine (readNumber_any s 10 _ hs (by omega) (by omega)).mono ?_; rintro e w' ⟨rfl, hb⟩)
  go_ret2
  exact ⟨rfl, hb⟩
theorem readHex_any (s : ByteArray) (w : World) (hs : s.size ≤ maxLen) :
    Calls Tryd.prog 17 #[.string s] w fun e w' => e = .returned (.tuple #[.int .u64 (((Dg.rdN 16 s.data.toList).getD 0 : Nat) : Int), .bool (Dg.rdN 16 s.data.toList).isSome]) ∧ Below w.heap.size w w' := by
  go_enter Tryd.func17, Tryd.ntmps17
  go_wp2_with (go_at_call 26; refine (readNumber_any s 16 _ hs (by omega) (by omega)).mono ?_; rintro e w' ⟨rfl, hb⟩)
  go_ret2
  exact ⟨rfl, hb⟩
end Go.Proofs.YtiiaahhdlgoklaaDoor
