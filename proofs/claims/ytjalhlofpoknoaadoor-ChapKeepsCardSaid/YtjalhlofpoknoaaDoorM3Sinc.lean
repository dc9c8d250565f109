/- Contracts of math.Sin and of the document's sine. -/
import Derived.Test.YtjalhlofpoknoaaDoorM3Sinb
namespace Go.Proofs.YtjalhlofpoknoaaDoor.S3
open Go.RowKit
namespace Md
theorem and1 (j : Nat) (hj : j < 18446744073709551616) : bits .and .u64 (j : Int) 1 = ((j % 2 : Nat) : Int) := by
  have := (bits_nat .u64 64 (by decide) (fun n h₀ h₁ => by rw [IntKind.wrap_u64]; omega) j 1 (by omega) (by omega)).1
  rw [show ((1 : Nat) : Int) = 1 from rfl] at this
  rw [this, show (1 : Nat) = 2 ^ 1 - 1 from rfl, Nat.and_two_pow_sub_one_eq_mod]
theorem and7 (j : Nat) (hj : j < 18446744073709551616) : bits .and .u64 (j : Int) 7 = ((j % 8 : Nat) : Int) := by
  have := (bits_nat .u64 64 (by decide) (fun n h₀ h₁ => by rw [IntKind.wrap_u64]; omega) j 7 (by omega) (by omega)).1
  rw [show ((7 : Nat) : Int) = 7 from rfl] at this
  rw [this, show (7 : Nat) = 2 ^ 3 - 1 from rfl, Nat.and_two_pow_sub_one_eq_mod]
end Md
theorem lt64 {op : BinOp} {x y r : Nat} (h : floatBits op .f64 x y = some r) : r < 18446744073709551616 := by
  have := floatBits_wf h
  simpa [Lit.wf] using this
theorem neg_lt (r : Nat) (h : r < 18446744073709551616) : Op.negFloat .f64 r < 18446744073709551616 := by
  show r ^^^ 2 ^ 63 < 2 ^ 64
  exact Nat.xor_lt_two_pow h (by omega)

/-- What sin gives, and what the document makes of it. -/
theorem sin_word (x s : Nat) (w : World) (hf : Md.fine x = true) (h : Md.sinR x = some s) (ht : Trig w) :
    ∃ r p, r < 18446744073709551616 ∧ floatBits .mul .f64 (r % 9223372036854775808) 4751297606875873280 = some p ∧ floatToIntVal .f64 p .u32 = some (s : Int) ∧
      Calls Tryd.prog 38 #[.float .f64 x] w fun e w' => (e = .returned (.float .f64 r) ∨ e = .returned (.float .f64 (Op.negFloat .f64 r))) ∧ w' = w := by
  simp only [Md.fine, Bool.and_eq_true, beq_iff_eq, decide_eq_true_eq] at hf
  obtain ⟨a0, a1, a2, a3, a4⟩ := hf
  unfold Md.sinR at h
  obtain ⟨m, h_m, h⟩ := Md.bf_some h
  obtain ⟨j, h_j, h⟩ := Md.bf_some h
  split at h
  · cases h
  rename_i hj
  split at h
  · rename_i ho
    obtain ⟨y, h_y, h⟩ := Md.bf_some h
    unfold Md.sinZ at h
    obtain ⟨t47, h_t47, h⟩ := Md.bf_some h
    obtain ⟨t48, h_t48, h⟩ := Md.bf_some h
    obtain ⟨t50, h_t50, h⟩ := Md.bf_some h
    obtain ⟨t51, h_t51, h⟩ := Md.bf_some h
    obtain ⟨t53, h_t53, h⟩ := Md.bf_some h
    obtain ⟨z, h_z, h⟩ := Md.bf_some h
    obtain ⟨q, h_q, h⟩ := Md.bf_some h
    have hgg := Md.and7 (j + 1) (by omega)
    rw [show ((j + 1 : Nat) : Int) = (j : Int) + 1 by simp] at hgg
    split at h
    · rename_i hc
      unfold Md.sinC at h
      obtain ⟨t71, h_t71, h⟩ := Md.bf_some h
      obtain ⟨t72, h_t72, h⟩ := Md.bf_some h
      obtain ⟨t75, h_t75, h⟩ := Md.bf_some h
      obtain ⟨t79, h_t79, h⟩ := Md.bf_some h
      obtain ⟨t82, h_t82, h⟩ := Md.bf_some h
      obtain ⟨t84, h_t84, h⟩ := Md.bf_some h
      obtain ⟨t87, h_t87, h⟩ := Md.bf_some h
      obtain ⟨t89, h_t89, h⟩ := Md.bf_some h
      obtain ⟨t92, h_t92, h⟩ := Md.bf_some h
      obtain ⟨t94, h_t94, h⟩ := Md.bf_some h
      obtain ⟨t97, h_t97, h⟩ := Md.bf_some h
      obtain ⟨t99, h_t99, h⟩ := Md.bf_some h
      obtain ⟨t102, h_t102, h⟩ := Md.bf_some h
      obtain ⟨t103, h_t103, h⟩ := Md.bf_some h
      obtain ⟨r, h_r, h⟩ := Md.bf_some h
      unfold Md.sinF at h
      obtain ⟨p, h_p, h⟩ := Md.bf_some h
      exact ⟨r, p, lt64 h_r, h_p, Md.nat?_some h, sin_co x m j _ y t47 t48 t50 t51 t53 z q t71 t72 t75 t79 t82 t84 t87 t89 t92 t94 t97 t99 t102 t103 r ((j + 1) % 8) w a0 a1 a2 a3 a4 h_m (Md.nat?_some h_j) rfl (by omega) (by rw [Md.and1 j (by omega), ho]; rfl) hgg (by omega) h_y h_t47 h_t48 h_t50 h_t51 h_t53 h_z h_q h_t71 h_t72 h_t75 h_t79 h_t82 h_t84 h_t87 h_t89 h_t92 h_t94 h_t97 h_t99 h_t102 h_t103 h_r ht⟩
    · split at h
      · rename_i hc
        unfold Md.sinS at h
        obtain ⟨t108, h_t108, h⟩ := Md.bf_some h
        obtain ⟨t112, h_t112, h⟩ := Md.bf_some h
        obtain ⟨t115, h_t115, h⟩ := Md.bf_some h
        obtain ⟨t117, h_t117, h⟩ := Md.bf_some h
        obtain ⟨t120, h_t120, h⟩ := Md.bf_some h
        obtain ⟨t122, h_t122, h⟩ := Md.bf_some h
        obtain ⟨t125, h_t125, h⟩ := Md.bf_some h
        obtain ⟨t127, h_t127, h⟩ := Md.bf_some h
        obtain ⟨t130, h_t130, h⟩ := Md.bf_some h
        obtain ⟨t132, h_t132, h⟩ := Md.bf_some h
        obtain ⟨t135, h_t135, h⟩ := Md.bf_some h
        obtain ⟨t136, h_t136, h⟩ := Md.bf_some h
        obtain ⟨r, h_r, h⟩ := Md.bf_some h
        unfold Md.sinF at h
        obtain ⟨p, h_p, h⟩ := Md.bf_some h
        exact ⟨r, p, lt64 h_r, h_p, Md.nat?_some h, sin_so x m j _ y t47 t48 t50 t51 t53 z q t108 t112 t115 t117 t120 t122 t125 t127 t130 t132 t135 t136 r ((j + 1) % 8) w a0 a1 a2 a3 a4 h_m (Md.nat?_some h_j) rfl (by omega) (by rw [Md.and1 j (by omega), ho]; rfl) hgg (by omega) h_y h_t47 h_t48 h_t50 h_t51 h_t53 h_z h_q h_t108 h_t112 h_t115 h_t117 h_t120 h_t122 h_t125 h_t127 h_t130 h_t132 h_t135 h_t136 h_r ht⟩
      · cases h
  · rename_i ho
    rw [Md.force_eq] at h
    unfold Md.sinZ at h
    obtain ⟨t47, h_t47, h⟩ := Md.bf_some h
    obtain ⟨t48, h_t48, h⟩ := Md.bf_some h
    obtain ⟨t50, h_t50, h⟩ := Md.bf_some h
    obtain ⟨t51, h_t51, h⟩ := Md.bf_some h
    obtain ⟨t53, h_t53, h⟩ := Md.bf_some h
    obtain ⟨z, h_z, h⟩ := Md.bf_some h
    obtain ⟨q, h_q, h⟩ := Md.bf_some h
    have hgg := Md.and7 j (by omega)
    split at h
    · rename_i hc
      unfold Md.sinC at h
      obtain ⟨t71, h_t71, h⟩ := Md.bf_some h
      obtain ⟨t72, h_t72, h⟩ := Md.bf_some h
      obtain ⟨t75, h_t75, h⟩ := Md.bf_some h
      obtain ⟨t79, h_t79, h⟩ := Md.bf_some h
      obtain ⟨t82, h_t82, h⟩ := Md.bf_some h
      obtain ⟨t84, h_t84, h⟩ := Md.bf_some h
      obtain ⟨t87, h_t87, h⟩ := Md.bf_some h
      obtain ⟨t89, h_t89, h⟩ := Md.bf_some h
      obtain ⟨t92, h_t92, h⟩ := Md.bf_some h
      obtain ⟨t94, h_t94, h⟩ := Md.bf_some h
      obtain ⟨t97, h_t97, h⟩ := Md.bf_some h
      obtain ⟨t99, h_t99, h⟩ := Md.bf_some h
      obtain ⟨t102, h_t102, h⟩ := Md.bf_some h
      obtain ⟨t103, h_t103, h⟩ := Md.bf_some h
      obtain ⟨r, h_r, h⟩ := Md.bf_some h
      unfold Md.sinF at h
      obtain ⟨p, h_p, h⟩ := Md.bf_some h
      exact ⟨r, p, lt64 h_r, h_p, Md.nat?_some h, sin_ce x m j _ t47 t48 t50 t51 t53 z q t71 t72 t75 t79 t82 t84 t87 t89 t92 t94 t97 t99 t102 t103 r (j % 8) w a0 a1 a2 a3 a4 h_m (Md.nat?_some h_j) rfl (by omega) (by rw [Md.and1 j (by omega), show j % 2 = 0 by omega]; rfl) hgg (by omega) h_t47 h_t48 h_t50 h_t51 h_t53 h_z h_q h_t71 h_t72 h_t75 h_t79 h_t82 h_t84 h_t87 h_t89 h_t92 h_t94 h_t97 h_t99 h_t102 h_t103 h_r ht⟩
    · split at h
      · rename_i hc
        unfold Md.sinS at h
        obtain ⟨t108, h_t108, h⟩ := Md.bf_some h
        obtain ⟨t112, h_t112, h⟩ := Md.bf_some h
        obtain ⟨t115, h_t115, h⟩ := Md.bf_some h
        obtain ⟨t117, h_t117, h⟩ := Md.bf_some h
        obtain ⟨t120, h_t120, h⟩ := Md.bf_some h
        obtain ⟨t122, h_t122, h⟩ := Md.bf_some h
        obtain ⟨t125, h_t125, h⟩ := Md.bf_some h
        obtain ⟨t127, h_t127, h⟩ := Md.bf_some h
        obtain ⟨t130, h_t130, h⟩ := Md.bf_some h
        obtain ⟨t132, h_t132, h⟩ := Md.bf_some h
        obtain ⟨t135, h_t135, h⟩ := Md.bf_some h
        obtain ⟨t136, h_t136, h⟩ := Md.bf_some h
        obtain ⟨r, h_r, h⟩ := Md.bf_some h
        unfold Md.sinF at h
        obtain ⟨p, h_p, h⟩ := Md.bf_some h
        exact ⟨r, p, lt64 h_r, h_p, Md.nat?_some h, sin_se x m j _ t47 t48 t50 t51 t53 z q t108 t112 t115 t117 t120 t122 t125 t127 t130 t132 t135 t136 r (j % 8) w a0 a1 a2 a3 a4 h_m (Md.nat?_some h_j) rfl (by omega) (by rw [Md.and1 j (by omega), show j % 2 = 0 by omega]; rfl) hgg (by omega) h_t47 h_t48 h_t50 h_t51 h_t53 h_z h_q h_t108 h_t112 h_t115 h_t117 h_t120 h_t122 h_t125 h_t127 h_t130 h_t132 h_t135 h_t136 h_r ht⟩
      · cases h

set_option maxHeartbeats 1000000 in
theorem Sin_any (x r : Nat) (w : World) (h : Calls Tryd.prog 38 #[.float .f64 x] w fun e w' => (e = .returned (.float .f64 r) ∨ e = .returned (.float .f64 (Op.negFloat .f64 r))) ∧ w' = w) (hr : r < 18446744073709551616) :
    Calls Tryd.prog 31 #[.float .f64 x] w fun e w' => ∃ y, e = .returned (.float .f64 y) ∧ y < 18446744073709551616 ∧ y % 9223372036854775808 = r % 9223372036854775808 ∧ w' = w := by
  have H := Lib.hid (h.mono (R' := fun e w' => ∃ y, e = .returned (.float .f64 y) ∧ y < 18446744073709551616 ∧ y % 9223372036854775808 = r % 9223372036854775808 ∧ w' = w) (by
    rintro e w' ⟨rfl | rfl, rfl⟩
    · exact ⟨r, rfl, hr, rfl, rfl⟩
    · exact ⟨_, rfl, neg_lt r hr, neg_abs r, rfl⟩))
  clear h
  go_enter Tryd.func31, Tryd.ntmps31
  go_wp2_with (go_at_call 38; refine H.out.mono ?_; rintro e w1 ⟨y, rfl, h1, h2, rfl⟩)
  go_ret
  exact ⟨y, rfl, h1, h2, rfl⟩

set_option maxHeartbeats 1000000 in
theorem sine_any (i : Nat) (w : World) (h : i < 64) (ht : Trig w) :
    Calls Tryd.prog 23 #[.int .i64 ((i : Int) + 1)] w fun e w' => e = .returned (.int .u32 (Md.sn i : Nat)) ∧ w' = w := by
  obtain ⟨r, p, hr, hp, hs, hc⟩ := sin_word (Md.fx (i + 1)) (Md.sn i) w (Md.fine_at i h) (Md.sin_at i h) ht
  have HS := Lib.hid (Sin_any _ r w hc hr)
  obtain ⟨x, hx⟩ : ∃ x, x = Md.fx (i + 1) := ⟨_, rfl⟩
  rw [← hx] at HS
  have hx' : floatOfInt .f64 ((i : Int) + 1) = x := by rw [hx]; rfl
  have o_p : ∀ t w, (binOp .mul t (.float .f64 (r % 9223372036854775808)) (.float .f64 4751297606875873280)).run Tryd.prog w = .ok (.float .f64 p) w := fun t w => run_float_arith w .mul t .f64 _ _ p hp
  have o_s : ∀ w, (convert 61 46 (.float .f64 p)).run Tryd.prog w = .ok (.int .u32 (Md.sn i : Nat)) w := fun w => run_convert_float_int w 61 46 .f64 .u32 p _ (by rw [Tryd.underlying61]; rfl) Tryd.underlying46 hs
  obtain ⟨R, hR⟩ : ∃ R, R = r % 9223372036854775808 := ⟨_, rfl⟩
  rw [← hR] at o_p HS
  have hi : (i : Int) < 64 := by omega
  clear hx hR hc hp hs hr
  go_enter Tryd.func23, Tryd.ntmps23
  go_wp2_with fail
  refine HS.out.mono ?_
  rintro e w1 ⟨y, rfl, h1, h2, rfl⟩
  have ha := abs_any y w1 h1
  rw [h2] at ha
  have Ha := Lib.hid ha
  clear ha h2
  go_wp2_with fail
  refine Ha.out.mono ?_
  rintro e w2 ⟨rfl, rfl⟩
  go_wp2
  go_ret
  exact ⟨rfl, rfl⟩
end Go.Proofs.YtjalhlofpoknoaaDoor.S3
