/- Contracts of math.Abs, IsNaN, IsInf and sin. -/
import Derived.Test.YtjalhlofpoknoaaDoorM3Wa
import Derived.Test.YtjalhlofpoknoaaDoorM3Sina
import Derived.Laws.FloatArith
namespace Go.Proofs.YtjalhlofpoknoaaDoor.S3
open Go.RowKit

theorem run_bits (x : Nat) (w : World) : (callFunc 36 #[.float .f64 x]).run Tryd.prog w = .ok (.value (.int .u64 (x : Int))) w := by kernel_rfl
theorem run_frombits (x : Nat) (w : World) : (callFunc 35 #[.int .u64 (x : Int)]).run Tryd.prog w = .ok (.value (.float .f64 x)) w := by kernel_rfl
theorem andNot_sign (x : Nat) (hx : x < 18446744073709551616) : bits .andNot .u64 (x : Int) 9223372036854775808 = ((x % 9223372036854775808 : Nat) : Int) := by
  have hx' : x % 2 ^ 64 = x := Nat.mod_eq_of_lt hx
  have hm : x % 9223372036854775808 < 9223372036854775808 := Nat.mod_lt _ (by omega)
  have e : (BitVec.ofNat 64 x &&& ~~~ (BitVec.ofInt 64 9223372036854775808)).toNat = x % 9223372036854775808 := by
    rw [BitVec.toNat_and, BitVec.toNat_ofNat, hx', show (~~~ (BitVec.ofInt 64 9223372036854775808)).toNat = 2 ^ 63 - 1 by decide, Nat.and_two_pow_sub_one_eq_mod]
  simp only [bits, BitVec.ofInt_natCast]
  show IntKind.u64.wrap ((BitVec.ofNat 64 x &&& ~~~ (BitVec.ofInt 64 9223372036854775808)).toNat : Int) = _
  rw [e, IntKind.wrap_u64]
  omega
theorem abs_any (x : Nat) (w : World) (hx : x < 18446744073709551616) :
    Calls Tryd.prog 30 #[.float .f64 x] w fun e w' => e = .returned (.float .f64 (x % 9223372036854775808)) ∧ w' = w := by
  have h1 := run_bits
  have h2 := run_frombits
  have h3 := andNot_sign x hx
  obtain ⟨y, hy⟩ : ∃ y, y = x % 9223372036854775808 := ⟨_, rfl⟩
  rw [← hy] at h3 ⊢
  clear hy
  go_enter Tryd.func30, Tryd.ntmps30
  go_wp2
  go_ret
  exact ⟨rfl, rfl⟩
theorem isNaN_any (x : Nat) (w : World) (h : FloatKind.f64.format.order x x = some .eq) :
    Calls Tryd.prog 39 #[.float .f64 x] w fun e w' => e = .returned (.bool false) ∧ w' = w := by
  go_enter Tryd.func39, Tryd.ntmps39
  go_wp2
  go_ret
  exact ⟨rfl, rfl⟩
theorem isInf_any (x : Nat) (w : World) (h : FloatKind.f64.format.order x 9218868437227405311 = some .lt) (hx : x < 9223372036854775808) :
    Calls Tryd.prog 40 #[.float .f64 x, .int .i64 0] w fun e w' => e = .returned (.bool false) ∧ w' = w := by
  have ha := abs_any x w (by omega)
  rw [Nat.mod_eq_of_lt hx] at ha
  have Ha := Lib.hid ha
  clear ha
  go_enter Tryd.func40, Tryd.ntmps40
  go_wp2_with (go_at_call 30; refine Ha.out.mono ?_; rintro e w1 ⟨rfl, rfl⟩)
  go_ret
  exact ⟨rfl, rfl⟩

/-- The tables of package math, as they lie. -/
structure Trig (w : World) : Prop where
  c0 : w.cell? ⟨3, 0, none⟩ = some (.float .f64 13666448263388469915)
  c1 : w.cell? ⟨3, 1, none⟩ = some (.float .f64 4477121864728985349)
  c2 : w.cell? ⟨3, 2, none⟩ = some (.float .f64 13732177093698800582)
  c3 : w.cell? ⟨3, 3, none⟩ = some (.float .f64 4537941361668146421)
  c4 : w.cell? ⟨3, 4, none⟩ = some (.float .f64 13787419979223748497)
  c5 : w.cell? ⟨3, 5, none⟩ = some (.float .f64 4586165620538955083)
  s0 : w.cell? ⟨4, 0, none⟩ = some (.float .f64 4460209587652500685)
  s1 : w.cell? ⟨4, 1, none⟩ = some (.float .f64 13716528389658582877)
  s2 : w.cell? ⟨4, 2, none⟩ = some (.float .f64 4523617212962785441)
  s3 : w.cell? ⟨4, 3, none⟩ = some (.float .f64 13774824197404483331)
  s4 : w.cell? ⟨4, 4, none⟩ = some (.float .f64 4575957461383575504)
  s5 : w.cell? ⟨4, 5, none⟩ = some (.float .f64 13818544856648471880)
  size : 5 ≤ w.heap.size
theorem Trig.next {w w' : World} (h : Trig w) (hb : Below w.heap.size w w') : Trig w' where
  c0 := by rw [hb.cell (p := ⟨3, 0, none⟩) (by have := h.size; show 3 < _; omega)]; exact h.c0
  c1 := by rw [hb.cell (p := ⟨3, 1, none⟩) (by have := h.size; show 3 < _; omega)]; exact h.c1
  c2 := by rw [hb.cell (p := ⟨3, 2, none⟩) (by have := h.size; show 3 < _; omega)]; exact h.c2
  c3 := by rw [hb.cell (p := ⟨3, 3, none⟩) (by have := h.size; show 3 < _; omega)]; exact h.c3
  c4 := by rw [hb.cell (p := ⟨3, 4, none⟩) (by have := h.size; show 3 < _; omega)]; exact h.c4
  c5 := by rw [hb.cell (p := ⟨3, 5, none⟩) (by have := h.size; show 3 < _; omega)]; exact h.c5
  s0 := by rw [hb.cell (p := ⟨4, 0, none⟩) (by have := h.size; show 4 < _; omega)]; exact h.s0
  s1 := by rw [hb.cell (p := ⟨4, 1, none⟩) (by have := h.size; show 4 < _; omega)]; exact h.s1
  s2 := by rw [hb.cell (p := ⟨4, 2, none⟩) (by have := h.size; show 4 < _; omega)]; exact h.s2
  s3 := by rw [hb.cell (p := ⟨4, 3, none⟩) (by have := h.size; show 4 < _; omega)]; exact h.s3
  s4 := by rw [hb.cell (p := ⟨4, 4, none⟩) (by have := h.size; show 4 < _; omega)]; exact h.s4
  s5 := by rw [hb.cell (p := ⟨4, 5, none⟩) (by have := h.size; show 4 < _; omega)]; exact h.s5
  size := Nat.le_trans h.size hb.size
theorem run_neg (x : Nat) (w : World) : (Op.unary .neg (.float .f64 x)).run Tryd.prog w = .ok (.float .f64 (Op.negFloat .f64 x)) w := rfl
theorem neg_abs (x : Nat) : Op.negFloat .f64 x % 9223372036854775808 = x % 9223372036854775808 := by
  show (x ^^^ 2 ^ 63) % 2 ^ 63 = x % 2 ^ 63
  rw [Nat.xor_mod_two_pow]; simp
set_option maxHeartbeats 4000000 in
set_option maxRecDepth 100000 in
theorem sin_ce (x m j y0 t47 t48 t50 t51 t53 z q t71 t72 t75 t79 t82 t84 t87 t89 t92 t94 t97 t99 t102 t103 r g : Nat) (w : World) (hx0 : FloatKind.f64.format.order x 0 = some .gt) (hx1 : FloatKind.f64.format.order x x = some .eq) (hx2 : FloatKind.f64.format.order x 9218868437227405311 = some .lt) (hx3 : FloatKind.f64.format.order x 4737786807993761792 = some .lt) (hx4 : x < 9223372036854775808)
    (h_m : floatBits .mul .f64 x 4608412980311869571 = some m) (h_j : floatToIntVal .f64 m .u64 = some (j : Int)) (h_y0 : floatOfInt .f64 (j : Int) = y0) (hj : j ≤ 1000) (hod : bits .and .u64 (j : Int) 1 = 0) (hg : bits .and .u64 ((j : Int)) 7 = (g : Int)) (hg4 : g = 2 ∨ g = 6) 
    (h_t47 : floatBits .mul .f64 y0 4605249456957292544 = some t47) (h_t48 : floatBits .sub .f64 x t47 = some t48) (h_t50 : floatBits .mul .f64 y0 4495793288086814720 = some t50) (h_t51 : floatBits .sub .f64 t48 t50 = some t51) (h_t53 : floatBits .mul .f64 y0 4388835458085048688 = some t53) (h_z : floatBits .sub .f64 t51 t53 = some z) (h_q : floatBits .mul .f64 z z = some q) (h_t71 : floatBits .mul .f64 4602678819172646912 q = some t71) (h_t72 : floatBits .sub .f64 4607182418800017408 t71 = some t72) (h_t75 : floatBits .mul .f64 q q = some t75) (h_t79 : floatBits .mul .f64 13666448263388469915 q = some t79) (h_t82 : floatBits .add .f64 t79 4477121864728985349 = some t82) (h_t84 : floatBits .mul .f64 t82 q = some t84) (h_t87 : floatBits .add .f64 t84 13732177093698800582 = some t87) (h_t89 : floatBits .mul .f64 t87 q = some t89) (h_t92 : floatBits .add .f64 t89 4537941361668146421 = some t92) (h_t94 : floatBits .mul .f64 t92 q = some t94) (h_t97 : floatBits .add .f64 t94 13787419979223748497 = some t97) (h_t99 : floatBits .mul .f64 t97 q = some t99) (h_t102 : floatBits .add .f64 t99 4586165620538955083 = some t102) (h_t103 : floatBits .mul .f64 t75 t102 = some t103) (h_r : floatBits .add .f64 t72 t103 = some r) (ht : Trig w) :
    Calls Tryd.prog 38 #[.float .f64 x] w fun e w' => (e = .returned (.float .f64 r) ∨ e = .returned (.float .f64 (Op.negFloat .f64 r))) ∧ w' = w := by
  have o_m : ∀ t w, (binOp .mul t (.float .f64 x) (.float .f64 4608412980311869571)).run Tryd.prog w = .ok (.float .f64 m) w := fun t w => run_float_arith w .mul t .f64 _ _ m h_m
  have o_j : ∀ w, (convert 61 55 (.float .f64 m)).run Tryd.prog w = .ok (.int .u64 (j : Int)) w := fun w => run_convert_float_int w 61 55 .f64 .u64 m j (by rw [Tryd.underlying61]; rfl) Tryd.underlying55 h_j
  have hji : (j : Int) ≤ 1000 := by omega
  have hneg := run_neg
  have o_t47 : ∀ t w, (binOp .mul t (.float .f64 y0) (.float .f64 4605249456957292544)).run Tryd.prog w = .ok (.float .f64 t47) w := fun t w => run_float_arith w .mul t .f64 y0 4605249456957292544 t47 h_t47
  have o_t48 : ∀ t w, (binOp .sub t (.float .f64 x) (.float .f64 t47)).run Tryd.prog w = .ok (.float .f64 t48) w := fun t w => run_float_arith w .sub t .f64 x t47 t48 h_t48
  have o_t50 : ∀ t w, (binOp .mul t (.float .f64 y0) (.float .f64 4495793288086814720)).run Tryd.prog w = .ok (.float .f64 t50) w := fun t w => run_float_arith w .mul t .f64 y0 4495793288086814720 t50 h_t50
  have o_t51 : ∀ t w, (binOp .sub t (.float .f64 t48) (.float .f64 t50)).run Tryd.prog w = .ok (.float .f64 t51) w := fun t w => run_float_arith w .sub t .f64 t48 t50 t51 h_t51
  have o_t53 : ∀ t w, (binOp .mul t (.float .f64 y0) (.float .f64 4388835458085048688)).run Tryd.prog w = .ok (.float .f64 t53) w := fun t w => run_float_arith w .mul t .f64 y0 4388835458085048688 t53 h_t53
  have o_z : ∀ t w, (binOp .sub t (.float .f64 t51) (.float .f64 t53)).run Tryd.prog w = .ok (.float .f64 z) w := fun t w => run_float_arith w .sub t .f64 t51 t53 z h_z
  have o_q : ∀ t w, (binOp .mul t (.float .f64 z) (.float .f64 z)).run Tryd.prog w = .ok (.float .f64 q) w := fun t w => run_float_arith w .mul t .f64 z z q h_q
  have o_t71 : ∀ t w, (binOp .mul t (.float .f64 4602678819172646912) (.float .f64 q)).run Tryd.prog w = .ok (.float .f64 t71) w := fun t w => run_float_arith w .mul t .f64 4602678819172646912 q t71 h_t71
  have o_t72 : ∀ t w, (binOp .sub t (.float .f64 4607182418800017408) (.float .f64 t71)).run Tryd.prog w = .ok (.float .f64 t72) w := fun t w => run_float_arith w .sub t .f64 4607182418800017408 t71 t72 h_t72
  have o_t75 : ∀ t w, (binOp .mul t (.float .f64 q) (.float .f64 q)).run Tryd.prog w = .ok (.float .f64 t75) w := fun t w => run_float_arith w .mul t .f64 q q t75 h_t75
  have o_t79 : ∀ t w, (binOp .mul t (.float .f64 13666448263388469915) (.float .f64 q)).run Tryd.prog w = .ok (.float .f64 t79) w := fun t w => run_float_arith w .mul t .f64 13666448263388469915 q t79 h_t79
  have o_t82 : ∀ t w, (binOp .add t (.float .f64 t79) (.float .f64 4477121864728985349)).run Tryd.prog w = .ok (.float .f64 t82) w := fun t w => run_float_arith w .add t .f64 t79 4477121864728985349 t82 h_t82
  have o_t84 : ∀ t w, (binOp .mul t (.float .f64 t82) (.float .f64 q)).run Tryd.prog w = .ok (.float .f64 t84) w := fun t w => run_float_arith w .mul t .f64 t82 q t84 h_t84
  have o_t87 : ∀ t w, (binOp .add t (.float .f64 t84) (.float .f64 13732177093698800582)).run Tryd.prog w = .ok (.float .f64 t87) w := fun t w => run_float_arith w .add t .f64 t84 13732177093698800582 t87 h_t87
  have o_t89 : ∀ t w, (binOp .mul t (.float .f64 t87) (.float .f64 q)).run Tryd.prog w = .ok (.float .f64 t89) w := fun t w => run_float_arith w .mul t .f64 t87 q t89 h_t89
  have o_t92 : ∀ t w, (binOp .add t (.float .f64 t89) (.float .f64 4537941361668146421)).run Tryd.prog w = .ok (.float .f64 t92) w := fun t w => run_float_arith w .add t .f64 t89 4537941361668146421 t92 h_t92
  have o_t94 : ∀ t w, (binOp .mul t (.float .f64 t92) (.float .f64 q)).run Tryd.prog w = .ok (.float .f64 t94) w := fun t w => run_float_arith w .mul t .f64 t92 q t94 h_t94
  have o_t97 : ∀ t w, (binOp .add t (.float .f64 t94) (.float .f64 13787419979223748497)).run Tryd.prog w = .ok (.float .f64 t97) w := fun t w => run_float_arith w .add t .f64 t94 13787419979223748497 t97 h_t97
  have o_t99 : ∀ t w, (binOp .mul t (.float .f64 t97) (.float .f64 q)).run Tryd.prog w = .ok (.float .f64 t99) w := fun t w => run_float_arith w .mul t .f64 t97 q t99 h_t99
  have o_t102 : ∀ t w, (binOp .add t (.float .f64 t99) (.float .f64 4586165620538955083)).run Tryd.prog w = .ok (.float .f64 t102) w := fun t w => run_float_arith w .add t .f64 t99 4586165620538955083 t102 h_t102
  have o_t103 : ∀ t w, (binOp .mul t (.float .f64 t75) (.float .f64 t102)).run Tryd.prog w = .ok (.float .f64 t103) w := fun t w => run_float_arith w .mul t .f64 t75 t102 t103 h_t103
  have o_r : ∀ t w, (binOp .add t (.float .f64 t72) (.float .f64 t103)).run Tryd.prog w = .ok (.float .f64 r) w := fun t w => run_float_arith w .add t .f64 t72 t103 r h_r
  have c0 := ht.c0
  have c1 := ht.c1
  have c2 := ht.c2
  have c3 := ht.c3
  have c4 := ht.c4
  have c5 := ht.c5
  have HN := Lib.hid (isNaN_any x w hx1)
  have HI := Lib.hid (isInf_any x w hx2 hx4)
  clear h_m h_j h_t47 h_t48 h_t50 h_t51 h_t53 h_z h_q h_t71 h_t72 h_t75 h_t79 h_t82 h_t84 h_t87 h_t89 h_t92 h_t94 h_t97 h_t99 h_t102 h_t103 h_r ht hx1 hx2 hx4 hj
  rcases hg4 with rfl | rfl
  all_goals
    go_enter Tryd.func38, Tryd.ntmps38
    go_wp2_with (first | (go_at_call 39; refine HN.out.mono ?_; rintro e w1 ⟨rfl, rfl⟩) | (go_at_call 40; refine HI.out.mono ?_; rintro e w1 ⟨rfl, rfl⟩))
    go_ret
    first | exact ⟨.inl rfl, rfl⟩ | exact ⟨.inr rfl, rfl⟩
set_option maxHeartbeats 4000000 in
set_option maxRecDepth 100000 in
theorem sin_co (x m j y0 y t47 t48 t50 t51 t53 z q t71 t72 t75 t79 t82 t84 t87 t89 t92 t94 t97 t99 t102 t103 r g : Nat) (w : World) (hx0 : FloatKind.f64.format.order x 0 = some .gt) (hx1 : FloatKind.f64.format.order x x = some .eq) (hx2 : FloatKind.f64.format.order x 9218868437227405311 = some .lt) (hx3 : FloatKind.f64.format.order x 4737786807993761792 = some .lt) (hx4 : x < 9223372036854775808)
    (h_m : floatBits .mul .f64 x 4608412980311869571 = some m) (h_j : floatToIntVal .f64 m .u64 = some (j : Int)) (h_y0 : floatOfInt .f64 (j : Int) = y0) (hj : j ≤ 1000) (hod : bits .and .u64 (j : Int) 1 = 1) (hg : bits .and .u64 ((j : Int) + 1) 7 = (g : Int)) (hg4 : g = 2 ∨ g = 6) (h_y : floatBits .add .f64 y0 4607182418800017408 = some y)
    (h_t47 : floatBits .mul .f64 y 4605249456957292544 = some t47) (h_t48 : floatBits .sub .f64 x t47 = some t48) (h_t50 : floatBits .mul .f64 y 4495793288086814720 = some t50) (h_t51 : floatBits .sub .f64 t48 t50 = some t51) (h_t53 : floatBits .mul .f64 y 4388835458085048688 = some t53) (h_z : floatBits .sub .f64 t51 t53 = some z) (h_q : floatBits .mul .f64 z z = some q) (h_t71 : floatBits .mul .f64 4602678819172646912 q = some t71) (h_t72 : floatBits .sub .f64 4607182418800017408 t71 = some t72) (h_t75 : floatBits .mul .f64 q q = some t75) (h_t79 : floatBits .mul .f64 13666448263388469915 q = some t79) (h_t82 : floatBits .add .f64 t79 4477121864728985349 = some t82) (h_t84 : floatBits .mul .f64 t82 q = some t84) (h_t87 : floatBits .add .f64 t84 13732177093698800582 = some t87) (h_t89 : floatBits .mul .f64 t87 q = some t89) (h_t92 : floatBits .add .f64 t89 4537941361668146421 = some t92) (h_t94 : floatBits .mul .f64 t92 q = some t94) (h_t97 : floatBits .add .f64 t94 13787419979223748497 = some t97) (h_t99 : floatBits .mul .f64 t97 q = some t99) (h_t102 : floatBits .add .f64 t99 4586165620538955083 = some t102) (h_t103 : floatBits .mul .f64 t75 t102 = some t103) (h_r : floatBits .add .f64 t72 t103 = some r) (ht : Trig w) :
    Calls Tryd.prog 38 #[.float .f64 x] w fun e w' => (e = .returned (.float .f64 r) ∨ e = .returned (.float .f64 (Op.negFloat .f64 r))) ∧ w' = w := by
  have o_m : ∀ t w, (binOp .mul t (.float .f64 x) (.float .f64 4608412980311869571)).run Tryd.prog w = .ok (.float .f64 m) w := fun t w => run_float_arith w .mul t .f64 _ _ m h_m
  have o_j : ∀ w, (convert 61 55 (.float .f64 m)).run Tryd.prog w = .ok (.int .u64 (j : Int)) w := fun w => run_convert_float_int w 61 55 .f64 .u64 m j (by rw [Tryd.underlying61]; rfl) Tryd.underlying55 h_j
  have hji : (j : Int) ≤ 1000 := by omega
  have hneg := run_neg
  have o_y : ∀ t w, (binOp .add t (.float .f64 y0) (.float .f64 4607182418800017408)).run Tryd.prog w = .ok (.float .f64 y) w := fun t w => run_float_arith w .add t .f64 y0 4607182418800017408 y h_y
  have o_t47 : ∀ t w, (binOp .mul t (.float .f64 y) (.float .f64 4605249456957292544)).run Tryd.prog w = .ok (.float .f64 t47) w := fun t w => run_float_arith w .mul t .f64 y 4605249456957292544 t47 h_t47
  have o_t48 : ∀ t w, (binOp .sub t (.float .f64 x) (.float .f64 t47)).run Tryd.prog w = .ok (.float .f64 t48) w := fun t w => run_float_arith w .sub t .f64 x t47 t48 h_t48
  have o_t50 : ∀ t w, (binOp .mul t (.float .f64 y) (.float .f64 4495793288086814720)).run Tryd.prog w = .ok (.float .f64 t50) w := fun t w => run_float_arith w .mul t .f64 y 4495793288086814720 t50 h_t50
  have o_t51 : ∀ t w, (binOp .sub t (.float .f64 t48) (.float .f64 t50)).run Tryd.prog w = .ok (.float .f64 t51) w := fun t w => run_float_arith w .sub t .f64 t48 t50 t51 h_t51
  have o_t53 : ∀ t w, (binOp .mul t (.float .f64 y) (.float .f64 4388835458085048688)).run Tryd.prog w = .ok (.float .f64 t53) w := fun t w => run_float_arith w .mul t .f64 y 4388835458085048688 t53 h_t53
  have o_z : ∀ t w, (binOp .sub t (.float .f64 t51) (.float .f64 t53)).run Tryd.prog w = .ok (.float .f64 z) w := fun t w => run_float_arith w .sub t .f64 t51 t53 z h_z
  have o_q : ∀ t w, (binOp .mul t (.float .f64 z) (.float .f64 z)).run Tryd.prog w = .ok (.float .f64 q) w := fun t w => run_float_arith w .mul t .f64 z z q h_q
  have o_t71 : ∀ t w, (binOp .mul t (.float .f64 4602678819172646912) (.float .f64 q)).run Tryd.prog w = .ok (.float .f64 t71) w := fun t w => run_float_arith w .mul t .f64 4602678819172646912 q t71 h_t71
  have o_t72 : ∀ t w, (binOp .sub t (.float .f64 4607182418800017408) (.float .f64 t71)).run Tryd.prog w = .ok (.float .f64 t72) w := fun t w => run_float_arith w .sub t .f64 4607182418800017408 t71 t72 h_t72
  have o_t75 : ∀ t w, (binOp .mul t (.float .f64 q) (.float .f64 q)).run Tryd.prog w = .ok (.float .f64 t75) w := fun t w => run_float_arith w .mul t .f64 q q t75 h_t75
  have o_t79 : ∀ t w, (binOp .mul t (.float .f64 13666448263388469915) (.float .f64 q)).run Tryd.prog w = .ok (.float .f64 t79) w := fun t w => run_float_arith w .mul t .f64 13666448263388469915 q t79 h_t79
  have o_t82 : ∀ t w, (binOp .add t (.float .f64 t79) (.float .f64 4477121864728985349)).run Tryd.prog w = .ok (.float .f64 t82) w := fun t w => run_float_arith w .add t .f64 t79 4477121864728985349 t82 h_t82
  have o_t84 : ∀ t w, (binOp .mul t (.float .f64 t82) (.float .f64 q)).run Tryd.prog w = .ok (.float .f64 t84) w := fun t w => run_float_arith w .mul t .f64 t82 q t84 h_t84
  have o_t87 : ∀ t w, (binOp .add t (.float .f64 t84) (.float .f64 13732177093698800582)).run Tryd.prog w = .ok (.float .f64 t87) w := fun t w => run_float_arith w .add t .f64 t84 13732177093698800582 t87 h_t87
  have o_t89 : ∀ t w, (binOp .mul t (.float .f64 t87) (.float .f64 q)).run Tryd.prog w = .ok (.float .f64 t89) w := fun t w => run_float_arith w .mul t .f64 t87 q t89 h_t89
  have o_t92 : ∀ t w, (binOp .add t (.float .f64 t89) (.float .f64 4537941361668146421)).run Tryd.prog w = .ok (.float .f64 t92) w := fun t w => run_float_arith w .add t .f64 t89 4537941361668146421 t92 h_t92
  have o_t94 : ∀ t w, (binOp .mul t (.float .f64 t92) (.float .f64 q)).run Tryd.prog w = .ok (.float .f64 t94) w := fun t w => run_float_arith w .mul t .f64 t92 q t94 h_t94
  have o_t97 : ∀ t w, (binOp .add t (.float .f64 t94) (.float .f64 13787419979223748497)).run Tryd.prog w = .ok (.float .f64 t97) w := fun t w => run_float_arith w .add t .f64 t94 13787419979223748497 t97 h_t97
  have o_t99 : ∀ t w, (binOp .mul t (.float .f64 t97) (.float .f64 q)).run Tryd.prog w = .ok (.float .f64 t99) w := fun t w => run_float_arith w .mul t .f64 t97 q t99 h_t99
  have o_t102 : ∀ t w, (binOp .add t (.float .f64 t99) (.float .f64 4586165620538955083)).run Tryd.prog w = .ok (.float .f64 t102) w := fun t w => run_float_arith w .add t .f64 t99 4586165620538955083 t102 h_t102
  have o_t103 : ∀ t w, (binOp .mul t (.float .f64 t75) (.float .f64 t102)).run Tryd.prog w = .ok (.float .f64 t103) w := fun t w => run_float_arith w .mul t .f64 t75 t102 t103 h_t103
  have o_r : ∀ t w, (binOp .add t (.float .f64 t72) (.float .f64 t103)).run Tryd.prog w = .ok (.float .f64 r) w := fun t w => run_float_arith w .add t .f64 t72 t103 r h_r
  have c0 := ht.c0
  have c1 := ht.c1
  have c2 := ht.c2
  have c3 := ht.c3
  have c4 := ht.c4
  have c5 := ht.c5
  have HN := Lib.hid (isNaN_any x w hx1)
  have HI := Lib.hid (isInf_any x w hx2 hx4)
  clear h_m h_j h_y h_t47 h_t48 h_t50 h_t51 h_t53 h_z h_q h_t71 h_t72 h_t75 h_t79 h_t82 h_t84 h_t87 h_t89 h_t92 h_t94 h_t97 h_t99 h_t102 h_t103 h_r ht hx1 hx2 hx4 hj
  rcases hg4 with rfl | rfl
  all_goals
    go_enter Tryd.func38, Tryd.ntmps38
    go_wp2_with (first | (go_at_call 39; refine HN.out.mono ?_; rintro e w1 ⟨rfl, rfl⟩) | (go_at_call 40; refine HI.out.mono ?_; rintro e w1 ⟨rfl, rfl⟩))
    go_ret
    first | exact ⟨.inl rfl, rfl⟩ | exact ⟨.inr rfl, rfl⟩
set_option maxHeartbeats 4000000 in
set_option maxRecDepth 100000 in
theorem sin_se (x m j y0 t47 t48 t50 t51 t53 z q t108 t112 t115 t117 t120 t122 t125 t127 t130 t132 t135 t136 r g : Nat) (w : World) (hx0 : FloatKind.f64.format.order x 0 = some .gt) (hx1 : FloatKind.f64.format.order x x = some .eq) (hx2 : FloatKind.f64.format.order x 9218868437227405311 = some .lt) (hx3 : FloatKind.f64.format.order x 4737786807993761792 = some .lt) (hx4 : x < 9223372036854775808)
    (h_m : floatBits .mul .f64 x 4608412980311869571 = some m) (h_j : floatToIntVal .f64 m .u64 = some (j : Int)) (h_y0 : floatOfInt .f64 (j : Int) = y0) (hj : j ≤ 1000) (hod : bits .and .u64 (j : Int) 1 = 0) (hg : bits .and .u64 ((j : Int)) 7 = (g : Int)) (hg4 : g = 0 ∨ g = 4) 
    (h_t47 : floatBits .mul .f64 y0 4605249456957292544 = some t47) (h_t48 : floatBits .sub .f64 x t47 = some t48) (h_t50 : floatBits .mul .f64 y0 4495793288086814720 = some t50) (h_t51 : floatBits .sub .f64 t48 t50 = some t51) (h_t53 : floatBits .mul .f64 y0 4388835458085048688 = some t53) (h_z : floatBits .sub .f64 t51 t53 = some z) (h_q : floatBits .mul .f64 z z = some q) (h_t108 : floatBits .mul .f64 z q = some t108) (h_t112 : floatBits .mul .f64 4460209587652500685 q = some t112) (h_t115 : floatBits .add .f64 t112 13716528389658582877 = some t115) (h_t117 : floatBits .mul .f64 t115 q = some t117) (h_t120 : floatBits .add .f64 t117 4523617212962785441 = some t120) (h_t122 : floatBits .mul .f64 t120 q = some t122) (h_t125 : floatBits .add .f64 t122 13774824197404483331 = some t125) (h_t127 : floatBits .mul .f64 t125 q = some t127) (h_t130 : floatBits .add .f64 t127 4575957461383575504 = some t130) (h_t132 : floatBits .mul .f64 t130 q = some t132) (h_t135 : floatBits .add .f64 t132 13818544856648471880 = some t135) (h_t136 : floatBits .mul .f64 t108 t135 = some t136) (h_r : floatBits .add .f64 z t136 = some r) (ht : Trig w) :
    Calls Tryd.prog 38 #[.float .f64 x] w fun e w' => (e = .returned (.float .f64 r) ∨ e = .returned (.float .f64 (Op.negFloat .f64 r))) ∧ w' = w := by
  have o_m : ∀ t w, (binOp .mul t (.float .f64 x) (.float .f64 4608412980311869571)).run Tryd.prog w = .ok (.float .f64 m) w := fun t w => run_float_arith w .mul t .f64 _ _ m h_m
  have o_j : ∀ w, (convert 61 55 (.float .f64 m)).run Tryd.prog w = .ok (.int .u64 (j : Int)) w := fun w => run_convert_float_int w 61 55 .f64 .u64 m j (by rw [Tryd.underlying61]; rfl) Tryd.underlying55 h_j
  have hji : (j : Int) ≤ 1000 := by omega
  have hneg := run_neg
  have o_t47 : ∀ t w, (binOp .mul t (.float .f64 y0) (.float .f64 4605249456957292544)).run Tryd.prog w = .ok (.float .f64 t47) w := fun t w => run_float_arith w .mul t .f64 y0 4605249456957292544 t47 h_t47
  have o_t48 : ∀ t w, (binOp .sub t (.float .f64 x) (.float .f64 t47)).run Tryd.prog w = .ok (.float .f64 t48) w := fun t w => run_float_arith w .sub t .f64 x t47 t48 h_t48
  have o_t50 : ∀ t w, (binOp .mul t (.float .f64 y0) (.float .f64 4495793288086814720)).run Tryd.prog w = .ok (.float .f64 t50) w := fun t w => run_float_arith w .mul t .f64 y0 4495793288086814720 t50 h_t50
  have o_t51 : ∀ t w, (binOp .sub t (.float .f64 t48) (.float .f64 t50)).run Tryd.prog w = .ok (.float .f64 t51) w := fun t w => run_float_arith w .sub t .f64 t48 t50 t51 h_t51
  have o_t53 : ∀ t w, (binOp .mul t (.float .f64 y0) (.float .f64 4388835458085048688)).run Tryd.prog w = .ok (.float .f64 t53) w := fun t w => run_float_arith w .mul t .f64 y0 4388835458085048688 t53 h_t53
  have o_z : ∀ t w, (binOp .sub t (.float .f64 t51) (.float .f64 t53)).run Tryd.prog w = .ok (.float .f64 z) w := fun t w => run_float_arith w .sub t .f64 t51 t53 z h_z
  have o_q : ∀ t w, (binOp .mul t (.float .f64 z) (.float .f64 z)).run Tryd.prog w = .ok (.float .f64 q) w := fun t w => run_float_arith w .mul t .f64 z z q h_q
  have o_t108 : ∀ t w, (binOp .mul t (.float .f64 z) (.float .f64 q)).run Tryd.prog w = .ok (.float .f64 t108) w := fun t w => run_float_arith w .mul t .f64 z q t108 h_t108
  have o_t112 : ∀ t w, (binOp .mul t (.float .f64 4460209587652500685) (.float .f64 q)).run Tryd.prog w = .ok (.float .f64 t112) w := fun t w => run_float_arith w .mul t .f64 4460209587652500685 q t112 h_t112
  have o_t115 : ∀ t w, (binOp .add t (.float .f64 t112) (.float .f64 13716528389658582877)).run Tryd.prog w = .ok (.float .f64 t115) w := fun t w => run_float_arith w .add t .f64 t112 13716528389658582877 t115 h_t115
  have o_t117 : ∀ t w, (binOp .mul t (.float .f64 t115) (.float .f64 q)).run Tryd.prog w = .ok (.float .f64 t117) w := fun t w => run_float_arith w .mul t .f64 t115 q t117 h_t117
  have o_t120 : ∀ t w, (binOp .add t (.float .f64 t117) (.float .f64 4523617212962785441)).run Tryd.prog w = .ok (.float .f64 t120) w := fun t w => run_float_arith w .add t .f64 t117 4523617212962785441 t120 h_t120
  have o_t122 : ∀ t w, (binOp .mul t (.float .f64 t120) (.float .f64 q)).run Tryd.prog w = .ok (.float .f64 t122) w := fun t w => run_float_arith w .mul t .f64 t120 q t122 h_t122
  have o_t125 : ∀ t w, (binOp .add t (.float .f64 t122) (.float .f64 13774824197404483331)).run Tryd.prog w = .ok (.float .f64 t125) w := fun t w => run_float_arith w .add t .f64 t122 13774824197404483331 t125 h_t125
  have o_t127 : ∀ t w, (binOp .mul t (.float .f64 t125) (.float .f64 q)).run Tryd.prog w = .ok (.float .f64 t127) w := fun t w => run_float_arith w .mul t .f64 t125 q t127 h_t127
  have o_t130 : ∀ t w, (binOp .add t (.float .f64 t127) (.float .f64 4575957461383575504)).run Tryd.prog w = .ok (.float .f64 t130) w := fun t w => run_float_arith w .add t .f64 t127 4575957461383575504 t130 h_t130
  have o_t132 : ∀ t w, (binOp .mul t (.float .f64 t130) (.float .f64 q)).run Tryd.prog w = .ok (.float .f64 t132) w := fun t w => run_float_arith w .mul t .f64 t130 q t132 h_t132
  have o_t135 : ∀ t w, (binOp .add t (.float .f64 t132) (.float .f64 13818544856648471880)).run Tryd.prog w = .ok (.float .f64 t135) w := fun t w => run_float_arith w .add t .f64 t132 13818544856648471880 t135 h_t135
  have o_t136 : ∀ t w, (binOp .mul t (.float .f64 t108) (.float .f64 t135)).run Tryd.prog w = .ok (.float .f64 t136) w := fun t w => run_float_arith w .mul t .f64 t108 t135 t136 h_t136
  have o_r : ∀ t w, (binOp .add t (.float .f64 z) (.float .f64 t136)).run Tryd.prog w = .ok (.float .f64 r) w := fun t w => run_float_arith w .add t .f64 z t136 r h_r
  have c0 := ht.s0
  have c1 := ht.s1
  have c2 := ht.s2
  have c3 := ht.s3
  have c4 := ht.s4
  have c5 := ht.s5
  have HN := Lib.hid (isNaN_any x w hx1)
  have HI := Lib.hid (isInf_any x w hx2 hx4)
  clear h_m h_j h_t47 h_t48 h_t50 h_t51 h_t53 h_z h_q h_t108 h_t112 h_t115 h_t117 h_t120 h_t122 h_t125 h_t127 h_t130 h_t132 h_t135 h_t136 h_r ht hx1 hx2 hx4 hj
  rcases hg4 with rfl | rfl
  all_goals
    go_enter Tryd.func38, Tryd.ntmps38
    go_wp2_with (first | (go_at_call 39; refine HN.out.mono ?_; rintro e w1 ⟨rfl, rfl⟩) | (go_at_call 40; refine HI.out.mono ?_; rintro e w1 ⟨rfl, rfl⟩))
    go_ret
    first | exact ⟨.inl rfl, rfl⟩ | exact ⟨.inr rfl, rfl⟩
set_option maxHeartbeats 4000000 in
set_option maxRecDepth 100000 in
theorem sin_so (x m j y0 y t47 t48 t50 t51 t53 z q t108 t112 t115 t117 t120 t122 t125 t127 t130 t132 t135 t136 r g : Nat) (w : World) (hx0 : FloatKind.f64.format.order x 0 = some .gt) (hx1 : FloatKind.f64.format.order x x = some .eq) (hx2 : FloatKind.f64.format.order x 9218868437227405311 = some .lt) (hx3 : FloatKind.f64.format.order x 4737786807993761792 = some .lt) (hx4 : x < 9223372036854775808)
    (h_m : floatBits .mul .f64 x 4608412980311869571 = some m) (h_j : floatToIntVal .f64 m .u64 = some (j : Int)) (h_y0 : floatOfInt .f64 (j : Int) = y0) (hj : j ≤ 1000) (hod : bits .and .u64 (j : Int) 1 = 1) (hg : bits .and .u64 ((j : Int) + 1) 7 = (g : Int)) (hg4 : g = 0 ∨ g = 4) (h_y : floatBits .add .f64 y0 4607182418800017408 = some y)
    (h_t47 : floatBits .mul .f64 y 4605249456957292544 = some t47) (h_t48 : floatBits .sub .f64 x t47 = some t48) (h_t50 : floatBits .mul .f64 y 4495793288086814720 = some t50) (h_t51 : floatBits .sub .f64 t48 t50 = some t51) (h_t53 : floatBits .mul .f64 y 4388835458085048688 = some t53) (h_z : floatBits .sub .f64 t51 t53 = some z) (h_q : floatBits .mul .f64 z z = some q) (h_t108 : floatBits .mul .f64 z q = some t108) (h_t112 : floatBits .mul .f64 4460209587652500685 q = some t112) (h_t115 : floatBits .add .f64 t112 13716528389658582877 = some t115) (h_t117 : floatBits .mul .f64 t115 q = some t117) (h_t120 : floatBits .add .f64 t117 4523617212962785441 = some t120) (h_t122 : floatBits .mul .f64 t120 q = some t122) (h_t125 : floatBits .add .f64 t122 13774824197404483331 = some t125) (h_t127 : floatBits .mul .f64 t125 q = some t127) (h_t130 : floatBits .add .f64 t127 4575957461383575504 = some t130) (h_t132 : floatBits .mul .f64 t130 q = some t132) (h_t135 : floatBits .add .f64 t132 13818544856648471880 = some t135) (h_t136 : floatBits .mul .f64 t108 t135 = some t136) (h_r : floatBits .add .f64 z t136 = some r) (ht : Trig w) :
    Calls Tryd.prog 38 #[.float .f64 x] w fun e w' => (e = .returned (.float .f64 r) ∨ e = .returned (.float .f64 (Op.negFloat .f64 r))) ∧ w' = w := by
  have o_m : ∀ t w, (binOp .mul t (.float .f64 x) (.float .f64 4608412980311869571)).run Tryd.prog w = .ok (.float .f64 m) w := fun t w => run_float_arith w .mul t .f64 _ _ m h_m
  have o_j : ∀ w, (convert 61 55 (.float .f64 m)).run Tryd.prog w = .ok (.int .u64 (j : Int)) w := fun w => run_convert_float_int w 61 55 .f64 .u64 m j (by rw [Tryd.underlying61]; rfl) Tryd.underlying55 h_j
  have hji : (j : Int) ≤ 1000 := by omega
  have hneg := run_neg
  have o_y : ∀ t w, (binOp .add t (.float .f64 y0) (.float .f64 4607182418800017408)).run Tryd.prog w = .ok (.float .f64 y) w := fun t w => run_float_arith w .add t .f64 y0 4607182418800017408 y h_y
  have o_t47 : ∀ t w, (binOp .mul t (.float .f64 y) (.float .f64 4605249456957292544)).run Tryd.prog w = .ok (.float .f64 t47) w := fun t w => run_float_arith w .mul t .f64 y 4605249456957292544 t47 h_t47
  have o_t48 : ∀ t w, (binOp .sub t (.float .f64 x) (.float .f64 t47)).run Tryd.prog w = .ok (.float .f64 t48) w := fun t w => run_float_arith w .sub t .f64 x t47 t48 h_t48
  have o_t50 : ∀ t w, (binOp .mul t (.float .f64 y) (.float .f64 4495793288086814720)).run Tryd.prog w = .ok (.float .f64 t50) w := fun t w => run_float_arith w .mul t .f64 y 4495793288086814720 t50 h_t50
  have o_t51 : ∀ t w, (binOp .sub t (.float .f64 t48) (.float .f64 t50)).run Tryd.prog w = .ok (.float .f64 t51) w := fun t w => run_float_arith w .sub t .f64 t48 t50 t51 h_t51
  have o_t53 : ∀ t w, (binOp .mul t (.float .f64 y) (.float .f64 4388835458085048688)).run Tryd.prog w = .ok (.float .f64 t53) w := fun t w => run_float_arith w .mul t .f64 y 4388835458085048688 t53 h_t53
  have o_z : ∀ t w, (binOp .sub t (.float .f64 t51) (.float .f64 t53)).run Tryd.prog w = .ok (.float .f64 z) w := fun t w => run_float_arith w .sub t .f64 t51 t53 z h_z
  have o_q : ∀ t w, (binOp .mul t (.float .f64 z) (.float .f64 z)).run Tryd.prog w = .ok (.float .f64 q) w := fun t w => run_float_arith w .mul t .f64 z z q h_q
  have o_t108 : ∀ t w, (binOp .mul t (.float .f64 z) (.float .f64 q)).run Tryd.prog w = .ok (.float .f64 t108) w := fun t w => run_float_arith w .mul t .f64 z q t108 h_t108
  have o_t112 : ∀ t w, (binOp .mul t (.float .f64 4460209587652500685) (.float .f64 q)).run Tryd.prog w = .ok (.float .f64 t112) w := fun t w => run_float_arith w .mul t .f64 4460209587652500685 q t112 h_t112
  have o_t115 : ∀ t w, (binOp .add t (.float .f64 t112) (.float .f64 13716528389658582877)).run Tryd.prog w = .ok (.float .f64 t115) w := fun t w => run_float_arith w .add t .f64 t112 13716528389658582877 t115 h_t115
  have o_t117 : ∀ t w, (binOp .mul t (.float .f64 t115) (.float .f64 q)).run Tryd.prog w = .ok (.float .f64 t117) w := fun t w => run_float_arith w .mul t .f64 t115 q t117 h_t117
  have o_t120 : ∀ t w, (binOp .add t (.float .f64 t117) (.float .f64 4523617212962785441)).run Tryd.prog w = .ok (.float .f64 t120) w := fun t w => run_float_arith w .add t .f64 t117 4523617212962785441 t120 h_t120
  have o_t122 : ∀ t w, (binOp .mul t (.float .f64 t120) (.float .f64 q)).run Tryd.prog w = .ok (.float .f64 t122) w := fun t w => run_float_arith w .mul t .f64 t120 q t122 h_t122
  have o_t125 : ∀ t w, (binOp .add t (.float .f64 t122) (.float .f64 13774824197404483331)).run Tryd.prog w = .ok (.float .f64 t125) w := fun t w => run_float_arith w .add t .f64 t122 13774824197404483331 t125 h_t125
  have o_t127 : ∀ t w, (binOp .mul t (.float .f64 t125) (.float .f64 q)).run Tryd.prog w = .ok (.float .f64 t127) w := fun t w => run_float_arith w .mul t .f64 t125 q t127 h_t127
  have o_t130 : ∀ t w, (binOp .add t (.float .f64 t127) (.float .f64 4575957461383575504)).run Tryd.prog w = .ok (.float .f64 t130) w := fun t w => run_float_arith w .add t .f64 t127 4575957461383575504 t130 h_t130
  have o_t132 : ∀ t w, (binOp .mul t (.float .f64 t130) (.float .f64 q)).run Tryd.prog w = .ok (.float .f64 t132) w := fun t w => run_float_arith w .mul t .f64 t130 q t132 h_t132
  have o_t135 : ∀ t w, (binOp .add t (.float .f64 t132) (.float .f64 13818544856648471880)).run Tryd.prog w = .ok (.float .f64 t135) w := fun t w => run_float_arith w .add t .f64 t132 13818544856648471880 t135 h_t135
  have o_t136 : ∀ t w, (binOp .mul t (.float .f64 t108) (.float .f64 t135)).run Tryd.prog w = .ok (.float .f64 t136) w := fun t w => run_float_arith w .mul t .f64 t108 t135 t136 h_t136
  have o_r : ∀ t w, (binOp .add t (.float .f64 z) (.float .f64 t136)).run Tryd.prog w = .ok (.float .f64 r) w := fun t w => run_float_arith w .add t .f64 z t136 r h_r
  have c0 := ht.s0
  have c1 := ht.s1
  have c2 := ht.s2
  have c3 := ht.s3
  have c4 := ht.s4
  have c5 := ht.s5
  have HN := Lib.hid (isNaN_any x w hx1)
  have HI := Lib.hid (isInf_any x w hx2 hx4)
  clear h_m h_j h_y h_t47 h_t48 h_t50 h_t51 h_t53 h_z h_q h_t108 h_t112 h_t115 h_t117 h_t120 h_t122 h_t125 h_t127 h_t130 h_t132 h_t135 h_t136 h_r ht hx1 hx2 hx4 hj
  rcases hg4 with rfl | rfl
  all_goals
    go_enter Tryd.func38, Tryd.ntmps38
    go_wp2_with (first | (go_at_call 39; refine HN.out.mono ?_; rintro e w1 ⟨rfl, rfl⟩) | (go_at_call 40; refine HI.out.mono ?_; rintro e w1 ⟨rfl, rfl⟩))
    go_ret
    first | exact ⟨.inl rfl, rfl⟩ | exact ⟨.inr rfl, rfl⟩
end Go.Proofs.YtjalhlofpoknoaaDoor.S3
