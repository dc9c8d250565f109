/- The answers that awake asks for; contract of awake. -/
import Derived.Test.YtcbgpolfnaopcaaRb
namespace Go.Proofs.Ytcbgpolfnaopcaa
open Go.RowKit
namespace Ac
theorem awk_get : Oc.get [0, 10, 0, 0] true = 655360 := by decide +kernel
theorem awk_with : withs 0 [17, 19, 200] = 655360 := by decide +kernel
theorem awk_list : list 655360 32 = [17, 19] := by decide +kernel
theorem awk_put : Oc.put 655360 4 true = [0, 10, 0, 0] := by decide +kernel
theorem awk_has : has 1 0 = true := by decide +kernel
theorem awk_hasn : has 1 32 = false := by decide +kernel
theorem awk_7d : apart 0 125 = true := by decide +kernel
theorem awk_7e : apart 0 126 = true := by decide +kernel
theorem awk_0 : apart 0 0 = false := by decide +kernel
end Ac
/-- A slice that was built of bytes. -/
theorem rowAt_built (w : World) (xs : List UInt8) (n : Nat) (cs : Array Value) (hn : xs.length = n) (hcs : cs = (Lib.byteCells xs).toArray) (hm : n ≤ 100000) (fz : Nat × Nat) : RowAt (w.alloc (.cells cs 5 fz)) (some ⟨w.heap.size, 0, none⟩) n xs := by
  subst hcs
  subst hn
  refine ⟨Nat.le_refl _, by unfold maxLen; omega, (fun e => by cases e), fun ad e j u hu => ?_⟩
  cases e
  rw [Go.WideShapes.add_plain]
  simp only [World.cell?, heap_alloc_new]
  simpa using hu
theorem RowAt.drawn {w : World} {a : Option Addr} {c : Nat} {xs : List UInt8} (h : RowAt w a c xs) : RowAt w.drew a c xs := h.next (Below.refl _ _).drew

theorem a_get (w : World) : Calls Try.prog 17 #[.slice (some ⟨w.heap.size, 0, none⟩) 4 4] (w.alloc (.cells #[.int .u8 0, .int .u8 10, .int .u8 0, .int .u8 0] 5)) fun e w' => e = .returned (.tuple #[.int .u32 655360, .bool true]) ∧ Below w.heap.size w w' := by
  have h := get_four _ 4 [0, 10, 0, 0] _ rfl (rowAt_built w [0, 10, 0, 0] 4 _ rfl rfl (by omega) (0, 0))
  rw [Ac.awk_get] at h
  refine h.mono ?_
  rintro e w' ⟨rfl, rfl⟩
  exact ⟨rfl, (Below.refl _ _).alloc (Nat.le_refl _) _⟩
theorem a_with (w : World) : Calls Try.prog 13 #[.int .u32 0, .slice (some ⟨w.heap.size, 0, none⟩) 3 3] (w.alloc (.cells #[.int .u8 17, .int .u8 19, .int .u8 200] 5)) fun e w' => e = .returned (.int .u32 655360) ∧ Below w.heap.size w w' := by
  have h := with_any 0 _ 3 3 [17, 19, 200] _ rfl (by omega) (by omega) (rowAt_built w [17, 19, 200] 3 _ rfl rfl (by omega) (0, 0))
  rw [Ac.awk_with] at h
  refine h.mono ?_
  rintro e w' ⟨rfl, rfl⟩
  exact ⟨rfl, (Below.refl _ _).alloc (Nat.le_refl _) _⟩
theorem a_list (w : World) : Calls Try.prog 15 #[.int .u32 655360] w fun e w' => ∃ a c, e = .returned (.slice a 2 c) ∧ RowAt w' a c [17, 19] ∧ Below w.heap.size w w' := by
  have h := list_row 655360 w (by omega)
  rw [Ac.awk_list] at h
  exact h
theorem a_put (w : World) : Calls Try.prog 19 #[.int .u32 655360] w fun e w' => ∃ a c, e = .returned (.slice a 4 c) ∧ RowAt w' a c [0, 10, 0, 0] ∧ Below w.heap.size w w' := by
  have h := put_row 655360 w (by omega)
  rw [Ac.awk_put] at h
  exact h

set_option maxRecDepth 10000 in
set_option maxHeartbeats 2000000 in
theorem awake_any (w : World) : Calls Try.prog 8 #[] w fun e w' => e = .returned (.bool true) ∧ Below w.heap.size w w' := by
  go_enter Try.func8, Try.ntmps8
  go_wp2_with fail
  refine (a_get _).mono ?_
  rintro e w1 ⟨rfl, b1⟩
  go_wp2_with fail
  refine (get_not none 0 0 _ (by omega)).mono ?_
  rintro e w2 ⟨rfl, rfl⟩
  go_wp2_with fail
  refine (a_with _).mono ?_
  rintro e w3 ⟨rfl, b3⟩
  replace b1 := Below.chain b1 b3
  clear b3
  go_wp2_with fail
  refine (a_list _).mono ?_
  rintro e w4 ⟨a4, c4, rfl, r4, b4⟩
  have k4 : (convert 25 9 (.slice a4 2 c4)).run Try.prog w4 = .ok (.string ⟨#[17, 19]⟩) w4 := conv_row rfl r4
  replace b1 := Below.chain b1 b4
  clear b4 r4
  go_wp2_with fail
  refine (a_put _).mono ?_
  rintro e w5 ⟨a5, c5, rfl, r5, b5⟩
  have k5 : (convert 25 9 (.slice a5 4 c5)).run Try.prog w5 = .ok (.string ⟨#[0, 10, 0, 0]⟩) w5 := conv_row rfl r5
  replace b1 := Below.chain b1 b5
  clear b5 r5 k4
  go_wp2_with fail
  have h := has_any 1 0 w5 (by omega)
  rw [Ac.awk_has] at h
  refine h.mono ?_
  clear h k5
  rintro e w6 ⟨rfl, rfl⟩
  go_wp2_with fail
  have h := has_any 1 32 w6 (by omega)
  rw [Ac.awk_hasn] at h
  refine h.mono ?_
  clear h
  rintro e w7 ⟨rfl, rfl⟩
  go_wp2_with fail
  have h := apart_any 0 125 w7 (by omega)
  rw [Ac.awk_7d] at h
  refine h.mono ?_
  clear h
  rintro e w8 ⟨rfl, rfl⟩
  go_wp2_with fail
  have h := apart_any 0 126 w8 (by omega)
  rw [Ac.awk_7e] at h
  refine h.mono ?_
  clear h
  rintro e w9 ⟨rfl, rfl⟩
  go_wp2_with fail
  have h := apart_any 0 0 w9 (by omega)
  rw [Ac.awk_0] at h
  refine h.mono ?_
  clear h
  rintro e w10 ⟨rfl, rfl⟩
  go_wp2
  go_ret
  exact ⟨rfl, b1⟩
end Go.Proofs.Ytcbgpolfnaopcaa
