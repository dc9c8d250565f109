/- The answers that awake asks for; contract of awake. -/
import Derived.Test.YtecdnolchpfbmaaRb
namespace Go.Proofs.Ytecdnolchpfbmaa
open Go.RowKit
namespace St
theorem awk_stuff : stuff 131072 [126, 17, 65] = [125, 94, 125, 49, 65] := by decide +kernel
theorem awk_un : ans 131072 [125, 17, 94] = ([126], true) := by decide +kernel
theorem awk_7d : ans 0 [125] = ([], false) := by decide +kernel
theorem awk_7e : ans 0 [126] = ([], false) := by decide +kernel
theorem awk_size : (stuff 0 [126, 17, 65]).length = 4 := by decide +kernel
end St
/-- A slice that was built of bytes. -/
theorem rowAt_built (w : World) (xs : List UInt8) (n : Nat) (cs : Array Value) (hn : xs.length = n) (hcs : cs = (Lib.byteCells xs).toArray) (hm : n ≤ 100000) (fz : Nat × Nat) : RowAt (w.alloc (.cells cs 5 fz)) (some ⟨w.heap.size, 0, none⟩) n xs := by
  subst hcs
  subst hn
  refine ⟨Nat.le_refl _, by unfold maxLen; omega, (fun e => by cases e), fun ad e j u hu => ?_⟩
  cases e
  rw [Go.WideShapes.add_plain]
  simp only [World.cell?, heap_alloc_new]
  simpa using hu
theorem RowAt.drawn {w : World} {a : Option Addr} {c : Nat} {xs : List UInt8} (h : RowAt w a c xs) : RowAt w.drew a c xs := h.next (Below.refl _ _).drew
theorem unstuff_row (cap m n : Nat) (a : Option Addr) (xs : List UInt8) (w : World) (hn : xs.length = n) (hm : m < 4294967296) (hx : n ≤ 100000) (hr : RowAt w a cap xs) (A : List UInt8 × Bool) (hA : St.ans m xs = A) (q : Nat) (hq : A.1.length = q) :
    Calls Try.prog 12 #[.slice a n cap, .int .u32 (m : Int)] w fun e w' => ∃ a' c', e = .returned (.tuple #[.slice a' q c', .bool A.2]) ∧ RowAt w' a' c' A.1 ∧ Below w.heap.size w w' := by
  subst hA
  refine (unstuff_own cap m n a xs w hn hm hx hr.bytes).mono ?_
  rintro e w' ⟨v, rfl, o, b⟩
  obtain ⟨a', c', rfl, r⟩ := rowAt_own rfl o
  exact ⟨a', c', by rw [hq], r, b⟩
theorem below_built {w w' : World} {o : Obj} (h : Below (w.alloc o).heap.size (w.alloc o) w') : Below w.heap.size w w' :=
  ((Below.refl _ w).alloc (Nat.le_refl _) o).trans (h.mono (by simp))

theorem a_stuff (w : World) : Calls Try.prog 9 #[.slice (some ⟨w.heap.size, 0, none⟩) 3 3, .int .u32 131072] (w.alloc (.cells #[.int .u8 126, .int .u8 17, .int .u8 65] 5)) fun e w' => ∃ a c, e = .returned (.slice a 5 c) ∧ RowAt w' a c [125, 94, 125, 49, 65] ∧ Below w.heap.size w w' := by
  have h := stuff_row 3 131072 3 5 _ [126, 17, 65] _ rfl (by omega) (by omega) (rowAt_built w [126, 17, 65] 3 _ rfl rfl (by omega) (0, 0)) (by rw [St.awk_stuff]; rfl)
  rw [St.awk_stuff] at h
  refine h.mono ?_
  rintro e w' ⟨a, c, rfl, r, b⟩
  exact ⟨a, c, rfl, r, below_built b⟩
theorem a_un (w : World) : Calls Try.prog 12 #[.slice (some ⟨w.heap.size, 0, none⟩) 3 3, .int .u32 131072] (w.alloc (.cells #[.int .u8 125, .int .u8 17, .int .u8 94] 5)) fun e w' => ∃ a c, e = .returned (.tuple #[.slice a 1 c, .bool true]) ∧ RowAt w' a c [126] ∧ Below w.heap.size w w' := by
  refine (unstuff_row 3 131072 3 _ [125, 17, 94] _ rfl (by omega) (by omega) (rowAt_built w [125, 17, 94] 3 _ rfl rfl (by omega) (0, 0)) _ St.awk_un 1 rfl).mono ?_
  rintro e w' ⟨a, c, rfl, r, b⟩
  exact ⟨a, c, rfl, r, below_built b⟩
theorem a_7d (w : World) : Calls Try.prog 12 #[.slice (some ⟨w.heap.size, 0, none⟩) 1 1, .int .u32 0] (w.alloc (.cells #[.int .u8 125] 5)) fun e w' => ∃ a c, e = .returned (.tuple #[.slice a 0 c, .bool false]) ∧ Below w.heap.size w w' := by
  refine (unstuff_row 1 0 1 _ [125] _ rfl (by omega) (by omega) (rowAt_built w [125] 1 _ rfl rfl (by omega) (0, 0)) _ St.awk_7d 0 rfl).mono ?_
  rintro e w' ⟨a, c, rfl, r, b⟩
  exact ⟨a, c, rfl, below_built b⟩
theorem a_7e (w : World) : Calls Try.prog 12 #[.slice (some ⟨w.heap.size, 0, none⟩) 1 1, .int .u32 0] (w.alloc (.cells #[.int .u8 126] 5)) fun e w' => ∃ a c, e = .returned (.tuple #[.slice a 0 c, .bool false]) ∧ Below w.heap.size w w' := by
  refine (unstuff_row 1 0 1 _ [126] _ rfl (by omega) (by omega) (rowAt_built w [126] 1 _ rfl rfl (by omega) (0, 0)) _ St.awk_7e 0 rfl).mono ?_
  rintro e w' ⟨a, c, rfl, r, b⟩
  exact ⟨a, c, rfl, below_built b⟩
theorem a_size (w : World) : Calls Try.prog 10 #[.slice (some ⟨w.heap.size, 0, none⟩) 3 3, .int .u32 0] (w.alloc (.cells #[.int .u8 126, .int .u8 17, .int .u8 65] 5)) fun e w' => e = .returned (.int .i64 4) ∧ Below w.heap.size w w' := by
  have h := size_any 3 0 3 _ [126, 17, 65] _ rfl (by omega) (by omega) (rowAt_built w [126, 17, 65] 3 _ rfl rfl (by omega) (0, 0))
  rw [St.awk_size] at h
  refine h.mono ?_
  rintro e w' ⟨rfl, b⟩
  exact ⟨rfl, below_built b⟩

set_option maxRecDepth 10000 in
set_option maxHeartbeats 2000000 in
theorem awake_any (w : World) : Calls Try.prog 7 #[] w fun e w' => e = .returned (.bool true) ∧ Below w.heap.size w w' := by
  go_enter Try.func7, Try.ntmps7
  go_wp2_with fail
  refine (a_stuff _).mono ?_
  rintro e w1 ⟨a1, c1, rfl, r1, b1⟩
  go_wp2_with fail
  refine (a_un _).mono ?_
  rintro e w2 ⟨a2, c2, rfl, r2, b2⟩
  replace r1 := r1.next b2
  replace b1 := Below.chain b1 b2
  clear b2
  go_wp2_with fail
  refine (a_7d _).mono ?_
  rintro e w3 ⟨a3, c3, rfl, b3⟩
  replace r1 := r1.next b3
  replace r2 := r2.next b3
  replace b1 := Below.chain b1 b3
  clear b3
  go_wp2_with fail
  refine (a_7e _).mono ?_
  rintro e w4 ⟨a4, c4, rfl, b4⟩
  replace r1 := r1.next b4
  replace r2 := r2.next b4
  replace b1 := Below.chain b1 b4
  clear b4
  have k1 : (convert 22 9 (.slice a1 5 c1)).run Try.prog w4 = .ok (.string ⟨#[125, 94, 125, 49, 65]⟩) w4 := conv_row rfl r1
  have k2 : (convert 22 9 (.slice a2 1 c2)).run Try.prog w4 = .ok (.string ⟨#[126]⟩) w4 := conv_row rfl r2
  clear r1 r2
  go_wp2_with fail
  refine (a_size _).mono ?_
  rintro e w5 ⟨rfl, b5⟩
  replace b1 := Below.chain b1 b5
  clear b5 k1 k2
  go_wp2
  go_ret
  exact ⟨rfl, b1⟩
end Go.Proofs.Ytecdnolchpfbmaa
