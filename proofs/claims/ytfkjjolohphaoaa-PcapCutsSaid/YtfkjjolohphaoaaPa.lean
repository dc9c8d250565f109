/- Contracts of numbers and of what it answers, which reads the next number. -/
import Derived.Test.YtfkjjolohphaoaaWd
import Derived.Test.YtfkjjolohphaoaaHeld
import Derived.Test.YtfkjjolohphaoaaPlainp
import Derived.OneCell
import Derived.Deep.WholeRow
import Derived.Laws.EntriesVeiled
namespace Go.Proofs.Ytfkjjolohphaoaa
open Go.RowKit

theorem lt_of_block {w : World} {k : Nat} {o : Obj} (h : w.heap[k]? = some o) : k < w.heap.size := by
  rcases Nat.lt_or_ge k w.heap.size with h1 | h1
  · exact h1
  · rw [Array.getElem?_eq_none h1] at h; cases h
theorem grown_kept {w w' : World} {q T : Nat} {o : Obj} (h : w.grownBy w' (some q)) (hT : w.heap[T]? = some o) (hne : T ≠ q) : w'.heap[T]? = some o := by
  rw [h.block T (lt_of_block hT) (fun e => hne (by simpa using e))]; exact hT
theorem grown_set {w w1 : World} {q : Nat} (b : Below w.heap.size w w1) (v : Value) (i : Nat) : w.grownBy (w1.setCell ⟨q, i, none⟩ v) (some q) := by
  have hb : Below 0 w (w1.setCell ⟨q, i, none⟩ v) := (b.mono (Nat.zero_le _)).setCell (Nat.zero_le _) v
  exact ⟨hb.os, hb.tape, hb.output, hb.size, fun k hk hne => by rw [Below.heap_setCell _ _ _ _ (fun e => hne (by rw [e])), b.block k hk]⟩
theorem rowAt_alloc {w : World} {a : Option Addr} {c : Nat} {xs : List UInt8} (h : RowAt w a c xs) (o : Obj) : RowAt (w.alloc o) a c xs := h.next ((Below.refl _ _).alloc (Nat.le_refl _) _)
theorem first_kept {w w' : World} {o : Obj} (b : Below (w.alloc o).heap.size (w.alloc o) w') : w'.heap[w.heap.size]? = some o := by
  rw [b.block _ (by simp)]; exact heap_alloc_new w o
theorem block_next {w w' : World} {T : Nat} {o : Obj} (h : w.heap[T]? = some o) (b : Below w.heap.size w w') : w'.heap[T]? = some o := by rw [b.block T (lt_of_block h)]; exact h

/-- Of what numbers are read, by which order, and how far. -/
structure NumAt (w : World) (g : Nat) (a : Option Addr) (n cap : Nat) (big : Bool) (k : Nat) : Prop where
  src : w.heap[g]? = some (.cells #[.slice a n cap] 28 (0, 0))
  ord : w.heap[g + 1]? = some (.cells #[.bool big] 4 (0, 0))
  place : w.heap[g + 2]? = some (.cells #[.int .i64 (k : Int)] 3 (0, 0))
/-- What reads the next number. -/
def numV (g : Nat) : Value := .func (.func 33) #[] #[.pointer (some ⟨g, 0, none⟩), .pointer (some ⟨g + 2, 0, none⟩), .pointer (some ⟨g + 1, 0, none⟩)]

theorem numbers_any (a : Option Addr) (n cap : Nat) (big : Bool) (w : World) :
    Calls Try.prog 26 #[.slice a n cap, .bool big] w fun e w' => e = .returned (numV w.heap.size) ∧ NumAt w' w.heap.size a n cap big 0 ∧ Below w.heap.size w w' ∧ w'.heap.size = w.heap.size + 3 := by
  have hmf : ∀ (fn : Fn) (first cap : Array Value) (w : World), (Instr.makeFunc fn first cap).run Try.prog w = .ok (.func fn first cap) w := fun _ _ _ _ => rfl
  go_enter Try.func26, Try.ntmps26
  go_wp2
  go_ret
  refine ⟨rfl, ⟨?_, ?_, ?_⟩, (((Below.refl _ _).alloc (Nat.le_refl _) _).alloc (by simp) _).alloc (by simp; omega) _, by simp⟩
  · rw [Below.heap_alloc _ _ _ (by simp; omega), Below.heap_alloc _ _ _ (by simp)]
    exact heap_alloc_new w _
  · rw [Below.heap_alloc _ _ _ (by simp)]
    have h2 := heap_alloc_new (w.alloc (Obj.cells #[Value.slice a n cap] 28)) (Obj.cells #[Value.bool big] 4)
    simpa using h2
  · have h2 := heap_alloc_new ((w.alloc (Obj.cells #[Value.slice a n cap] 28)).alloc (Obj.cells #[Value.bool big] 4)) (Obj.cells #[Value.int IntKind.i64 0] 3)
    simpa using h2

theorem ret_u32 {a b : Int} (h : a = b) : Ending.returned (.int .u32 a) = .returned (.int .u32 b) := by rw [h]

set_option maxHeartbeats 1000000 in
theorem number_any (a : Option Addr) (n cap : Nat) (xs : List UInt8) (big : Bool) (k s g : Nat) (w0 w : World) (hn : xs.length = n) (hm : n ≤ 300000) (h1 : 1 ≤ s) (h4 : s ≤ 4) (hk : k + s ≤ n)
    (H : RowAt w0 a cap xs) (B : Below w0.heap.size w0 w) (hg : w0.heap.size ≤ g) (h : NumAt w g a n cap big k) :
    Calls Try.prog 33 #[.int .i64 (s : Int), .pointer (some ⟨g, 0, none⟩), .pointer (some ⟨g + 2, 0, none⟩), .pointer (some ⟨g + 1, 0, none⟩)] w fun e w' =>
      e = .returned (.int .u32 (Oc.get ((xs.drop k).take s) big : Nat)) ∧ NumAt w' g a n cap big (k + s) ∧ Below w0.heap.size w0 w' ∧ w.grownBy w' (some (g + 2)) := by
  have c29 := fun W h => cut_good a cap xs k s W (by omega) (by omega) h
  rw [hn] at c29
  have hlt := Pc.get4_lt xs k s big h4
  have hl : ((xs.drop k).take s).length = s := by simp; omega
  generalize (xs.drop k).take s = ys at *
  have c34 := fun A C W h => get_at A C ys big W (by omega) (by omega) h
  rw [hl] at c34
  generalize Oc.get ys big = v at *
  have C1 := Lib.hid c29
  have C2 := Lib.hid c34
  have HR := Lib.hid (H.next B)
  have HB := Lib.hid B
  have HN := Lib.hid h
  have c1 := cell_of_one h.src
  have c2 := cell_of_one h.place
  have Hl := Lib.hid hl
  clear c29 c34 H B h hl hn
  go_enter Try.func33, Try.ntmps33
  go_wp2_with fail
  refine (C1.out _ HR.out).mono ?_
  rintro e w1 ⟨v1, rfl, o1, b1⟩
  obtain ⟨a1, cap1, rfl, r1⟩ := rowAt_own Hl.out o1
  have n1 : w1.heap[g + 1]? = _ := block_next HN.out.ord b1
  have n2 : w1.heap[g + 2]? = _ := block_next HN.out.place b1
  have n0 : w1.heap[g]? = _ := block_next HN.out.src b1
  have c3 := cell_of_one n1
  have c4 := cell_of_one n2
  have f4 := free_of_one n2
  have R1 := Lib.hid r1.bytes
  have B1 := Lib.hid b1
  have hw : IntKind.u32.wrap (v : Int) = (v : Int) := by rw [IntKind.wrap_u32]; omega
  have N0 := Lib.hid n0
  have N1 := Lib.hid n1
  have N2 := Lib.hid n2
  clear o1 r1 b1 n0 n1 n2 c1 c2
  go_wp2_with fail
  refine (C2.out _ _ _ R1.out).mono ?_
  rintro e w2 ⟨rfl, hw2⟩
  rw [hw2]
  clear hw2
  go_wp2
  go_ret
  refine ⟨ret_u32 (by first | rfl | omega), ⟨?_, ?_, ?_⟩, ?_, grown_set B1.out _ _⟩
  · rw [Below.heap_setCell _ _ _ _ (by simp)]; exact N0.out
  · rw [Below.heap_setCell _ _ _ _ (by simp)]; exact N1.out
  · have := one_setCell (u := .int .i64 ((k + s : Nat) : Int)) N2.out
    simpa using this
  · exact (Below.trans HB.out (B1.out.mono HB.out.size)).setCell (by simp; omega) _
end Go.Proofs.Ytfkjjolohphaoaa
