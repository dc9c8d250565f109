/- Contracts of bytes.Clone, bytes.Equal, alike and the document's One. -/
import Derived.Test.YtacnlancncmpmaaOa
namespace Go.Proofs.Ytacnlancncmpmaa.S12
open Go.RowKit

theorem clone_nil (c : Nat) (w : World) (hc : c = 0) : Calls Try.prog 39 #[.slice none 0 c] w fun e w' => e = .returned (.slice none 0 0) ∧ w' = w := by
  subst hc
  go_enter Try.func39, Try.ntmps39
  have q := Lib.run_eql_slice_nil (P := Try.prog) w 22 5 none 0 0 0 0 Try.underlying22
  go_wp2
  go_ret
  exact ⟨rfl, rfl⟩
set_option maxHeartbeats 1000000 in
theorem clone_some (ad : Addr) (n c : Nat) (xs : List UInt8) (w : World) (hn : xs.length = n) (hm : n ≤ 300000) (h : RowAt w (some ad) c xs) :
    Calls Try.prog 39 #[.slice (some ad) n c] w fun e w' => ∃ v, e = .returned v ∧ w'.ownsRow w.heap.size 5 1 v n (Lib.byteCells xs) ∧ Below w.heap.size w w' := by
  have H := Lib.hid h
  have Hn := Lib.hid hn
  clear h hn
  go_enter Try.func39, Try.ntmps39
  have q := Lib.run_eql_slice_nil (P := Try.prog) w 22 5 (some ad) n c 0 0 Try.underlying22
  go_wp2_with (at_builtin; refine wpList_append_row rfl (.tmp 5) (.tmp 6) rfl w.heap.size _ 0 [] rfl (World.ownsRow_made w #[] 0 (Nat.le_refl _) (Nat.zero_le _) rfl) (some ad) n c xs rfl Hn.out (rowAt_alloc H.out _) (by omega) (by simp) ?_; intro v2 w2 o2 g2; rw [Nat.zero_add, List.nil_append] at o2)
  go_ret
  exact ⟨_, rfl, o2, Below.grown (below_one w _) g2 (by simp) (fun k hk => by have e : some w.heap.size = some k := hk; exact Nat.le_of_eq (Option.some.inj e))⟩
theorem clone_any (a : Option Addr) (n c : Nat) (xs : List UInt8) (w : World) (hn : xs.length = n) (hm : n ≤ 300000) (h : RowAt w a c xs) :
    Calls Try.prog 39 #[.slice a n c] w fun e w' => ∃ v, e = .returned v ∧ w'.ownsRow w.heap.size 5 1 v n (Lib.byteCells xs) ∧ Below w.heap.size w w' := by
  cases a with
  | none =>
    have h0 := h.nil rfl
    have h1 := h.le
    have hx : xs = [] := List.eq_nil_of_length_eq_zero (by omega)
    subst hx
    obtain rfl : n = 0 := by simpa using hn.symm
    refine (clone_nil c w h0).mono ?_
    rintro e w' ⟨rfl, rfl⟩
    exact ⟨_, rfl, World.ownsRow_nil _ _ _ _, Below.refl _ _⟩
  | some ad => exact clone_some ad n c xs w hn hm h

theorem texts_eq (xs ys : List UInt8) : (xs == ys) = decide (xs = ys) := by
  by_cases h : xs = ys
  · subst h; simp
  · rw [decide_eq_false h]; exact beq_eq_false_iff_ne.2 h
/-- Two options that are handed in, laid into memory by the call. -/
theorem two_opts (w : World) (c1 c2 : Array Value) :
    Below w.heap.size w ((w.alloc (.cells c1 24)).alloc (.cells c2 24)) ∧ ((w.alloc (.cells c1 24)).alloc (.cells c2 24)).heap[w.heap.size]? = some (.cells c1 24 (0, 0)) ∧ ((w.alloc (.cells c1 24)).alloc (.cells c2 24)).heap[w.heap.size + 1]? = some (.cells c2 24 (0, 0)) := by
  refine ⟨below_two _ _ _, block_next (heap_alloc_new w _) (below_one _ _), ?_⟩
  have := heap_alloc_new (w.alloc (.cells c1 24)) (.cells c2 24)
  simpa using this

set_option maxRecDepth 100000 in
set_option maxHeartbeats 1000000 in
theorem one_any (x y : Ot.O) (p q : Option Addr) (n m c d : Nat) (w : World) (hn : x.data.length = n) (hm : y.data.length = m) (h : RowAt w p c x.data) (k : RowAt w q d y.data) :
    Calls Try.prog 28 #[.agg (ocells x (.slice p n c)).toArray, .agg (ocells y (.slice q m d)).toArray] w fun e w' => e = .returned (.bool (decide (x = y))) ∧ Below w.heap.size w w' := by
  have h0 := two_opts w (ocells x (.slice p n c)).toArray (ocells y (.slice q m d)).toArray
  have hd1 : x.ty ≠ y.ty → decide (x = y) = false := fun e => decide_eq_false (Ot.ne_ty e)
  have hd2 : x.ty = y.ty → decide (x = y) = (x.data == y.data) := fun e => by rw [texts_eq]; exact decide_eq_decide.2 ⟨fun e => by rw [e], fun e' => Ot.O.ext' e e'⟩
  have k1 := conv_row hn (h.next h0.1)
  have k2 := conv_row hm (k.next h0.1)
  have D1 := Lib.hid hd1
  have D2 := Lib.hid hd2
  clear h k hn hm hd1 hd2
  generalize decide (x = y) = Z at *
  simp only [ocells] at h0 k1 k2 ⊢
  by_cases ht : x.ty = y.ty
  · obtain rfl := D2.out ht
    have i1 : (x.ty == y.ty) = true := by simpa using ht
    clear ht D1 D2
    have B0 := Lib.hid h0.1
    clear h0
    go_enter Try.func28, Try.ntmps28
    go_wp2
    go_ret
    exact ⟨rfl, B0.out⟩
  · obtain rfl := D1.out ht
    have i1 : (x.ty == y.ty) = false := by simpa using ht
    clear ht D1 D2
    have B0 := Lib.hid h0.1
    clear h0
    go_enter Try.func28, Try.ntmps28
    go_wp2
    go_ret
    exact ⟨rfl, B0.out⟩
end Go.Proofs.Ytacnlancncmpmaa.S12
