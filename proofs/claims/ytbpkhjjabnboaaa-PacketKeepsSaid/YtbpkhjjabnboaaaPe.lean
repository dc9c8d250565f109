/- Contracts of Options and of the document's. -/
import Derived.Test.YtbpkhjjabnboaaaPa
import Derived.Test.YtbpkhjjabnboaaaOi
namespace Go.Proofs.Ytbpkhjjabnboaaa
open Go.RowKit S2 S12

theorem opt_out {w w' : World} {x : Pk.P} (h : ¬ (1 ≤ x.code ∧ x.code ≤ 4)) (b : Below w.heap.size w w') : OptRes w w' (.returned (.tuple #[.slice none 0 0, .bool false])) (Pk.options x) := by
  rw [Pk.options_out h]
  exact ⟨_, rfl, opts_none _ _, b⟩

set_option maxRecDepth 100000 in
set_option maxHeartbeats 1000000 in
theorem options_any (x : Pk.P) (p : Option Addr) (n c : Nat) (w : World) (hn : x.data.length = n) (hm : n ≤ 200000) (h : RowAt w p c x.data) :
    Calls Try.prog 15 #[.agg (pcells x (.slice p n c)).toArray] w fun e w' => OptRes w w' e (Pk.options x) := by
  have B0 := Lib.hid (one_pkt w (pcells x (.slice p n c)).toArray).1
  have H := Lib.hid (h.next B0.out)
  simp only [pcells] at B0 H ⊢
  clear h
  by_cases hc : 1 ≤ x.code ∧ x.code ≤ 4
  · rw [Pk.options_in hc]
    have R := Lib.hid (read_any p n c x.data _ hn (by omega) H.out)
    generalize Ot.read x.data = A at *
    obtain ⟨L, k, er⟩ := A
    obtain ⟨Z, hZ⟩ : ∃ Z, decide (er = 0) = Z := ⟨_, rfl⟩
    have hE : ((er : Int) == 0) = Z := by rw [← hZ]; rcases er with _ | e <;> simp; omega
    simp only [hZ]
    clear hZ
    obtain ⟨l1, l2⟩ := hc
    have hcs : x.code = 1 ∨ x.code = 2 ∨ x.code = 3 ∨ x.code = 4 := by omega
    generalize x.code = cd at *
    clear hn H
    rcases hcs with rfl | rfl | rfl | rfl
    · clear l1 l2
      go_enter Try.func15, Try.ntmps15
      go_wp2_with fail
      refine R.out.mono ?_
      rintro e w1 ⟨v1, rfl, o1, b1⟩
      clear R
      have B1 := Lib.hid (Below.chain B0.out b1)
      have O1 := Lib.hid (Opts.next (Opts.lower o1 B0.out.size) (below_one w1 (.cells (scells k er).toArray 58)))
      have B2 := Lib.hid (Below.chain B1.out (below_one w1 (.cells (scells k er).toArray 58)))
      simp only [scells] at O1 B2 ⊢
      clear o1 b1
      obtain ⟨ar, cr, rfl⟩ := opts_slice O1.out
      go_wp2_with fail
      go_quiet (fail)
      go_wp2
      go_ret2
      refine ⟨_, rfl, Opts.next O1.out (keeps_below (Below.refl _ _) _), keeps_below B2.out _⟩
    · clear l1 l2
      go_enter Try.func15, Try.ntmps15
      go_wp2_with fail
      refine R.out.mono ?_
      rintro e w1 ⟨v1, rfl, o1, b1⟩
      clear R
      have B1 := Lib.hid (Below.chain B0.out b1)
      have O1 := Lib.hid (Opts.next (Opts.lower o1 B0.out.size) (below_one w1 (.cells (scells k er).toArray 58)))
      have B2 := Lib.hid (Below.chain B1.out (below_one w1 (.cells (scells k er).toArray 58)))
      simp only [scells] at O1 B2 ⊢
      clear o1 b1
      obtain ⟨ar, cr, rfl⟩ := opts_slice O1.out
      go_wp2_with fail
      go_quiet (fail)
      go_wp2
      go_ret2
      refine ⟨_, rfl, Opts.next O1.out (keeps_below (Below.refl _ _) _), keeps_below B2.out _⟩
    · clear l1 l2
      go_enter Try.func15, Try.ntmps15
      go_wp2_with fail
      refine R.out.mono ?_
      rintro e w1 ⟨v1, rfl, o1, b1⟩
      clear R
      have B1 := Lib.hid (Below.chain B0.out b1)
      have O1 := Lib.hid (Opts.next (Opts.lower o1 B0.out.size) (below_one w1 (.cells (scells k er).toArray 58)))
      have B2 := Lib.hid (Below.chain B1.out (below_one w1 (.cells (scells k er).toArray 58)))
      simp only [scells] at O1 B2 ⊢
      clear o1 b1
      obtain ⟨ar, cr, rfl⟩ := opts_slice O1.out
      go_wp2_with fail
      go_quiet (fail)
      go_wp2
      go_ret2
      refine ⟨_, rfl, Opts.next O1.out (keeps_below (Below.refl _ _) _), keeps_below B2.out _⟩
    · clear l1 l2
      go_enter Try.func15, Try.ntmps15
      go_wp2_with fail
      refine R.out.mono ?_
      rintro e w1 ⟨v1, rfl, o1, b1⟩
      clear R
      have B1 := Lib.hid (Below.chain B0.out b1)
      have O1 := Lib.hid (Opts.next (Opts.lower o1 B0.out.size) (below_one w1 (.cells (scells k er).toArray 58)))
      have B2 := Lib.hid (Below.chain B1.out (below_one w1 (.cells (scells k er).toArray 58)))
      simp only [scells] at O1 B2 ⊢
      clear o1 b1
      obtain ⟨ar, cr, rfl⟩ := opts_slice O1.out
      go_wp2_with fail
      go_quiet (fail)
      go_wp2
      go_ret2
      refine ⟨_, rfl, Opts.next O1.out (keeps_below (Below.refl _ _) _), keeps_below B2.out _⟩
  · have hc0 := Lib.hid hc
    have d1 : (x.code == 1) = false := by simp; omega
    have d2 : (x.code == 2) = false := by simp; omega
    have d3 : (x.code == 3) = false := by simp; omega
    have d4 : (x.code == 4) = false := by simp; omega
    clear hn hc H
    go_enter Try.func15, Try.ntmps15
    go_wp2
    go_ret2
    exact opt_out hc0.out B0.out

set_option maxRecDepth 100000 in
set_option maxHeartbeats 1000000 in
theorem refOptions_any (x : Pk.P) (p : Option Addr) (n c : Nat) (w : World) (hn : x.data.length = n) (hm : n ≤ 200000) (h : RowAt w p c x.data) :
    Calls Try.prog 16 #[.agg (pcells x (.slice p n c)).toArray] w fun e w' => OptRes w w' e (Pk.options x) := by
  have B0 := Lib.hid (one_pkt w (pcells x (.slice p n c)).toArray).1
  have H := Lib.hid (h.next B0.out)
  simp only [pcells] at B0 H ⊢
  clear h
  by_cases d1 : x.code < 1
  · clear hn H
    go_enter Try.func16, Try.ntmps16
    go_wp2
    go_ret2
    exact opt_out (by omega) B0.out
  · by_cases d2 : 4 < x.code
    · clear hn H
      go_enter Try.func16, Try.ntmps16
      go_wp2
      go_ret2
      exact opt_out (by omega) B0.out
    · rw [Pk.options_in ⟨by omega, by omega⟩]
      have R := Lib.hid (refRead_any p n c x.data _ hn (by omega) H.out)
      generalize Ot.read x.data = A at *
      obtain ⟨L, k, er⟩ := A
      obtain ⟨Z, hZ⟩ : ∃ Z, decide (er = 0) = Z := ⟨_, rfl⟩
      have hE : ((er : Int) == 0) = Z := by rw [← hZ]; rcases er with _ | e <;> simp; omega
      simp only [hZ]
      clear hZ
      clear hn H
      go_enter Try.func16, Try.ntmps16
      go_wp2_with fail
      refine R.out.mono ?_
      rintro e w1 ⟨v1, rfl, o1, b1⟩
      clear R
      have B1 := Lib.hid (Below.chain B0.out b1)
      have O1 := Lib.hid (Opts.next (Opts.lower o1 B0.out.size) (below_one w1 (.cells (scells k er).toArray 58)))
      have B2 := Lib.hid (Below.chain B1.out (below_one w1 (.cells (scells k er).toArray 58)))
      simp only [scells] at O1 B2 ⊢
      clear o1 b1
      obtain ⟨ar, cr, rfl⟩ := opts_slice O1.out
      go_wp2_with fail
      go_quiet (fail)
      go_wp2
      go_ret2
      refine ⟨_, rfl, Opts.next O1.out (keeps_below (Below.refl _ _) _), keeps_below B2.out _⟩
end Go.Proofs.Ytbpkhjjabnboaaa
