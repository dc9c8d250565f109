/- Contracts of Get and of the document's. -/
import Derived.Test.YtbpkhjjabnboaaaPa
namespace Go.Proofs.Ytbpkhjjabnboaaa
open Go.RowKit S2 S12

theorem pkt_ret0 {w : World} {fn : Func} {q p : Tmp} {r : Pk.P} {e : Nat} {v : Value} {tmps : Array Value} (h : fn.results = #[.cell p 24, .tmp q]) (hp : tmps.getD p undef = .pointer (some ⟨w.heap.size, 0, none⟩)) (hq : tmps.getD q undef = .int .i64 (e : Int)) :
    (results fn tmps).run Try.prog (w.alloc (.cells (pcells r v).toArray 24)) = .ok (.tuple #[.agg (pcells r v).toArray, .int .i64 (e : Int)]) (w.alloc (.cells (pcells r v).toArray 24)) := by
  have := results_cell_tmp_row (P := Try.prog) h tmps (w.alloc (.cells (pcells r v).toArray 24)) w.heap.size 24 _ _ _ hp (heap_alloc_new w _) Try.underlying24 rfl infoPkt
  rw [hq] at this
  exact this
/-- The first four bytes, in memory. -/
theorem four_cells {w : World} {b off c : Nat} {xs : List UInt8} (h : RowAt w (some ⟨b, off, none⟩) c xs) (h4 : ¬ xs.length < 4) : w.cell? ⟨b, off, none⟩ = some (.int .u8 (Pk.at0 xs 0 : Nat)) ∧ w.cell? ⟨b, off + 1, none⟩ = some (.int .u8 (Pk.at0 xs 1 : Nat)) ∧ w.cell? ⟨b, off + 2, none⟩ = some (.int .u8 (Pk.at0 xs 2 : Nat)) ∧ w.cell? ⟨b, off + 3, none⟩ = some (.int .u8 (Pk.at0 xs 3 : Nat)) := by
  obtain ⟨x0, x1, x2, x3, l, rfl, e0, e1, e2, e3⟩ := Pk.four_of xs h4
  have g0 := h.cell _ rfl 0 (.int .u8 (x0.toNat : Int)) (by simp [Lib.byteCells])
  have g1 := h.cell _ rfl 1 (.int .u8 (x1.toNat : Int)) (by simp [Lib.byteCells])
  have g2 := h.cell _ rfl 2 (.int .u8 (x2.toNat : Int)) (by simp [Lib.byteCells])
  have g3 := h.cell _ rfl 3 (.int .u8 (x3.toNat : Int)) (by simp [Lib.byteCells])
  rw [Go.WideShapes.add_plain] at g0 g1 g2 g3
  rw [e0, e1, e2, e3]
  exact ⟨by rw [← Nat.add_zero off]; exact g0, g1, g2, g3⟩

set_option maxRecDepth 100000 in
set_option maxHeartbeats 1000000 in
theorem get_any (a : Option Addr) (n cap : Nat) (xs : List UInt8) (w : World) (hn : xs.length = n) (hm : n ≤ 200000) (h : RowAt w a cap xs) :
    Calls Try.prog 11 #[.slice a n cap] w fun e w' => GetRes w w' e (Pk.get xs) := by
  have HW := Lib.hid (below_one w (.cells #[.int .i64 0, .int .i64 0, .slice none 0 0] 24))
  by_cases h4 : n < 4
  · rw [Pk.get_few (by omega)]
    have i1 : (n : Int) < 4 := by omega
    clear hn h
    go_enter Try.func11, Try.ntmps11
    go_wp2
    exact bodyPost_ret (pkt_ret0 (r := Pk.pz) (v := .slice none 0 0) (e := 2) Try.results11 rfl rfl) rfl (get_none HW.out)
  · have i1 : ¬ (n : Int) < 4 := by omega
    obtain ⟨b, off, rfl⟩ := h.some (by omega)
    have hk := four_cells h (by omega)
    have hbl : b < w.heap.size := World.block_lt_of_cell? w _ hk.1
    have hle := h.le
    rw [hn] at hle
    have hc2 := (h.next HW.out).cut 2 4 (by omega) (by omega)
    rw [if_neg (by omega), Option.map_some, Go.WideShapes.add_plain] at hc2
    have hl2 : ((xs.take 4).drop 2).length = 2 := by rw [List.length_drop, List.length_take]; omega
    have G2 := S2.get_at (some ⟨b, off + 2, none⟩) (cap - 2) ((xs.take 4).drop 2) true _ (by omega) (by omega) hc2.bytes
    rw [hl2, Pk.siz_get xs (by omega)] at G2
    have q1 := Pk.get_form (b := xs) (by omega)
    have q2 := Pk.get_end (b := xs) (by omega)
    have q3 := Pk.get_good (b := xs) (by omega)
    have hs := Pk.siz_lt xs
    have ht := Pk.at0_lt xs 0
    have hu := Pk.at0_lt xs 1
    have hcut := fun s (h1 : 4 ≤ s) (h2 : s ≤ n) => (h.next HW.out).cut 4 s h1 (by omega)
    have hlen : ∀ s, s ≤ n → ((xs.take s).drop 4).length = s - 4 := fun s hs => by rw [List.length_drop, List.length_take]; omega
    rw [hn] at q2 q3
    obtain ⟨k0, k1, _⟩ := hk
    have hR0 := heap_alloc_new w (.cells #[.int .i64 0, .int .i64 0, .slice none 0 0] 24)
    generalize Pk.get xs = A at *
    generalize Pk.siz xs = s at *
    generalize Pk.at0 xs 0 = t at *
    generalize Pk.at0 xs 1 = u at *
    replace hlen := hlen s
    replace hcut := hcut s
    generalize (xs.take s).drop 4 = ys at *
    have Q1 := Lib.hid q1
    have Q2 := Lib.hid q2
    have Q3 := Lib.hid q3
    have HL := Lib.hid hlen
    have HC := Lib.hid hcut
    have GG := Lib.hid G2
    have K0 := Lib.hid (show (w.alloc (.cells #[.int .i64 0, .int .i64 0, .slice none 0 0] 24)).cell? ⟨b, off, none⟩ = some (.int .u8 (t : Int)) by rw [HW.out.cell (p := ⟨b, off, none⟩) hbl]; exact k0)
    have K1 := Lib.hid (show (w.alloc (.cells #[.int .i64 0, .int .i64 0, .slice none 0 0] 24)).cell? ⟨b, off + 1, none⟩ = some (.int .u8 (u : Int)) by rw [HW.out.cell (p := ⟨b, off + 1, none⟩) hbl]; exact k1)
    have HR0 := Lib.hid hR0
    clear q1 q2 q3 hlen hcut h hn hl2 hc2 G2 k0 k1 hR0
    have hwt : IntKind.i64.wrap (t : Int) = (t : Int) := by rw [IntKind.wrap_i64]; omega
    have hwu : IntKind.i64.wrap (u : Int) = (u : Int) := by rw [IntKind.wrap_i64]; omega
    have hws : IntKind.i64.wrap (s : Int) = (s : Int) := by rw [IntKind.wrap_i64]; omega
    have j0 : (2 : Int) ≤ (cap : Int) := by omega
    have j1 : (4 : Int) ≤ (cap : Int) := by omega
    have jc : ¬ cap = 2 := by omega
    by_cases hs2 : s < 4
    · obtain rfl := Q1.out hs2
      have i2 : (s : Int) < 4 := by omega
      clear Q1 Q2 Q3 HL HC K0 K1 HR0
      go_enter Try.func11, Try.ntmps11
      go_wp2_with fail
      refine GG.out.mono ?_
      rintro e w1 ⟨rfl, h1⟩; rw [h1]; clear h1
      go_wp2
      exact bodyPost_ret (pkt_ret0 (r := Pk.pz) (v := .slice none 0 0) (e := 3) Try.results11 rfl rfl) rfl (get_none HW.out)
    · have i2 : ¬ (s : Int) < 4 := by omega
      by_cases hs3 : n < s
      · obtain rfl := Q2.out hs2 hs3
        have i3 : (n : Int) < (s : Int) := by omega
        clear Q1 Q2 Q3 HL HC K0 K1 HR0
        go_enter Try.func11, Try.ntmps11
        go_wp2_with fail
        refine GG.out.mono ?_
        rintro e w1 ⟨rfl, h1⟩; rw [h1]; clear h1
        go_wp2
        exact bodyPost_ret (pkt_ret0 (r := Pk.pz) (v := .slice none 0 0) (e := 2) Try.results11 rfl rfl) rfl (get_none HW.out)
      · obtain rfl := Q3.out hs2 hs3
        have i3 : ¬ (n : Int) < (s : Int) := by omega
        have hl := HL.out (by omega)
        have hc := HC.out (by omega) (by omega)
        obtain ⟨P, hP⟩ : ∃ P, (if cap = 4 then some ⟨b, off, none⟩ else Option.map (fun x => x.add 4) (some (⟨b, off, none⟩ : Addr))) = P := ⟨_, rfl⟩
        rw [hP] at hc
        obtain ⟨cP, hcP⟩ : ∃ cP, cap - 4 = cP := ⟨_, rfl⟩
        obtain ⟨nP, hnP⟩ : ∃ nP, s - 4 = nP := ⟨_, rfl⟩
        rw [hcP] at hc
        rw [hnP] at hl
        have HP := Lib.hid hc
        clear Q1 Q2 Q3 HL HC hc
        go_enter Try.func11, Try.ntmps11
        go_wp2_with fail
        refine GG.out.mono ?_
        rintro e w1 ⟨rfl, h1⟩; rw [h1]; clear h1 GG
        go_wp2_with fail
        have i0 : 0 < n := by omega
        have i01 : (1 : Int) < (n : Int) := by omega
        have j3 : (s : Int) ≤ (cap : Int) := by omega
        have j4 : (4 : Int) ≤ (s : Int) := by omega
        generalize w.alloc (.cells #[.int .i64 0, .int .i64 0, .slice none 0 0] 24) = W0 at *
        refine held_start (S := fun W => W.cell? ⟨b, off, none⟩ = some (.int .u8 (t : Int)) ∧ W.cell? ⟨b, off + 1, none⟩ = some (.int .u8 (u : Int))) 15 (by kernel_rfl) rfl ?_
        have hS : W0.drew.cell? ⟨b, off, none⟩ = some (.int .u8 (t : Int)) ∧ W0.drew.cell? ⟨b, off + 1, none⟩ = some (.int .u8 (u : Int)) := ⟨K0.out, K1.out⟩
        have hB3 := HW.out.drew
        have hc3 : RowAt W0.drew P cP ys := HP.out.next (Below.refl _ _).drew
        have hR3 : W0.drew.heap[w.heap.size]? = some (.cells #[.int .i64 0, .int .i64 0, .slice none 0 0] 24 (0, 0)) := HR0.out
        generalize W0.drew = W3 at *
        clear K0 K1 HR0 HW HP
        refine held_take 0 (v := ?_) rfl (by kernel_rfl) (by kernel_rfl) (by kernel_rfl) (fun _ _ _ h => h) (by assumption) (by rfl) ?_ ?_
        rotate_left
        · (intro W hW; go_simp; try with_reducible rfl)
        simp only [Act.put, List.setIfInBounds_toArray, List.set_cons_zero, List.set_cons_succ]
        refine held_take 1 (v := ?_) rfl (by kernel_rfl) (by kernel_rfl) (by kernel_rfl) (fun _ _ _ h => h) (by assumption) (by rfl) ?_ ?_
        rotate_left
        · (intro W hW; go_simp; try with_reducible rfl)
        simp only [Act.put, List.setIfInBounds_toArray, List.set_cons_zero, List.set_cons_succ]
        refine held_take 2 (v := ?_) rfl (by kernel_rfl) (by kernel_rfl) (by kernel_rfl) (fun _ _ _ h => h) (by assumption) (by rfl) ?_ ?_
        rotate_left
        · (intro W hW; have hc : W.cell? ⟨b, off, none⟩ = some (.int .u8 (t : Int)) := hW.1; go_simp; try with_reducible rfl)
        simp only [Act.put, List.setIfInBounds_toArray, List.set_cons_zero, List.set_cons_succ]
        refine held_take 3 (v := ?_) rfl (by kernel_rfl) (by kernel_rfl) (by kernel_rfl) (fun _ _ _ h => h) (by assumption) (by rfl) ?_ ?_
        rotate_left
        · (intro W hW; go_simp; try with_reducible rfl)
        simp only [Act.put, List.setIfInBounds_toArray, List.set_cons_zero, List.set_cons_succ]
        refine held_take 4 (v := ?_) rfl (by kernel_rfl) (by kernel_rfl) (by kernel_rfl) (fun _ _ _ h => h) (by assumption) (by rfl) ?_ ?_
        rotate_left
        · (intro W hW; go_simp; try with_reducible rfl)
        simp only [Act.put, List.setIfInBounds_toArray, List.set_cons_zero, List.set_cons_succ]
        refine held_take 5 (v := ?_) rfl (by kernel_rfl) (by kernel_rfl) (by kernel_rfl) (fun _ _ _ h => h) (by assumption) (by rfl) ?_ ?_
        rotate_left
        · (intro W hW; go_simp; try with_reducible rfl)
        simp only [Act.put, List.setIfInBounds_toArray, List.set_cons_zero, List.set_cons_succ]
        refine held_take 6 (v := ?_) rfl (by kernel_rfl) (by kernel_rfl) (by kernel_rfl) (fun _ _ _ h => h) (by assumption) (by rfl) ?_ ?_
        rotate_left
        · (intro W hW; have hc : W.cell? ⟨b, off + 1, none⟩ = some (.int .u8 (u : Int)) := hW.2; go_simp; try with_reducible rfl)
        simp only [Act.put, List.setIfInBounds_toArray, List.set_cons_zero, List.set_cons_succ]
        refine held_take 7 (v := ?_) rfl (by kernel_rfl) (by kernel_rfl) (by kernel_rfl) (fun _ _ _ h => h) (by assumption) (by rfl) ?_ ?_
        rotate_left
        · (intro W hW; go_simp; try with_reducible rfl)
        simp only [Act.put, List.setIfInBounds_toArray, List.set_cons_zero, List.set_cons_succ]
        refine held_take 8 (v := ?_) rfl (by kernel_rfl) (by kernel_rfl) (by kernel_rfl) (fun _ _ _ h => h) (by assumption) (by rfl) ?_ ?_
        rotate_left
        · (intro W hW; go_simp; try with_reducible rfl)
        simp only [Act.put, List.setIfInBounds_toArray, List.set_cons_zero, List.set_cons_succ]
        refine held_take 9 (v := ?_) rfl (by kernel_rfl) (by kernel_rfl) (by kernel_rfl) (fun _ _ _ h => h) (by assumption) (by rfl) ?_ ?_
        rotate_left
        · (intro W hW; go_simp; try with_reducible rfl)
        simp only [Act.put, List.setIfInBounds_toArray, List.set_cons_zero, List.set_cons_succ]
        refine held_take 10 (v := ?_) rfl (by kernel_rfl) (by kernel_rfl) (by kernel_rfl) (fun _ _ _ h => h) (by assumption) (by rfl) ?_ ?_
        rotate_left
        · (intro W hW; go_simp; try with_reducible rfl)
        simp only [Act.put, List.setIfInBounds_toArray, List.set_cons_zero, List.set_cons_succ]
        refine held_call 11 (f := 25) (args := #[.slice P nP cP]) rfl (by kernel_rfl) (by rfl) (by rw [← hP, ← hcP, ← hnP]; go_simp) ?_
        refine (clone_any P nP cP ys W3 hl (by omega) hc3).mono ?_
        rintro e W4 ⟨v, rfl, o4, b4⟩
        have hS4 : W4.cell? ⟨b, off, none⟩ = some (.int .u8 (t : Int)) ∧ W4.cell? ⟨b, off + 1, none⟩ = some (.int .u8 (u : Int)) := by
          have hlt := World.block_lt_of_cell? W3 _ hS.1
          exact ⟨by rw [b4.cell (p := ⟨b, off, none⟩) hlt]; exact hS.1, by rw [b4.cell (p := ⟨b, off + 1, none⟩) hlt]; exact hS.2⟩
        have hR4 := block_next hR3 b4
        have hB4 := Below.chain hB3 b4
        have hge := hB3.size
        obtain ⟨p, c, rfl⟩ := own_slice o4
        have hS5 : (W4.setRow w.heap.size (pcells ⟨(t : Int), (u : Int), ys⟩ (.slice p nP c)).toArray).cell? ⟨b, off, none⟩ = some (.int .u8 (t : Int)) ∧ (W4.setRow w.heap.size (pcells ⟨(t : Int), (u : Int), ys⟩ (.slice p nP c)).toArray).cell? ⟨b, off + 1, none⟩ = some (.int .u8 (u : Int)) := by
          constructor
          · rw [World.cell?_of_block (w := W4) (by exact setRow_other _ _ _ _ (by show b ≠ w.heap.size; omega))]; exact hS4.1
          · rw [World.cell?_of_block (w := W4) (by exact setRow_other _ _ _ _ (by show b ≠ w.heap.size; omega))]; exact hS4.2
        refine ⟨_, rfl, hS4, ?_⟩
        simp only [Act.put, List.setIfInBounds_toArray, List.set_cons_zero, List.set_cons_succ]
        refine held_take 12 (v := ?_) rfl (by kernel_rfl) (by kernel_rfl) (by kernel_rfl) (fun _ _ _ h => h) (by assumption) (by rfl) ?_ ?_
        rotate_left
        · (intro W hW; go_simp; try with_reducible rfl)
        simp only [Act.put, List.setIfInBounds_toArray, List.set_cons_zero, List.set_cons_succ]
        refine held_alone 13 (w' := W4.setRow w.heap.size (pcells ⟨(t : Int), (u : Int), ys⟩ (.slice p nP c)).toArray) rfl (by kernel_rfl) (by rfl) (run_store_pkt (.tmp 2) (.tmp 41) rfl w.heap.size ⟨(t : Int), (u : Int), ys⟩ p nP c _ rfl rfl hR4 rfl) hS5 ?_
        simp only [Act.put]
        refine held_take 14 (v := ?_) rfl (by kernel_rfl) (by kernel_rfl) (by kernel_rfl) (fun _ _ _ h => h) (by assumption) (by rfl) ?_ ?_
        rotate_left
        · (intro W hW; go_simp; try with_reducible rfl)
        simp only [Act.put, List.setIfInBounds_toArray, List.set_cons_zero, List.set_cons_succ]
        refine held_done (by kernel_rfl) ?_
        have o5 := ownsRow_lower (base' := w.heap.size) (ownsRow_setRow o4 (by have := lt_of_block hR3; omega) (pcells ⟨(t : Int), (u : Int), ys⟩ (.slice p nP c)).toArray) hge
        go_wp2 <;> exact bodyPost_ret (pkt_ret (r := ⟨(t : Int), (u : Int), ys⟩) (v := .slice p nP c) (e := 0) Try.results11 rfl rfl hR4) rfl ⟨_, rfl, by rw [← hl] at o5 ⊢; exact o5, below_setRow hB4 (Nat.le_refl _) _⟩

set_option maxRecDepth 100000 in
set_option maxHeartbeats 1000000 in
theorem refGet_any (a : Option Addr) (n cap : Nat) (xs : List UInt8) (w : World) (hn : xs.length = n) (hm : n ≤ 200000) (h : RowAt w a cap xs) :
    Calls Try.prog 12 #[.slice a n cap] w fun e w' => GetRes w w' e (Pk.get xs) := by
  have HW := Lib.hid (below_one w (.cells #[.int .i64 0, .int .i64 0, .slice none 0 0] 24))
  by_cases h4 : n < 4
  · rw [Pk.get_few (by omega)]
    have i1 : (n : Int) < 4 := by omega
    clear hn h
    go_enter Try.func12, Try.ntmps12
    go_wp2
    exact bodyPost_ret (pkt_ret0 (r := Pk.pz) (v := .slice none 0 0) (e := 2) Try.results12 rfl rfl) rfl (get_none HW.out)
  · have i1 : ¬ (n : Int) < 4 := by omega
    obtain ⟨b, off, rfl⟩ := h.some (by omega)
    have hk := four_cells h (by omega)
    have hbl : b < w.heap.size := World.block_lt_of_cell? w _ hk.1
    have hle := h.le
    rw [hn] at hle
    have q1 := Pk.get_form (b := xs) (by omega)
    have q2 := Pk.get_end (b := xs) (by omega)
    have q3 := Pk.get_good (b := xs) (by omega)
    have hs : 256 * Pk.at0 xs 2 + Pk.at0 xs 3 = Pk.siz xs := rfl
    have ht := Pk.at0_lt xs 0
    have hu := Pk.at0_lt xs 1
    have ht2 := Pk.at0_lt xs 2
    have ht3 := Pk.at0_lt xs 3
    have hcut := fun s (h1 : 4 ≤ s) (h2 : s ≤ n) => (h.next HW.out).cut 4 s h1 (by omega)
    have hlen : ∀ s, s ≤ n → ((xs.take s).drop 4).length = s - 4 := fun s hs => by rw [List.length_drop, List.length_take]; omega
    rw [hn] at q2 q3
    obtain ⟨k0, k1, k2, k3⟩ := hk
    have hR0 := heap_alloc_new w (.cells #[.int .i64 0, .int .i64 0, .slice none 0 0] 24)
    generalize Pk.get xs = A at *
    generalize Pk.siz xs = s at *
    generalize Pk.at0 xs 0 = t at *
    generalize Pk.at0 xs 1 = u at *
    generalize Pk.at0 xs 2 = t2 at *
    generalize Pk.at0 xs 3 = t3 at *
    replace hlen := hlen s
    replace hcut := hcut s
    generalize (xs.take s).drop 4 = ys at *
    have Q1 := Lib.hid q1
    have Q2 := Lib.hid q2
    have Q3 := Lib.hid q3
    have HL := Lib.hid hlen
    have HC := Lib.hid hcut
    have K0 := Lib.hid (show (w.alloc (.cells #[.int .i64 0, .int .i64 0, .slice none 0 0] 24)).cell? ⟨b, off, none⟩ = some (.int .u8 (t : Int)) by rw [HW.out.cell (p := ⟨b, off, none⟩) hbl]; exact k0)
    have K1 := Lib.hid (show (w.alloc (.cells #[.int .i64 0, .int .i64 0, .slice none 0 0] 24)).cell? ⟨b, off + 1, none⟩ = some (.int .u8 (u : Int)) by rw [HW.out.cell (p := ⟨b, off + 1, none⟩) hbl]; exact k1)
    have K2 := Lib.hid (show (w.alloc (.cells #[.int .i64 0, .int .i64 0, .slice none 0 0] 24)).cell? ⟨b, off + 2, none⟩ = some (.int .u8 (t2 : Int)) by rw [HW.out.cell (p := ⟨b, off + 2, none⟩) hbl]; exact k2)
    have K3 := Lib.hid (show (w.alloc (.cells #[.int .i64 0, .int .i64 0, .slice none 0 0] 24)).cell? ⟨b, off + 3, none⟩ = some (.int .u8 (t3 : Int)) by rw [HW.out.cell (p := ⟨b, off + 3, none⟩) hbl]; exact k3)
    have HR0 := Lib.hid hR0
    clear q1 q2 q3 hlen hcut h hn k0 k1 k2 k3 hR0
    have hwt : IntKind.i64.wrap (t : Int) = (t : Int) := by rw [IntKind.wrap_i64]; omega
    have hwu : IntKind.i64.wrap (u : Int) = (u : Int) := by rw [IntKind.wrap_i64]; omega
    have hw2 : IntKind.i64.wrap (t2 : Int) = (t2 : Int) := by rw [IntKind.wrap_i64]; omega
    have hw3 : IntKind.i64.wrap (t3 : Int) = (t3 : Int) := by rw [IntKind.wrap_i64]; omega
    obtain ⟨m2, hm2⟩ : ∃ m2, 256 * t2 = m2 := ⟨_, rfl⟩
    have hwm : IntKind.i64.wrap (256 * (t2 : Int)) = (m2 : Int) := by rw [IntKind.wrap_i64]; omega
    have hws : IntKind.i64.wrap ((m2 : Int) + (t3 : Int)) = (s : Int) := by rw [IntKind.wrap_i64]; omega
    have x2 : (2 : Int) < (n : Int) := by omega
    have x3 : (3 : Int) < (n : Int) := by omega
    have HS := Lib.hid hs
    have HM := Lib.hid hm2
    clear hs hm2
    go_enter Try.func12, Try.ntmps12
    go_wp2_with fail
    generalize w.alloc (.cells #[.int .i64 0, .int .i64 0, .slice none 0 0] 24) = W0 at *
    have hS0 : ∀ m, (W0.drewN m).cell? ⟨b, off + 2, none⟩ = some (.int .u8 (t2 : Int)) := fun _ => K2.out
    have hS1 : ∀ m, (W0.drewN m).cell? ⟨b, off + 3, none⟩ = some (.int .u8 (t3 : Int)) := fun _ => K3.out
    go_quiet (fail)
    have HB1 := Lib.hid (keeps_below HW.out nq)
    have HR1 := Lib.hid (show (W0.drewN nq).heap[w.heap.size]? = some (.cells #[.int .i64 0, .int .i64 0, .slice none 0 0] 24 (0, 0)) from HR0.out)
    have L0 := Lib.hid (show (W0.drewN nq).cell? ⟨b, off, none⟩ = some (.int .u8 (t : Int)) from K0.out)
    have L1 := Lib.hid (show (W0.drewN nq).cell? ⟨b, off + 1, none⟩ = some (.int .u8 (u : Int)) from K1.out)
    have HC1 := Lib.hid (fun (h1 : 4 ≤ s) (h2 : s ≤ n) => keeps_drewN (HC.out h1 h2) nq)
    clear hS0 hS1 K0 K1 K2 K3 HR0 HC HW
    generalize W0.drewN nq = W1 at *
    by_cases hs2 : s < 4
    · obtain rfl := Q1.out hs2
      have i2 : (s : Int) < 4 := by omega
      clear Q1 Q2 Q3 HL HC1 L0 L1
      go_wp2_with (refine wpList_store_pkt rfl (.tmp 2) (.tmp 22) rfl w.heap.size Pk.pz none 0 0 _ rfl rfl HR1.out rfl ?_)
      exact bodyPost_ret (pkt_ret (r := Pk.pz) (v := .slice none 0 0) (e := 3) Try.results12 rfl rfl HR1.out) rfl (get_none (below_setRow HB1.out (Nat.le_refl _) _))
    · have i2 : ¬ (s : Int) < 4 := by omega
      by_cases hs3 : n < s
      · obtain rfl := Q2.out hs2 hs3
        have i3 : (n : Int) < (s : Int) := by omega
        clear Q1 Q2 Q3 HL HC1 L0 L1
        go_wp2_with (refine wpList_store_pkt rfl (.tmp 2) (.tmp 27) rfl w.heap.size Pk.pz none 0 0 _ rfl rfl HR1.out rfl ?_)
        exact bodyPost_ret (pkt_ret (r := Pk.pz) (v := .slice none 0 0) (e := 2) Try.results12 rfl rfl HR1.out) rfl (get_none (below_setRow HB1.out (Nat.le_refl _) _))
      · obtain rfl := Q3.out hs2 hs3
        have i3 : ¬ (n : Int) < (s : Int) := by omega
        have hl := HL.out (by omega)
        have hc := HC1.out (by omega) (by omega)
        rw [Option.map_some, Go.WideShapes.add_plain] at hc
        obtain ⟨P, hP⟩ : ∃ P, (if cap = 4 then some ⟨b, off, none⟩ else some (⟨b, off + 4, none⟩ : Addr)) = P := ⟨_, rfl⟩
        rw [hP] at hc
        obtain ⟨cP, hcP⟩ : ∃ cP, cap - 4 = cP := ⟨_, rfl⟩
        obtain ⟨nP, hnP⟩ : ∃ nP, s - 4 = nP := ⟨_, rfl⟩
        rw [hcP] at hc
        rw [hnP] at hl
        have HP := Lib.hid hc
        have HY := Lib.hid hl
        clear Q1 Q2 Q3 HL HC1 hc hl
        go_wp2_with fail
        have i0 : 0 < n := by omega
        have i01 : (1 : Int) < (n : Int) := by omega
        have j1 : (4 : Int) ≤ (cap : Int) := by omega
        have j3 : (s : Int) ≤ (cap : Int) := by omega
        have j4 : (4 : Int) ≤ (s : Int) := by omega
        refine held_start (S := fun W => W.cell? ⟨b, off, none⟩ = some (.int .u8 (t : Int)) ∧ W.cell? ⟨b, off + 1, none⟩ = some (.int .u8 (u : Int))) 11 (by kernel_rfl) rfl ?_
        have hS : W1.drew.cell? ⟨b, off, none⟩ = some (.int .u8 (t : Int)) ∧ W1.drew.cell? ⟨b, off + 1, none⟩ = some (.int .u8 (u : Int)) := ⟨L0.out, L1.out⟩
        have hB3 := Lib.hid HB1.out.drew
        have hc3 : Hid (RowAt W1.drew P cP ys) := HP.out.next (Below.refl _ _).drew
        have hR3 : Hid (W1.drew.heap[w.heap.size]? = some (.cells #[.int .i64 0, .int .i64 0, .slice none 0 0] 24 (0, 0))) := HR1.out
        generalize W1.drew = W3 at *
        clear L0 L1 HR1 HB1 HP
        refine held_take 0 (v := ?_) rfl (by kernel_rfl) (by kernel_rfl) (by kernel_rfl) (fun _ _ _ h => h) (by assumption) (by rfl) ?_ ?_
        rotate_left
        · (intro W hW; go_simp; try with_reducible rfl)
        simp only [Act.put, List.setIfInBounds_toArray, List.set_cons_zero, List.set_cons_succ]
        refine held_take 1 (v := ?_) rfl (by kernel_rfl) (by kernel_rfl) (by kernel_rfl) (fun _ _ _ h => h) (by assumption) (by rfl) ?_ ?_
        rotate_left
        · (intro W hW; go_simp; try with_reducible rfl)
        simp only [Act.put, List.setIfInBounds_toArray, List.set_cons_zero, List.set_cons_succ]
        refine held_take 2 (v := ?_) rfl (by kernel_rfl) (by kernel_rfl) (by kernel_rfl) (fun _ _ _ h => h) (by assumption) (by rfl) ?_ ?_
        rotate_left
        · (intro W hW; have hc : W.cell? ⟨b, off, none⟩ = some (.int .u8 (t : Int)) := hW.1; go_simp; try with_reducible rfl)
        simp only [Act.put, List.setIfInBounds_toArray, List.set_cons_zero, List.set_cons_succ]
        refine held_take 3 (v := ?_) rfl (by kernel_rfl) (by kernel_rfl) (by kernel_rfl) (fun _ _ _ h => h) (by assumption) (by rfl) ?_ ?_
        rotate_left
        · (intro W hW; go_simp; try with_reducible rfl)
        simp only [Act.put, List.setIfInBounds_toArray, List.set_cons_zero, List.set_cons_succ]
        refine held_take 4 (v := ?_) rfl (by kernel_rfl) (by kernel_rfl) (by kernel_rfl) (fun _ _ _ h => h) (by assumption) (by rfl) ?_ ?_
        rotate_left
        · (intro W hW; go_simp; try with_reducible rfl)
        simp only [Act.put, List.setIfInBounds_toArray, List.set_cons_zero, List.set_cons_succ]
        refine held_take 5 (v := ?_) rfl (by kernel_rfl) (by kernel_rfl) (by kernel_rfl) (fun _ _ _ h => h) (by assumption) (by rfl) ?_ ?_
        rotate_left
        · (intro W hW; go_simp; try with_reducible rfl)
        simp only [Act.put, List.setIfInBounds_toArray, List.set_cons_zero, List.set_cons_succ]
        refine held_take 6 (v := ?_) rfl (by kernel_rfl) (by kernel_rfl) (by kernel_rfl) (fun _ _ _ h => h) (by assumption) (by rfl) ?_ ?_
        rotate_left
        · (intro W hW; have hc : W.cell? ⟨b, off + 1, none⟩ = some (.int .u8 (u : Int)) := hW.2; go_simp; try with_reducible rfl)
        simp only [Act.put, List.setIfInBounds_toArray, List.set_cons_zero, List.set_cons_succ]
        refine held_take 7 (v := ?_) rfl (by kernel_rfl) (by kernel_rfl) (by kernel_rfl) (fun _ _ _ h => h) (by assumption) (by rfl) ?_ ?_
        rotate_left
        · (intro W hW; go_simp; try with_reducible rfl)
        simp only [Act.put, List.setIfInBounds_toArray, List.set_cons_zero, List.set_cons_succ]
        refine held_take 8 (v := ?_) rfl (by kernel_rfl) (by kernel_rfl) (by kernel_rfl) (fun _ _ _ h => h) (by assumption) (by rfl) ?_ ?_
        rotate_left
        · (intro W hW; go_simp; try with_reducible rfl)
        simp only [Act.put, List.setIfInBounds_toArray, List.set_cons_zero, List.set_cons_succ]
        have bA := Lib.hid (below_one W3 (.cells #[.int .i64 0, .int .i64 0, .slice none 0 0] 24))
        have gA := heap_alloc_new W3 (.cells #[.int .i64 0, .int .i64 0, .slice none 0 0] 24)
        have hSA : (W3.alloc (.cells #[.int .i64 0, .int .i64 0, .slice none 0 0] 24)).cell? ⟨b, off, none⟩ = some (.int .u8 (t : Int)) ∧ (W3.alloc (.cells #[.int .i64 0, .int .i64 0, .slice none 0 0] 24)).cell? ⟨b, off + 1, none⟩ = some (.int .u8 (u : Int)) := by
          have hlt := World.block_lt_of_cell? W3 _ hS.1
          exact ⟨by rw [bA.out.cell (p := ⟨b, off, none⟩) hlt]; exact hS.1, by rw [bA.out.cell (p := ⟨b, off + 1, none⟩) hlt]; exact hS.2⟩
        refine held_makes 9 (v := .pointer (some ⟨W3.heap.size, 0, none⟩)) (w' := W3.alloc (.cells #[.int .i64 0, .int .i64 0, .slice none 0 0] 24)) rfl (by kernel_rfl) (by rfl) (by go_simp) hSA ?_
        have hblt : b < W3.heap.size := World.block_lt_of_cell? W3 _ hS.1
        obtain ⟨W4, hW4⟩ : ∃ W4, W3.alloc (.cells #[.int .i64 0, .int .i64 0, .slice none 0 0] 24) = W4 := ⟨_, rfl⟩
        rw [hW4] at bA gA hSA ⊢
        clear hW4
        obtain ⟨R, hRW⟩ : ∃ R, W3.heap.size = R := ⟨_, rfl⟩
        rw [hRW] at gA hblt ⊢
        simp only [Act.put, List.setIfInBounds_toArray, List.set_cons_zero, List.set_cons_succ]
        refine held_alone 10 (w' := W4.setRow R (pcells ⟨(t : Int), (u : Int), []⟩ (.slice none 0 0)).toArray) rfl (by kernel_rfl) (by rfl) (run_store_pkt (.tmp 5) (.tmp 36) rfl R ⟨(t : Int), (u : Int), []⟩ none 0 0 _ rfl rfl gA rfl) ?_ ?_
        · constructor
          · rw [World.cell?_of_block (w := W4) (by exact setRow_other _ _ _ _ (by show b ≠ R; omega))]; exact hSA.1
          · rw [World.cell?_of_block (w := W4) (by exact setRow_other _ _ _ _ (by show b ≠ R; omega))]; exact hSA.2
        refine held_done (by kernel_rfl) ?_
        have G5 := Lib.hid (setRow_heap _ _ _ (pcells ⟨(t : Int), (u : Int), []⟩ (.slice none 0 0)).toArray _ _ gA)
        have B5 := Lib.hid (below_setRow bA.out (g := R) (by omega) (pcells ⟨(t : Int), (u : Int), []⟩ (.slice none 0 0)).toArray)
        clear hS hSA gA bA hblt
        generalize W4.setRow R (pcells ⟨(t : Int), (u : Int), []⟩ (.slice none 0 0)).toArray = W5 at *
        have bR : W3.heap.size ≤ R := by omega
        have HP5 := Lib.hid (hc3.out.next B5.out)
        have HR5 := Lib.hid (block_next hR3.out B5.out)
        have HB5 := Lib.hid (Below.chain hB3.out B5.out)
        have hRw : w.heap.size ≤ R := by have := hB3.out.size; omega
        have hR5 : w.heap.size < R := by have := lt_of_block hR3.out; omega
        clear B5 hc3 hR3 hB3
        go_wp2_with fail
        refine held_start (S := fun _ => True) 8 (by kernel_rfl) rfl ?_
        have hT : True := trivial
        have HB6 := Lib.hid HB5.out.drew
        have G6 : W5.drew.heap[R]? = some (.cells (pcells ⟨(t : Int), (u : Int), []⟩ (.slice none 0 0)).toArray 24 (0, 0)) := G5.out
        have HP6 : Hid (RowAt W5.drew P cP ys) := HP5.out.next (Below.refl _ _).drew
        have HR6 : Hid (W5.drew.heap[w.heap.size]? = some (.cells #[.int .i64 0, .int .i64 0, .slice none 0 0] 24 (0, 0))) := HR5.out
        generalize W5.drew = W6 at *
        clear HB5 G5 HP5 HR5
        refine held_take 0 (v := ?_) rfl (by kernel_rfl) (by kernel_rfl) (by kernel_rfl) (fun _ _ _ h => h) (by assumption) (by rfl) ?_ ?_
        rotate_left
        · (intro W hW; go_simp; try with_reducible rfl)
        simp only [Act.put, List.setIfInBounds_toArray, List.set_cons_zero, List.set_cons_succ]
        refine held_take 2 (v := ?_) rfl (by kernel_rfl) (by kernel_rfl) (by kernel_rfl) (fun _ _ _ h => h) (by assumption) (by rfl) ?_ ?_
        rotate_left
        · (intro W hW; go_simp; try with_reducible rfl)
        simp only [Act.put, List.setIfInBounds_toArray, List.set_cons_zero, List.set_cons_succ]
        refine held_take 3 (v := ?_) rfl (by kernel_rfl) (by kernel_rfl) (by kernel_rfl) (fun _ _ _ h => h) (by assumption) (by rfl) ?_ ?_
        rotate_left
        · (intro W hW; go_simp; try with_reducible rfl)
        simp only [Act.put, List.setIfInBounds_toArray, List.set_cons_zero, List.set_cons_succ]
        refine held_take 4 (v := ?_) rfl (by kernel_rfl) (by kernel_rfl) (by kernel_rfl) (fun _ _ _ h => h) (by assumption) (by rfl) ?_ ?_
        rotate_left
        · (intro W hW; go_simp; try with_reducible rfl)
        simp only [Act.put, List.setIfInBounds_toArray, List.set_cons_zero, List.set_cons_succ]
        refine held_one 1 rfl (by kernel_rfl) (by rfl) ?_
        have t0 : W6.cell? ⟨R, 2, none⟩ = some (.slice none 0 0) := cell_of_row _ _ _ _ _ _ G6
        refine wp_value (v := .slice none 0 0) (w' := W6) (by go_simp) ⟨trivial, ?_⟩
        simp only [Act.put, List.setIfInBounds_toArray, List.set_cons_zero, List.set_cons_succ]
        refine held_one 5 rfl (by kernel_rfl) (by rfl) ?_
        refine wp_append_row (.tmp 38) (.tmp 41) rfl W6.heap.size (.slice none 0 0) 0 [] rfl (World.ownsRow_nil _ _ _ _) P nP cP ys (by rw [← hP, ← hcP, ← hnP]; rfl) HY.out HP6.out (by omega) (Nat.le_refl _) ?_
        intro v7 W7 o7 g7
        have b7 : Below W6.heap.size W6 W7 := Below.grown (Below.refl _ _) g7 (Nat.le_refl _) (fun k hk => by simp [Value.ownBlock] at hk)
        have hT7 := block_next G6 b7
        refine ⟨trivial, ?_⟩
        simp only [Act.put, List.setIfInBounds_toArray, List.set_cons_zero, List.set_cons_succ]
        refine held_take 6 (v := ?_) rfl (by kernel_rfl) (by kernel_rfl) (by kernel_rfl) (fun _ _ _ h => h) (by assumption) (by rfl) ?_ ?_
        rotate_left
        · (intro W hW; go_simp; try with_reducible rfl)
        simp only [Act.put, List.setIfInBounds_toArray, List.set_cons_zero, List.set_cons_succ]
        rw [Nat.zero_add, List.nil_append] at o7
        have hlt6 := lt_of_block G6
        have o8 := ownsRow_set (i := 2) (u := v7) o7 hlt6
        obtain ⟨p7, c7, rfl⟩ := own_slice o7
        have d7 : W7.cell? ⟨R, 2, none⟩ = some (.slice none 0 0) := cell_of_row _ _ _ _ _ _ hT7
        have f7 := frozen_of_row _ _ 2 _ _ hT7
        have hT8 : (W7.setCell ⟨R, 2, none⟩ (.slice p7 nP c7)).heap[R]? = some (.cells (pcells ⟨(t : Int), (u : Int), ys⟩ (.slice p7 nP c7)).toArray 24 (0, 0)) := heap_setCell_same W7 R 2 _ _ (.slice p7 nP c7) hT7
        have hR8 : (W7.setCell ⟨R, 2, none⟩ (.slice p7 nP c7)).heap[w.heap.size]? = some (.cells #[.int .i64 0, .int .i64 0, .slice none 0 0] 24 (0, 0)) := by
          rw [heap_setCell_other _ _ _ _ (by show w.heap.size ≠ R; omega)]
          exact block_next HR6.out b7
        have hB8 : Below w.heap.size w (W7.setCell ⟨R, 2, none⟩ (.slice p7 nP c7)) := (Below.chain HB6.out b7).setCell (p := ⟨R, 2, none⟩) hRw (.slice p7 nP c7)
        refine held_alone 7 (w' := W7.setCell ⟨R, 2, none⟩ (.slice p7 nP c7)) rfl (by kernel_rfl) (by rfl) (by go_simp) trivial ?_
        refine held_done (by kernel_rfl) ?_
        have O8 := Lib.hid (ownsRow_lower (base' := w.heap.size + 1) o8 (by have := HB6.out.size; omega))
        have T8 := Lib.hid hT8
        have R8 := Lib.hid hR8
        have B8 := Lib.hid hB8
        clear HB6 G6 HP6 HR6 t0 b7 hT7 o7 o8 d7 f7 hT8 hR8 hB8 hlt6 g7
        generalize W7.setCell ⟨R, 2, none⟩ (.slice p7 nP c7) = W8 at *
        simp only [Act.put]
        go_wp2_with (first | (refine wpList_load_row rfl 24 (.tmp 5) rfl R rfl 24 (pcells ⟨(t : Int), (u : Int), ys⟩ (.slice p7 nP c7)).toArray (0, 0) _ T8.out Try.underlying24 rfl infoPkt ?_; simp only [pcells]) | (refine wpList_store_pkt rfl (.tmp 2) (.tmp 44) rfl w.heap.size ⟨(t : Int), (u : Int), ys⟩ p7 nP c7 _ rfl rfl R8.out rfl ?_))
        have o9 := ownsRow_lower (base' := w.heap.size) (ownsRow_setRow (g := w.heap.size) O8.out (by omega) (pcells ⟨(t : Int), (u : Int), ys⟩ (.slice p7 nP c7)).toArray) (by omega)
        exact bodyPost_ret (pkt_ret (r := ⟨(t : Int), (u : Int), ys⟩) (v := .slice p7 nP c7) (e := 0) Try.results12 rfl rfl R8.out) rfl ⟨_, rfl, by rw [← HY.out] at o9 ⊢; exact o9, below_setRow B8.out (Nat.le_refl _) _⟩
end Go.Proofs.Ytbpkhjjabnboaaa
