/- Contracts of next and Read. -/
import Derived.Test.YtbpkhjjabnboaaaOb
import Derived.Test.YtbpkhjjabnboaaaBb
namespace Go.Proofs.Ytbpkhjjabnboaaa.S12
open Go.RowKit

theorem run_store_opt {w : World} {o : Oper} {a : Act} (x y : Operand) (ho : o.op = .store 65 x y) (R : Nat) (r : Ot.O) (p : Option Addr) (n c : Nat) (cur : Array Value)
    (hx : a.eval x = .pointer (some ⟨R, 0, none⟩)) (hy : a.eval y = .agg (ocells r (.slice p n c)).toArray) (hR : w.heap[R]? = some (.cells cur 65 (0, 0))) (hcur : cur.size = 2) :
    (execOp a.eval o).run Try.prog w = .ok .skip (w.setRow R (ocells r (.slice p n c)).toArray) := by
  have h := run_storeVar_row (P := Try.prog) w R 65 65 cur (ocells r (.slice p n c)).toArray hR infoOpt hcur (ocells_one r p n c)
  unfold execOp
  simp only [ho, hx, hy, Instr.storeAt, Instr.sureAddr, Sem.run_bind, Sem.run_pure, Result.andThen_ok, h]
/-- The first two bytes, in memory. -/
theorem two_cells {w : World} {b off c : Nat} {xs : List UInt8} (h : RowAt w (some ⟨b, off, none⟩) c xs) (h2 : ¬ xs.length < 2) : w.cell? ⟨b, off, none⟩ = some (.int .u8 (Ot.ty0 xs : Nat)) ∧ w.cell? ⟨b, off + 1, none⟩ = some (.int .u8 (Ot.sz xs : Nat)) := by
  obtain ⟨x, y, l, rfl, e1, e2⟩ := Ot.two_of xs h2
  have h0 := h.cell _ rfl 0 (.int .u8 (Ot.ty0 (x :: y :: l) : Nat)) (by simp [Lib.byteCells, e1])
  have h1 := h.cell _ rfl 1 (.int .u8 (Ot.sz (x :: y :: l) : Nat)) (by simp [Lib.byteCells, e2])
  rw [Go.WideShapes.add_plain] at h0 h1
  exact ⟨by rw [← Nat.add_zero off]; exact h0, h1⟩

set_option maxRecDepth 100000 in
set_option maxHeartbeats 1000000 in
theorem next_any (a : Option Addr) (n cap : Nat) (xs : List UInt8) (w : World) (hn : xs.length = n) (hm : n ≤ 300000) (h : RowAt w a cap xs) :
    Calls Try.prog 34 #[.slice a n cap] w fun e w' => NextRes w w' e (Ot.next xs) := by
  by_cases h2 : n < 2
  · rw [Ot.next_end xs (by omega)]
    have i1 : (n : Int) < 2 := by omega
    clear hn h
    go_enter Try.func34, Try.ntmps34
    go_wp2
    exact bodyPost_ret (opt_ret0 (r := Ot.oz) (v := .slice none 0 0) (k := 0) (e := 2) Try.results34 rfl rfl rfl) rfl (next_none (below_one w _))
  · have i1 : ¬ (n : Int) < 2 := by omega
    obtain ⟨b, off, rfl⟩ := h.some (by omega)
    have hW := below_one w (.cells #[.int .i64 0, .slice none 0 0] 65)
    have hbl : b < w.heap.size := World.block_lt_of_cell? w _ (two_cells h (by omega)).1
    have hk := two_cells (h.next hW) (by omega)
    have q1 := Ot.next_form xs (by omega)
    have q2 := Ot.next_cut xs (by omega)
    have q3 := Ot.next_good xs (by omega)
    have hs := Ot.sz_lt xs
    have ht := Ot.ty0_lt xs
    have hlen : ∀ s, s ≤ n → ((xs.drop 2).take (s - 2)).length = s - 2 := fun s hs => by rw [List.length_take, List.length_drop, hn]; omega
    have hcut := fun s (h1 : 2 ≤ s) (h2 : s ≤ n) => (h.next hW).cut 2 s h1 (by omega)
    have hct : ∀ s, (xs.take s).drop 2 = (xs.drop 2).take (s - 2) := fun s => by rw [List.drop_take]
    simp only [hct] at hcut
    rw [hn] at q2 q3
    have hle := h.le
    rw [hn] at hle
    have hR0 := heap_alloc_new w (.cells #[.int .i64 0, .slice none 0 0] 65)
    generalize Ot.next xs = A at *
    generalize Ot.sz xs = s at *
    generalize Ot.ty0 xs = t at *
    have hlen := hlen s
    have hcut := hcut s
    generalize (xs.drop 2).take (s - 2) = ys at *
    have Q1 := Lib.hid q1
    have Q2 := Lib.hid q2
    have Q3 := Lib.hid q3
    have HL := Lib.hid hlen
    have HC := Lib.hid hcut
    have HW := Lib.hid hW
    clear q1 q2 q3 hlen hcut h hn hct
    obtain ⟨k0, k1⟩ := hk
    have hwt : IntKind.i64.wrap (t : Int) = (t : Int) := by rw [IntKind.wrap_i64]; omega
    have hws : IntKind.i64.wrap (s : Int) = (s : Int) := by rw [IntKind.wrap_i64]; omega
    by_cases hs2 : s < 2
    · obtain rfl := Q1.out hs2
      have i2 : (s : Int) < 2 := by omega
      clear Q1 Q2 Q3 HL HC
      go_enter Try.func34, Try.ntmps34
      go_wp2_with fail
      exact bodyPost_ret (opt_ret0 (r := Ot.oz) (v := .slice none 0 0) (k := 0) (e := 3) Try.results34 rfl rfl rfl) rfl (next_none HW.out)
    · have i2 : ¬ (s : Int) < 2 := by omega
      by_cases hs3 : n < s
      · obtain rfl := Q2.out hs2 hs3
        have i3 : (n : Int) < (s : Int) := by omega
        clear Q1 Q2 Q3 HL HC
        go_enter Try.func34, Try.ntmps34
        go_wp2_with fail
        exact bodyPost_ret (opt_ret0 (r := Ot.oz) (v := .slice none 0 0) (k := 0) (e := 2) Try.results34 rfl rfl rfl) rfl (next_none HW.out)
      · obtain rfl := Q3.out hs2 hs3
        have i3 : ¬ (n : Int) < (s : Int) := by omega
        have hl := HL.out (by omega)
        have hc := HC.out (by omega) (by omega)
        obtain ⟨P, hP⟩ : ∃ P, (if cap = 2 then some ⟨b, off, none⟩ else Option.map (fun x => x.add 2) (some (⟨b, off, none⟩ : Addr))) = P := ⟨_, rfl⟩
        rw [hP] at hc
        obtain ⟨cP, hcP⟩ : ∃ cP, cap - 2 = cP := ⟨_, rfl⟩
        obtain ⟨nP, hnP⟩ : ∃ nP, s - 2 = nP := ⟨_, rfl⟩
        rw [hcP] at hc
        rw [hnP] at hl
        clear Q1 Q2 Q3 HL HC
        go_enter Try.func34, Try.ntmps34
        go_wp2_with fail
        have i0 : 0 < n := by omega
        have j2 : (2 : Int) ≤ (cap : Int) := by omega
        have j3 : (s : Int) ≤ (cap : Int) := by omega
        have j4 : (2 : Int) ≤ (s : Int) := by omega
        generalize w.alloc (.cells #[.int .i64 0, .slice none 0 0] 65) = W0 at *
        refine held_start (S := fun W => W.cell? ⟨b, off, none⟩ = some (.int .u8 (t : Int))) 13 (by kernel_rfl) rfl ?_
        have hS : W0.drew.cell? ⟨b, off, none⟩ = some (.int .u8 (t : Int)) := k0
        have hB3 := HW.out.drew
        have hc3 : RowAt W0.drew P cP ys := hc.next (Below.refl _ _).drew
        have hR3 : W0.drew.heap[w.heap.size]? = some (.cells #[.int .i64 0, .slice none 0 0] 65 (0, 0)) := hR0
        generalize W0.drew = W3 at *
        clear k0 k1 hc hR0 HW
        refine held_take 0 (v := ?_) rfl (by kernel_rfl) (by kernel_rfl) (by kernel_rfl) (fun _ _ _ h => h) (by assumption) (by rfl) ?_ ?_
        rotate_left
        · (intro W hW; go_simp; try with_reducible rfl)
        simp only [Act.put, List.setIfInBounds_toArray, List.set_cons_zero, List.set_cons_succ]
        refine held_take 1 (v := ?_) rfl (by kernel_rfl) (by kernel_rfl) (by kernel_rfl) (fun _ _ _ h => h) (by assumption) (by rfl) ?_ ?_
        rotate_left
        · (intro W hW; go_simp; try with_reducible rfl)
        simp only [Act.put, List.setIfInBounds_toArray, List.set_cons_zero, List.set_cons_succ]
        refine held_take 2 (v := ?_) rfl (by kernel_rfl) (by kernel_rfl) (by kernel_rfl) (fun _ _ _ h => h) (by assumption) (by rfl) ?_ ?_
        rotate_left
        · (intro W hW; have hc : W.cell? ⟨b, off, none⟩ = some (.int .u8 (t : Int)) := hW; go_simp; try with_reducible rfl)
        simp only [Act.put, List.setIfInBounds_toArray, List.set_cons_zero, List.set_cons_succ]
        refine held_take 3 (v := ?_) rfl (by kernel_rfl) (by kernel_rfl) (by kernel_rfl) (fun _ _ _ h => h) (by assumption) (by rfl) ?_ ?_
        rotate_left
        · (intro W hW; go_simp; try with_reducible rfl)
        simp only [Act.put, List.setIfInBounds_toArray, List.set_cons_zero, List.set_cons_succ]
        refine held_take 4 (v := ?_) rfl (by kernel_rfl) (by kernel_rfl) (by kernel_rfl) (fun _ _ _ h => h) (by assumption) (by rfl) ?_ ?_
        rotate_left
        · (intro W hW; go_simp; try with_reducible rfl)
        simp only [Act.put, List.setIfInBounds_toArray, List.set_cons_zero, List.set_cons_succ]
        refine held_take 5 (v := ?_) rfl (by kernel_rfl) (by kernel_rfl) (by kernel_rfl) (fun _ _ _ h => h) (by assumption) (by rfl) ?_ ?_
        rotate_left
        · (intro W hW; go_simp; try with_reducible rfl)
        simp only [Act.put, List.setIfInBounds_toArray, List.set_cons_zero, List.set_cons_succ]
        refine held_take 6 (v := ?_) rfl (by kernel_rfl) (by kernel_rfl) (by kernel_rfl) (fun _ _ _ h => h) (by assumption) (by rfl) ?_ ?_
        rotate_left
        · (intro W hW; go_simp; try with_reducible rfl)
        simp only [Act.put, List.setIfInBounds_toArray, List.set_cons_zero, List.set_cons_succ]
        refine held_take 9 (v := ?_) rfl (by kernel_rfl) (by kernel_rfl) (by kernel_rfl) (fun _ _ _ h => h) (by assumption) (by rfl) ?_ ?_
        rotate_left
        · (intro W hW; go_simp; try with_reducible rfl)
        simp only [Act.put, List.setIfInBounds_toArray, List.set_cons_zero, List.set_cons_succ]
        refine held_call 7 (f := 25) (args := #[.slice P nP cP]) rfl (by kernel_rfl) (by rfl) (by rw [← hP, ← hcP, ← hnP]; go_simp) ?_
        refine (clone_any P nP cP ys W3 hl (by omega) hc3).mono ?_
        rintro e W4 ⟨v, rfl, o4, b4⟩
        have hS4 : W4.cell? ⟨b, off, none⟩ = some (.int .u8 (t : Int)) := by rw [b4.cell (p := ⟨b, off, none⟩) (World.block_lt_of_cell? W3 _ hS)]; exact hS
        have hR4 := block_next hR3 b4
        have hB4 := Below.chain hB3 b4
        have hge := hB3.size
        obtain ⟨p, c, rfl⟩ := own_slice o4
        have hS5 : (W4.setRow w.heap.size (ocells ⟨(t : Int), ys⟩ (.slice p nP c)).toArray).cell? ⟨b, off, none⟩ = some (.int .u8 (t : Int)) := by rw [World.cell?_of_block (w := W4) (by exact setRow_other _ _ _ _ (by show b ≠ w.heap.size; omega))]; exact hS4
        refine ⟨_, rfl, hS4, ?_⟩
        simp only [Act.put, List.setIfInBounds_toArray, List.set_cons_zero, List.set_cons_succ]
        refine held_take 8 (v := ?_) rfl (by kernel_rfl) (by kernel_rfl) (by kernel_rfl) (fun _ _ _ h => h) (by assumption) (by rfl) ?_ ?_
        rotate_left
        · (intro W hW; go_simp; try with_reducible rfl)
        simp only [Act.put, List.setIfInBounds_toArray, List.set_cons_zero, List.set_cons_succ]
        refine held_alone 10 (w' := W4.setRow w.heap.size (ocells ⟨(t : Int), ys⟩ (.slice p nP c)).toArray) rfl (by kernel_rfl) (by rfl) (run_store_opt (.tmp 2) (.tmp 32) rfl w.heap.size ⟨(t : Int), ys⟩ p nP c _ rfl rfl hR4 rfl) hS5 ?_
        simp only [Act.put]
        refine held_take 11 (v := ?_) rfl (by kernel_rfl) (by kernel_rfl) (by kernel_rfl) (fun _ _ _ h => h) (by assumption) (by rfl) ?_ ?_
        rotate_left
        · (intro W hW; go_simp; try with_reducible rfl)
        simp only [Act.put, List.setIfInBounds_toArray, List.set_cons_zero, List.set_cons_succ]
        refine held_take 12 (v := ?_) rfl (by kernel_rfl) (by kernel_rfl) (by kernel_rfl) (fun _ _ _ h => h) (by assumption) (by rfl) ?_ ?_
        rotate_left
        · (intro W hW; go_simp; try with_reducible rfl)
        simp only [Act.put, List.setIfInBounds_toArray, List.set_cons_zero, List.set_cons_succ]
        refine held_done (by kernel_rfl) ?_
        have o5 := ownsRow_lower (base' := w.heap.size) (ownsRow_setRow o4 (by have := lt_of_block hR3; omega) (ocells ⟨(t : Int), ys⟩ (.slice p nP c)).toArray) hge
        go_wp2 <;> exact bodyPost_ret (opt_ret (r := ⟨(t : Int), ys⟩) (v := .slice p nP c) (k := s) (e := 0) Try.results34 rfl rfl rfl hR4) rfl ⟨_, rfl, by rw [← hl] at o5 ⊢; exact o5, below_setRow hB4 (Nat.le_refl _) _⟩

set_option maxRecDepth 100000 in
set_option maxHeartbeats 1000000 in
theorem read_any (a : Option Addr) (n cap : Nat) (xs : List UInt8) (w : World) (hn : xs.length = n) (hm : n ≤ 300000) (h : RowAt w a cap xs) :
    Calls Try.prog 27 #[.slice a n cap] w fun e w' => ReadRes w w' e (Ot.read xs) := by
  obtain ⟨A, hA⟩ : ∃ A, Ot.rdr xs 0 = A := ⟨_, rfl⟩
  have hA0 : A = ([] ++ (Ot.rdr (xs.drop 0) 0).1, (Ot.rdr (xs.drop 0) 0).2) := by rw [← hA]; rfl
  rw [Ot.read, hA]
  obtain ⟨Z, hZ⟩ : ∃ Z, Ot.fin A = Z := ⟨_, rfl⟩
  rw [hZ]
  have HZ := Lib.hid hZ.symm
  clear hZ
  have H := Lib.hid h
  have HA := Lib.hid hA0
  have Hn := Lib.hid hn
  clear h hA hA0 hn
  have hR0 : (w.alloc (.cells #[.int .i64 0, .int .i64 0] 58)).heap[w.heap.size]? = _ := heap_alloc_new w _
  have hB0 : Below w.heap.size w (w.alloc (.cells #[.int .i64 0, .int .i64 0] 58)) := below_one w _
  have hs0 : (w.alloc (.cells #[.int .i64 0, .int .i64 0] 58)).heap.size = w.heap.size + 1 := by simp
  go_enter Try.func27, Try.ntmps27
  go_wp2
  generalize w.alloc (.cells #[.int .i64 0, .int .i64 0] 58) = W at *
  have R0 := Lib.hid hR0
  have B0 := Lib.hid hB0
  clear hR0 hB0
  go_loopw [4, 5] (fun v i wr => ∃ (k : Nat) (pre : List Ot.O), i = .int .i64 (k : Int) ∧ k ≤ n ∧ pre.length ≤ k ∧ Hid (A = (pre ++ (Ot.rdr (xs.drop k) k).1, (Ot.rdr (xs.drop k) k).2)) ∧ Opts wr W.heap.size v pre ∧ Below W.heap.size W wr) (fun _ i _ => n - (intOf i).toNat)
  case atStart => exact ⟨0, [], rfl, Nat.zero_le _, Nat.le_refl _, HA, opts_none _ _, Below.refl _ _⟩
  case round =>
    obtain ⟨k, pre, rfl, hk, hpl, HI, hrec, hbw⟩ := hrel
    obtain ⟨av, cv, rfl⟩ := opts_slice hrec
    have HR := Lib.hid (block_next R0.out hbw)
    have HB := Lib.hid (Below.chain B0.out hbw)
    have HBW := Lib.hid hbw
    have HREC := Lib.hid hrec
    have hsz := hbw.size
    clear hrec hbw
    by_cases hlt : (k : Int) < (n : Int)
    · have hkn : k < n := by omega
      have hrow := (H.out.next HB.out).cut k n (by omega) (by rw [Hn.out]; exact Nat.le_refl _)
      rw [List.take_of_length_le (by rw [Hn.out]; exact Nat.le_refl _)] at hrow
      have hle := (H.out).le
      rw [Hn.out] at hle
      have hdl : (xs.drop k).length = n - k := by rw [List.length_drop, Hn.out]
      obtain ⟨P, hP⟩ : ∃ P, Option.map (fun x => x.add k) a = P := ⟨_, rfl⟩
      obtain ⟨cP, hcP⟩ : ∃ cP, cap - k = cP := ⟨_, rfl⟩
      have hrow' : RowAt wr P cP (xs.drop k) := by rw [← hP, ← hcP]; rw [if_neg (by omega)] at hrow; exact hrow
      have c15 := next_any P (n - k) cP (xs.drop k) wr hdl (by omega) hrow'
      have nk := Ot.next_known (xs.drop k)
      have qb := Ot.rdr_bad (xs.drop k) k (by omega) (Ot.next (xs.drop k)).1 (Ot.next (xs.drop k)).2.1 (Ot.next (xs.drop k)).2.2 rfl
      have qg := Ot.rdr_good (xs.drop k) k (by omega) (Ot.next (xs.drop k)).1 (Ot.next (xs.drop k)).2.1
      generalize Ot.next (xs.drop k) = X at *
      obtain ⟨r, sz, e⟩ := X
      simp only at qb qg
      have NK := Lib.hid nk
      have QB := Lib.hid qb
      have QG := Lib.hid qg
      have C15 := Lib.hid c15
      clear nk qb qg c15 hrow hrow'
      have j2 : ¬ n < k := by omega
      have j3 : k ≤ n := by omega
      have j4 : n - k ≤ 300000 := by omega
      go_wp2_with fail
      refine C15.out.mono ?_
      rintro e3 w3 ⟨d, rfl, o3, b3⟩
      obtain ⟨pd, cd, rfl⟩ := own_slice o3
      have hB3 := Below.chain HBW.out b3
      have hR3 := block_next HR.out b3
      have hN3 := HREC.out.next b3
      have hge := b3.size
      have O3 := Lib.hid (ownsRow_lower (base' := W.heap.size) o3 hsz)
      have HB3 := Lib.hid hB3
      have HR3 := Lib.hid hR3
      have HN3 := Lib.hid hN3
      have BA : Hid (∀ o, Below w3.heap.size w3 (w3.alloc o)) := fun o => below_one w3 o
      clear o3 b3 hB3 hR3 hN3 C15 HREC HB HBW HR
      simp only [ocells]
      by_cases he : e = 0
      · subst he
        have hq := QG.out rfl
        have hnk := (NK.out.good rfl)
        have hdd := NK.out.size
        rw [hdl] at hnk hdd
        simp only at hnk hdd
        have hsz1 : 1 ≤ sz := by omega
        have hsz2 : k + sz ≤ n := by omega
        clear hnk
        have HI2 : Hid (A = ((pre ++ [r]) ++ (Ot.rdr (xs.drop (k + sz)) (k + sz)).1, (Ot.rdr (xs.drop (k + sz)) (k + sz)).2)) := by
          show A = _
          rw [HI.out, hq, List.drop_drop]
          simp
        clear HI hq QB QG NK
        have hg4 := heap_alloc_new w3 (.cells (ocells r (.slice pd r.data.length cd)).toArray 65)
        have hG4 : Hid ((w3.alloc (.cells #[.int .i64 r.ty, .slice pd r.data.length cd] 65)).heap[w3.heap.size]? = some (.cells (ocells r (.slice pd r.data.length cd)).toArray 65 (0, 0))) := hg4
        have hO4 : Hid ((w3.alloc (.cells #[.int .i64 r.ty, .slice pd r.data.length cd] 65)).ownsRow W.heap.size 5 1 (.slice pd r.data.length cd) r.data.length (Lib.byteCells r.data)) := O3.out.alloc _
        have hN4 : Hid (Opts (w3.alloc (.cells #[.int .i64 r.ty, .slice pd r.data.length cd] 65)) W.heap.size (.slice av pre.length cv) pre) := HN3.out.next (BA.out _)
        have hB4 : Hid (Below W.heap.size W (w3.alloc (.cells #[.int .i64 r.ty, .slice pd r.data.length cd] 65))) := Below.chain HB3.out (BA.out _)
        clear hg4 O3 HN3 HB3
        go_wp2_with (first | (generalize w3.alloc (.cells #[.int .i64 r.ty, .slice pd r.data.length cd] 65) = w4 at *; generalize w3.heap.size = g4 at *; refine wpList_load_row rfl 65 (.tmp 6) rfl g4 rfl 65 (ocells r (.slice pd r.data.length cd)).toArray (0, 0) _ hG4.out Try.underlying65 rfl infoOpt ?_; simp only [ocells]) | (at_builtin; refine wpList_append_opts rfl (.tmp 26) (.tmp 28) rfl W.heap.size (.slice av pre.length cv) pre r (.slice pd r.data.length cd) w4.heap.size rfl rfl (hN4.out.next (below_one w4 _)) (hO4.out.alloc _) (heap_alloc_new w4 _) (by have := hB4.out.size; simp; omega) (by omega) ?_; intro v6 w6 rec6 gr6 blk6))
        have b6 : Below W.heap.size W w6 := Below.grown (hB4.out.alloc hB4.out.size _) gr6 (by have := hB4.out.size; simp; omega) blk6
        go_roundw
        case rel => exact ⟨k + sz, pre ++ [r], by simp, by omega, by rw [List.length_append]; simp; omega, HI2, rec6, b6⟩
        case measure => simp [intOf]; omega
      · have hq := QB.out he
        have HI2 : Z = ([], k, e) := by rw [HZ.out, HI.out, hq]; simp [Ot.fin, he]
        subst HI2
        have i1 : ((e : Int) != 0) = true := by simp; omega
        clear hq QB QG HI NK HZ
        have HR4 := Lib.hid (fun o => block_next HR3.out (BA.out o))
        have HB4 := Lib.hid (fun o => Below.chain HB3.out (BA.out o))
        clear HR3 HB3 HN3 BA
        go_wp2_with (refine wpList_store_spot rfl (.tmp 3) (.tmp 25) rfl w.heap.size k e _ rfl rfl (HR4.out _) rfl ?_)
        refine bodyPost_ret (v := .tuple #[.slice none 0 0, .agg (scells k e).toArray]) ?_ rfl ⟨_, rfl, opts_none _ _, below_setRow (Below.trans B0.out ((HB4.out _).mono (by omega))) (Nat.le_refl _) _⟩
        exact results_tmp_cell_row Try.results27 _ _ w.heap.size 58 _ _ _ rfl (setRow_heap _ _ _ _ _ _ (HR4.out _)) Try.underlying58 rfl infoSpot
    · have hrn : xs.drop k = [] := List.drop_of_length_le (by rw [Hn.out]; omega)
      have HI2 : Z = (pre, 0, 0) := by rw [HZ.out, HI.out, hrn, Ot.rdr_nil]; simp [Ot.fin]
      subst HI2
      clear hrn HI HZ
      go_wp2_with (refine wpList_store_spot rfl (.tmp 3) (.tmp 34) rfl w.heap.size 0 0 _ rfl rfl HR.out rfl ?_)
      refine bodyPost_ret (v := .tuple #[.slice av pre.length cv, .agg (scells 0 0).toArray]) ?_ rfl ⟨_, rfl, (HREC.out.kept (grown_row _ _ _) (by omega)).lower (by omega), below_setRow HB.out (Nat.le_refl _) _⟩
      exact results_tmp_cell_row Try.results27 _ _ w.heap.size 58 _ _ _ rfl (setRow_heap _ _ _ _ _ _ HR.out) Try.underlying58 rfl infoSpot
end Go.Proofs.Ytbpkhjjabnboaaa.S12
