/- Contract of the document's Read. -/
import Derived.Test.YtbpkhjjabnboaaaOc
namespace Go.Proofs.Ytbpkhjjabnboaaa.S12
open Go.RowKit

set_option maxRecDepth 100000 in
set_option maxHeartbeats 1000000 in
theorem refRead_any (a : Option Addr) (n cap : Nat) (xs : List UInt8) (w : World) (hn : xs.length = n) (hm : n ≤ 300000) (h : RowAt w a cap xs) :
    Calls Try.prog 28 #[.slice a n cap] w fun e w' => ReadRes w w' e (Ot.read xs) := by
  obtain ⟨A, hA⟩ : ∃ A, Ot.rdr xs 0 = A := ⟨_, rfl⟩
  have hA0 : A = ([] ++ (Ot.rdr (xs.drop 0) 0).1, (Ot.rdr (xs.drop 0) 0).2) := by rw [← hA]; rfl
  rw [Ot.read, hA]
  obtain ⟨Z, hZ⟩ : ∃ Z, Ot.fin A = Z := ⟨_, rfl⟩
  rw [hZ]
  have HZ := Lib.hid hZ.symm
  have H := Lib.hid h
  have HA := Lib.hid hA0
  have Hn := Lib.hid hn
  clear h hA hA0 hn hZ
  have hR0 : (w.alloc (.cells #[.int .i64 0, .int .i64 0] 58)).heap[w.heap.size]? = _ := heap_alloc_new w _
  have hB0 : Below w.heap.size w (w.alloc (.cells #[.int .i64 0, .int .i64 0] 58)) := below_one w _
  have hs0 : (w.alloc (.cells #[.int .i64 0, .int .i64 0] 58)).heap.size = w.heap.size + 1 := by simp
  go_enter Try.func28, Try.ntmps28
  go_wp2
  generalize w.alloc (.cells #[.int .i64 0, .int .i64 0] 58) = W at *
  have R0 := Lib.hid hR0
  have B0 := Lib.hid hB0
  clear hR0 hB0
  go_loopw [4, 5] (fun v i wr => ∃ (k : Nat) (pre : List Ot.O), i = .int .i64 (k : Int) ∧ k ≤ n ∧ pre.length ≤ k ∧ Hid (A = (pre ++ (Ot.rdr (xs.drop k) k).1, (Ot.rdr (xs.drop k) k).2)) ∧ Opts wr W.heap.size v pre ∧ Below W.heap.size W wr) (fun _ i _ => n - (intOf i).toNat)
  case atStart => exact ⟨0, [], rfl, Nat.zero_le _, Nat.le_refl _, HA, opts_none _ _, Below.refl _ _⟩
  case round =>
    obtain ⟨k, pre, rfl, hk, hpl, HI, hrec, hbw⟩ := hrel
    obtain ⟨av, cv, rfl⟩ := opts_slice hrec
    have HR := Lib.hid (block_next R0.out hbw)
    have HB := Lib.hid (Below.chain B0.out hbw)
    have HBW := Lib.hid hbw
    have HREC := Lib.hid hrec
    have hsz := hbw.size
    clear hrec hbw
    by_cases hlt : (k : Int) < (n : Int)
    · have hkn : k < n := by omega
      obtain ⟨b, off, rfl⟩ := H.out.some (by rw [Hn.out]; omega)
      have hrow := (H.out.next HB.out).cut k n (by omega) (by rw [Hn.out]; exact Nat.le_refl _)
      rw [List.take_of_length_le (by rw [Hn.out]; exact Nat.le_refl _)] at hrow
      have hle := (H.out).le
      rw [Hn.out] at hle
      have hdl : (xs.drop k).length = n - k := by rw [List.length_drop, Hn.out]
      rw [if_neg (by omega), Option.map_some, Go.WideShapes.add_plain] at hrow
      have q1 := Ot.next_end (xs.drop k)
      have q2 := Ot.next_form (xs.drop k)
      have q3 := Ot.next_cut (xs.drop k)
      have q4 := Ot.next_good (xs.drop k)
      have qb := Ot.rdr_bad (xs.drop k) k (by omega)
      have qg := Ot.rdr_good (xs.drop k) k (by omega)
      have hs := Ot.sz_lt (xs.drop k)
      have ht := Ot.ty0_lt (xs.drop k)
      have htc := fun h2 => two_cells hrow h2
      have hlen : ∀ s, k + s ≤ n → (((xs.drop k).drop 2).take (s - 2)).length = s - 2 := fun s hs => by rw [List.length_take, List.length_drop, hdl]; omega
      have hcut := fun s (h1 : 2 ≤ s) (h2 : k + s ≤ n) => (H.out.next HB.out).cut (k + 2) (k + s) (by omega) (by rw [Hn.out]; exact h2)
      have hct : ∀ s, (xs.take (k + s)).drop (k + 2) = ((xs.drop k).drop 2).take (s - 2) := fun s => by rw [List.drop_drop, List.drop_take]; congr 1; omega
      simp only [hct] at hcut
      rw [hdl] at q1 q2 q3 q4 htc
      generalize Ot.sz (xs.drop k) = s at *
      generalize Ot.ty0 (xs.drop k) = t at *
      have hlen := hlen s
      have hcut := hcut s
      generalize ((xs.drop k).drop 2).take (s - 2) = ys at *
      have Q1 := Lib.hid q1
      have Q2 := Lib.hid q2
      have Q3 := Lib.hid q3
      have Q4 := Lib.hid q4
      have QB := Lib.hid qb
      have QG := Lib.hid qg
      have HL := Lib.hid hlen
      have HC := Lib.hid hcut
      have TC := Lib.hid htc
      clear q1 q2 q3 q4 qb qg hlen hcut htc hrow hct hdl
      by_cases he1 : n - k < 2
      · have hq := QB.out _ _ _ (Q1.out he1) (by omega)
        have HI2 : Z = ([], k, 2) := by rw [HZ.out, HI.out, hq]; simp [Ot.fin]
        subst HI2
        have i1 : ((k : Int) + 1 == (n : Int)) = true := by simp; omega
        clear hq Q1 Q2 Q3 Q4 QB QG HI HZ HL HC TC
        go_wp2_with (refine wpList_store_spot rfl (.tmp 3) (.tmp 18) rfl w.heap.size k 2 _ rfl rfl HR.out rfl ?_)
        refine bodyPost_ret (v := .tuple #[.slice none 0 0, .agg (scells k 2).toArray]) ?_ rfl ⟨_, rfl, opts_none _ _, below_setRow HB.out (Nat.le_refl _) _⟩
        exact results_tmp_cell_row Try.results28 _ _ w.heap.size 58 _ _ _ rfl (setRow_heap _ _ _ _ _ _ HR.out) Try.underlying58 rfl infoSpot
      · have i1 : ((k : Int) + 1 == (n : Int)) = false := by simp; omega
        have hk1 : k + 1 < n := by omega
        obtain ⟨c0, c1⟩ := TC.out he1
        rw [Nat.add_assoc] at c1
        have hwt : IntKind.i64.wrap (t : Int) = (t : Int) := by rw [IntKind.wrap_i64]; omega
        have hws : IntKind.i64.wrap (s : Int) = (s : Int) := by rw [IntKind.wrap_i64]; omega
        have hwk : IntKind.i64.wrap ((k : Int) + 1) = ((k + 1 : Nat) : Int) := by rw [IntKind.wrap_i64]; omega
        by_cases hs2 : s < 2
        · have hq := QB.out _ _ _ (Q2.out he1 hs2) (by omega)
          have HI2 : Z = ([], k, 3) := by rw [HZ.out, HI.out, hq]; simp [Ot.fin]
          subst HI2
          have i2 : (s : Int) < 2 := by omega
          clear hq Q1 Q2 Q3 Q4 QB QG HI HZ HL HC TC
          go_wp2_with (refine wpList_store_spot rfl (.tmp 3) (.tmp 28) rfl w.heap.size k 3 _ rfl rfl HR.out rfl ?_)
          refine bodyPost_ret (v := .tuple #[.slice none 0 0, .agg (scells k 3).toArray]) ?_ rfl ⟨_, rfl, opts_none _ _, below_setRow HB.out (Nat.le_refl _) _⟩
          exact results_tmp_cell_row Try.results28 _ _ w.heap.size 58 _ _ _ rfl (setRow_heap _ _ _ _ _ _ HR.out) Try.underlying58 rfl infoSpot
        · have i2 : ¬ (s : Int) < 2 := by omega
          by_cases hs3 : n - k < s
          · have hq := QB.out _ _ _ (Q3.out he1 hs2 hs3) (by omega)
            have HI2 : Z = ([], k, 2) := by rw [HZ.out, HI.out, hq]; simp [Ot.fin]
            subst HI2
            have i3 : (n : Int) < (k : Int) + (s : Int) := by omega
            clear hq Q1 Q2 Q3 Q4 QB QG HI HZ HL HC TC
            go_wp2_with (refine wpList_store_spot rfl (.tmp 3) (.tmp 36) rfl w.heap.size k 2 _ rfl rfl HR.out rfl ?_)
            refine bodyPost_ret (v := .tuple #[.slice none 0 0, .agg (scells k 2).toArray]) ?_ rfl ⟨_, rfl, opts_none _ _, below_setRow HB.out (Nat.le_refl _) _⟩
            exact results_tmp_cell_row Try.results28 _ _ w.heap.size 58 _ _ _ rfl (setRow_heap _ _ _ _ _ _ HR.out) Try.underlying58 rfl infoSpot
          · have i3 : ¬ (n : Int) < (k : Int) + (s : Int) := by omega
            have hq := QG.out _ _ (Q4.out he1 hs2 hs3)
            have hyl := HL.out (by omega)
            have hyr := HC.out (by omega) (by omega)
            have HI2 : Hid (A = ((pre ++ [⟨(t : Int), ys⟩]) ++ (Ot.rdr (xs.drop (k + s)) (k + s)).1, (Ot.rdr (xs.drop (k + s)) (k + s)).2)) := by
              show A = _
              rw [HI.out, hq, List.drop_drop]
              simp
            clear HI hq Q1 Q2 Q3 Q4 QB QG HL HC TC
            have bA := below_one wr (.cells #[.int .i64 (t : Int), .slice none 0 0] 65)
            have hg2 := heap_alloc_new wr (.cells #[.int .i64 (t : Int), .slice none 0 0] 65)
            have hz2 : wr.heap.size < (wr.alloc (.cells #[.int .i64 (t : Int), .slice none 0 0] 65)).heap.size := by simp
            obtain ⟨k2, hk2⟩ : ∃ k2, k + 2 = k2 := ⟨_, rfl⟩
            obtain ⟨ks, hks⟩ : ∃ ks, k + s = ks := ⟨_, rfl⟩
            rw [hk2, Option.map_some, Go.WideShapes.add_plain] at hyr
            obtain ⟨P, hP⟩ : ∃ P, (if cap = k2 then some (⟨b, off, none⟩ : Addr) else some ⟨b, off + k2, none⟩) = P := ⟨_, rfl⟩
            obtain ⟨cP, hcP⟩ : ∃ cP, cap - k2 = cP := ⟨_, rfl⟩
            obtain ⟨mP, hmP⟩ : ∃ mP, ks - k2 = mP := ⟨_, rfl⟩
            rw [hP, hcP] at hyr
            rw [show s - 2 = mP by omega] at hyl
            have hw2 : IntKind.i64.wrap ((k : Int) + 2) = (k2 : Int) := by rw [IntKind.wrap_i64]; omega
            have hw3 : IntKind.i64.wrap ((k : Int) + (s : Int)) = (ks : Int) := by rw [IntKind.wrap_i64]; omega
            have HYR := Lib.hid hyr
            have HYL := Lib.hid hyl
            clear hyr hyl
            go_wp2_with fail
            generalize wr.alloc (.cells #[.int .i64 (t : Int), .slice none 0 0] 65) = W2 at *
            refine held_start (S := fun _ => True) 12 (by kernel_rfl) rfl ?_
            have hT : True := trivial
            have bd : Below wr.heap.size wr W2.drew := bA.drew
            have hg3 : W2.drew.heap[wr.heap.size]? = some (.cells #[.int .i64 (t : Int), .slice none 0 0] 65 (0, 0)) := hg2
            have hz3 : wr.heap.size < W2.drew.heap.size := hz2
            generalize W2.drew = W3 at *
            have j1 : k2 ≤ ks := by omega
            have j2 : ks ≤ cap := by omega
            have j3 : (k2 : Int) ≤ (ks : Int) := by omega
            have j4 : (ks : Int) ≤ (cap : Int) := by omega
            refine held_take 0 (v := ?_) rfl (by kernel_rfl) (by kernel_rfl) (by kernel_rfl) (fun _ _ _ h => h) (by assumption) (by rfl) ?_ ?_
            rotate_left
            · (intro W hW; go_simp; try with_reducible rfl)
            simp only [Act.put, List.setIfInBounds_toArray, List.set_cons_zero, List.set_cons_succ]
            refine held_take 2 (v := ?_) rfl (by kernel_rfl) (by kernel_rfl) (by kernel_rfl) (fun _ _ _ h => h) (by assumption) (by rfl) ?_ ?_
            rotate_left
            · (intro W hW; go_simp; try with_reducible rfl)
            simp only [Act.put, List.setIfInBounds_toArray, List.set_cons_zero, List.set_cons_succ]
            refine held_take 3 (v := ?_) rfl (by kernel_rfl) (by kernel_rfl) (by kernel_rfl) (fun _ _ _ h => h) (by assumption) (by rfl) ?_ ?_
            rotate_left
            · (intro W hW; go_simp; try with_reducible rfl)
            simp only [Act.put, List.setIfInBounds_toArray, List.set_cons_zero, List.set_cons_succ]
            refine held_take 4 (v := ?_) rfl (by kernel_rfl) (by kernel_rfl) (by kernel_rfl) (fun _ _ _ h => h) (by assumption) (by rfl) ?_ ?_
            rotate_left
            · (intro W hW; go_simp; try with_reducible rfl)
            simp only [Act.put, List.setIfInBounds_toArray, List.set_cons_zero, List.set_cons_succ]
            refine held_take 5 (v := ?_) rfl (by kernel_rfl) (by kernel_rfl) (by kernel_rfl) (fun _ _ _ h => h) (by assumption) (by rfl) ?_ ?_
            rotate_left
            · (intro W hW; go_simp; try with_reducible rfl)
            simp only [Act.put, List.setIfInBounds_toArray, List.set_cons_zero, List.set_cons_succ]
            refine held_take 6 (v := ?_) rfl (by kernel_rfl) (by kernel_rfl) (by kernel_rfl) (fun _ _ _ h => h) (by assumption) (by rfl) ?_ ?_
            rotate_left
            · (intro W hW; go_simp; try with_reducible rfl)
            simp only [Act.put, List.setIfInBounds_toArray, List.set_cons_zero, List.set_cons_succ]
            refine held_take 7 (v := ?_) rfl (by kernel_rfl) (by kernel_rfl) (by kernel_rfl) (fun _ _ _ h => h) (by assumption) (by rfl) ?_ ?_
            rotate_left
            · (intro W hW; go_simp; try with_reducible rfl)
            simp only [Act.put, List.setIfInBounds_toArray, List.set_cons_zero, List.set_cons_succ]
            refine held_take 8 (v := ?_) rfl (by kernel_rfl) (by kernel_rfl) (by kernel_rfl) (fun _ _ _ h => h) (by assumption) (by rfl) ?_ ?_
            rotate_left
            · (intro W hW; go_simp; try with_reducible rfl)
            simp only [Act.put, List.setIfInBounds_toArray, List.set_cons_zero, List.set_cons_succ]
            refine held_one 1 rfl (by kernel_rfl) (by rfl) ?_
            have t0 : W3.cell? ⟨wr.heap.size, 1, none⟩ = some (.slice none 0 0) := cell_of_row _ _ _ _ _ _ hg3
            refine wp_value (v := .slice none 0 0) (w' := W3) (by go_simp) ⟨trivial, ?_⟩
            simp only [Act.put, List.setIfInBounds_toArray, List.set_cons_zero, List.set_cons_succ]
            refine held_one 9 rfl (by kernel_rfl) (by rfl) ?_
            have hrow3 := HYR.out.next bd
            refine wp_append_row (.tmp 44) (.tmp 51) rfl W3.heap.size (.slice none 0 0) 0 [] rfl (World.ownsRow_nil _ _ _ _) P mP cP ys (by rw [← hP, ← hcP, ← hmP]; rfl) HYL.out hrow3 (by omega) (Nat.le_refl _) ?_
            intro v4 W4 o4 g4
            have b4 : Below W3.heap.size W3 W4 := Below.grown (Below.refl _ _) g4 (Nat.le_refl _) (fun k hk => by simp [Value.ownBlock] at hk)
            have hT4 := block_next hg3 b4
            refine ⟨trivial, ?_⟩
            simp only [Act.put, List.setIfInBounds_toArray, List.set_cons_zero, List.set_cons_succ]
            refine held_take 10 (v := ?_) rfl (by kernel_rfl) (by kernel_rfl) (by kernel_rfl) (fun _ _ _ h => h) (by assumption) (by rfl) ?_ ?_
            rotate_left
            · (intro W hW; go_simp; try with_reducible rfl)
            simp only [Act.put, List.setIfInBounds_toArray, List.set_cons_zero, List.set_cons_succ]
            rw [Nat.zero_add, List.nil_append] at o4
            have o5 := ownsRow_set (i := 1) (u := v4) o4 hz3
            obtain ⟨p5, c5, rfl⟩ := own_slice o4
            have d4 : W4.cell? ⟨wr.heap.size, 1, none⟩ = some (.slice none 0 0) := cell_of_row _ _ _ _ _ _ hT4
            have f4 := frozen_of_row _ _ 1 _ _ hT4
            have hT5 : (W4.setCell ⟨wr.heap.size, 1, none⟩ (.slice p5 mP c5)).heap[wr.heap.size]? = some (.cells (ocells ⟨(t : Int), ys⟩ (.slice p5 ys.length c5)).toArray 65 (0, 0)) := by
              rw [HYL.out]; exact heap_setCell_same W4 wr.heap.size 1 _ _ (.slice p5 mP c5) hT4
            have b35 : Below wr.heap.size wr (W4.setCell ⟨wr.heap.size, 1, none⟩ (.slice p5 mP c5)) := (Below.chain bd b4).setCell (p := ⟨wr.heap.size, 1, none⟩) (Nat.le_refl _) (.slice p5 mP c5)
            have h3s := bd.size
            refine held_alone 11 (w' := W4.setCell ⟨wr.heap.size, 1, none⟩ (.slice p5 mP c5)) rfl (by kernel_rfl) (by rfl) (by go_simp) trivial ?_
            refine held_done (by kernel_rfl) ?_
            have O5 := Lib.hid (ownsRow_lower (base' := W.heap.size) o5 (by omega))
            have T5 := Lib.hid hT5
            have N5 := Lib.hid (HREC.out.next b35)
            have B5 := Lib.hid (Below.chain HBW.out b35)
            clear hT4 b4 o4 o5 d4 f4 g4 hrow3 hg3 t0 hT5 b35 bd bA hg2 hz2 hz3 HR HB
            generalize W4.setCell ⟨wr.heap.size, 1, none⟩ (.slice p5 mP c5) = W5 at *
            rw [← HYL.out] at O5
            simp only [Act.put]
            have BA := Lib.hid (fun o => below_one W5 o)
            have hG6 : Hid ((W5.alloc (.cells #[.int .i64 (t : Int), .slice p5 ys.length c5] 65)).heap[W5.heap.size]? = some (.cells (ocells ⟨(t : Int), ys⟩ (.slice p5 ys.length c5)).toArray 65 (0, 0))) := heap_alloc_new W5 _
            go_wp2_with (first | (refine wpList_load_row rfl 65 (.tmp 7) rfl wr.heap.size rfl 65 (ocells ⟨(t : Int), ys⟩ (.slice p5 ys.length c5)).toArray (0, 0) _ T5.out Try.underlying65 rfl infoOpt ?_; simp only [ocells]) | (at_builtin; refine wpList_append_opts rfl (.tmp 54) (.tmp 56) rfl W.heap.size (.slice av pre.length cv) pre ⟨(t : Int), ys⟩ (.slice p5 ys.length c5) W5.heap.size rfl rfl (N5.out.next (BA.out _)) (O5.out.alloc _) hG6.out (by have := B5.out.size; simp; omega) (by omega) ?_; intro v6 w6 rec6 gr6 blk6))
            have b6 : Below W.heap.size W w6 := Below.grown (B5.out.alloc B5.out.size _) gr6 (by have := B5.out.size; simp; omega) blk6
            go_roundw
            case rel => exact ⟨k + s, pre ++ [⟨(t : Int), ys⟩], by simp; omega, by omega, by rw [List.length_append]; simp; omega, HI2, rec6, b6⟩
            case measure => simp [intOf]; omega
    · have hrn : xs.drop k = [] := List.drop_of_length_le (by rw [Hn.out]; omega)
      have HI2 : Z = (pre, 0, 0) := by rw [HZ.out, HI.out, hrn, Ot.rdr_nil]; simp [Ot.fin]
      subst HI2
      clear hrn HI HZ
      go_wp2_with (refine wpList_store_spot rfl (.tmp 3) (.tmp 62) rfl w.heap.size 0 0 _ rfl rfl HR.out rfl ?_)
      refine bodyPost_ret (v := .tuple #[.slice av pre.length cv, .agg (scells 0 0).toArray]) ?_ rfl ⟨_, rfl, (HREC.out.kept (grown_row _ _ _) (by omega)).lower (by omega), below_setRow HB.out (Nat.le_refl _) _⟩
      exact results_tmp_cell_row Try.results28 _ _ w.heap.size 58 _ _ _ rfl (setRow_heap _ _ _ _ _ _ HR.out) Try.underlying58 rfl infoSpot
end Go.Proofs.Ytbpkhjjabnboaaa.S12
