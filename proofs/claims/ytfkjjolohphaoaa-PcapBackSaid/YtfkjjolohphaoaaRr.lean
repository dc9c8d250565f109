/- Contract of the document's Read. -/
import Derived.Test.YtfkjjolohphaoaaRk
namespace Go.Proofs.Ytfkjjolohphaoaa
open Go.RowKit

set_option maxRecDepth 100000 in
set_option maxHeartbeats 4000000 in
theorem refRead_any (a : Option Addr) (n cap : Nat) (xs : List UInt8) (w : World) (hn : xs.length = n) (hm : n ≤ 300000) (h : RowAt w a cap xs) :
    Calls Try.prog 14 #[.slice a n cap] w fun e w' => ReadRes w w' e (Pc.read xs) := by
  have c15 := fun W h => refHead_any a n cap xs W hn hm h
  have hk := Pc.head_known xs
  obtain ⟨A, hA⟩ : ∃ A, Pc.read xs = A := ⟨_, rfl⟩
  rw [hA]
  have q1 := Pc.read_bad xs (Pc.head xs).2 (Pc.head xs).1 rfl
  have q2 := Pc.read_good xs (Pc.head xs).1
  rw [hA] at q1 q2
  clear hA
  have H := Lib.hid h
  clear h
  by_cases he : (Pc.head xs).2 = 0
  · have hA := q2 (by rw [← he])
    clear q1 q2
    generalize Pc.head xs = M at *
    obtain ⟨m, r⟩ := M
    simp only at he hA c15
    subst he
    have C15 := Lib.hid c15
    have HA := Lib.hid hA
    have Hn := Lib.hid hn
    clear c15 hA hk hn
    go_enter Try.func14, Try.ntmps14
    go_wp2_with fail
    have h0 := two_blocks w (.cells #[.bool false, .bool false, .int .u32 0, .int .u32 0] 24) (.cells #[.int .i64 0, .int .i64 0] 36)
    refine (C15.out _ (H.out.next h0.2.2)).mono ?_
    rintro e w1 ⟨rfl, b1⟩
    have hR := block_next h0.1 b1
    have hR2 := block_next h0.2.1 b1
    have hB := Below.chain h0.2.2 b1
    clear h0 b1 C15
    simp only [hcells]
    go_wp2_with fail
    have hT : (w1.alloc (.cells #[.bool m.big, .bool m.nano, .int .u32 (m.snap : Int), .int .u32 (m.link : Int)] 24)).heap[w1.heap.size]? = some (.cells (hcells m).toArray 24 (0, 0)) := heap_alloc_new w1 _
    have b1 : Below w1.heap.size w1 (w1.alloc (.cells #[.bool m.big, .bool m.nano, .int .u32 (m.snap : Int), .int .u32 (m.link : Int)] 24)) := (Below.refl _ _).alloc (Nat.le_refl _) _
    have hR' := block_next hR b1
    have hR2' := block_next hR2 b1
    have hB' := Below.chain hB b1
    have hTR : w.heap.size + 1 < w1.heap.size := lt_of_block hR2
    clear hR hR2 hB b1
    generalize w1.alloc (.cells #[.bool m.big, .bool m.nano, .int .u32 (m.snap : Int), .int .u32 (m.link : Int)] 24) = W at *
    generalize w1.heap.size = T at *
    have hTW := lt_of_block hT
    go_loopw [7, 8] (fun v i wr => ∃ (k : Nat) (pre : List Pc.Rcd), 24 ≤ k ∧ i = .int .i64 (k : Int) ∧ k ≤ 300000 ∧ pre.length ≤ k ∧ Hid (A = (m, pre ++ (Pc.rdr (xs.drop k) m.big k).1, (Pc.rdr (xs.drop k) m.big k).2)) ∧ Recs wr W.heap.size v pre ∧ Below W.heap.size W wr) (fun _ i _ => n - (intOf i).toNat)
    case atStart => exact ⟨24, [], Nat.le_refl _, rfl, by omega, by simp, HA.out, recs_none _ _, Below.refl _ _⟩
    case round =>
      obtain ⟨k, pre, h24, rfl, hk3, hpl, HI, hrec, hbw⟩ := hrel
      obtain ⟨av, cv, rfl⟩ := recs_slice hrec
      have HR := Lib.hid (block_next hR' hbw)
      have HR2 := Lib.hid (block_next hR2' hbw)
      have HTb := Lib.hid (block_next hT hbw)
      have HB := Lib.hid (Below.chain hB' hbw)
      have HBW := Lib.hid hbw
      have HREC := Lib.hid hrec
      have hsz := hbw.size
      clear hrec hbw hT
      by_cases hlt : (k : Int) < (n : Int)
      · have hkn : k < n := by omega
        have hrow := (HB.out |> H.out.next).cut k n (by omega) (by rw [Hn.out]; exact Nat.le_refl _)
        rw [List.take_of_length_le (by rw [Hn.out]; exact Nat.le_refl _)] at hrow
        have hle := (H.out).le
        rw [Hn.out] at hle
        have hdl : (xs.drop k).length = n - k := by rw [List.length_drop, Hn.out]
        have c18 := fun W h => refNext_any (if cap = k then a else a.map (·.add k)) (n - k) (cap - k) (xs.drop k) m.big W hdl (by omega) h
        have nk := Pc.next_known (xs.drop k) m.big
        have qb := Pc.rdr_bad (xs.drop k) m.big k (by omega) (Pc.next (xs.drop k) m.big).1 (Pc.next (xs.drop k) m.big).2.1 (Pc.next (xs.drop k) m.big).2.2 rfl
        have qg := Pc.rdr_good (xs.drop k) m.big k (by omega) (Pc.next (xs.drop k) m.big).1 (Pc.next (xs.drop k) m.big).2.1
        generalize Pc.next (xs.drop k) m.big = X at *
        obtain ⟨r, sz, e⟩ := X
        simp only at qb qg
        have NK := Lib.hid nk
        have QB := Lib.hid qb
        have QG := Lib.hid qg
        have C18 := Lib.hid c18
        have HROW := Lib.hid hrow
        clear nk qb qg c18 hrow
        have j2 : ¬ n < k := by omega
        have j3 : k ≤ n := by omega
        have j4 : n - k ≤ 300000 := by omega
        go_wp2_with fail
        have hS : wr.drew.heap[T]? = some (.cells (hcells m).toArray 24 (0, 0)) := HTb.out
        have bd : Below wr.heap.size wr wr.drew := (Below.refl _ _).drew
        refine held_start (S := fun W => W.heap[T]? = some (.cells (hcells m).toArray 24 (0, 0))) 14 (by kernel_rfl) rfl ?_
        refine held_take 0 (v := ?_) rfl (by kernel_rfl) (by kernel_rfl) (by kernel_rfl) (fun _ _ _ h => h) (by assumption) (by rfl) ?_ ?_
        rotate_left
        · (intro W hW; go_simp; try with_reducible rfl)
        simp only [Act.put, List.setIfInBounds_toArray, List.set_cons_zero, List.set_cons_succ]
        refine held_take 1 (v := ?_) rfl (by kernel_rfl) (by kernel_rfl) (by kernel_rfl) (fun _ _ _ h => h) (by assumption) (by rfl) ?_ ?_
        rotate_left
        · (intro W hW; go_simp; try with_reducible rfl)
        simp only [Act.put, List.setIfInBounds_toArray, List.set_cons_zero, List.set_cons_succ]
        refine held_take 2 (v := .slice (if cap = k then a else a.map (·.add k)) (n - k) (cap - k)) rfl (by kernel_rfl) (by kernel_rfl) (by kernel_rfl) (fun _ _ _ h => h) (by assumption) (by rfl) ?_ ?_
        · intro W hW
          clear hW
          by_cases hca : cap = k
          · have j1 : (cap : Int) = (k : Int) := by omega
            rw [if_pos hca]
            go_simp
          · have j1 : ¬ (cap : Int) = (k : Int) := by omega
            rw [if_neg hca]
            go_simp
        simp only [Act.put, List.setIfInBounds_toArray, List.set_cons_zero, List.set_cons_succ]
        refine held_take 3 (v := ?_) rfl (by kernel_rfl) (by kernel_rfl) (by kernel_rfl) (fun _ _ _ h => h) (by assumption) (by rfl) ?_ ?_
        rotate_left
        · (intro W hW; go_simp; try with_reducible rfl)
        simp only [Act.put, List.setIfInBounds_toArray, List.set_cons_zero, List.set_cons_succ]
        refine held_take 4 (v := ?_) rfl (by kernel_rfl) (by kernel_rfl) (by kernel_rfl) (fun _ _ _ h => h) (by assumption) (by rfl) ?_ ?_
        rotate_left
        · (intro W hW; (have t0 : W.cell? ⟨T, 0, none⟩ = some (.bool m.big) := cell_of_row _ _ _ _ _ _ hW); clear hW; go_simp; try with_reducible rfl)
        simp only [Act.put, List.setIfInBounds_toArray, List.set_cons_zero, List.set_cons_succ]
        refine held_two_cm 5 10 (f := 19) (args := #[.slice (if cap = k then a else a.map (·.add k)) (n - k) (cap - k), .bool m.big]) (v := .pointer (some ⟨wr.drew.heap.size, 0, none⟩)) (w1 := wr.drew.alloc (.cells #[.int .u32 0, .int .u32 0, .int .u32 0, .slice none 0 0] 46)) rfl rfl (by kernel_rfl) (by rfl) (by rfl) (by go_simp) (by go_simp) (block_next hS ((Below.refl _ _).alloc (Nat.le_refl _) _)) ?_ ?_
        · refine (C18.out _ (HROW.out.next bd)).mono ?_
          rintro e3 w3 ⟨d, rfl, o3, b3⟩
          obtain ⟨pd, cd, rfl⟩ := own_slice o3
          have b4 := Below.chain bd b3
          have hS3 : w3.heap[T]? = some (.cells (hcells m).toArray 24 (0, 0)) := block_next HTb.out b4
          refine ⟨_, rfl, hS3, ?_⟩
          simp only [Act.put, List.setIfInBounds_toArray, List.set_cons_zero, List.set_cons_succ]
          refine held_take 6 (v := ?_) rfl (by kernel_rfl) (by kernel_rfl) (by kernel_rfl) (fun _ _ _ h => h) (by assumption) (by rfl) ?_ ?_
          rotate_left
          · (intro W hW; go_simp; try with_reducible rfl)
          simp only [Act.put, List.setIfInBounds_toArray, List.set_cons_zero, List.set_cons_succ]
          refine held_take 7 (v := ?_) rfl (by kernel_rfl) (by kernel_rfl) (by kernel_rfl) (fun _ _ _ h => h) (by assumption) (by rfl) ?_ ?_
          rotate_left
          · (intro W hW; go_simp; try with_reducible rfl)
          simp only [Act.put, List.setIfInBounds_toArray, List.set_cons_zero, List.set_cons_succ]
          refine held_take 8 (v := ?_) rfl (by kernel_rfl) (by kernel_rfl) (by kernel_rfl) (fun _ _ _ h => h) (by assumption) (by rfl) ?_ ?_
          rotate_left
          · (intro W hW; go_simp; try with_reducible rfl)
          simp only [Act.put, List.setIfInBounds_toArray, List.set_cons_zero, List.set_cons_succ]
          refine held_take 9 (v := ?_) rfl (by kernel_rfl) (by kernel_rfl) (by kernel_rfl) (fun _ _ _ h => h) (by assumption) (by rfl) ?_ ?_
          rotate_left
          · (intro W hW; go_simp; try with_reducible rfl)
          simp only [Act.put, List.setIfInBounds_toArray, List.set_cons_zero, List.set_cons_succ]
          refine held_makes 10 (v := .pointer (some ⟨w3.heap.size, 0, none⟩)) (w' := w3.alloc (.cells #[.int .u32 0, .int .u32 0, .int .u32 0, .slice none 0 0] 46)) rfl (by kernel_rfl) (by rfl) (by go_simp) (block_next hS3 ((Below.refl _ _).alloc (Nat.le_refl _) _)) ?_
          simp only [Act.put, List.setIfInBounds_toArray, List.set_cons_zero, List.set_cons_succ]
          have b4' : Below wr.heap.size wr (w3.alloc (.cells #[.int .u32 0, .int .u32 0, .int .u32 0, .slice none 0 0] 46)) := b4.alloc b4.size _
          have hg0 := heap_alloc_new w3 (.cells #[.int .u32 0, .int .u32 0, .int .u32 0, .slice none 0 0] 46)
          have o4 := o3.alloc (.cells #[.int .u32 0, .int .u32 0, .int .u32 0, .slice none 0 0] 46)
          have hge := b4.size
          have hS4 := block_next hS3 ((Below.refl w3.heap.size w3).alloc (Nat.le_refl _) (.cells #[.int .u32 0, .int .u32 0, .int .u32 0, .slice none 0 0] 46))
          generalize w3.alloc (.cells #[.int .u32 0, .int .u32 0, .int .u32 0, .slice none 0 0] 46) = w4 at *
          generalize w3.heap.size = g3 at *
          generalize (if cap = k then a else a.map (·.add k)) = pt at *
          have hg4 : w4.heap[g3]? = some (.cells #[.int .u32 0, .int .u32 0, .int .u32 0, .slice none 0 0] 46 (0, 0)) := hg0
          have b5 : Below wr.heap.size wr (w4.setRow g3 (rcells r (.slice pd r.data.length cd)).toArray) := below_setRow b4' (hge) _
          have g5 := setRow_heap w4 g3 _ (rcells r (.slice pd r.data.length cd)).toArray _ _ hg4
          have o5 : (w4.setRow g3 (rcells r (.slice pd r.data.length cd)).toArray).ownsRow wr.heap.size 5 1 (.slice pd r.data.length cd) r.data.length (Lib.byteCells r.data) := by
            refine World.ownsRow.kept (ownsRow_lower o4 (Nat.le_refl _)) (grown_row w4 g3 _) ?_
            rcases o4.2 with ⟨ee, _⟩ | ⟨q, _, cur, ee, _, hq, _⟩
            · rw [ee]; exact .inl rfl
            · right
              rw [ee]
              intro e1
              simp [Value.ownBlock] at e1
              subst e1
              rw [hg4] at hq
              simp at hq
          have hS5 : (w4.setRow g3 (rcells r (.slice pd r.data.length cd)).toArray).heap[T]? = some (.cells (hcells m).toArray 24 (0, 0)) := block_next HTb.out b5
          refine held_alone 11 (w' := w4.setRow g3 (rcells r (.slice pd r.data.length cd)).toArray) rfl (by kernel_rfl) (by rfl) (run_store_rec (.tmp 9) (.tmp 33) rfl g3 r pd r.data.length cd _ rfl rfl hg4 rfl) hS5 ?_
          simp only [Act.put]
          refine held_take 12 (v := ?_) rfl (by kernel_rfl) (by kernel_rfl) (by kernel_rfl) (fun _ _ _ h => h) (by assumption) (by rfl) ?_ ?_
          rotate_left
          · (intro W hW; go_simp; try with_reducible rfl)
          simp only [Act.put, List.setIfInBounds_toArray, List.set_cons_zero, List.set_cons_succ]
          refine held_take 13 (v := ?_) rfl (by kernel_rfl) (by kernel_rfl) (by kernel_rfl) (fun _ _ _ h => h) (by assumption) (by rfl) ?_ ?_
          rotate_left
          · (intro W hW; go_simp; try with_reducible rfl)
          simp only [Act.put, List.setIfInBounds_toArray, List.set_cons_zero, List.set_cons_succ]
          refine held_done (by kernel_rfl) ?_
          have G5 := Lib.hid g5
          have O5 := Lib.hid o5
          have B5 := Lib.hid (Below.chain HB.out b5)
          have B5w := Lib.hid (Below.trans HBW.out (b5.mono hsz))
          have R5 := Lib.hid (block_next HR.out b5)
          have R25 := Lib.hid (block_next HR2.out b5)
          have T5 := Lib.hid hS5
          have REC5 := Lib.hid (HREC.out.next b5)
          have hs5 := b5.size
          clear g5 o5 b5 hS5 hg4 hS4
          generalize w4.setRow g3 (rcells r (.slice pd r.data.length cd)).toArray = W5 at *
          generalize g3 = g at *
          by_cases he : e = 0
          · subst he
            have hq := QG.out rfl
            have hnk := (NK.out.good rfl)
            have hns := NK.out.size
            rw [hdl] at hns
            simp only at hnk hns
            have hsz1 : 16 ≤ sz := by omega
            have hsz2 : k + sz ≤ n := by omega
            clear hnk hns
            have HI2 : Hid (A = (m, (pre ++ [r]) ++ (Pc.rdr (xs.drop (k + sz)) m.big (k + sz)).1, (Pc.rdr (xs.drop (k + sz)) m.big (k + sz)).2)) := by
              show A = _
              rw [HI.out, hq, List.drop_drop]
              simp
            have hok := NK.out.ok
            clear HI hq QB QG NK
            go_wp2_with (first | (refine wpList_load_row rfl 46 (.tmp 9) rfl g rfl 46 (rcells r (.slice pd r.data.length cd)).toArray (0, 0) _ G5.out Try.underlying46 rfl info46 ?_; simp only [rcells]) | (at_builtin; refine wpList_append_recs rfl (.tmp 43) (.tmp 45) rfl W.heap.size (.slice av pre.length cv) pre r (.slice pd r.data.length cd) W5.heap.size rfl rfl (REC5.out.next ((Below.refl _ _).alloc (Nat.le_refl _) _)) (ownsRow_lower (O5.out.alloc _) hsz) (heap_alloc_new W5 _) (by have := B5w.out.size; simp; omega) (by omega) ?_; intro v6 w6 rec6 gr6 blk6))
            have b6 : Below W.heap.size W w6 := Below.grown (B5w.out.alloc B5w.out.size _) gr6 (by have := B5w.out.size; simp; omega) blk6
            go_roundw
            case rel => exact ⟨_, _, _, ⟨k + sz, by omega, rfl, by omega, pre ++ [r], by rw [List.length_append]; simp; omega, HI2, rec6, b6⟩, rfl, rfl, by simp⟩
            case measure => simp [intOf]; omega
          · have hq := QB.out he
            have HI2 : A = (m, pre, k, e) := by rw [HI.out, hq]; simp
            subst HI2
            have i1 : ((e : Int) != 0) = true := by simp; omega
            clear hq QB QG HI
            have hR6 := setRow_heap W5 w.heap.size _ (hcells m).toArray _ _ R5.out
            have hR62 : (W5.setRow w.heap.size (hcells m).toArray).heap[w.heap.size + 1]? = _ := (setRow_other _ _ _ _ (by omega)).trans (R25.out)
            have HR62 := Lib.hid hR62
            have HR6 := Lib.hid hR6
            clear hR6 hR62
            go_wp2_with (first | (refine wpList_load_row rfl 24 (.tmp 5) rfl T rfl 24 (hcells m).toArray (0, 0) _ T5.out Try.underlying24 rfl info24 ?_) | (refine wpList_store_head rfl (.tmp 2) (.tmp 38) rfl w.heap.size m _ rfl rfl R5.out rfl ?_) | (refine wpList_store_spot rfl (.tmp 4) (.tmp 42) rfl (w.heap.size + 1) k e _ rfl rfl HR62.out rfl ?_))
            refine bodyPost_ret (v := .tuple #[.agg (hcells m).toArray, .slice av pre.length cv, .agg (scells k e).toArray]) ?_ rfl ⟨_, rfl, ((REC5.out.kept (grown_row _ _ _) (by omega)).kept (grown_row _ _ _) (by omega)).lower (by have := hB'.size; omega), below_setRow (below_setRow B5.out (Nat.le_refl _) _) (by omega) _⟩
            exact results_cell_tmp_cell Try.results14 _ _ w.heap.size (w.heap.size + 1) 24 36 _ _ _ _ _ _ rfl ((setRow_other _ _ _ _ (by omega)).trans HR6.out) Try.underlying24 rfl info24 rfl (setRow_heap _ _ _ _ _ _ HR62.out) Try.underlying36 rfl info36
        · have b4 : Below wr.heap.size wr (wr.drew.alloc (.cells #[.int .u32 0, .int .u32 0, .int .u32 0, .slice none 0 0] 46)) := bd.alloc bd.size _
          have hg0 := heap_alloc_new wr.drew (.cells #[.int .u32 0, .int .u32 0, .int .u32 0, .slice none 0 0] 46)
          have hs4 : (wr.drew.alloc (.cells #[.int .u32 0, .int .u32 0, .int .u32 0, .slice none 0 0] 46)).heap.size = wr.heap.size + 1 := by simp
          rw [show wr.drew.heap.size = wr.heap.size from rfl] at hg0 ⊢
          obtain ⟨g0, hge0⟩ : ∃ g0, g0 = wr.heap.size := ⟨_, rfl⟩
          rw [← hge0] at hg0 ⊢
          have hge1 := Nat.le_of_eq hge0.symm
          clear hge0
          simp only [Act.put, List.setIfInBounds_toArray, List.set_cons_zero, List.set_cons_succ]
          generalize wr.drew.alloc (.cells #[.int .u32 0, .int .u32 0, .int .u32 0, .slice none 0 0] 46) = w2 at *
          refine held_call 5 (f := 19) (args := #[.slice (if cap = k then a else a.map (·.add k)) (n - k) (cap - k), .bool m.big]) rfl (by kernel_rfl) (by rfl) (by go_simp) ?_
          refine (C18.out _ (HROW.out.next b4)).mono ?_
          rintro e3 w3 ⟨d, rfl, o3, b3⟩
          obtain ⟨pd, cd, rfl⟩ := own_slice o3
          have b4' := Below.chain b4 b3
          have hg1 := block_next hg0 b3
          have hS3 : w3.heap[T]? = some (.cells (hcells m).toArray 24 (0, 0)) := block_next HTb.out b4'
          refine ⟨_, rfl, hS3, ?_⟩
          simp only [Act.put, List.setIfInBounds_toArray, List.set_cons_zero, List.set_cons_succ]
          refine held_take 6 (v := ?_) rfl (by kernel_rfl) (by kernel_rfl) (by kernel_rfl) (fun _ _ _ h => h) (by assumption) (by rfl) ?_ ?_
          rotate_left
          · (intro W hW; go_simp; try with_reducible rfl)
          simp only [Act.put, List.setIfInBounds_toArray, List.set_cons_zero, List.set_cons_succ]
          refine held_take 7 (v := ?_) rfl (by kernel_rfl) (by kernel_rfl) (by kernel_rfl) (fun _ _ _ h => h) (by assumption) (by rfl) ?_ ?_
          rotate_left
          · (intro W hW; go_simp; try with_reducible rfl)
          simp only [Act.put, List.setIfInBounds_toArray, List.set_cons_zero, List.set_cons_succ]
          refine held_take 8 (v := ?_) rfl (by kernel_rfl) (by kernel_rfl) (by kernel_rfl) (fun _ _ _ h => h) (by assumption) (by rfl) ?_ ?_
          rotate_left
          · (intro W hW; go_simp; try with_reducible rfl)
          simp only [Act.put, List.setIfInBounds_toArray, List.set_cons_zero, List.set_cons_succ]
          refine held_take 9 (v := ?_) rfl (by kernel_rfl) (by kernel_rfl) (by kernel_rfl) (fun _ _ _ h => h) (by assumption) (by rfl) ?_ ?_
          rotate_left
          · (intro W hW; go_simp; try with_reducible rfl)
          simp only [Act.put, List.setIfInBounds_toArray, List.set_cons_zero, List.set_cons_succ]
          have hle4 : wr.heap.size ≤ w2.heap.size := by omega
          generalize (if cap = k then a else a.map (·.add k)) = pt at *
          have hg4 : w3.heap[g0]? = some (.cells #[.int .u32 0, .int .u32 0, .int .u32 0, .slice none 0 0] 46 (0, 0)) := hg1
          have b5 : Below wr.heap.size wr (w3.setRow g0 (rcells r (.slice pd r.data.length cd)).toArray) := below_setRow b4' (hge1) _
          have g5 := setRow_heap w3 g0 _ (rcells r (.slice pd r.data.length cd)).toArray _ _ hg4
          have o5 : (w3.setRow g0 (rcells r (.slice pd r.data.length cd)).toArray).ownsRow wr.heap.size 5 1 (.slice pd r.data.length cd) r.data.length (Lib.byteCells r.data) := by
            refine World.ownsRow.kept (ownsRow_lower o3 (hle4)) (grown_row w3 g0 _) ?_
            rcases o3.2 with ⟨ee, _⟩ | ⟨q, _, cur, ee, _, hq, _⟩
            · rw [ee]; exact .inl rfl
            · right
              rw [ee]
              intro e1
              simp [Value.ownBlock] at e1
              subst e1
              rw [hg4] at hq
              simp at hq
          have hS5 : (w3.setRow g0 (rcells r (.slice pd r.data.length cd)).toArray).heap[T]? = some (.cells (hcells m).toArray 24 (0, 0)) := block_next HTb.out b5
          refine held_alone 11 (w' := w3.setRow g0 (rcells r (.slice pd r.data.length cd)).toArray) rfl (by kernel_rfl) (by rfl) (run_store_rec (.tmp 9) (.tmp 33) rfl g0 r pd r.data.length cd _ rfl rfl hg4 rfl) hS5 ?_
          simp only [Act.put]
          refine held_take 12 (v := ?_) rfl (by kernel_rfl) (by kernel_rfl) (by kernel_rfl) (fun _ _ _ h => h) (by assumption) (by rfl) ?_ ?_
          rotate_left
          · (intro W hW; go_simp; try with_reducible rfl)
          simp only [Act.put, List.setIfInBounds_toArray, List.set_cons_zero, List.set_cons_succ]
          refine held_take 13 (v := ?_) rfl (by kernel_rfl) (by kernel_rfl) (by kernel_rfl) (fun _ _ _ h => h) (by assumption) (by rfl) ?_ ?_
          rotate_left
          · (intro W hW; go_simp; try with_reducible rfl)
          simp only [Act.put, List.setIfInBounds_toArray, List.set_cons_zero, List.set_cons_succ]
          refine held_done (by kernel_rfl) ?_
          have G5 := Lib.hid g5
          have O5 := Lib.hid o5
          have B5 := Lib.hid (Below.chain HB.out b5)
          have B5w := Lib.hid (Below.trans HBW.out (b5.mono hsz))
          have R5 := Lib.hid (block_next HR.out b5)
          have R25 := Lib.hid (block_next HR2.out b5)
          have T5 := Lib.hid hS5
          have REC5 := Lib.hid (HREC.out.next b5)
          have hs5 := b5.size
          clear g5 o5 b5 hS5 hg4 hS3
          generalize w3.setRow g0 (rcells r (.slice pd r.data.length cd)).toArray = W5 at *
          generalize g0 = g at *
          by_cases he : e = 0
          · subst he
            have hq := QG.out rfl
            have hnk := (NK.out.good rfl)
            have hns := NK.out.size
            rw [hdl] at hns
            simp only at hnk hns
            have hsz1 : 16 ≤ sz := by omega
            have hsz2 : k + sz ≤ n := by omega
            clear hnk hns
            have HI2 : Hid (A = (m, (pre ++ [r]) ++ (Pc.rdr (xs.drop (k + sz)) m.big (k + sz)).1, (Pc.rdr (xs.drop (k + sz)) m.big (k + sz)).2)) := by
              show A = _
              rw [HI.out, hq, List.drop_drop]
              simp
            have hok := NK.out.ok
            clear HI hq QB QG NK
            go_wp2_with (first | (refine wpList_load_row rfl 46 (.tmp 9) rfl g rfl 46 (rcells r (.slice pd r.data.length cd)).toArray (0, 0) _ G5.out Try.underlying46 rfl info46 ?_; simp only [rcells]) | (at_builtin; refine wpList_append_recs rfl (.tmp 43) (.tmp 45) rfl W.heap.size (.slice av pre.length cv) pre r (.slice pd r.data.length cd) W5.heap.size rfl rfl (REC5.out.next ((Below.refl _ _).alloc (Nat.le_refl _) _)) (ownsRow_lower (O5.out.alloc _) hsz) (heap_alloc_new W5 _) (by have := B5w.out.size; simp; omega) (by omega) ?_; intro v6 w6 rec6 gr6 blk6))
            have b6 : Below W.heap.size W w6 := Below.grown (B5w.out.alloc B5w.out.size _) gr6 (by have := B5w.out.size; simp; omega) blk6
            go_roundw
            case rel => exact ⟨_, _, _, ⟨k + sz, by omega, rfl, by omega, pre ++ [r], by rw [List.length_append]; simp; omega, HI2, rec6, b6⟩, rfl, rfl, by simp⟩
            case measure => simp [intOf]; omega
          · have hq := QB.out he
            have HI2 : A = (m, pre, k, e) := by rw [HI.out, hq]; simp
            subst HI2
            have i1 : ((e : Int) != 0) = true := by simp; omega
            clear hq QB QG HI
            have hR6 := setRow_heap W5 w.heap.size _ (hcells m).toArray _ _ R5.out
            have hR62 : (W5.setRow w.heap.size (hcells m).toArray).heap[w.heap.size + 1]? = _ := (setRow_other _ _ _ _ (by omega)).trans (R25.out)
            have HR62 := Lib.hid hR62
            have HR6 := Lib.hid hR6
            clear hR6 hR62
            go_wp2_with (first | (refine wpList_load_row rfl 24 (.tmp 5) rfl T rfl 24 (hcells m).toArray (0, 0) _ T5.out Try.underlying24 rfl info24 ?_) | (refine wpList_store_head rfl (.tmp 2) (.tmp 38) rfl w.heap.size m _ rfl rfl R5.out rfl ?_) | (refine wpList_store_spot rfl (.tmp 4) (.tmp 42) rfl (w.heap.size + 1) k e _ rfl rfl HR62.out rfl ?_))
            refine bodyPost_ret (v := .tuple #[.agg (hcells m).toArray, .slice av pre.length cv, .agg (scells k e).toArray]) ?_ rfl ⟨_, rfl, ((REC5.out.kept (grown_row _ _ _) (by omega)).kept (grown_row _ _ _) (by omega)).lower (by have := hB'.size; omega), below_setRow (below_setRow B5.out (Nat.le_refl _) _) (by omega) _⟩
            exact results_cell_tmp_cell Try.results14 _ _ w.heap.size (w.heap.size + 1) 24 36 _ _ _ _ _ _ rfl ((setRow_other _ _ _ _ (by omega)).trans HR6.out) Try.underlying24 rfl info24 rfl (setRow_heap _ _ _ _ _ _ HR62.out) Try.underlying36 rfl info36
      · have hrn : xs.drop k = [] := List.drop_of_length_le (by rw [Hn.out]; omega)
        have HI2 : A = (m, pre, 0, 0) := by rw [HI.out, hrn, Pc.rdr_nil]; simp
        subst HI2
        clear hrn HI
        have hR6 := setRow_heap wr w.heap.size _ (hcells m).toArray _ _ HR.out
        have hR62 : (wr.setRow w.heap.size (hcells m).toArray).heap[w.heap.size + 1]? = _ := (setRow_other _ _ _ _ (by omega)).trans (HR2.out)
        have HR62 := Lib.hid hR62
        have HR6 := Lib.hid hR6
        clear hR6 hR62
        go_wp2_with (first | (refine wpList_load_row rfl 24 (.tmp 5) rfl T rfl 24 (hcells m).toArray (0, 0) _ HTb.out Try.underlying24 rfl info24 ?_) | (refine wpList_store_head rfl (.tmp 2) (.tmp 50) rfl w.heap.size m _ rfl rfl HR.out rfl ?_) | (refine wpList_store_spot rfl (.tmp 4) (.tmp 52) rfl (w.heap.size + 1) 0 0 _ rfl rfl HR62.out rfl ?_))
        refine bodyPost_ret (v := .tuple #[.agg (hcells m).toArray, .slice av pre.length cv, .agg (scells 0 0).toArray]) ?_ rfl ⟨_, rfl, ((HREC.out.kept (grown_row _ _ _) (by omega)).kept (grown_row _ _ _) (by omega)).lower (by have := hB'.size; omega), below_setRow (below_setRow HB.out (Nat.le_refl _) _) (by omega) _⟩
        exact results_cell_tmp_cell Try.results14 _ _ w.heap.size (w.heap.size + 1) 24 36 _ _ _ _ _ _ rfl ((setRow_other _ _ _ _ (by omega)).trans HR6.out) Try.underlying24 rfl info24 rfl (setRow_heap _ _ _ _ _ _ HR62.out) Try.underlying36 rfl info36
  · have hA := q1 he
    subst hA
    have hr3 := hk.err
    clear q1 q2 hk
    generalize Pc.head xs = M at *
    obtain ⟨m, r⟩ := M
    simp only at he c15 hr3
    have i1 : ((r : Int) != 0) = true := by simp; omega
    have C15 := Lib.hid c15
    clear c15 hn hm
    go_enter Try.func14, Try.ntmps14
    go_wp2_with fail
    have h0 := two_blocks w (.cells #[.bool false, .bool false, .int .u32 0, .int .u32 0] 24) (.cells #[.int .i64 0, .int .i64 0] 36)
    refine (C15.out _ (H.out.next h0.2.2)).mono ?_
    rintro e w1 ⟨rfl, b1⟩
    have hR := block_next h0.1 b1
    have hR2 := block_next h0.2.1 b1
    have hB := Below.chain h0.2.2 b1
    have ba : ∀ o, Below w1.heap.size w1 (w1.alloc o) := fun o => (Below.refl _ _).alloc (Nat.le_refl _) o
    have HR := Lib.hid (fun o => block_next hR (ba o))
    have HR62 := Lib.hid (fun o => (setRow_other (w1.alloc o) w.heap.size (w.heap.size + 1) (hcells Pc.hz).toArray (by omega)).trans (block_next hR2 (ba o)))
    have HB := Lib.hid (fun o => Below.chain hB (ba o))
    clear h0 b1 C15 hR hR2 hB ba he
    simp only [hcells]
    go_wp2_with (first | (refine wpList_store_head rfl (.tmp 2) (.tmp 19) rfl w.heap.size Pc.hz _ rfl rfl (HR.out _) rfl ?_) | (refine wpList_store_spot rfl (.tmp 4) (.tmp 21) rfl (w.heap.size + 1) 0 r _ rfl rfl (HR62.out _) rfl ?_))
    refine bodyPost_ret (v := .tuple #[.agg (hcells Pc.hz).toArray, .slice none 0 0, .agg (scells 0 r).toArray]) ?_ rfl ⟨_, rfl, recs_none _ _, below_setRow (below_setRow (HB.out _) (Nat.le_refl _) _) (by omega) _⟩
    exact results_cell_tmp_cell Try.results14 _ _ w.heap.size (w.heap.size + 1) 24 36 (hcells Pc.hz).toArray (scells 0 r).toArray _ _ _ _ rfl ((setRow_other _ _ _ _ (by omega)).trans (setRow_heap _ _ _ _ _ _ (HR.out _))) Try.underlying24 rfl info24 rfl (setRow_heap _ _ _ _ _ _ (HR62.out _)) Try.underlying36 rfl info36
end Go.Proofs.Ytfkjjolohphaoaa
