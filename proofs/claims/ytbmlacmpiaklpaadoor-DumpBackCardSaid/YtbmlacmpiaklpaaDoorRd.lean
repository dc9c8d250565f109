/- Contract of the document's Read. -/
import Derived.Test.YtbmlacmpiaklpaaDoorRc
namespace Go.Proofs.YtbmlacmpiaklpaaDoor
open Go.RowKit

set_option maxRecDepth 100000 in
set_option maxHeartbeats 4000000 in
theorem refRead_any (a : Option Addr) (n cap : Nat) (xs : List UInt8) (w : World) (hn : xs.length = n) (hm : n ≤ 300000) (h : RowAt w a cap xs) (ht : Tab w) :
    Calls Tryd.prog 14 #[.slice a n cap] w fun e w' => ReadRes w w' e (Dm.read xs) := by
  obtain ⟨A, hA⟩ : ∃ A, Dm.read xs = A := ⟨_, rfl⟩
  have hA0 : A = ([] ++ (Dm.rdr (xs.drop 0) 0).1, (Dm.rdr (xs.drop 0) 0).2) := by rw [← hA, Dm.read]; rfl
  rw [hA]
  have H := Lib.hid h
  have HT := Lib.hid ht
  have HA := Lib.hid hA0
  have Hn := Lib.hid hn
  clear h ht hA hA0 hn
  have hR0 : (w.alloc (.cells #[.int .i64 0, .int .i64 0] 32)).heap[w.heap.size]? = _ := heap_alloc_new w _
  have hB0 : Below w.heap.size w (w.alloc (.cells #[.int .i64 0, .int .i64 0] 32)) := below_one w _
  have hs0 : (w.alloc (.cells #[.int .i64 0, .int .i64 0] 32)).heap.size = w.heap.size + 1 := by simp
  go_enter Tryd.func14, Tryd.ntmps14
  go_wp2
  generalize w.alloc (.cells #[.int .i64 0, .int .i64 0] 32) = W at *
  have R0 := Lib.hid hR0
  have B0 := Lib.hid hB0
  clear hR0 hB0
  go_loopw [4, 5] (fun v i wr => ∃ (k : Nat) (pre : List Dm.Nt), i = .int .i64 (k : Int) ∧ k ≤ n ∧ pre.length ≤ k ∧ Hid (A = (pre ++ (Dm.rdr (xs.drop k) k).1, (Dm.rdr (xs.drop k) k).2)) ∧ Nts wr W.heap.size v pre ∧ Below W.heap.size W wr) (fun _ i _ => n - (intOf i).toNat)
  case atStart => exact ⟨0, [], rfl, Nat.zero_le _, Nat.le_refl _, HA, nts_none _ _, Below.refl _ _⟩
  case round =>
    obtain ⟨k, pre, rfl, hk, hpl, HI, hrec, hbw⟩ := hrel
    obtain ⟨av, cv, rfl⟩ := nts_slice hrec
    have HR := Lib.hid (block_next R0.out hbw)
    have HB := Lib.hid (Below.chain B0.out hbw)
    have HBW := Lib.hid hbw
    have HREC := Lib.hid hrec
    have hsz := hbw.size
    clear hrec hbw
    by_cases hlt : (k : Int) < (n : Int)
    · have hkn : k < n := by omega
      have hrow := (H.out.next HB.out).cut k n (by omega) (by rw [Hn.out]; exact Nat.le_refl _)
      rw [List.take_of_length_le (by rw [Hn.out]; exact Nat.le_refl _)] at hrow
      have hle := (H.out).le
      rw [Hn.out] at hle
      have hdl : (xs.drop k).length = n - k := by rw [List.length_drop, Hn.out]
      obtain ⟨P, hP⟩ : ∃ P, Option.map (fun x => x.add k) a = P := ⟨_, rfl⟩
      obtain ⟨cP, hcP⟩ : ∃ cP, cap - k = cP := ⟨_, rfl⟩
      have hrow' : RowAt wr P cP (xs.drop k) := by rw [← hP, ← hcP]; rw [if_neg (by omega)] at hrow; exact hrow
      have c15 := refNext_any P (n - k) cP (xs.drop k) wr hdl (by omega) hrow' (HT.out.next HB.out)
      have nk := Dm.next_known (xs.drop k)
      have qb := Dm.rdr_bad (xs.drop k) k (by omega) (Dm.next (xs.drop k)).1 (Dm.next (xs.drop k)).2.1 (Dm.next (xs.drop k)).2.2 rfl
      have qg := Dm.rdr_good (xs.drop k) k (by omega) (Dm.next (xs.drop k)).1 (Dm.next (xs.drop k)).2.1
      generalize Dm.next (xs.drop k) = X at *
      obtain ⟨r, sz, e⟩ := X
      simp only at qb qg
      have NK := Lib.hid nk
      have QB := Lib.hid qb
      have QG := Lib.hid qg
      have C15 := Lib.hid c15
      clear nk qb qg c15 hrow hrow'
      have j2 : ¬ n < k := by omega
      have j3 : k ≤ n := by omega
      have j4 : n - k ≤ 300000 := by omega
      go_wp2_with fail
      refine C15.out.mono ?_
      rintro e3 w3 ⟨d, rfl, o3, b3⟩
      obtain ⟨pd, cd, rfl⟩ := own_slice o3
      have hB3 := Below.chain HBW.out b3
      have hR3 := block_next HR.out b3
      have hN3 := HREC.out.next b3
      have hge := b3.size
      have O3 := Lib.hid (ownsRow_lower (base' := W.heap.size) o3 hsz)
      have HB3 := Lib.hid hB3
      have HR3 := Lib.hid hR3
      have HN3 := Lib.hid hN3
      have BA : Hid (∀ o, Below w3.heap.size w3 (w3.alloc o)) := fun o => below_one w3 o
      clear o3 b3 hB3 hR3 hN3 C15 HREC HB HBW HR
      simp only [ncells]
      by_cases he : e = 0
      · subst he
        have hq := QG.out rfl
        have hnk := (NK.out.good rfl)
        have hns := NK.out.size
        have hdd := NK.out.le
        rw [hdl] at hns hdd
        simp only at hnk hns hdd
        have hsz1 : 1 ≤ sz := hnk.1
        have hsz2 : k + sz ≤ n := by omega
        clear hnk hns
        have HI2 : Hid (A = ((pre ++ [r]) ++ (Dm.rdr (xs.drop (k + sz)) (k + sz)).1, (Dm.rdr (xs.drop (k + sz)) (k + sz)).2)) := by
          show A = _
          rw [HI.out, hq, List.drop_drop]
          simp
        clear HI hq QB QG NK
        have hg4 := heap_alloc_new w3 (.cells (ncells r (.slice pd r.data.length cd)).toArray 37)
        have hG4 : Hid ((w3.alloc (.cells #[.int .i64 r.kind, .int .u32 (r.n : Int), .slice pd r.data.length cd] 37)).heap[w3.heap.size]? = some (.cells (ncells r (.slice pd r.data.length cd)).toArray 37 (0, 0))) := hg4
        have hO4 : Hid ((w3.alloc (.cells #[.int .i64 r.kind, .int .u32 (r.n : Int), .slice pd r.data.length cd] 37)).ownsRow W.heap.size 5 1 (.slice pd r.data.length cd) r.data.length (Lib.byteCells r.data)) := O3.out.alloc _
        have hN4 : Hid (Nts (w3.alloc (.cells #[.int .i64 r.kind, .int .u32 (r.n : Int), .slice pd r.data.length cd] 37)) W.heap.size (.slice av pre.length cv) pre) := HN3.out.next (BA.out _)
        have hB4 : Hid (Below W.heap.size W (w3.alloc (.cells #[.int .i64 r.kind, .int .u32 (r.n : Int), .slice pd r.data.length cd] 37))) := Below.chain HB3.out (BA.out _)
        clear hg4 O3 HN3 HB3
        go_wp2_with (first | (generalize w3.alloc (.cells #[.int .i64 r.kind, .int .u32 (r.n : Int), .slice pd r.data.length cd] 37) = w4 at *; generalize w3.heap.size = g4 at *; refine wpList_load_row rfl 37 (.tmp 6) rfl g4 rfl 37 (ncells r (.slice pd r.data.length cd)).toArray (0, 0) _ hG4.out Tryd.underlying37 rfl info37 ?_; simp only [ncells]) | (at_builtin; refine wpList_append_nts rfl (.tmp 27) (.tmp 29) rfl W.heap.size (.slice av pre.length cv) pre r (.slice pd r.data.length cd) w4.heap.size rfl rfl (hN4.out.next (below_one w4 _)) (hO4.out.alloc _) (heap_alloc_new w4 _) (by have := hB4.out.size; simp; omega) (by omega) ?_; intro v6 w6 rec6 gr6 blk6))
        have b6 : Below W.heap.size W w6 := Below.grown (hB4.out.alloc hB4.out.size _) gr6 (by have := hB4.out.size; simp; omega) blk6
        go_roundw
        case rel => exact ⟨k + sz, pre ++ [r], by simp, by omega, by rw [List.length_append]; simp; omega, HI2, rec6, b6⟩
        case measure => simp [intOf]; omega
      · have hq := QB.out he
        have HI2 : A = (pre, k, e) := by rw [HI.out, hq]; simp
        subst HI2
        have i1 : ((e : Int) != 0) = true := by simp; omega
        clear hq QB QG HI NK
        have HR4 := Lib.hid (fun o => block_next HR3.out (BA.out o))
        have HB4 := Lib.hid (fun o => Below.chain HB3.out (BA.out o))
        have HN4 := Lib.hid (fun o => HN3.out.next (BA.out o))
        clear HR3 HB3 HN3 BA
        go_wp2_with (refine wpList_store_spot rfl (.tmp 3) (.tmp 26) rfl w.heap.size k e _ rfl rfl (HR4.out _) rfl ?_)
        refine bodyPost_ret (v := .tuple #[.slice av pre.length cv, .agg (scells k e).toArray]) ?_ rfl ⟨_, rfl, ((HN4.out _).kept (grown_row _ _ _) (by omega)).lower (by omega), below_setRow (Below.trans B0.out ((HB4.out _).mono (by omega))) (Nat.le_refl _) _⟩
        exact results_tmp_cell_row Tryd.results14 _ _ w.heap.size 32 _ _ _ rfl (setRow_heap _ _ _ _ _ _ (HR4.out _)) Tryd.underlying32 rfl info32
    · have hrn : xs.drop k = [] := List.drop_of_length_le (by rw [Hn.out]; omega)
      have HI2 : A = (pre, 0, 0) := by rw [HI.out, hrn, Dm.rdr_nil]; simp
      subst HI2
      clear hrn HI
      go_wp2_with (refine wpList_store_spot rfl (.tmp 3) (.tmp 35) rfl w.heap.size 0 0 _ rfl rfl HR.out rfl ?_)
      refine bodyPost_ret (v := .tuple #[.slice av pre.length cv, .agg (scells 0 0).toArray]) ?_ rfl ⟨_, rfl, (HREC.out.kept (grown_row _ _ _) (by omega)).lower (by omega), below_setRow HB.out (Nat.le_refl _) _⟩
      exact results_tmp_cell_row Tryd.results14 _ _ w.heap.size 32 _ _ _ rfl (setRow_heap _ _ _ _ _ _ HR.out) Tryd.underlying32 rfl info32
end Go.Proofs.YtbmlacmpiaklpaaDoor
