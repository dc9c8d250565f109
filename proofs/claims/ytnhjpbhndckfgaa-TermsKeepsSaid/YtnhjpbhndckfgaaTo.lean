/- Contract of the document's Bad. -/
import Derived.Test.YtnhjpbhndckfgaaTl
namespace Go.Proofs.Ytnhjpbhndckfgaa
open Go.RowKit Go.Maps S2 S12

/-- What the document's Bad tells: two lists that are new; Data lie where they lay, or are new. -/
def RefBadRes (W0 w w' : World) (e : Ending) (A C : List Ot.O) : Prop :=
  ∃ u v, e = .returned (.tuple #[u, v]) ∧ Lopts True w' W0 w.heap.size u A ∧ Lopts True w' W0 w.heap.size v C ∧ Below w.heap.size w w'
theorem row_built {w : World} {B g n : Nat} (xs : List UInt8) (hn : xs.length = n) (hg : w.heap[g]? = some (.cells (Lib.byteCells xs).toArray 5 (0, 0))) (hB : B ≤ g) (hm : n ≤ maxLen) : w.ownsRow B 5 1 (.slice (some ⟨g, 0, none⟩) n n) n (Lib.byteCells xs) := by
  subst hn
  refine ⟨by rw [Lib.byteCells_length, Nat.mul_one], .inr ⟨g, xs.length, _, rfl, hB, hg, Nat.le_refl _, hm, by simp [Lib.byteCells_length], ?_⟩⟩
  rw [Nat.mul_one]
  exact List.take_of_length_le (by rw [Lib.byteCells_length]; exact Nat.le_refl _)
/-- The rows of what is told in place of what is wrong. -/
def usualRows (w : World) : World := ((((w.alloc (.cells #[.int .u8 5, .int .u8 220] 5)).alloc (.cells #[.int .u8 0, .int .u8 0, .int .u8 0, .int .u8 0] 5)).alloc (.cells #[.int .u8 192, .int .u8 35] 5)).alloc (.cells #[.int .u8 192, .int .u8 37] 5)).alloc (.cells #[.int .u8 0, .int .u8 0, .int .u8 0, .int .u8 1] 5)
def usualTable (w : World) : World := (usualRows w).alloc (.cells #[.slice none 0 0, .slice (some ⟨w.heap.size, 0, none⟩) 2 2, .slice (some ⟨w.heap.size + 1, 0, none⟩) 4 4, .slice (some ⟨w.heap.size + 2, 0, none⟩) 2 2, .slice (some ⟨w.heap.size + 3, 0, none⟩) 2 2, .slice (some ⟨w.heap.size + 4, 0, none⟩) 4 4, .slice none 0 0, .slice none 0 0, .slice none 0 0] 22)
theorem usual_below (w : World) : Below w.heap.size w (usualTable w) := by
  have h := fun (W : World) (o : Obj) (hb : Below w.heap.size w W) => Below.chain hb (below_one W o)
  exact h _ _ (h _ _ (h _ _ (h _ _ (h _ _ (below_one w _)))))
theorem usual_block (w : World) : (usualTable w).heap[w.heap.size]? = some (.cells #[.int .u8 5, .int .u8 220] 5 (0, 0)) ∧ (usualTable w).heap[w.heap.size + 1]? = some (.cells #[.int .u8 0, .int .u8 0, .int .u8 0, .int .u8 0] 5 (0, 0))
    ∧ (usualTable w).heap[w.heap.size + 2]? = some (.cells #[.int .u8 192, .int .u8 35] 5 (0, 0)) ∧ (usualTable w).heap[w.heap.size + 3]? = some (.cells #[.int .u8 192, .int .u8 37] 5 (0, 0)) ∧ (usualTable w).heap[w.heap.size + 4]? = some (.cells #[.int .u8 0, .int .u8 0, .int .u8 0, .int .u8 1] 5 (0, 0)) := by
  have old := fun {W : World} {k : Nat} {x : Obj} (o : Obj) (h : W.heap[k]? = some x) => block_next h (below_one W o)
  have sz := fun (W : World) (o : Obj) (n : Nat) (h : W.heap.size = w.heap.size + n) => (show (W.alloc o).heap.size = w.heap.size + (n + 1) by simp [h]; omega)
  have new := fun (W : World) (o : Obj) (n : Nat) (h : W.heap.size = w.heap.size + n) => (show (W.alloc o).heap[w.heap.size + n]? = some o by rw [← h]; exact heap_alloc_new W o)
  have s1 := sz w (.cells #[.int .u8 5, .int .u8 220] 5) 0 rfl
  have s2 := sz _ (.cells #[.int .u8 0, .int .u8 0, .int .u8 0, .int .u8 0] 5) _ s1
  have s3 := sz _ (.cells #[.int .u8 192, .int .u8 35] 5) _ s2
  have s4 := sz _ (.cells #[.int .u8 192, .int .u8 37] 5) _ s3
  exact ⟨old _ (old _ (old _ (old _ (old _ (new w _ 0 rfl))))), old _ (old _ (old _ (old _ (new _ _ 1 s1)))), old _ (old _ (old _ (new _ _ 2 s2))), old _ (old _ (new _ _ 3 s3)), old _ (new _ _ 4 s4)⟩
theorem usual_cell (w : World) (j : Nat) (hk : Tm.known (j : Int) = true) : ∃ p n, (usualTable w).cell? ⟨w.heap.size + 5, j, none⟩ = some (.slice p n n) ∧ (Tm.usualD (j : Int)).length = n ∧ (usualTable w).ownsRow w.heap.size 5 1 (.slice p n n) n (Lib.byteCells (Tm.usualD (j : Int))) := by
  have hT := heap_alloc_new (usualRows w) (.cells #[.slice none 0 0, .slice (some ⟨w.heap.size, 0, none⟩) 2 2, .slice (some ⟨w.heap.size + 1, 0, none⟩) 4 4, .slice (some ⟨w.heap.size + 2, 0, none⟩) 2 2, .slice (some ⟨w.heap.size + 3, 0, none⟩) 2 2, .slice (some ⟨w.heap.size + 4, 0, none⟩) 4 4, .slice none 0 0, .slice none 0 0, .slice none 0 0] 22)
  rw [show (usualRows w).heap.size = w.heap.size + 5 by simp [usualRows]] at hT
  have hc := fun i => cell_of_row _ _ i _ _ _ hT
  obtain ⟨h1, h2, h3, h4, h5⟩ := usual_block w
  rcases Tm.known_cases hk with h | h | h | h | h | h | h
  · obtain rfl : j = 1 := by omega
    exact ⟨_, _, hc 1, rfl, row_built [5, 220] rfl h1 (Nat.le_refl _) (by decide)⟩
  · obtain rfl : j = 2 := by omega
    exact ⟨_, _, hc 2, rfl, row_built [0, 0, 0, 0] rfl h2 (by omega) (by decide)⟩
  · obtain rfl : j = 3 := by omega
    exact ⟨_, _, hc 3, rfl, row_built [192, 35] rfl h3 (by omega) (by decide)⟩
  · obtain rfl : j = 4 := by omega
    exact ⟨_, _, hc 4, rfl, row_built [192, 37] rfl h4 (by omega) (by decide)⟩
  · obtain rfl : j = 5 := by omega
    exact ⟨_, _, hc 5, rfl, row_built [0, 0, 0, 1] rfl h5 (by omega) (by decide)⟩
  · obtain rfl : j = 7 := by omega
    exact ⟨_, _, hc 7, rfl, World.ownsRow_nil _ _ _ _⟩
  · obtain rfl : j = 8 := by omega
    exact ⟨_, _, hc 8, rfl, World.ownsRow_nil _ _ _ _⟩

set_option maxRecDepth 100000 in
set_option maxHeartbeats 2000000 in
theorem refBad_from (a : Option Addr) (n cap : Nat) (L : List Ot.O) (W0 w : World) (hL : L.length = n) (hn : n ≤ 1000) (hc : n ≤ cap) (h : OptsAt W0 a L) (hb0 : Below W0.heap.size W0 w) :
    Calls Try.prog 24 #[.slice a n cap] w fun e w' => RefBadRes W0 w w' e (Tm.away L) (Tm.changed L) := by
  have H := Lib.hid h
  have HN := Lib.hid (h.next hb0)
  have HB0 := Lib.hid hb0
  have HL := Lib.hid hL
  clear h hL hb0
  go_enter Try.func24, Try.ntmps24
  go_wp2
  go_loopw [4, 5, 6] (fun u v i wr => ∃ k : Nat, i = .int .i64 (k : Int) ∧ k ≤ n ∧ Hid (Lopts True wr W0 w.heap.size u (Tm.awayTo L k)) ∧ Hid (Lopts True wr W0 w.heap.size v (Tm.changedTo L k)) ∧ Hid (Asunder u v) ∧ Below w.heap.size w wr) (fun _ _ i _ => n - (intOf i).toNat)
  case atStart => exact ⟨0, rfl, Nat.zero_le _, by rw [Tm.away_nil]; exact lopts_none _ _ _ _, by rw [Tm.changed_nil]; exact lopts_none _ _ _ _, asunder_none _ _ _, Below.refl _ _⟩
  case round =>
    obtain ⟨k, rfl, hk, HA, HC, HX, hbw⟩ := hrel
    by_cases hlt : (k : Int) < (n : Int)
    · have hkc : k ≤ cap := by omega
      have hkn : k < n := by omega
      have hkL : k < L.length := by rw [HL.out]; omega
      obtain ⟨b, off, q, d, rfl, r0, hb00⟩ := H.out.at k hkL
      have r1 := r0.next hb00 HB0.out
      have hb1 := Nat.lt_of_lt_of_le hb00 HB0.out.size
      have HFF := Lib.hid (Tm.first_iff hkL)
      have HAW := Lib.hid (Tm.arm_away hkL)
      have HST := Lib.hid (Tm.arm_stay hkL)
      have HCH := Lib.hid (Tm.arm_change hkL)
      have hAl := Tm.away_le L k
      have hCl := Tm.changed_le L k
      have hxf : Tm.first L k = false → ∃ x ∈ L.take k, x.ty = L[k].ty := fun e => by
        by_cases hx : ∃ x ∈ L.take k, x.ty = L[k].ty
        · exact hx
        · rw [(Tm.first_iff hkL).2 (fun x hm e' => hx ⟨x, hm, e'⟩)] at e; cases e
      generalize L[k] = r at *
      generalize Tm.first L k = fi at *
      generalize Tm.awayTo L k = AL at *
      generalize Tm.changedTo L k = CL at *
      obtain ⟨m, hm⟩ : ∃ m, r.data.length = m := ⟨_, rfl⟩
      have RG0 := (r1.next hb1 hbw).range
      rw [hm] at RG0
      have RG := Lib.hid RG0
      have R1 := Lib.hid r1.row
      have R0 := Lib.hid r0.row
      have HMM := Lib.hid hm
      have hwr := hbw.size
      clear RG0
      by_cases hkw : Tm.known r.ty = true
      · have HKN := Lib.hid hkw
        cases hfv : fi with
        | true =>
          have hff := HFF.out.1 hfv
          have HJ := Lib.hid (fun W (hB : Below w.heap.size w W) => find_first (some ⟨b, off, none⟩) k cap (L.take k) r.ty W (by rw [List.length_take]; omega) (by omega) ((HN.out.next hB).take k) hff)
          clear hxf hff HFF HAW
          by_cases hr : Tm.right r = true
          · have HE := Lib.hid (HST.out hkw hfv hr)
            have HR := Lib.hid hr
            clear hr hkw HST HCH hfv hm r0 r1
            go_wp2_with (refine wpList_load_mid rfl 24 (.tmp 17) rfl b (off + k * 2) rfl (ocells r (.slice q m d)) _ RG.out Try.underlying24 rfl (infoOptN _ _) ?_; simp only [ocells])
            have bA := below_one wr (.cells #[.int .i64 r.ty, .slice q m d] 24)
            have BD := Lib.hid (Below.chain hbw bA.drew)
            have GD : Hid ((wr.alloc (.cells #[.int .i64 r.ty, .slice q m d] 24)).drew.heap[wr.heap.size]? = some (.cells #[.int .i64 r.ty, .slice q m d] 24 (0, 0))) := heap_alloc_new wr _
            have hS : (wr.alloc (.cells #[.int .i64 r.ty, .slice q m d] 24)).drew.cell? ⟨wr.heap.size, 0, none⟩ = some (.int .i64 r.ty) := cell_of_row _ _ _ _ _ _ GD.out
            have AD := Lib.hid (HA.out.next bA.drew)
            have CD := Lib.hid (HC.out.next bA.drew)
            have sD : wr.heap.size + 1 ≤ (wr.alloc (.cells #[.int .i64 r.ty, .slice q m d] 24)).drew.heap.size := by show _ ≤ (wr.alloc _).heap.size; simp
            have HAL := Lib.hid HA.out.lt
            have HCL := Lib.hid HC.out.lt
            refine held_start (S := fun W => W.cell? ⟨wr.heap.size, 0, none⟩ = some (.int .i64 r.ty)) 13 (by kernel_rfl) rfl ?_
            generalize (wr.alloc (.cells #[.int .i64 r.ty, .slice q m d] 24)).drew = WD at *
            clear bA HA HC hbw
            refine held_take 0 (v := ?_) rfl (by kernel_rfl) (by kernel_rfl) (by kernel_rfl) (fun _ _ _ h => h) (by assumption) (by rfl) ?_ ?_
            rotate_left
            · (intro W hW; go_simp; try with_reducible rfl)
            simp only [Act.put, List.setIfInBounds_toArray, List.set_cons_zero, List.set_cons_succ]
            refine held_take 1 (v := ?_) rfl (by kernel_rfl) (by kernel_rfl) (by kernel_rfl) (fun _ _ _ h => h) (by assumption) (by rfl) ?_ ?_
            rotate_left
            · (intro W hW; have e0 := hW; go_simp; try with_reducible rfl)
            simp only [Act.put, List.setIfInBounds_toArray, List.set_cons_zero, List.set_cons_succ]
            refine held_call 2 (f := 11) (args := #[.int .i64 r.ty]) rfl (by kernel_rfl) (by rfl) (by go_simp) ?_
            refine (refKnown_any r.ty WD).mono ?_
            rintro e w2 ⟨rfl, h2⟩; rw [h2]; clear h2
            refine ⟨_, rfl, hS, ?_⟩
            simp only [Act.put, List.setIfInBounds_toArray, List.set_cons_zero, List.set_cons_succ]
            rw [HKN.out]
            refine held_take 3 (v := ?_) rfl (by kernel_rfl) (by kernel_rfl) (by kernel_rfl) (fun _ _ _ h => h) (by assumption) (by rfl) ?_ ?_
            rotate_left
            · (intro W hW; go_simp; try with_reducible rfl)
            simp only [Act.put, List.setIfInBounds_toArray, List.set_cons_zero, List.set_cons_succ]
            refine held_take 4 (v := ?_) rfl (by kernel_rfl) (by kernel_rfl) (by kernel_rfl) (fun _ _ _ h => h) (by assumption) (by rfl) ?_ ?_
            rotate_left
            · (intro W hW; go_simp; try with_reducible rfl)
            simp only [Act.put, List.setIfInBounds_toArray, List.set_cons_zero, List.set_cons_succ]
            refine held_take 5 (v := ?_) rfl (by kernel_rfl) (by kernel_rfl) (by kernel_rfl) (fun _ _ _ h => h) (by assumption) (by rfl) ?_ ?_
            rotate_left
            · (intro W hW; go_simp; try with_reducible rfl)
            simp only [Act.put, List.setIfInBounds_toArray, List.set_cons_zero, List.set_cons_succ]
            refine held_take 6 (v := ?_) rfl (by kernel_rfl) (by kernel_rfl) (by kernel_rfl) (fun _ _ _ h => h) (by assumption) (by rfl) ?_ ?_
            rotate_left
            · (intro W hW; go_simp; try with_reducible rfl)
            simp only [Act.put, List.setIfInBounds_toArray, List.set_cons_zero, List.set_cons_succ]
            refine held_take 7 (v := ?_) rfl (by kernel_rfl) (by kernel_rfl) (by kernel_rfl) (fun _ _ _ h => h) (by assumption) (by rfl) ?_ ?_
            rotate_left
            · (intro W hW; go_simp; try with_reducible rfl)
            simp only [Act.put, List.setIfInBounds_toArray, List.set_cons_zero, List.set_cons_succ]
            refine held_take 8 (v := ?_) rfl (by kernel_rfl) (by kernel_rfl) (by kernel_rfl) (fun _ _ _ h => h) (by assumption) (by rfl) ?_ ?_
            rotate_left
            · (intro W hW; go_simp; try with_reducible rfl)
            simp only [Act.put, List.setIfInBounds_toArray, List.set_cons_zero, List.set_cons_succ]
            refine held_take 9 (v := ?_) rfl (by kernel_rfl) (by kernel_rfl) (by kernel_rfl) (fun _ _ _ h => h) (by assumption) (by rfl) ?_ ?_
            rotate_left
            · (intro W hW; have e0 := hW; go_simp; try with_reducible rfl)
            simp only [Act.put, List.setIfInBounds_toArray, List.set_cons_zero, List.set_cons_succ]
            refine held_call 10 (f := 26) (args := #[.slice (some ⟨b, off, none⟩) k cap, .int .i64 r.ty]) rfl (by kernel_rfl) (by rfl) (by go_simp) ?_
            refine (HJ.out WD BD.out).mono ?_
            rintro e w2 ⟨rfl, h2⟩; rw [h2]; clear h2
            refine ⟨_, rfl, hS, ?_⟩
            simp only [Act.put, List.setIfInBounds_toArray, List.set_cons_zero, List.set_cons_succ]
            refine held_take 11 (v := ?_) rfl (by kernel_rfl) (by kernel_rfl) (by kernel_rfl) (fun _ _ _ h => h) (by assumption) (by rfl) ?_ ?_
            rotate_left
            · (intro W hW; go_simp; try with_reducible rfl)
            simp only [Act.put, List.setIfInBounds_toArray, List.set_cons_zero, List.set_cons_succ]
            refine held_take 12 (v := ?_) rfl (by kernel_rfl) (by kernel_rfl) (by kernel_rfl) (fun _ _ _ h => h) (by assumption) (by rfl) ?_ ?_
            rotate_left
            · (intro W hW; go_simp; try with_reducible rfl)
            simp only [Act.put, List.setIfInBounds_toArray, List.set_cons_zero, List.set_cons_succ]
            refine held_done (by kernel_rfl) ?_
            have C1 := Lib.hid (refRight_any r q m d WD HMM.out (R1.out.next BD.out))
            rw [HR.out] at C1
            simp only [ocells] at C1
            clear HJ RG
            go_wp2_with (first
              | (refine wpList_load_row rfl 24 (.tmp 7) rfl wr.heap.size rfl 24 #[.int .i64 r.ty, .slice q m d] (0, 0) _ GD.out Try.underlying24 rfl infoOpt ?_)
              | (refine C1.out.mono ?_; rintro e w5 ⟨rfl, b5⟩))
            go_roundw
            case rel =>
              refine ⟨k + 1, by simp, by omega, ?_, ?_, HX, Below.chain BD.out b5⟩
              · show Lopts _ _ _ _ _ _
                rw [HE.out.1]; exact AD.out.next b5
              · show Lopts _ _ _ _ _ _
                rw [HE.out.2]; exact CD.out.next b5
            case measure => simp [intOf]; omega
          · rw [Bool.not_eq_true] at hr
            have HE := Lib.hid (HCH.out hkw hfv hr)
            have HR := Lib.hid hr
            obtain ⟨j, hj⟩ : ∃ j : Nat, r.ty = (j : Int) := Int.eq_ofNat_of_zero_le (by rcases Tm.known_cases hkw with h | h | h | h | h | h | h <;> omega)
            have hj9 : j < 9 := by rcases Tm.known_cases hkw with h | h | h | h | h | h | h <;> omega
            have HJK : Hid (Tm.known (j : Int) = true) := by rw [← hj]; exact hkw
            have HJT := Lib.hid hj
            clear hr hkw HST HCH hfv hm r0 r1 hj
            go_wp2_with (refine wpList_load_mid rfl 24 (.tmp 17) rfl b (off + k * 2) rfl (ocells r (.slice q m d)) _ RG.out Try.underlying24 rfl (infoOptN _ _) ?_; simp only [ocells])
            have bA := below_one wr (.cells #[.int .i64 r.ty, .slice q m d] 24)
            have BD := Lib.hid (Below.chain hbw bA.drew)
            have GD : Hid ((wr.alloc (.cells #[.int .i64 r.ty, .slice q m d] 24)).drew.heap[wr.heap.size]? = some (.cells #[.int .i64 r.ty, .slice q m d] 24 (0, 0))) := heap_alloc_new wr _
            have hS : (wr.alloc (.cells #[.int .i64 r.ty, .slice q m d] 24)).drew.cell? ⟨wr.heap.size, 0, none⟩ = some (.int .i64 r.ty) := cell_of_row _ _ _ _ _ _ GD.out
            have AD := Lib.hid (HA.out.next bA.drew)
            have CD := Lib.hid (HC.out.next bA.drew)
            have sD : wr.heap.size + 1 ≤ (wr.alloc (.cells #[.int .i64 r.ty, .slice q m d] 24)).drew.heap.size := by show _ ≤ (wr.alloc _).heap.size; simp
            have HAL := Lib.hid HA.out.lt
            have HCL := Lib.hid HC.out.lt
            refine held_start (S := fun W => W.cell? ⟨wr.heap.size, 0, none⟩ = some (.int .i64 r.ty)) 13 (by kernel_rfl) rfl ?_
            generalize (wr.alloc (.cells #[.int .i64 r.ty, .slice q m d] 24)).drew = WD at *
            clear bA HA HC hbw
            refine held_take 0 (v := ?_) rfl (by kernel_rfl) (by kernel_rfl) (by kernel_rfl) (fun _ _ _ h => h) (by assumption) (by rfl) ?_ ?_
            rotate_left
            · (intro W hW; go_simp; try with_reducible rfl)
            simp only [Act.put, List.setIfInBounds_toArray, List.set_cons_zero, List.set_cons_succ]
            refine held_take 1 (v := ?_) rfl (by kernel_rfl) (by kernel_rfl) (by kernel_rfl) (fun _ _ _ h => h) (by assumption) (by rfl) ?_ ?_
            rotate_left
            · (intro W hW; have e0 := hW; go_simp; try with_reducible rfl)
            simp only [Act.put, List.setIfInBounds_toArray, List.set_cons_zero, List.set_cons_succ]
            refine held_call 2 (f := 11) (args := #[.int .i64 r.ty]) rfl (by kernel_rfl) (by rfl) (by go_simp) ?_
            refine (refKnown_any r.ty WD).mono ?_
            rintro e w2 ⟨rfl, h2⟩; rw [h2]; clear h2
            refine ⟨_, rfl, hS, ?_⟩
            simp only [Act.put, List.setIfInBounds_toArray, List.set_cons_zero, List.set_cons_succ]
            rw [HKN.out]
            refine held_take 3 (v := ?_) rfl (by kernel_rfl) (by kernel_rfl) (by kernel_rfl) (fun _ _ _ h => h) (by assumption) (by rfl) ?_ ?_
            rotate_left
            · (intro W hW; go_simp; try with_reducible rfl)
            simp only [Act.put, List.setIfInBounds_toArray, List.set_cons_zero, List.set_cons_succ]
            refine held_take 4 (v := ?_) rfl (by kernel_rfl) (by kernel_rfl) (by kernel_rfl) (fun _ _ _ h => h) (by assumption) (by rfl) ?_ ?_
            rotate_left
            · (intro W hW; go_simp; try with_reducible rfl)
            simp only [Act.put, List.setIfInBounds_toArray, List.set_cons_zero, List.set_cons_succ]
            refine held_take 5 (v := ?_) rfl (by kernel_rfl) (by kernel_rfl) (by kernel_rfl) (fun _ _ _ h => h) (by assumption) (by rfl) ?_ ?_
            rotate_left
            · (intro W hW; go_simp; try with_reducible rfl)
            simp only [Act.put, List.setIfInBounds_toArray, List.set_cons_zero, List.set_cons_succ]
            refine held_take 6 (v := ?_) rfl (by kernel_rfl) (by kernel_rfl) (by kernel_rfl) (fun _ _ _ h => h) (by assumption) (by rfl) ?_ ?_
            rotate_left
            · (intro W hW; go_simp; try with_reducible rfl)
            simp only [Act.put, List.setIfInBounds_toArray, List.set_cons_zero, List.set_cons_succ]
            refine held_take 7 (v := ?_) rfl (by kernel_rfl) (by kernel_rfl) (by kernel_rfl) (fun _ _ _ h => h) (by assumption) (by rfl) ?_ ?_
            rotate_left
            · (intro W hW; go_simp; try with_reducible rfl)
            simp only [Act.put, List.setIfInBounds_toArray, List.set_cons_zero, List.set_cons_succ]
            refine held_take 8 (v := ?_) rfl (by kernel_rfl) (by kernel_rfl) (by kernel_rfl) (fun _ _ _ h => h) (by assumption) (by rfl) ?_ ?_
            rotate_left
            · (intro W hW; go_simp; try with_reducible rfl)
            simp only [Act.put, List.setIfInBounds_toArray, List.set_cons_zero, List.set_cons_succ]
            refine held_take 9 (v := ?_) rfl (by kernel_rfl) (by kernel_rfl) (by kernel_rfl) (fun _ _ _ h => h) (by assumption) (by rfl) ?_ ?_
            rotate_left
            · (intro W hW; have e0 := hW; go_simp; try with_reducible rfl)
            simp only [Act.put, List.setIfInBounds_toArray, List.set_cons_zero, List.set_cons_succ]
            refine held_call 10 (f := 26) (args := #[.slice (some ⟨b, off, none⟩) k cap, .int .i64 r.ty]) rfl (by kernel_rfl) (by rfl) (by go_simp) ?_
            refine (HJ.out WD BD.out).mono ?_
            rintro e w2 ⟨rfl, h2⟩; rw [h2]; clear h2
            refine ⟨_, rfl, hS, ?_⟩
            simp only [Act.put, List.setIfInBounds_toArray, List.set_cons_zero, List.set_cons_succ]
            refine held_take 11 (v := ?_) rfl (by kernel_rfl) (by kernel_rfl) (by kernel_rfl) (fun _ _ _ h => h) (by assumption) (by rfl) ?_ ?_
            rotate_left
            · (intro W hW; go_simp; try with_reducible rfl)
            simp only [Act.put, List.setIfInBounds_toArray, List.set_cons_zero, List.set_cons_succ]
            refine held_take 12 (v := ?_) rfl (by kernel_rfl) (by kernel_rfl) (by kernel_rfl) (fun _ _ _ h => h) (by assumption) (by rfl) ?_ ?_
            rotate_left
            · (intro W hW; go_simp; try with_reducible rfl)
            simp only [Act.put, List.setIfInBounds_toArray, List.set_cons_zero, List.set_cons_succ]
            refine held_done (by kernel_rfl) ?_
            have C1 := Lib.hid (refRight_any r q m d WD HMM.out (R1.out.next BD.out))
            rw [HR.out] at C1
            simp only [ocells] at C1
            clear HJ RG
            go_wp2_with (refine wpList_load_row rfl 24 (.tmp 7) rfl wr.heap.size rfl 24 #[.int .i64 r.ty, .slice q m d] (0, 0) _ GD.out Try.underlying24 rfl infoOpt ?_)
            refine C1.out.mono ?_
            rintro e w5 ⟨rfl, b5⟩
            obtain ⟨pu, mu, hcell, hmu, hrow⟩ := usual_cell w5 j HJK.out
            have b6 := usual_below w5
            have s5 := b5.size
            have s6 : (usualTable w5).heap.size = w5.heap.size + 6 := by simp [usualTable, usualRows]
            have G6 := Lib.hid (block_next (block_next GD.out b5) b6)
            have k6 : (usualTable w5).cell? ⟨wr.heap.size, 0, none⟩ = some (.int .i64 (j : Int)) := by rw [← HJT.out]; exact cell_of_row _ _ _ _ _ _ G6.out
            have b7 := below_one (usualTable w5) (.cells #[.int .i64 (j : Int), .slice pu mu mu] 24)
            have A7 := Lib.hid (((AD.out.next b5).next b6).next b7)
            have C7 := Lib.hid (((CD.out.next b5).next b6).next b7)
            have D7 : Hid (DataIs True ((usualTable w5).alloc (.cells #[.int .i64 (j : Int), .slice pu mu mu] 24)) W0 w.heap.size (.slice pu mu mu) (Tm.usual r).data) := by
              refine .inl ?_
              show World.ownsRow _ _ _ _ _ (Tm.usualD r.ty).length (Lib.byteCells (Tm.usualD r.ty))
              rw [HJT.out, hmu]
              exact ownsRow_next (ownsRow_lower hrow (by omega)) b7
            have G7 : Hid (((usualTable w5).alloc (.cells #[.int .i64 (j : Int), .slice pu mu mu] 24)).heap[w5.heap.size + 6]? = some (.cells (ocells (Tm.usual r) (.slice pu mu mu)).toArray 24 (0, 0))) := by
              have := heap_alloc_new (usualTable w5) (.cells #[.int .i64 (j : Int), .slice pu mu mu] 24)
              rw [s6] at this
              show _ = some (Obj.cells #[.int .i64 r.ty, .slice pu mu mu] 24 (0, 0))
              rw [HJT.out]; exact this
            have Q7 := Lib.hid (Below.chain (Below.chain (Below.chain BD.out b5) b6) b7)
            have s7 : ((usualTable w5).alloc (.cells #[.int .i64 (j : Int), .slice pu mu mu] 24)).heap.size = w5.heap.size + 7 := by simp [usualTable, usualRows]
            have hBB := Lib.hid (show w.heap.size ≤ ((usualTable w5).alloc (.cells #[.int .i64 (j : Int), .slice pu mu mu] 24)).heap.size by omega)
            simp only [usualTable, usualRows] at hcell k6
            clear b5 b6 b7 hrow hmu G6 s6 AD CD BD hS GD C1 HR
            go_wp2_with (at_builtin; refine wpList_append_lopts rfl (.tmp 48) (.tmp 53) rfl w.heap.size u5 CL (Tm.usual r) (.slice pu mu mu) (w5.heap.size + 6) rfl rfl C7.out D7.out G7.out hBB.out (by omega) ?_; intro v8 w8 L8 g8 x8)
            go_roundw
            case rel =>
              refine ⟨k + 1, by simp, by omega, ?_, ?_, ?_, Below.grown Q7.out g8 hBB.out (fun j hj => (HCL.out j hj).1)⟩
              · show Lopts _ _ _ _ _ _
                rw [HE.out.1]; exact A7.out.beside C7.out g8 HX.out.ne
              · show Lopts _ _ _ _ _ _
                rw [HE.out.2]; exact L8
              · exact HX.out.turn A7.out (Nat.le_refl _) x8
            case measure => simp [intOf]; omega
        | false =>
          obtain ⟨j, hj⟩ := find_again (L.take k) r.ty (hxf hfv)
          have HJ := Lib.hid (fun W (hB : Below w.heap.size w W) => hj (some ⟨b, off, none⟩) k cap W (by rw [List.length_take]; omega) (by omega) ((HN.out.next hB).take k))
          have HE := Lib.hid (HAW.out (.inr hfv))
          clear hj hxf hfv HFF HAW HST HCH hkw hm r0 r1
          go_wp2_with (refine wpList_load_mid rfl 24 (.tmp 17) rfl b (off + k * 2) rfl (ocells r (.slice q m d)) _ RG.out Try.underlying24 rfl (infoOptN _ _) ?_; simp only [ocells])
          have bA := below_one wr (.cells #[.int .i64 r.ty, .slice q m d] 24)
          have BD := Lib.hid (Below.chain hbw bA.drew)
          have GD : Hid ((wr.alloc (.cells #[.int .i64 r.ty, .slice q m d] 24)).drew.heap[wr.heap.size]? = some (.cells #[.int .i64 r.ty, .slice q m d] 24 (0, 0))) := heap_alloc_new wr _
          have hS : (wr.alloc (.cells #[.int .i64 r.ty, .slice q m d] 24)).drew.cell? ⟨wr.heap.size, 0, none⟩ = some (.int .i64 r.ty) := cell_of_row _ _ _ _ _ _ GD.out
          have AD := Lib.hid (HA.out.next bA.drew)
          have CD := Lib.hid (HC.out.next bA.drew)
          have sD : wr.heap.size + 1 ≤ (wr.alloc (.cells #[.int .i64 r.ty, .slice q m d] 24)).drew.heap.size := by show _ ≤ (wr.alloc _).heap.size; simp
          have HAL := Lib.hid HA.out.lt
          have HCL := Lib.hid HC.out.lt
          refine held_start (S := fun W => W.cell? ⟨wr.heap.size, 0, none⟩ = some (.int .i64 r.ty)) 13 (by kernel_rfl) rfl ?_
          generalize (wr.alloc (.cells #[.int .i64 r.ty, .slice q m d] 24)).drew = WD at *
          clear bA HA HC hbw
          refine held_take 0 (v := ?_) rfl (by kernel_rfl) (by kernel_rfl) (by kernel_rfl) (fun _ _ _ h => h) (by assumption) (by rfl) ?_ ?_
          rotate_left
          · (intro W hW; go_simp; try with_reducible rfl)
          simp only [Act.put, List.setIfInBounds_toArray, List.set_cons_zero, List.set_cons_succ]
          refine held_take 1 (v := ?_) rfl (by kernel_rfl) (by kernel_rfl) (by kernel_rfl) (fun _ _ _ h => h) (by assumption) (by rfl) ?_ ?_
          rotate_left
          · (intro W hW; have e0 := hW; go_simp; try with_reducible rfl)
          simp only [Act.put, List.setIfInBounds_toArray, List.set_cons_zero, List.set_cons_succ]
          refine held_call 2 (f := 11) (args := #[.int .i64 r.ty]) rfl (by kernel_rfl) (by rfl) (by go_simp) ?_
          refine (refKnown_any r.ty WD).mono ?_
          rintro e w2 ⟨rfl, h2⟩; rw [h2]; clear h2
          refine ⟨_, rfl, hS, ?_⟩
          simp only [Act.put, List.setIfInBounds_toArray, List.set_cons_zero, List.set_cons_succ]
          rw [HKN.out]
          refine held_take 3 (v := ?_) rfl (by kernel_rfl) (by kernel_rfl) (by kernel_rfl) (fun _ _ _ h => h) (by assumption) (by rfl) ?_ ?_
          rotate_left
          · (intro W hW; go_simp; try with_reducible rfl)
          simp only [Act.put, List.setIfInBounds_toArray, List.set_cons_zero, List.set_cons_succ]
          refine held_take 4 (v := ?_) rfl (by kernel_rfl) (by kernel_rfl) (by kernel_rfl) (fun _ _ _ h => h) (by assumption) (by rfl) ?_ ?_
          rotate_left
          · (intro W hW; go_simp; try with_reducible rfl)
          simp only [Act.put, List.setIfInBounds_toArray, List.set_cons_zero, List.set_cons_succ]
          refine held_take 5 (v := ?_) rfl (by kernel_rfl) (by kernel_rfl) (by kernel_rfl) (fun _ _ _ h => h) (by assumption) (by rfl) ?_ ?_
          rotate_left
          · (intro W hW; go_simp; try with_reducible rfl)
          simp only [Act.put, List.setIfInBounds_toArray, List.set_cons_zero, List.set_cons_succ]
          refine held_take 6 (v := ?_) rfl (by kernel_rfl) (by kernel_rfl) (by kernel_rfl) (fun _ _ _ h => h) (by assumption) (by rfl) ?_ ?_
          rotate_left
          · (intro W hW; go_simp; try with_reducible rfl)
          simp only [Act.put, List.setIfInBounds_toArray, List.set_cons_zero, List.set_cons_succ]
          refine held_take 7 (v := ?_) rfl (by kernel_rfl) (by kernel_rfl) (by kernel_rfl) (fun _ _ _ h => h) (by assumption) (by rfl) ?_ ?_
          rotate_left
          · (intro W hW; go_simp; try with_reducible rfl)
          simp only [Act.put, List.setIfInBounds_toArray, List.set_cons_zero, List.set_cons_succ]
          refine held_take 8 (v := ?_) rfl (by kernel_rfl) (by kernel_rfl) (by kernel_rfl) (fun _ _ _ h => h) (by assumption) (by rfl) ?_ ?_
          rotate_left
          · (intro W hW; go_simp; try with_reducible rfl)
          simp only [Act.put, List.setIfInBounds_toArray, List.set_cons_zero, List.set_cons_succ]
          refine held_take 9 (v := ?_) rfl (by kernel_rfl) (by kernel_rfl) (by kernel_rfl) (fun _ _ _ h => h) (by assumption) (by rfl) ?_ ?_
          rotate_left
          · (intro W hW; have e0 := hW; go_simp; try with_reducible rfl)
          simp only [Act.put, List.setIfInBounds_toArray, List.set_cons_zero, List.set_cons_succ]
          refine held_call 10 (f := 26) (args := #[.slice (some ⟨b, off, none⟩) k cap, .int .i64 r.ty]) rfl (by kernel_rfl) (by rfl) (by go_simp) ?_
          refine (HJ.out WD BD.out).mono ?_
          rintro e w2 ⟨rfl, h2⟩; rw [h2]; clear h2
          refine ⟨_, rfl, hS, ?_⟩
          simp only [Act.put, List.setIfInBounds_toArray, List.set_cons_zero, List.set_cons_succ]
          refine held_take 11 (v := ?_) rfl (by kernel_rfl) (by kernel_rfl) (by kernel_rfl) (fun _ _ _ h => h) (by assumption) (by rfl) ?_ ?_
          rotate_left
          · (intro W hW; go_simp; try with_reducible rfl)
          simp only [Act.put, List.setIfInBounds_toArray, List.set_cons_zero, List.set_cons_succ]
          refine held_take 12 (v := ?_) rfl (by kernel_rfl) (by kernel_rfl) (by kernel_rfl) (fun _ _ _ h => h) (by assumption) (by rfl) ?_ ?_
          rotate_left
          · (intro W hW; go_simp; try with_reducible rfl)
          simp only [Act.put, List.setIfInBounds_toArray, List.set_cons_zero, List.set_cons_succ]
          refine held_done (by kernel_rfl) ?_
          clear HJ RG
          have G7 := Lib.hid (heap_alloc_new WD (.cells #[.int .i64 r.ty, .slice q m d] 24))
          have b7 := below_one WD (.cells #[.int .i64 r.ty, .slice q m d] 24)
          have A7 := Lib.hid (AD.out.next b7)
          have C7 := Lib.hid (CD.out.next b7)
          have D7 : Hid (DataIs True (WD.alloc (.cells #[.int .i64 r.ty, .slice q m d] 24)) W0 w.heap.size (.slice q m d) r.data) := .inr ⟨trivial, q, d, by rw [HMM.out], R0.out⟩
          have Q7 := Lib.hid (Below.chain BD.out b7)
          have s7 : (WD.alloc (.cells #[.int .i64 r.ty, .slice q m d] 24)).heap.size = WD.heap.size + 1 := by simp
          clear b7 AD CD BD hS
          go_wp2_with (first
            | (refine wpList_load_row rfl 24 (.tmp 7) rfl wr.heap.size rfl 24 #[.int .i64 r.ty, .slice q m d] (0, 0) _ GD.out Try.underlying24 rfl infoOpt ?_)
            | (at_builtin; refine wpList_append_lopts rfl (.tmp 32) (.tmp 34) rfl w.heap.size u4 AL r (.slice q m d) WD.heap.size rfl rfl A7.out D7.out G7.out (by omega) (by omega) ?_; intro v8 w8 L8 g8 x8))
          go_roundw
          case rel =>
            have s8 := g8.size
            refine ⟨k + 1, by simp, by omega, ?_, ?_, ?_, Below.grown Q7.out g8 (by omega) (fun j hj => (HAL.out j hj).1)⟩
            · show Lopts _ _ _ _ _ _
              rw [HE.out.1]; exact L8
            · show Lopts _ _ _ _ _ _
              rw [HE.out.2]; exact C7.out.beside A7.out g8 HX.out.symm.ne
            · exact (HX.out.symm.turn C7.out (Nat.le_refl _) x8).symm
          case measure => simp [intOf]; omega
      · rw [Bool.not_eq_true] at hkw
        have HKN := Lib.hid hkw
        have HE := Lib.hid (HAW.out (.inl hkw))
        clear hxf HFF HAW HST HCH hkw hm r0 r1
        go_wp2_with (refine wpList_load_mid rfl 24 (.tmp 17) rfl b (off + k * 2) rfl (ocells r (.slice q m d)) _ RG.out Try.underlying24 rfl (infoOptN _ _) ?_; simp only [ocells])
        have bA := below_one wr (.cells #[.int .i64 r.ty, .slice q m d] 24)
        have BD := Lib.hid (Below.chain hbw bA.drew)
        have GD : Hid ((wr.alloc (.cells #[.int .i64 r.ty, .slice q m d] 24)).drew.heap[wr.heap.size]? = some (.cells #[.int .i64 r.ty, .slice q m d] 24 (0, 0))) := heap_alloc_new wr _
        have hS : (wr.alloc (.cells #[.int .i64 r.ty, .slice q m d] 24)).drew.cell? ⟨wr.heap.size, 0, none⟩ = some (.int .i64 r.ty) := cell_of_row _ _ _ _ _ _ GD.out
        have AD := Lib.hid (HA.out.next bA.drew)
        have CD := Lib.hid (HC.out.next bA.drew)
        have sD : wr.heap.size + 1 ≤ (wr.alloc (.cells #[.int .i64 r.ty, .slice q m d] 24)).drew.heap.size := by show _ ≤ (wr.alloc _).heap.size; simp
        have HAL := Lib.hid HA.out.lt
        have HCL := Lib.hid HC.out.lt
        refine held_start (S := fun W => W.cell? ⟨wr.heap.size, 0, none⟩ = some (.int .i64 r.ty)) 13 (by kernel_rfl) rfl ?_
        generalize (wr.alloc (.cells #[.int .i64 r.ty, .slice q m d] 24)).drew = WD at *
        clear bA HA HC hbw
        refine held_take 0 (v := ?_) rfl (by kernel_rfl) (by kernel_rfl) (by kernel_rfl) (fun _ _ _ h => h) (by assumption) (by rfl) ?_ ?_
        rotate_left
        · (intro W hW; go_simp; try with_reducible rfl)
        simp only [Act.put, List.setIfInBounds_toArray, List.set_cons_zero, List.set_cons_succ]
        refine held_take 1 (v := ?_) rfl (by kernel_rfl) (by kernel_rfl) (by kernel_rfl) (fun _ _ _ h => h) (by assumption) (by rfl) ?_ ?_
        rotate_left
        · (intro W hW; have e0 := hW; go_simp; try with_reducible rfl)
        simp only [Act.put, List.setIfInBounds_toArray, List.set_cons_zero, List.set_cons_succ]
        refine held_call 2 (f := 11) (args := #[.int .i64 r.ty]) rfl (by kernel_rfl) (by rfl) (by go_simp) ?_
        refine (refKnown_any r.ty WD).mono ?_
        rintro e w2 ⟨rfl, h2⟩; rw [h2]; clear h2
        refine ⟨_, rfl, hS, ?_⟩
        simp only [Act.put, List.setIfInBounds_toArray, List.set_cons_zero, List.set_cons_succ]
        rw [HKN.out]
        refine held_take 3 (v := ?_) rfl (by kernel_rfl) (by kernel_rfl) (by kernel_rfl) (fun _ _ _ h => h) (by assumption) (by rfl) ?_ ?_
        rotate_left
        · (intro W hW; go_simp; try with_reducible rfl)
        simp only [Act.put, List.setIfInBounds_toArray, List.set_cons_zero, List.set_cons_succ]
        refine held_take 4 (v := ?_) rfl (by kernel_rfl) (by kernel_rfl) (by kernel_rfl) (fun _ _ _ h => h) (by assumption) (by rfl) ?_ ?_
        rotate_left
        · (intro W hW; go_simp; try with_reducible rfl)
        simp only [Act.put, List.setIfInBounds_toArray, List.set_cons_zero, List.set_cons_succ]
        refine held_skip 5 rfl (by kernel_rfl) (by kernel_rfl) (by kernel_rfl) (fun _ _ _ h => h) (by assumption) (by rfl) ?_
        simp only [Act.put, List.setIfInBounds_toArray, List.set_cons_zero, List.set_cons_succ]
        refine held_skip 6 rfl (by kernel_rfl) (by kernel_rfl) (by kernel_rfl) (fun _ _ _ h => h) (by assumption) (by rfl) ?_
        simp only [Act.put, List.setIfInBounds_toArray, List.set_cons_zero, List.set_cons_succ]
        refine held_skip 7 rfl (by kernel_rfl) (by kernel_rfl) (by kernel_rfl) (fun _ _ _ h => h) (by assumption) (by rfl) ?_
        simp only [Act.put, List.setIfInBounds_toArray, List.set_cons_zero, List.set_cons_succ]
        refine held_skip 8 rfl (by kernel_rfl) (by kernel_rfl) (by kernel_rfl) (fun _ _ _ h => h) (by assumption) (by rfl) ?_
        simp only [Act.put, List.setIfInBounds_toArray, List.set_cons_zero, List.set_cons_succ]
        refine held_skip 9 rfl (by kernel_rfl) (by kernel_rfl) (by kernel_rfl) (fun _ _ _ h => h) (by assumption) (by rfl) ?_
        simp only [Act.put, List.setIfInBounds_toArray, List.set_cons_zero, List.set_cons_succ]
        refine held_skip 10 rfl (by kernel_rfl) (by kernel_rfl) (by kernel_rfl) (fun _ _ _ h => h) (by assumption) (by rfl) ?_
        simp only [Act.put, List.setIfInBounds_toArray, List.set_cons_zero, List.set_cons_succ]
        refine held_skip 11 rfl (by kernel_rfl) (by kernel_rfl) (by kernel_rfl) (fun _ _ _ h => h) (by assumption) (by rfl) ?_
        simp only [Act.put, List.setIfInBounds_toArray, List.set_cons_zero, List.set_cons_succ]
        refine held_take 12 (v := ?_) rfl (by kernel_rfl) (by kernel_rfl) (by kernel_rfl) (fun _ _ _ h => h) (by assumption) (by rfl) ?_ ?_
        rotate_left
        · (intro W hW; go_simp; try with_reducible rfl)
        simp only [Act.put, List.setIfInBounds_toArray, List.set_cons_zero, List.set_cons_succ]
        refine held_done (by kernel_rfl) ?_
        clear RG
        have G7 := Lib.hid (heap_alloc_new WD (.cells #[.int .i64 r.ty, .slice q m d] 24))
        have b7 := below_one WD (.cells #[.int .i64 r.ty, .slice q m d] 24)
        have A7 := Lib.hid (AD.out.next b7)
        have C7 := Lib.hid (CD.out.next b7)
        have D7 : Hid (DataIs True (WD.alloc (.cells #[.int .i64 r.ty, .slice q m d] 24)) W0 w.heap.size (.slice q m d) r.data) := .inr ⟨trivial, q, d, by rw [HMM.out], R0.out⟩
        have Q7 := Lib.hid (Below.chain BD.out b7)
        have s7 : (WD.alloc (.cells #[.int .i64 r.ty, .slice q m d] 24)).heap.size = WD.heap.size + 1 := by simp
        clear b7 AD CD BD hS
        go_wp2_with (first
          | (refine wpList_load_row rfl 24 (.tmp 7) rfl wr.heap.size rfl 24 #[.int .i64 r.ty, .slice q m d] (0, 0) _ GD.out Try.underlying24 rfl infoOpt ?_)
          | (at_builtin; refine wpList_append_lopts rfl (.tmp 32) (.tmp 34) rfl w.heap.size u4 AL r (.slice q m d) WD.heap.size rfl rfl A7.out D7.out G7.out (by omega) (by omega) ?_; intro v8 w8 L8 g8 x8))
        go_roundw
        case rel =>
          have s8 := g8.size
          refine ⟨k + 1, by simp, by omega, ?_, ?_, ?_, Below.grown Q7.out g8 (by omega) (fun j hj => (HAL.out j hj).1)⟩
          · show Lopts _ _ _ _ _ _
            rw [HE.out.1]; exact L8
          · show Lopts _ _ _ _ _ _
            rw [HE.out.2]; exact C7.out.beside A7.out g8 HX.out.symm.ne
          · exact (HX.out.symm.turn C7.out (Nat.le_refl _) x8).symm
        case measure => simp [intOf]; omega
    · have hk2 : L.length ≤ k := by rw [HL.out]; omega
      rw [Tm.away_all hk2] at HA
      rw [Tm.changed_all hk2] at HC
      have B2 := Lib.hid hbw
      clear HX hbw
      go_wp2
      go_ret2
      exact ⟨_, _, rfl, HA.out, HC.out, B2.out⟩
theorem refBad_any (a : Option Addr) (n cap : Nat) (L : List Ot.O) (w : World) (hL : L.length = n) (hn : n ≤ 1000) (hc : n ≤ cap) (h : OptsAt w a L) :
    Calls Try.prog 24 #[.slice a n cap] w fun e w' => RefBadRes w w w' e (Tm.away L) (Tm.changed L) := refBad_from a n cap L w w hL hn hc h (Below.refl _ _)
end Go.Proofs.Ytnhjpbhndckfgaa
