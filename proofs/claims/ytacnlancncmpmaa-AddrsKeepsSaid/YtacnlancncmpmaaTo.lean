/- Contract of the document's Bad. -/
import Derived.Test.YtacnlancncmpmaaTl
namespace Go.Proofs.Ytacnlancncmpmaa
open Go.RowKit Go.Maps S2 S12

/-- What the document's Bad tells: two lists that are new; Data lie where they lay, or are new. -/
def RefBadRes (W0 w w' : World) (e : Ending) (A C : List Ot.O) : Prop :=
  ∃ u v, e = .returned (.tuple #[u, v]) ∧ Lopts True w' W0 w.heap.size u A ∧ Lopts True w' W0 w.heap.size v C ∧ Below w.heap.size w w'
theorem row_built {w : World} {B g n : Nat} (xs : List UInt8) (hn : xs.length = n) (hg : w.heap[g]? = some (.cells (Lib.byteCells xs).toArray 5 (0, 0))) (hB : B ≤ g) (hm : n ≤ maxLen) : w.ownsRow B 5 1 (.slice (some ⟨g, 0, none⟩) n n) n (Lib.byteCells xs) := by
  subst hn
  refine ⟨by rw [Lib.byteCells_length, Nat.mul_one], .inr ⟨g, xs.length, _, rfl, hB, hg, Nat.le_refl _, hm, by simp [Lib.byteCells_length], ?_⟩⟩
  rw [Nat.mul_one]
  exact List.take_of_length_le (by rw [Lib.byteCells_length]; exact Nat.le_refl _)
set_option maxRecDepth 100000 in
set_option maxHeartbeats 2000000 in
theorem refBad_from (P : Int) (a : Option Addr) (n cap : Nat) (L : List Ot.O) (W0 w : World) (hL : L.length = n) (hn : n ≤ 1000) (hc : n ≤ cap) (h : OptsAt W0 a L) (hb0 : Below W0.heap.size W0 w) :
    Calls Try.prog 22 #[.int .i64 P, .slice a n cap] w fun e w' => RefBadRes W0 w w' e (Ad.away P L) (Ad.changed P L) := by
  have H := Lib.hid h
  have HN := Lib.hid (h.next hb0)
  have HB0 := Lib.hid hb0
  have HL := Lib.hid hL
  clear h hL hb0
  go_enter Try.func22, Try.ntmps22
  go_wp2
  go_loopw [6, 7, 8] (fun u v i wr => ∃ k : Nat, i = .int .i64 (k : Int) ∧ k ≤ n ∧ Hid (Lopts True wr W0 w.heap.size u (Ad.awayTo P L k)) ∧ Hid (Lopts True wr W0 w.heap.size v (Ad.changedTo P L k)) ∧ Hid (Asunder u v) ∧ Below w.heap.size w wr) (fun _ _ i _ => n - (intOf i).toNat)
  case atStart => exact ⟨0, rfl, Nat.zero_le _, by rw [Ad.away_nil]; exact lopts_none _ _ _ _, by rw [Ad.changed_nil]; exact lopts_none _ _ _ _, asunder_none _ _ _, Below.refl _ _⟩
  case round =>
    obtain ⟨k, rfl, hk, HA, HC, HX, hbw⟩ := hrel
    by_cases hlt : (k : Int) < (n : Int)
    · have hkc : k ≤ cap := by omega
      have hkn : k < n := by omega
      have hkL : k < L.length := by rw [HL.out]; omega
      obtain ⟨b, off, q, d, rfl, r0, hb00⟩ := H.out.at k hkL
      have r1 := r0.next hb00 HB0.out
      have hb1 := Nat.lt_of_lt_of_le hb00 HB0.out.size
      have HFF := Lib.hid (Ad.first_iff hkL)
      have HAW := Lib.hid (Ad.arm_away P hkL)
      have HST := Lib.hid (Ad.arm_stay P hkL)
      have HCH := Lib.hid (Ad.arm_change P hkL)
      have hAl := Ad.away_le P L k
      have hCl := Ad.changed_le P L k
      have hxf : Ad.first L k = false → ∃ x ∈ L.take k, x.ty = L[k].ty := fun e => by
        by_cases hx : ∃ x ∈ L.take k, x.ty = L[k].ty
        · exact hx
        · rw [(Ad.first_iff hkL).2 (fun x hm e' => hx ⟨x, hm, e'⟩)] at e; cases e
      generalize L[k] = r at *
      generalize Ad.first L k = fi at *
      generalize Ad.awayTo P L k = AL at *
      generalize Ad.changedTo P L k = CL at *
      obtain ⟨m, hm⟩ : ∃ m, r.data.length = m := ⟨_, rfl⟩
      have RG0 := (r1.next hb1 hbw).range
      rw [hm] at RG0
      have RG := Lib.hid RG0
      have R1 := Lib.hid r1.row
      have R0 := Lib.hid r0.row
      have HMM := Lib.hid hm
      have hwr := hbw.size
      clear RG0
      by_cases hkw : Ad.known P r.ty = true
      · have HKN := Lib.hid hkw
        cases hfv : fi with
        | true =>
          have hff := HFF.out.1 hfv
          have HJ := Lib.hid (fun W (hB : Below w.heap.size w W) => find_first (some ⟨b, off, none⟩) k cap (L.take k) r.ty W (by rw [List.length_take]; omega) (by omega) ((HN.out.next hB).take k) hff)
          clear hxf hff HFF HAW
          by_cases hr : Ad.right P r = true
          · have HE := Lib.hid (HST.out hkw hfv hr)
            have HR := Lib.hid hr
            clear hr hkw HST HCH hfv hm r0 r1
            go_wp2_with (refine wpList_load_mid rfl 24 (.tmp 19) rfl b (off + k * 2) rfl (ocells r (.slice q m d)) _ RG.out Try.underlying24 rfl (infoOptN _ _) ?_; simp only [ocells])
            have bA := below_one wr (.cells #[.int .i64 r.ty, .slice q m d] 24)
            have BD := Lib.hid (Below.chain hbw bA.drew)
            have GD : Hid ((wr.alloc (.cells #[.int .i64 r.ty, .slice q m d] 24)).drew.heap[wr.heap.size]? = some (.cells #[.int .i64 r.ty, .slice q m d] 24 (0, 0))) := heap_alloc_new wr _
            have hS : (wr.alloc (.cells #[.int .i64 r.ty, .slice q m d] 24)).drew.cell? ⟨wr.heap.size, 0, none⟩ = some (.int .i64 r.ty) := cell_of_row _ _ _ _ _ _ GD.out
            have AD := Lib.hid (HA.out.next bA.drew)
            have CD := Lib.hid (HC.out.next bA.drew)
            have sD : wr.heap.size + 1 ≤ (wr.alloc (.cells #[.int .i64 r.ty, .slice q m d] 24)).drew.heap.size := by show _ ≤ (wr.alloc _).heap.size; simp
            have HAL := Lib.hid HA.out.lt
            have HCL := Lib.hid HC.out.lt
            refine held_start (S := fun W => W.cell? ⟨wr.heap.size, 0, none⟩ = some (.int .i64 r.ty)) 14 (by kernel_rfl) rfl ?_
            generalize (wr.alloc (.cells #[.int .i64 r.ty, .slice q m d] 24)).drew = WD at *
            clear bA HA HC hbw
            refine held_take 0 (v := ?_) rfl (by kernel_rfl) (by kernel_rfl) (by kernel_rfl) (fun _ _ _ h => h) (by assumption) (by rfl) ?_ ?_
            rotate_left
            · (intro W hW; go_simp; try with_reducible rfl)
            simp only [Act.put, List.setIfInBounds_toArray, List.set_cons_zero, List.set_cons_succ]
            refine held_take 1 (v := ?_) rfl (by kernel_rfl) (by kernel_rfl) (by kernel_rfl) (fun _ _ _ h => h) (by assumption) (by rfl) ?_ ?_
            rotate_left
            · (intro W hW; go_simp; try with_reducible rfl)
            simp only [Act.put, List.setIfInBounds_toArray, List.set_cons_zero, List.set_cons_succ]
            refine held_take 2 (v := ?_) rfl (by kernel_rfl) (by kernel_rfl) (by kernel_rfl) (fun _ _ _ h => h) (by assumption) (by rfl) ?_ ?_
            rotate_left
            · (intro W hW; have e0 := hW; go_simp; try with_reducible rfl)
            simp only [Act.put, List.setIfInBounds_toArray, List.set_cons_zero, List.set_cons_succ]
            refine held_call 3 (f := 11) (args := #[.int .i64 P, .int .i64 r.ty]) rfl (by kernel_rfl) (by rfl) (by go_simp) ?_
            refine (refKnown_any P r.ty WD).mono ?_
            rintro e w2 ⟨rfl, h2⟩; rw [h2]; clear h2
            refine ⟨_, rfl, hS, ?_⟩
            simp only [Act.put, List.setIfInBounds_toArray, List.set_cons_zero, List.set_cons_succ]
            rw [HKN.out]
            refine held_take 4 (v := ?_) rfl (by kernel_rfl) (by kernel_rfl) (by kernel_rfl) (fun _ _ _ h => h) (by assumption) (by rfl) ?_ ?_
            rotate_left
            · (intro W hW; go_simp; try with_reducible rfl)
            simp only [Act.put, List.setIfInBounds_toArray, List.set_cons_zero, List.set_cons_succ]
            refine held_take 5 (v := ?_) rfl (by kernel_rfl) (by kernel_rfl) (by kernel_rfl) (fun _ _ _ h => h) (by assumption) (by rfl) ?_ ?_
            rotate_left
            · (intro W hW; go_simp; try with_reducible rfl)
            simp only [Act.put, List.setIfInBounds_toArray, List.set_cons_zero, List.set_cons_succ]
            refine held_take 6 (v := ?_) rfl (by kernel_rfl) (by kernel_rfl) (by kernel_rfl) (fun _ _ _ h => h) (by assumption) (by rfl) ?_ ?_
            rotate_left
            · (intro W hW; go_simp; try with_reducible rfl)
            simp only [Act.put, List.setIfInBounds_toArray, List.set_cons_zero, List.set_cons_succ]
            refine held_take 7 (v := ?_) rfl (by kernel_rfl) (by kernel_rfl) (by kernel_rfl) (fun _ _ _ h => h) (by assumption) (by rfl) ?_ ?_
            rotate_left
            · (intro W hW; go_simp; try with_reducible rfl)
            simp only [Act.put, List.setIfInBounds_toArray, List.set_cons_zero, List.set_cons_succ]
            refine held_take 8 (v := ?_) rfl (by kernel_rfl) (by kernel_rfl) (by kernel_rfl) (fun _ _ _ h => h) (by assumption) (by rfl) ?_ ?_
            rotate_left
            · (intro W hW; go_simp; try with_reducible rfl)
            simp only [Act.put, List.setIfInBounds_toArray, List.set_cons_zero, List.set_cons_succ]
            refine held_take 9 (v := ?_) rfl (by kernel_rfl) (by kernel_rfl) (by kernel_rfl) (fun _ _ _ h => h) (by assumption) (by rfl) ?_ ?_
            rotate_left
            · (intro W hW; go_simp; try with_reducible rfl)
            simp only [Act.put, List.setIfInBounds_toArray, List.set_cons_zero, List.set_cons_succ]
            refine held_take 10 (v := ?_) rfl (by kernel_rfl) (by kernel_rfl) (by kernel_rfl) (fun _ _ _ h => h) (by assumption) (by rfl) ?_ ?_
            rotate_left
            · (intro W hW; have e0 := hW; go_simp; try with_reducible rfl)
            simp only [Act.put, List.setIfInBounds_toArray, List.set_cons_zero, List.set_cons_succ]
            refine held_call 11 (f := 24) (args := #[.slice (some ⟨b, off, none⟩) k cap, .int .i64 r.ty]) rfl (by kernel_rfl) (by rfl) (by go_simp) ?_
            refine (HJ.out WD BD.out).mono ?_
            rintro e w2 ⟨rfl, h2⟩; rw [h2]; clear h2
            refine ⟨_, rfl, hS, ?_⟩
            simp only [Act.put, List.setIfInBounds_toArray, List.set_cons_zero, List.set_cons_succ]
            refine held_take 12 (v := ?_) rfl (by kernel_rfl) (by kernel_rfl) (by kernel_rfl) (fun _ _ _ h => h) (by assumption) (by rfl) ?_ ?_
            rotate_left
            · (intro W hW; go_simp; try with_reducible rfl)
            simp only [Act.put, List.setIfInBounds_toArray, List.set_cons_zero, List.set_cons_succ]
            refine held_take 13 (v := ?_) rfl (by kernel_rfl) (by kernel_rfl) (by kernel_rfl) (fun _ _ _ h => h) (by assumption) (by rfl) ?_ ?_
            rotate_left
            · (intro W hW; go_simp; try with_reducible rfl)
            simp only [Act.put, List.setIfInBounds_toArray, List.set_cons_zero, List.set_cons_succ]
            refine held_done (by kernel_rfl) ?_
            have C1 := Lib.hid (refRight_any P r q m d WD HMM.out (R1.out.next BD.out))
            rw [HR.out] at C1
            simp only [ocells] at C1
            clear HJ RG
            go_wp2_with (first
              | (refine wpList_load_row rfl 24 (.tmp 9) rfl wr.heap.size rfl 24 #[.int .i64 r.ty, .slice q m d] (0, 0) _ GD.out Try.underlying24 rfl infoOpt ?_)
              | (refine C1.out.mono ?_; rintro e w5 ⟨rfl, b5⟩))
            go_roundw
            case rel =>
              refine ⟨k + 1, by simp, by omega, ?_, ?_, HX, Below.chain BD.out b5⟩
              · show Lopts _ _ _ _ _ _
                rw [HE.out.1]; exact AD.out.next b5
              · show Lopts _ _ _ _ _ _
                rw [HE.out.2]; exact CD.out.next b5
            case measure => simp [intOf]; omega
          · rw [Bool.not_eq_true] at hr
            have HE := Lib.hid (HCH.out hkw hfv hr)
            have HR := Lib.hid hr
            have HKC := Lib.hid (Ad.known_cases P hkw)
            clear hr hkw HST HCH hfv hm r0 r1
            go_wp2_with (refine wpList_load_mid rfl 24 (.tmp 19) rfl b (off + k * 2) rfl (ocells r (.slice q m d)) _ RG.out Try.underlying24 rfl (infoOptN _ _) ?_; simp only [ocells])
            have bA := below_one wr (.cells #[.int .i64 r.ty, .slice q m d] 24)
            have BD := Lib.hid (Below.chain hbw bA.drew)
            have GD : Hid ((wr.alloc (.cells #[.int .i64 r.ty, .slice q m d] 24)).drew.heap[wr.heap.size]? = some (.cells #[.int .i64 r.ty, .slice q m d] 24 (0, 0))) := heap_alloc_new wr _
            have hS : (wr.alloc (.cells #[.int .i64 r.ty, .slice q m d] 24)).drew.cell? ⟨wr.heap.size, 0, none⟩ = some (.int .i64 r.ty) := cell_of_row _ _ _ _ _ _ GD.out
            have AD := Lib.hid (HA.out.next bA.drew)
            have CD := Lib.hid (HC.out.next bA.drew)
            have sD : wr.heap.size + 1 ≤ (wr.alloc (.cells #[.int .i64 r.ty, .slice q m d] 24)).drew.heap.size := by show _ ≤ (wr.alloc _).heap.size; simp
            have HAL := Lib.hid HA.out.lt
            have HCL := Lib.hid HC.out.lt
            refine held_start (S := fun W => W.cell? ⟨wr.heap.size, 0, none⟩ = some (.int .i64 r.ty)) 14 (by kernel_rfl) rfl ?_
            generalize (wr.alloc (.cells #[.int .i64 r.ty, .slice q m d] 24)).drew = WD at *
            clear bA HA HC hbw
            refine held_take 0 (v := ?_) rfl (by kernel_rfl) (by kernel_rfl) (by kernel_rfl) (fun _ _ _ h => h) (by assumption) (by rfl) ?_ ?_
            rotate_left
            · (intro W hW; go_simp; try with_reducible rfl)
            simp only [Act.put, List.setIfInBounds_toArray, List.set_cons_zero, List.set_cons_succ]
            refine held_take 1 (v := ?_) rfl (by kernel_rfl) (by kernel_rfl) (by kernel_rfl) (fun _ _ _ h => h) (by assumption) (by rfl) ?_ ?_
            rotate_left
            · (intro W hW; go_simp; try with_reducible rfl)
            simp only [Act.put, List.setIfInBounds_toArray, List.set_cons_zero, List.set_cons_succ]
            refine held_take 2 (v := ?_) rfl (by kernel_rfl) (by kernel_rfl) (by kernel_rfl) (fun _ _ _ h => h) (by assumption) (by rfl) ?_ ?_
            rotate_left
            · (intro W hW; have e0 := hW; go_simp; try with_reducible rfl)
            simp only [Act.put, List.setIfInBounds_toArray, List.set_cons_zero, List.set_cons_succ]
            refine held_call 3 (f := 11) (args := #[.int .i64 P, .int .i64 r.ty]) rfl (by kernel_rfl) (by rfl) (by go_simp) ?_
            refine (refKnown_any P r.ty WD).mono ?_
            rintro e w2 ⟨rfl, h2⟩; rw [h2]; clear h2
            refine ⟨_, rfl, hS, ?_⟩
            simp only [Act.put, List.setIfInBounds_toArray, List.set_cons_zero, List.set_cons_succ]
            rw [HKN.out]
            refine held_take 4 (v := ?_) rfl (by kernel_rfl) (by kernel_rfl) (by kernel_rfl) (fun _ _ _ h => h) (by assumption) (by rfl) ?_ ?_
            rotate_left
            · (intro W hW; go_simp; try with_reducible rfl)
            simp only [Act.put, List.setIfInBounds_toArray, List.set_cons_zero, List.set_cons_succ]
            refine held_take 5 (v := ?_) rfl (by kernel_rfl) (by kernel_rfl) (by kernel_rfl) (fun _ _ _ h => h) (by assumption) (by rfl) ?_ ?_
            rotate_left
            · (intro W hW; go_simp; try with_reducible rfl)
            simp only [Act.put, List.setIfInBounds_toArray, List.set_cons_zero, List.set_cons_succ]
            refine held_take 6 (v := ?_) rfl (by kernel_rfl) (by kernel_rfl) (by kernel_rfl) (fun _ _ _ h => h) (by assumption) (by rfl) ?_ ?_
            rotate_left
            · (intro W hW; go_simp; try with_reducible rfl)
            simp only [Act.put, List.setIfInBounds_toArray, List.set_cons_zero, List.set_cons_succ]
            refine held_take 7 (v := ?_) rfl (by kernel_rfl) (by kernel_rfl) (by kernel_rfl) (fun _ _ _ h => h) (by assumption) (by rfl) ?_ ?_
            rotate_left
            · (intro W hW; go_simp; try with_reducible rfl)
            simp only [Act.put, List.setIfInBounds_toArray, List.set_cons_zero, List.set_cons_succ]
            refine held_take 8 (v := ?_) rfl (by kernel_rfl) (by kernel_rfl) (by kernel_rfl) (fun _ _ _ h => h) (by assumption) (by rfl) ?_ ?_
            rotate_left
            · (intro W hW; go_simp; try with_reducible rfl)
            simp only [Act.put, List.setIfInBounds_toArray, List.set_cons_zero, List.set_cons_succ]
            refine held_take 9 (v := ?_) rfl (by kernel_rfl) (by kernel_rfl) (by kernel_rfl) (fun _ _ _ h => h) (by assumption) (by rfl) ?_ ?_
            rotate_left
            · (intro W hW; go_simp; try with_reducible rfl)
            simp only [Act.put, List.setIfInBounds_toArray, List.set_cons_zero, List.set_cons_succ]
            refine held_take 10 (v := ?_) rfl (by kernel_rfl) (by kernel_rfl) (by kernel_rfl) (fun _ _ _ h => h) (by assumption) (by rfl) ?_ ?_
            rotate_left
            · (intro W hW; have e0 := hW; go_simp; try with_reducible rfl)
            simp only [Act.put, List.setIfInBounds_toArray, List.set_cons_zero, List.set_cons_succ]
            refine held_call 11 (f := 24) (args := #[.slice (some ⟨b, off, none⟩) k cap, .int .i64 r.ty]) rfl (by kernel_rfl) (by rfl) (by go_simp) ?_
            refine (HJ.out WD BD.out).mono ?_
            rintro e w2 ⟨rfl, h2⟩; rw [h2]; clear h2
            refine ⟨_, rfl, hS, ?_⟩
            simp only [Act.put, List.setIfInBounds_toArray, List.set_cons_zero, List.set_cons_succ]
            refine held_take 12 (v := ?_) rfl (by kernel_rfl) (by kernel_rfl) (by kernel_rfl) (fun _ _ _ h => h) (by assumption) (by rfl) ?_ ?_
            rotate_left
            · (intro W hW; go_simp; try with_reducible rfl)
            simp only [Act.put, List.setIfInBounds_toArray, List.set_cons_zero, List.set_cons_succ]
            refine held_take 13 (v := ?_) rfl (by kernel_rfl) (by kernel_rfl) (by kernel_rfl) (fun _ _ _ h => h) (by assumption) (by rfl) ?_ ?_
            rotate_left
            · (intro W hW; go_simp; try with_reducible rfl)
            simp only [Act.put, List.setIfInBounds_toArray, List.set_cons_zero, List.set_cons_succ]
            refine held_done (by kernel_rfl) ?_
            have C1 := Lib.hid (refRight_any P r q m d WD HMM.out (R1.out.next BD.out))
            rw [HR.out] at C1
            simp only [ocells] at C1
            clear HJ RG
            rcases HKC.out with ⟨rfl, ht⟩ | ⟨rfl, ht⟩
            · have hU : Ad.usualD r.ty = [0, 0, 0, 0, 0, 0, 0, 1] := by rw [ht]; rfl
              clear ht HKC
              go_wp2_with (refine wpList_load_row rfl 24 (.tmp 9) rfl wr.heap.size rfl 24 #[.int .i64 r.ty, .slice q m d] (0, 0) _ GD.out Try.underlying24 rfl infoOpt ?_)
              refine C1.out.mono ?_
              rintro e w5 ⟨rfl, b5⟩
              have s5 := b5.size
              have b6 := Below.chain (below_one w5 (.cells #[.int .u8 10, .int .u8 0, .int .u8 0, .int .u8 1] 5)) (below_one (w5.alloc (.cells #[.int .u8 10, .int .u8 0, .int .u8 0, .int .u8 1] 5)) (.cells #[.int .u8 0, .int .u8 0, .int .u8 0, .int .u8 0, .int .u8 0, .int .u8 0, .int .u8 0, .int .u8 1] 5))
              have h6 := heap_alloc2_new w5 (.cells #[.int .u8 10, .int .u8 0, .int .u8 0, .int .u8 1] 5) (.cells #[.int .u8 0, .int .u8 0, .int .u8 0, .int .u8 0, .int .u8 0, .int .u8 0, .int .u8 0, .int .u8 1] 5)
              have s6 : ((w5.alloc (.cells #[.int .u8 10, .int .u8 0, .int .u8 0, .int .u8 1] 5)).alloc (.cells #[.int .u8 0, .int .u8 0, .int .u8 0, .int .u8 0, .int .u8 0, .int .u8 0, .int .u8 0, .int .u8 1] 5)).heap.size = w5.heap.size + 2 := by simp
              have G6 := Lib.hid (block_next (block_next GD.out b5) b6)
              have k6 : ((w5.alloc (.cells #[.int .u8 10, .int .u8 0, .int .u8 0, .int .u8 1] 5)).alloc (.cells #[.int .u8 0, .int .u8 0, .int .u8 0, .int .u8 0, .int .u8 0, .int .u8 0, .int .u8 0, .int .u8 1] 5)).cell? ⟨wr.heap.size, 0, none⟩ = some (.int .i64 r.ty) := cell_of_row _ _ _ _ _ _ G6.out
              have b7 := below_one ((w5.alloc (.cells #[.int .u8 10, .int .u8 0, .int .u8 0, .int .u8 1] 5)).alloc (.cells #[.int .u8 0, .int .u8 0, .int .u8 0, .int .u8 0, .int .u8 0, .int .u8 0, .int .u8 0, .int .u8 1] 5)) (.cells #[.int .i64 r.ty, .slice (some ⟨w5.heap.size + 1, 0, none⟩) 8 8] 24)
              have A7 := Lib.hid (((AD.out.next b5).next b6).next b7)
              have C7 := Lib.hid (((CD.out.next b5).next b6).next b7)
              have D7 : Hid (DataIs True (((w5.alloc (.cells #[.int .u8 10, .int .u8 0, .int .u8 0, .int .u8 1] 5)).alloc (.cells #[.int .u8 0, .int .u8 0, .int .u8 0, .int .u8 0, .int .u8 0, .int .u8 0, .int .u8 0, .int .u8 1] 5)).alloc (.cells #[.int .i64 r.ty, .slice (some ⟨w5.heap.size + 1, 0, none⟩) 8 8] 24)) W0 w.heap.size (.slice (some ⟨w5.heap.size + 1, 0, none⟩) 8 8) (Ad.usual r).data) := by
                refine .inl ?_
                show World.ownsRow _ _ _ _ _ (Ad.usualD r.ty).length (Lib.byteCells (Ad.usualD r.ty))
                rw [hU]
                exact ownsRow_next (row_built _ rfl h6 (by omega) (by decide)) b7
              have G7 : Hid ((((w5.alloc (.cells #[.int .u8 10, .int .u8 0, .int .u8 0, .int .u8 1] 5)).alloc (.cells #[.int .u8 0, .int .u8 0, .int .u8 0, .int .u8 0, .int .u8 0, .int .u8 0, .int .u8 0, .int .u8 1] 5)).alloc (.cells #[.int .i64 r.ty, .slice (some ⟨w5.heap.size + 1, 0, none⟩) 8 8] 24)).heap[w5.heap.size + 2]? = some (.cells (ocells (Ad.usual r) (.slice (some ⟨w5.heap.size + 1, 0, none⟩) 8 8)).toArray 24 (0, 0))) := by
                have := heap_alloc_new ((w5.alloc (.cells #[.int .u8 10, .int .u8 0, .int .u8 0, .int .u8 1] 5)).alloc (.cells #[.int .u8 0, .int .u8 0, .int .u8 0, .int .u8 0, .int .u8 0, .int .u8 0, .int .u8 0, .int .u8 1] 5)) (.cells #[.int .i64 r.ty, .slice (some ⟨w5.heap.size + 1, 0, none⟩) 8 8] 24)
                rw [s6] at this
                exact this
              have Q7 := Lib.hid (Below.chain (Below.chain (Below.chain BD.out b5) b6) b7)
              have hBB := Lib.hid (show w.heap.size ≤ (((w5.alloc (.cells #[.int .u8 10, .int .u8 0, .int .u8 0, .int .u8 1] 5)).alloc (.cells #[.int .u8 0, .int .u8 0, .int .u8 0, .int .u8 0, .int .u8 0, .int .u8 0, .int .u8 0, .int .u8 1] 5)).alloc (.cells #[.int .i64 r.ty, .slice (some ⟨w5.heap.size + 1, 0, none⟩) 8 8] 24)).heap.size by have := b7.size; omega)
              clear b5 b6 b7 G6 s6 AD CD BD hS GD C1 HR hU h6
              go_wp2_with (at_builtin; refine wpList_append_lopts rfl (.tmp 51) (.tmp 56) rfl w.heap.size u7 CL (Ad.usual r) (.slice (some ⟨w5.heap.size + 1, 0, none⟩) 8 8) (w5.heap.size + 2) rfl rfl C7.out D7.out G7.out hBB.out (by omega) ?_; intro v8 w8 L8 g8 x8)
              go_roundw
              case rel =>
                refine ⟨k + 1, by simp, by omega, ?_, ?_, ?_, Below.grown Q7.out g8 hBB.out (fun j hj => (HCL.out j hj).1)⟩
                · show Lopts _ _ _ _ _ _
                  rw [HE.out.1]; exact A7.out.beside C7.out g8 HX.out.ne
                · show Lopts _ _ _ _ _ _
                  rw [HE.out.2]; exact L8
                · exact HX.out.turn A7.out (Nat.le_refl _) x8
              case measure => simp [intOf]; omega
            · by_cases ht2 : r.ty = 2
              · have hU : Ad.usualD r.ty = [0, 45, 15, 0] := by rw [ht2]; rfl
                have e2 : (r.ty == 2) = true := by simpa using ht2
                clear ht ht2 HKC
                go_wp2_with (refine wpList_load_row rfl 24 (.tmp 9) rfl wr.heap.size rfl 24 #[.int .i64 r.ty, .slice q m d] (0, 0) _ GD.out Try.underlying24 rfl infoOpt ?_)
                refine C1.out.mono ?_
                rintro e w5 ⟨rfl, b5⟩
                have s5 := b5.size
                have b6 := Below.chain (below_one w5 (.cells #[.int .u8 10, .int .u8 0, .int .u8 0, .int .u8 1] 5)) (below_one (w5.alloc (.cells #[.int .u8 10, .int .u8 0, .int .u8 0, .int .u8 1] 5)) (.cells #[.int .u8 0, .int .u8 45, .int .u8 15, .int .u8 0] 5))
                have h6 := heap_alloc2_new w5 (.cells #[.int .u8 10, .int .u8 0, .int .u8 0, .int .u8 1] 5) (.cells #[.int .u8 0, .int .u8 45, .int .u8 15, .int .u8 0] 5)
                have s6 : ((w5.alloc (.cells #[.int .u8 10, .int .u8 0, .int .u8 0, .int .u8 1] 5)).alloc (.cells #[.int .u8 0, .int .u8 45, .int .u8 15, .int .u8 0] 5)).heap.size = w5.heap.size + 2 := by simp
                have k5 : (w5.alloc (.cells #[.int .u8 10, .int .u8 0, .int .u8 0, .int .u8 1] 5)).cell? ⟨wr.heap.size, 0, none⟩ = some (.int .i64 r.ty) := cell_of_row _ _ _ _ _ _ (block_next (block_next GD.out b5) (below_one w5 (.cells #[.int .u8 10, .int .u8 0, .int .u8 0, .int .u8 1] 5)))
                have G6 := Lib.hid (block_next (block_next GD.out b5) b6)
                have k6 : ((w5.alloc (.cells #[.int .u8 10, .int .u8 0, .int .u8 0, .int .u8 1] 5)).alloc (.cells #[.int .u8 0, .int .u8 45, .int .u8 15, .int .u8 0] 5)).cell? ⟨wr.heap.size, 0, none⟩ = some (.int .i64 r.ty) := cell_of_row _ _ _ _ _ _ G6.out
                have b7 := below_one ((w5.alloc (.cells #[.int .u8 10, .int .u8 0, .int .u8 0, .int .u8 1] 5)).alloc (.cells #[.int .u8 0, .int .u8 45, .int .u8 15, .int .u8 0] 5)) (.cells #[.int .i64 r.ty, .slice (some ⟨w5.heap.size + 1, 0, none⟩) 4 4] 24)
                have A7 := Lib.hid (((AD.out.next b5).next b6).next b7)
                have C7 := Lib.hid (((CD.out.next b5).next b6).next b7)
                have D7 : Hid (DataIs True (((w5.alloc (.cells #[.int .u8 10, .int .u8 0, .int .u8 0, .int .u8 1] 5)).alloc (.cells #[.int .u8 0, .int .u8 45, .int .u8 15, .int .u8 0] 5)).alloc (.cells #[.int .i64 r.ty, .slice (some ⟨w5.heap.size + 1, 0, none⟩) 4 4] 24)) W0 w.heap.size (.slice (some ⟨w5.heap.size + 1, 0, none⟩) 4 4) (Ad.usual r).data) := by
                  refine .inl ?_
                  show World.ownsRow _ _ _ _ _ (Ad.usualD r.ty).length (Lib.byteCells (Ad.usualD r.ty))
                  rw [hU]
                  exact ownsRow_next (row_built _ rfl h6 (by omega) (by decide)) b7
                have G7 : Hid ((((w5.alloc (.cells #[.int .u8 10, .int .u8 0, .int .u8 0, .int .u8 1] 5)).alloc (.cells #[.int .u8 0, .int .u8 45, .int .u8 15, .int .u8 0] 5)).alloc (.cells #[.int .i64 r.ty, .slice (some ⟨w5.heap.size + 1, 0, none⟩) 4 4] 24)).heap[w5.heap.size + 2]? = some (.cells (ocells (Ad.usual r) (.slice (some ⟨w5.heap.size + 1, 0, none⟩) 4 4)).toArray 24 (0, 0))) := by
                  have := heap_alloc_new ((w5.alloc (.cells #[.int .u8 10, .int .u8 0, .int .u8 0, .int .u8 1] 5)).alloc (.cells #[.int .u8 0, .int .u8 45, .int .u8 15, .int .u8 0] 5)) (.cells #[.int .i64 r.ty, .slice (some ⟨w5.heap.size + 1, 0, none⟩) 4 4] 24)
                  rw [s6] at this
                  exact this
                have Q7 := Lib.hid (Below.chain (Below.chain (Below.chain BD.out b5) b6) b7)
                have hBB := Lib.hid (show w.heap.size ≤ (((w5.alloc (.cells #[.int .u8 10, .int .u8 0, .int .u8 0, .int .u8 1] 5)).alloc (.cells #[.int .u8 0, .int .u8 45, .int .u8 15, .int .u8 0] 5)).alloc (.cells #[.int .i64 r.ty, .slice (some ⟨w5.heap.size + 1, 0, none⟩) 4 4] 24)).heap.size by have := b7.size; omega)
                clear b5 b6 b7 G6 s6 AD CD BD hS GD C1 HR hU h6
                go_wp2_with (at_builtin; refine wpList_append_lopts rfl (.tmp 51) (.tmp 56) rfl w.heap.size u7 CL (Ad.usual r) (.slice (some ⟨w5.heap.size + 1, 0, none⟩) 4 4) (w5.heap.size + 2) rfl rfl C7.out D7.out G7.out hBB.out (by omega) ?_; intro v8 w8 L8 g8 x8)
                go_roundw
                case rel =>
                  refine ⟨k + 1, by simp, by omega, ?_, ?_, ?_, Below.grown Q7.out g8 hBB.out (fun j hj => (HCL.out j hj).1)⟩
                  · show Lopts _ _ _ _ _ _
                    rw [HE.out.1]; exact A7.out.beside C7.out g8 HX.out.ne
                  · show Lopts _ _ _ _ _ _
                    rw [HE.out.2]; exact L8
                  · exact HX.out.turn A7.out (Nat.le_refl _) x8
                case measure => simp [intOf]; omega
              · have hU : Ad.usualD r.ty = [10, 0, 0, 1] := by
                  rw [Ad.usualD, if_neg (by omega), if_neg ht2]
                have e2 : (r.ty == 2) = false := by simpa using ht2
                clear ht ht2 HKC
                go_wp2_with (refine wpList_load_row rfl 24 (.tmp 9) rfl wr.heap.size rfl 24 #[.int .i64 r.ty, .slice q m d] (0, 0) _ GD.out Try.underlying24 rfl infoOpt ?_)
                refine C1.out.mono ?_
                rintro e w5 ⟨rfl, b5⟩
                have s5 := b5.size
                have b6 := below_one w5 (.cells #[.int .u8 10, .int .u8 0, .int .u8 0, .int .u8 1] 5)
                have h6 := heap_alloc_new w5 (.cells #[.int .u8 10, .int .u8 0, .int .u8 0, .int .u8 1] 5)
                have s6 : (w5.alloc (.cells #[.int .u8 10, .int .u8 0, .int .u8 0, .int .u8 1] 5)).heap.size = w5.heap.size + 1 := by simp
                have G6 := Lib.hid (block_next (block_next GD.out b5) b6)
                have k6 : (w5.alloc (.cells #[.int .u8 10, .int .u8 0, .int .u8 0, .int .u8 1] 5)).cell? ⟨wr.heap.size, 0, none⟩ = some (.int .i64 r.ty) := cell_of_row _ _ _ _ _ _ G6.out
                have b7 := below_one (w5.alloc (.cells #[.int .u8 10, .int .u8 0, .int .u8 0, .int .u8 1] 5)) (.cells #[.int .i64 r.ty, .slice (some ⟨w5.heap.size, 0, none⟩) 4 4] 24)
                have A7 := Lib.hid (((AD.out.next b5).next b6).next b7)
                have C7 := Lib.hid (((CD.out.next b5).next b6).next b7)
                have D7 : Hid (DataIs True ((w5.alloc (.cells #[.int .u8 10, .int .u8 0, .int .u8 0, .int .u8 1] 5)).alloc (.cells #[.int .i64 r.ty, .slice (some ⟨w5.heap.size, 0, none⟩) 4 4] 24)) W0 w.heap.size (.slice (some ⟨w5.heap.size, 0, none⟩) 4 4) (Ad.usual r).data) := by
                  refine .inl ?_
                  show World.ownsRow _ _ _ _ _ (Ad.usualD r.ty).length (Lib.byteCells (Ad.usualD r.ty))
                  rw [hU]
                  exact ownsRow_next (row_built _ rfl h6 (by omega) (by decide)) b7
                have G7 : Hid (((w5.alloc (.cells #[.int .u8 10, .int .u8 0, .int .u8 0, .int .u8 1] 5)).alloc (.cells #[.int .i64 r.ty, .slice (some ⟨w5.heap.size, 0, none⟩) 4 4] 24)).heap[w5.heap.size + 1]? = some (.cells (ocells (Ad.usual r) (.slice (some ⟨w5.heap.size, 0, none⟩) 4 4)).toArray 24 (0, 0))) := by
                  have := heap_alloc_new (w5.alloc (.cells #[.int .u8 10, .int .u8 0, .int .u8 0, .int .u8 1] 5)) (.cells #[.int .i64 r.ty, .slice (some ⟨w5.heap.size, 0, none⟩) 4 4] 24)
                  rw [s6] at this
                  exact this
                have Q7 := Lib.hid (Below.chain (Below.chain (Below.chain BD.out b5) b6) b7)
                have hBB := Lib.hid (show w.heap.size ≤ ((w5.alloc (.cells #[.int .u8 10, .int .u8 0, .int .u8 0, .int .u8 1] 5)).alloc (.cells #[.int .i64 r.ty, .slice (some ⟨w5.heap.size, 0, none⟩) 4 4] 24)).heap.size by have := b7.size; omega)
                clear b5 b6 b7 G6 s6 AD CD BD hS GD C1 HR hU h6
                go_wp2_with (at_builtin; refine wpList_append_lopts rfl (.tmp 51) (.tmp 56) rfl w.heap.size u7 CL (Ad.usual r) (.slice (some ⟨w5.heap.size, 0, none⟩) 4 4) (w5.heap.size + 1) rfl rfl C7.out D7.out G7.out hBB.out (by omega) ?_; intro v8 w8 L8 g8 x8)
                go_roundw
                case rel =>
                  refine ⟨k + 1, by simp, by omega, ?_, ?_, ?_, Below.grown Q7.out g8 hBB.out (fun j hj => (HCL.out j hj).1)⟩
                  · show Lopts _ _ _ _ _ _
                    rw [HE.out.1]; exact A7.out.beside C7.out g8 HX.out.ne
                  · show Lopts _ _ _ _ _ _
                    rw [HE.out.2]; exact L8
                  · exact HX.out.turn A7.out (Nat.le_refl _) x8
                case measure => simp [intOf]; omega
        | false =>
          obtain ⟨j, hj⟩ := find_again (L.take k) r.ty (hxf hfv)
          have HJ := Lib.hid (fun W (hB : Below w.heap.size w W) => hj (some ⟨b, off, none⟩) k cap W (by rw [List.length_take]; omega) (by omega) ((HN.out.next hB).take k))
          have HE := Lib.hid (HAW.out (.inr hfv))
          clear hj hxf hfv HFF HAW HST HCH hkw hm r0 r1
          go_wp2_with (refine wpList_load_mid rfl 24 (.tmp 19) rfl b (off + k * 2) rfl (ocells r (.slice q m d)) _ RG.out Try.underlying24 rfl (infoOptN _ _) ?_; simp only [ocells])
          have bA := below_one wr (.cells #[.int .i64 r.ty, .slice q m d] 24)
          have BD := Lib.hid (Below.chain hbw bA.drew)
          have GD : Hid ((wr.alloc (.cells #[.int .i64 r.ty, .slice q m d] 24)).drew.heap[wr.heap.size]? = some (.cells #[.int .i64 r.ty, .slice q m d] 24 (0, 0))) := heap_alloc_new wr _
          have hS : (wr.alloc (.cells #[.int .i64 r.ty, .slice q m d] 24)).drew.cell? ⟨wr.heap.size, 0, none⟩ = some (.int .i64 r.ty) := cell_of_row _ _ _ _ _ _ GD.out
          have AD := Lib.hid (HA.out.next bA.drew)
          have CD := Lib.hid (HC.out.next bA.drew)
          have sD : wr.heap.size + 1 ≤ (wr.alloc (.cells #[.int .i64 r.ty, .slice q m d] 24)).drew.heap.size := by show _ ≤ (wr.alloc _).heap.size; simp
          have HAL := Lib.hid HA.out.lt
          have HCL := Lib.hid HC.out.lt
          refine held_start (S := fun W => W.cell? ⟨wr.heap.size, 0, none⟩ = some (.int .i64 r.ty)) 14 (by kernel_rfl) rfl ?_
          generalize (wr.alloc (.cells #[.int .i64 r.ty, .slice q m d] 24)).drew = WD at *
          clear bA HA HC hbw
          refine held_take 0 (v := ?_) rfl (by kernel_rfl) (by kernel_rfl) (by kernel_rfl) (fun _ _ _ h => h) (by assumption) (by rfl) ?_ ?_
          rotate_left
          · (intro W hW; go_simp; try with_reducible rfl)
          simp only [Act.put, List.setIfInBounds_toArray, List.set_cons_zero, List.set_cons_succ]
          refine held_take 1 (v := ?_) rfl (by kernel_rfl) (by kernel_rfl) (by kernel_rfl) (fun _ _ _ h => h) (by assumption) (by rfl) ?_ ?_
          rotate_left
          · (intro W hW; go_simp; try with_reducible rfl)
          simp only [Act.put, List.setIfInBounds_toArray, List.set_cons_zero, List.set_cons_succ]
          refine held_take 2 (v := ?_) rfl (by kernel_rfl) (by kernel_rfl) (by kernel_rfl) (fun _ _ _ h => h) (by assumption) (by rfl) ?_ ?_
          rotate_left
          · (intro W hW; have e0 := hW; go_simp; try with_reducible rfl)
          simp only [Act.put, List.setIfInBounds_toArray, List.set_cons_zero, List.set_cons_succ]
          refine held_call 3 (f := 11) (args := #[.int .i64 P, .int .i64 r.ty]) rfl (by kernel_rfl) (by rfl) (by go_simp) ?_
          refine (refKnown_any P r.ty WD).mono ?_
          rintro e w2 ⟨rfl, h2⟩; rw [h2]; clear h2
          refine ⟨_, rfl, hS, ?_⟩
          simp only [Act.put, List.setIfInBounds_toArray, List.set_cons_zero, List.set_cons_succ]
          rw [HKN.out]
          refine held_take 4 (v := ?_) rfl (by kernel_rfl) (by kernel_rfl) (by kernel_rfl) (fun _ _ _ h => h) (by assumption) (by rfl) ?_ ?_
          rotate_left
          · (intro W hW; go_simp; try with_reducible rfl)
          simp only [Act.put, List.setIfInBounds_toArray, List.set_cons_zero, List.set_cons_succ]
          refine held_take 5 (v := ?_) rfl (by kernel_rfl) (by kernel_rfl) (by kernel_rfl) (fun _ _ _ h => h) (by assumption) (by rfl) ?_ ?_
          rotate_left
          · (intro W hW; go_simp; try with_reducible rfl)
          simp only [Act.put, List.setIfInBounds_toArray, List.set_cons_zero, List.set_cons_succ]
          refine held_take 6 (v := ?_) rfl (by kernel_rfl) (by kernel_rfl) (by kernel_rfl) (fun _ _ _ h => h) (by assumption) (by rfl) ?_ ?_
          rotate_left
          · (intro W hW; go_simp; try with_reducible rfl)
          simp only [Act.put, List.setIfInBounds_toArray, List.set_cons_zero, List.set_cons_succ]
          refine held_take 7 (v := ?_) rfl (by kernel_rfl) (by kernel_rfl) (by kernel_rfl) (fun _ _ _ h => h) (by assumption) (by rfl) ?_ ?_
          rotate_left
          · (intro W hW; go_simp; try with_reducible rfl)
          simp only [Act.put, List.setIfInBounds_toArray, List.set_cons_zero, List.set_cons_succ]
          refine held_take 8 (v := ?_) rfl (by kernel_rfl) (by kernel_rfl) (by kernel_rfl) (fun _ _ _ h => h) (by assumption) (by rfl) ?_ ?_
          rotate_left
          · (intro W hW; go_simp; try with_reducible rfl)
          simp only [Act.put, List.setIfInBounds_toArray, List.set_cons_zero, List.set_cons_succ]
          refine held_take 9 (v := ?_) rfl (by kernel_rfl) (by kernel_rfl) (by kernel_rfl) (fun _ _ _ h => h) (by assumption) (by rfl) ?_ ?_
          rotate_left
          · (intro W hW; go_simp; try with_reducible rfl)
          simp only [Act.put, List.setIfInBounds_toArray, List.set_cons_zero, List.set_cons_succ]
          refine held_take 10 (v := ?_) rfl (by kernel_rfl) (by kernel_rfl) (by kernel_rfl) (fun _ _ _ h => h) (by assumption) (by rfl) ?_ ?_
          rotate_left
          · (intro W hW; have e0 := hW; go_simp; try with_reducible rfl)
          simp only [Act.put, List.setIfInBounds_toArray, List.set_cons_zero, List.set_cons_succ]
          refine held_call 11 (f := 24) (args := #[.slice (some ⟨b, off, none⟩) k cap, .int .i64 r.ty]) rfl (by kernel_rfl) (by rfl) (by go_simp) ?_
          refine (HJ.out WD BD.out).mono ?_
          rintro e w2 ⟨rfl, h2⟩; rw [h2]; clear h2
          refine ⟨_, rfl, hS, ?_⟩
          simp only [Act.put, List.setIfInBounds_toArray, List.set_cons_zero, List.set_cons_succ]
          refine held_take 12 (v := ?_) rfl (by kernel_rfl) (by kernel_rfl) (by kernel_rfl) (fun _ _ _ h => h) (by assumption) (by rfl) ?_ ?_
          rotate_left
          · (intro W hW; go_simp; try with_reducible rfl)
          simp only [Act.put, List.setIfInBounds_toArray, List.set_cons_zero, List.set_cons_succ]
          refine held_take 13 (v := ?_) rfl (by kernel_rfl) (by kernel_rfl) (by kernel_rfl) (fun _ _ _ h => h) (by assumption) (by rfl) ?_ ?_
          rotate_left
          · (intro W hW; go_simp; try with_reducible rfl)
          simp only [Act.put, List.setIfInBounds_toArray, List.set_cons_zero, List.set_cons_succ]
          refine held_done (by kernel_rfl) ?_
          clear HJ RG
          have G7 := Lib.hid (heap_alloc_new WD (.cells #[.int .i64 r.ty, .slice q m d] 24))
          have b7 := below_one WD (.cells #[.int .i64 r.ty, .slice q m d] 24)
          have A7 := Lib.hid (AD.out.next b7)
          have C7 := Lib.hid (CD.out.next b7)
          have D7 : Hid (DataIs True (WD.alloc (.cells #[.int .i64 r.ty, .slice q m d] 24)) W0 w.heap.size (.slice q m d) r.data) := .inr ⟨trivial, q, d, by rw [HMM.out], R0.out⟩
          have Q7 := Lib.hid (Below.chain BD.out b7)
          have s7 : (WD.alloc (.cells #[.int .i64 r.ty, .slice q m d] 24)).heap.size = WD.heap.size + 1 := by simp
          clear b7 AD CD BD hS
          go_wp2_with (first
            | (refine wpList_load_row rfl 24 (.tmp 9) rfl wr.heap.size rfl 24 #[.int .i64 r.ty, .slice q m d] (0, 0) _ GD.out Try.underlying24 rfl infoOpt ?_)
            | (at_builtin; refine wpList_append_lopts rfl (.tmp 35) (.tmp 37) rfl w.heap.size u6 AL r (.slice q m d) WD.heap.size rfl rfl A7.out D7.out G7.out (by omega) (by omega) ?_; intro v8 w8 L8 g8 x8))
          go_roundw
          case rel =>
            have s8 := g8.size
            refine ⟨k + 1, by simp, by omega, ?_, ?_, ?_, Below.grown Q7.out g8 (by omega) (fun j hj => (HAL.out j hj).1)⟩
            · show Lopts _ _ _ _ _ _
              rw [HE.out.1]; exact L8
            · show Lopts _ _ _ _ _ _
              rw [HE.out.2]; exact C7.out.beside A7.out g8 HX.out.symm.ne
            · exact (HX.out.symm.turn C7.out (Nat.le_refl _) x8).symm
          case measure => simp [intOf]; omega
      · rw [Bool.not_eq_true] at hkw
        have HKN := Lib.hid hkw
        have HE := Lib.hid (HAW.out (.inl hkw))
        clear hxf HFF HAW HST HCH hkw hm r0 r1
        go_wp2_with (refine wpList_load_mid rfl 24 (.tmp 19) rfl b (off + k * 2) rfl (ocells r (.slice q m d)) _ RG.out Try.underlying24 rfl (infoOptN _ _) ?_; simp only [ocells])
        have bA := below_one wr (.cells #[.int .i64 r.ty, .slice q m d] 24)
        have BD := Lib.hid (Below.chain hbw bA.drew)
        have GD : Hid ((wr.alloc (.cells #[.int .i64 r.ty, .slice q m d] 24)).drew.heap[wr.heap.size]? = some (.cells #[.int .i64 r.ty, .slice q m d] 24 (0, 0))) := heap_alloc_new wr _
        have hS : (wr.alloc (.cells #[.int .i64 r.ty, .slice q m d] 24)).drew.cell? ⟨wr.heap.size, 0, none⟩ = some (.int .i64 r.ty) := cell_of_row _ _ _ _ _ _ GD.out
        have AD := Lib.hid (HA.out.next bA.drew)
        have CD := Lib.hid (HC.out.next bA.drew)
        have sD : wr.heap.size + 1 ≤ (wr.alloc (.cells #[.int .i64 r.ty, .slice q m d] 24)).drew.heap.size := by show _ ≤ (wr.alloc _).heap.size; simp
        have HAL := Lib.hid HA.out.lt
        have HCL := Lib.hid HC.out.lt
        refine held_start (S := fun W => W.cell? ⟨wr.heap.size, 0, none⟩ = some (.int .i64 r.ty)) 14 (by kernel_rfl) rfl ?_
        generalize (wr.alloc (.cells #[.int .i64 r.ty, .slice q m d] 24)).drew = WD at *
        clear bA HA HC hbw
        refine held_take 0 (v := ?_) rfl (by kernel_rfl) (by kernel_rfl) (by kernel_rfl) (fun _ _ _ h => h) (by assumption) (by rfl) ?_ ?_
        rotate_left
        · (intro W hW; go_simp; try with_reducible rfl)
        simp only [Act.put, List.setIfInBounds_toArray, List.set_cons_zero, List.set_cons_succ]
        refine held_take 1 (v := ?_) rfl (by kernel_rfl) (by kernel_rfl) (by kernel_rfl) (fun _ _ _ h => h) (by assumption) (by rfl) ?_ ?_
        rotate_left
        · (intro W hW; go_simp; try with_reducible rfl)
        simp only [Act.put, List.setIfInBounds_toArray, List.set_cons_zero, List.set_cons_succ]
        refine held_take 2 (v := ?_) rfl (by kernel_rfl) (by kernel_rfl) (by kernel_rfl) (fun _ _ _ h => h) (by assumption) (by rfl) ?_ ?_
        rotate_left
        · (intro W hW; have e0 := hW; go_simp; try with_reducible rfl)
        simp only [Act.put, List.setIfInBounds_toArray, List.set_cons_zero, List.set_cons_succ]
        refine held_call 3 (f := 11) (args := #[.int .i64 P, .int .i64 r.ty]) rfl (by kernel_rfl) (by rfl) (by go_simp) ?_
        refine (refKnown_any P r.ty WD).mono ?_
        rintro e w2 ⟨rfl, h2⟩; rw [h2]; clear h2
        refine ⟨_, rfl, hS, ?_⟩
        simp only [Act.put, List.setIfInBounds_toArray, List.set_cons_zero, List.set_cons_succ]
        rw [HKN.out]
        refine held_take 4 (v := ?_) rfl (by kernel_rfl) (by kernel_rfl) (by kernel_rfl) (fun _ _ _ h => h) (by assumption) (by rfl) ?_ ?_
        rotate_left
        · (intro W hW; go_simp; try with_reducible rfl)
        simp only [Act.put, List.setIfInBounds_toArray, List.set_cons_zero, List.set_cons_succ]
        refine held_take 5 (v := ?_) rfl (by kernel_rfl) (by kernel_rfl) (by kernel_rfl) (fun _ _ _ h => h) (by assumption) (by rfl) ?_ ?_
        rotate_left
        · (intro W hW; go_simp; try with_reducible rfl)
        simp only [Act.put, List.setIfInBounds_toArray, List.set_cons_zero, List.set_cons_succ]
        refine held_skip 6 rfl (by kernel_rfl) (by kernel_rfl) (by kernel_rfl) (fun _ _ _ h => h) (by assumption) (by rfl) ?_
        simp only [Act.put, List.setIfInBounds_toArray, List.set_cons_zero, List.set_cons_succ]
        refine held_skip 7 rfl (by kernel_rfl) (by kernel_rfl) (by kernel_rfl) (fun _ _ _ h => h) (by assumption) (by rfl) ?_
        simp only [Act.put, List.setIfInBounds_toArray, List.set_cons_zero, List.set_cons_succ]
        refine held_skip 8 rfl (by kernel_rfl) (by kernel_rfl) (by kernel_rfl) (fun _ _ _ h => h) (by assumption) (by rfl) ?_
        simp only [Act.put, List.setIfInBounds_toArray, List.set_cons_zero, List.set_cons_succ]
        refine held_skip 9 rfl (by kernel_rfl) (by kernel_rfl) (by kernel_rfl) (fun _ _ _ h => h) (by assumption) (by rfl) ?_
        simp only [Act.put, List.setIfInBounds_toArray, List.set_cons_zero, List.set_cons_succ]
        refine held_skip 10 rfl (by kernel_rfl) (by kernel_rfl) (by kernel_rfl) (fun _ _ _ h => h) (by assumption) (by rfl) ?_
        simp only [Act.put, List.setIfInBounds_toArray, List.set_cons_zero, List.set_cons_succ]
        refine held_skip 11 rfl (by kernel_rfl) (by kernel_rfl) (by kernel_rfl) (fun _ _ _ h => h) (by assumption) (by rfl) ?_
        simp only [Act.put, List.setIfInBounds_toArray, List.set_cons_zero, List.set_cons_succ]
        refine held_skip 12 rfl (by kernel_rfl) (by kernel_rfl) (by kernel_rfl) (fun _ _ _ h => h) (by assumption) (by rfl) ?_
        simp only [Act.put, List.setIfInBounds_toArray, List.set_cons_zero, List.set_cons_succ]
        refine held_take 13 (v := ?_) rfl (by kernel_rfl) (by kernel_rfl) (by kernel_rfl) (fun _ _ _ h => h) (by assumption) (by rfl) ?_ ?_
        rotate_left
        · (intro W hW; go_simp; try with_reducible rfl)
        simp only [Act.put, List.setIfInBounds_toArray, List.set_cons_zero, List.set_cons_succ]
        refine held_done (by kernel_rfl) ?_
        clear RG
        have G7 := Lib.hid (heap_alloc_new WD (.cells #[.int .i64 r.ty, .slice q m d] 24))
        have b7 := below_one WD (.cells #[.int .i64 r.ty, .slice q m d] 24)
        have A7 := Lib.hid (AD.out.next b7)
        have C7 := Lib.hid (CD.out.next b7)
        have D7 : Hid (DataIs True (WD.alloc (.cells #[.int .i64 r.ty, .slice q m d] 24)) W0 w.heap.size (.slice q m d) r.data) := .inr ⟨trivial, q, d, by rw [HMM.out], R0.out⟩
        have Q7 := Lib.hid (Below.chain BD.out b7)
        have s7 : (WD.alloc (.cells #[.int .i64 r.ty, .slice q m d] 24)).heap.size = WD.heap.size + 1 := by simp
        clear b7 AD CD BD hS
        go_wp2_with (first
          | (refine wpList_load_row rfl 24 (.tmp 9) rfl wr.heap.size rfl 24 #[.int .i64 r.ty, .slice q m d] (0, 0) _ GD.out Try.underlying24 rfl infoOpt ?_)
          | (at_builtin; refine wpList_append_lopts rfl (.tmp 35) (.tmp 37) rfl w.heap.size u6 AL r (.slice q m d) WD.heap.size rfl rfl A7.out D7.out G7.out (by omega) (by omega) ?_; intro v8 w8 L8 g8 x8))
        go_roundw
        case rel =>
          have s8 := g8.size
          refine ⟨k + 1, by simp, by omega, ?_, ?_, ?_, Below.grown Q7.out g8 (by omega) (fun j hj => (HAL.out j hj).1)⟩
          · show Lopts _ _ _ _ _ _
            rw [HE.out.1]; exact L8
          · show Lopts _ _ _ _ _ _
            rw [HE.out.2]; exact C7.out.beside A7.out g8 HX.out.symm.ne
          · exact (HX.out.symm.turn C7.out (Nat.le_refl _) x8).symm
        case measure => simp [intOf]; omega
    · have hk2 : L.length ≤ k := by rw [HL.out]; omega
      rw [Ad.away_all P hk2] at HA
      rw [Ad.changed_all P hk2] at HC
      have B2 := Lib.hid hbw
      clear HX hbw
      go_wp2
      go_ret2
      exact ⟨_, _, rfl, HA.out, HC.out, B2.out⟩
theorem refBad_any (P : Int) (a : Option Addr) (n cap : Nat) (L : List Ot.O) (w : World) (hL : L.length = n) (hn : n ≤ 1000) (hc : n ≤ cap) (h : OptsAt w a L) :
    Calls Try.prog 22 #[.int .i64 P, .slice a n cap] w fun e w' => RefBadRes w w w' e (Ad.away P L) (Ad.changed P L) := refBad_from P a n cap L w w hL hn hc h (Below.refl _ _)
end Go.Proofs.Ytacnlancncmpmaa
