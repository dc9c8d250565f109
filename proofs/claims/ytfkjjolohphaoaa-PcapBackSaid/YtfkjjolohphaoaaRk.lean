/- Contract of the document's Head. -/
import Derived.Test.YtfkjjolohphaoaaRx
namespace Go.Proofs.Ytfkjjolohphaoaa
open Go.RowKit

theorem Pc.hbytes_four (m : Pc.Hdr) : (Pc.hbytes m).take 4 = Oc.put (Pc.mark m.nano) 4 m.big := by
  have h : (Oc.put (Pc.mark m.nano) 4 m.big).length = 4 := Oc.put_length _ _ _
  rw [← Pc.hbytes_eq]
  simp only [List.nil_append, List.append_assoc]
  rw [List.take_append_of_le_length (by omega), List.take_of_length_le (by omega)]
theorem run_load_head {w : World} {o : Oper} {a : Act} (x : Operand) (ho : o.op = .load 24 x) (T : Nat) (m : Pc.Hdr) (hx : a.eval x = .pointer (some ⟨T, 0, none⟩)) (hT : w.heap[T]? = some (.cells (hcells m).toArray 24 (0, 0))) :
    (execOp a.eval o).run Try.prog w = .ok (.value (.agg (hcells m).toArray)) w := by
  have h := run_loadVar_row (P := Try.prog) w T 24 24 _ _ _ hT Try.underlying24 rfl info24
  unfold execOp
  simp only [ho, hx, Instr.loadAt, Instr.sureAddr, Sem.run_bind, Sem.run_pure, Result.andThen_ok, h]
def Pc.nth (k : Nat) : Bool × Bool := (k % 2 == 1, k / 2 == 1)

set_option maxRecDepth 100000 in
set_option maxHeartbeats 4000000 in
theorem refHead_any (a : Option Addr) (n cap : Nat) (xs : List UInt8) (w : World) (hn : xs.length = n) (hm : n ≤ 300000) (h : RowAt w a cap xs) :
    Calls Try.prog 16 #[.slice a n cap] w fun e w' => HeadRes w w' e (Pc.head xs).1 (Pc.head xs).2 := by
  by_cases h4 : n < 4
  · rw [Pc.head_end xs (by omega)]
    have i4 : (n : Int) < 4 := by omega
    go_enter Try.func16, Try.ntmps16
    go_wp2
    exact bodyPost_ret (head_ret0 (m := Pc.hz) Try.results16 rfl rfl) rfl ⟨rfl, (Below.refl _ _).alloc (Nat.le_refl _) _⟩
  · have i4 : ¬ (n : Int) < 4 := by omega
    obtain ⟨A, hA⟩ : ∃ A, Pc.head xs = A := ⟨_, rfl⟩
    rw [hA]
    have qn := Pc.head_form xs (by omega)
    rw [hA] at qn
    have QN := Lib.hid qn
    have HA := Lib.hid hA
    have Hn := Lib.hid hn
    have Hn4 := Lib.hid (show ¬ xs.length < 4 by omega)
    have H4 := Lib.hid (show 4 ≤ xs.length by omega)
    have H := Lib.hid h
    have hR0 := heap_alloc_new w (.cells (hcells Pc.hz).toArray 24)
    have b0 : Below w.heap.size w (w.alloc (.cells (hcells Pc.hz).toArray 24)) := (Below.refl _ _).alloc (Nat.le_refl _) _
    have HR0 : Hid ((w.alloc (.cells #[.bool false, .bool false, .int .u32 0, .int .u32 0] 24)).heap[w.heap.size]? = some (.cells (hcells Pc.hz).toArray 24 (0, 0))) := hR0
    have B0 : Hid (Below w.heap.size w (w.alloc (.cells #[.bool false, .bool false, .int .u32 0, .int .u32 0] 24))) := b0
    clear hA qn hn h hR0 b0
    go_enter Try.func16, Try.ntmps16
    go_wp2
    generalize w.alloc (.cells #[.bool false, .bool false, .int .u32 0, .int .u32 0] 24) = W0 at *
    go_loopw [4] (fun i wr => ∃ k : Nat, i = .int .i64 (k : Int) ∧ k ≤ 4 ∧ (∀ j, j < k → ¬ Pc.who xs = some (Pc.nth j)) ∧ Below w.heap.size w wr ∧ wr.heap[w.heap.size]? = some (.cells (hcells Pc.hz).toArray 24 (0, 0))) (fun i _ => 4 - (intOf i).toNat)
    case atStart => exact ⟨0, rfl, by omega, fun j hj => by omega, B0.out, HR0.out⟩
    case round =>
      obtain ⟨k, rfl, hk, hno, hbw, hR⟩ := hrel
      have hk5 : k = 0 ∨ k = 1 ∨ k = 2 ∨ k = 3 ∨ k = 4 := by omega
      rcases hk5 with rfl | rfl | rfl | rfl | rfl
      · skip
        have q1 := fun hw => Pc.head_short xs Hn4.out (big := false) (nano := false) hw
        have q2 := fun hw => Pc.head_two xs Hn4.out (big := false) (nano := false) hw
        have q3 := fun hw => Pc.head_good xs Hn4.out (big := false) (nano := false) hw
        have hiff := Pc.who_iff xs H4.out false false
        have h4b := Pc.hbytes_four ⟨false, false, 0, 0⟩
        simp only at h4b
        rw [← h4b] at hiff
        rw [HA.out] at q1 q2 q3
        have c23 := fun W => header_any ⟨false, false, 0, 0⟩ W ⟨by decide, by decide⟩
        have l24 := Pc.hbytes_length ⟨false, false, 0, 0⟩
        generalize Pc.hbytes ⟨false, false, 0, 0⟩ = hb at *
        have hT := heap_alloc_new wr (.cells (hcells ⟨false, false, 0, 0⟩).toArray 24)
        have bT : Below wr.heap.size wr (wr.alloc (.cells (hcells ⟨false, false, 0, 0⟩).toArray 24)) := (Below.refl _ _).alloc (Nat.le_refl _) _
        have HT : Hid ((wr.alloc (.cells #[.bool false, .bool false, .int .u32 0, .int .u32 0] 24)).heap[wr.heap.size]? = some (.cells (hcells ⟨false, false, 0, 0⟩).toArray 24 (0, 0))) := hT
        have HR1 : Hid ((wr.alloc (.cells #[.bool false, .bool false, .int .u32 0, .int .u32 0] 24)).heap[w.heap.size]? = some (.cells (hcells Pc.hz).toArray 24 (0, 0))) := block_next hR bT
        have B1 : Hid (Below w.heap.size w (wr.alloc (.cells #[.bool false, .bool false, .int .u32 0, .int .u32 0] 24))) := Below.chain hbw bT
        have hRT : w.heap.size < wr.heap.size := lt_of_block hR
        have Q1 := Lib.hid q1
        have Q2 := Lib.hid q2
        have Q3 := Lib.hid q3
        have HI := Lib.hid hiff
        have C23 := Lib.hid c23
        have L24 := Lib.hid l24
        have HNO := Lib.hid hno
        clear hR hbw hT bT q1 q2 q3 hiff h4b c23 l24 hno
        go_wp2_with fail
        generalize wr.alloc (.cells #[.bool false, .bool false, .int .u32 0, .int .u32 0] 24) = W1 at *
        generalize wr.heap.size = T at *
        have hS : W1.drew.heap[T]? = some (.cells (hcells ⟨false, false, 0, 0⟩).toArray 24 (0, 0)) ∧ RowAt W1.drew a cap xs := ⟨HT.out, (H.out.next B1.out).next (Below.refl _ _).drew⟩
        have hcap := H.out.le
        rw [Hn.out] at hcap
        have j1 : 4 ≤ cap := by omega
        have j2 : (4 : Int) ≤ (cap : Int) := by omega
        refine held_start (S := fun W => W.heap[T]? = some (.cells (hcells ⟨false, false, 0, 0⟩).toArray 24 (0, 0)) ∧ RowAt W a cap xs) 8 (by kernel_rfl) rfl ?_
        refine held_take 0 (v := .agg (hcells ⟨false, false, 0, 0⟩).toArray) rfl (by kernel_rfl) (by kernel_rfl) (by kernel_rfl) (fun _ _ _ h => h) (by assumption) (by rfl) (fun W hW => run_load_head (.tmp 5) rfl T _ rfl hW.1) ?_
        simp only [Act.put, List.setIfInBounds_toArray, List.set_cons_zero, List.set_cons_succ]
        refine held_take 4 (v := ?_) rfl (by kernel_rfl) (by kernel_rfl) (by kernel_rfl) (fun _ _ _ h => h) (by assumption) (by rfl) ?_ ?_
        rotate_left
        · (intro W hW; go_simp; try with_reducible rfl)
        simp only [Act.put, List.setIfInBounds_toArray, List.set_cons_zero, List.set_cons_succ]
        refine held_take 5 (v := ?_) rfl (by kernel_rfl) (by kernel_rfl) (by kernel_rfl) (fun _ _ _ h => h) (by assumption) (by rfl) ?_ ?_
        rotate_left
        · (intro W hW; go_simp; try with_reducible rfl)
        simp only [Act.put, List.setIfInBounds_toArray, List.set_cons_zero, List.set_cons_succ]
        refine held_take 6 (v := ?_) rfl (by kernel_rfl) (by kernel_rfl) (by kernel_rfl) (fun _ _ _ h => h) (by assumption) (by rfl) ?_ ?_
        rotate_left
        · (intro W hW; (have t0 := conv_row (n := 4) (by simp; have := H4.out; omega) (hW.2.head 4 H4.out)); clear hW; go_simp; try with_reducible rfl)
        simp only [Act.put, List.setIfInBounds_toArray, List.set_cons_zero, List.set_cons_succ]
        have bd : Below W1.heap.size W1 W1.drew := (Below.refl _ _).drew
        have hR2 := block_next HR1.out bd
        have hB2 := Below.chain B1.out bd
        clear bd HT HR1 B1
        generalize W1.drew = W2 at *
        refine held_call 1 (f := 23) (args := #[.agg (hcells ⟨false, false, 0, 0⟩).toArray]) rfl (by kernel_rfl) (by rfl) (by go_simp) ?_
        refine (C23.out W2).mono ?_
        rintro e W3 ⟨v3, rfl, o3, b3⟩
        obtain ⟨p3, c3, rfl, r3⟩ := rowAt_own L24.out o3
        have hS3 := And.intro (block_next hS.1 b3) (hS.2.next b3)
        have hR3 := block_next hR2 b3
        have hB3 := Below.chain hB2 b3
        refine ⟨_, rfl, hS3, ?_⟩
        simp only [Act.put, List.setIfInBounds_toArray, List.set_cons_zero, List.set_cons_succ]
        have hc3 := r3.le
        rw [L24.out] at hc3
        have j3 : 4 ≤ c3 := by omega
        have j4 : (4 : Int) ≤ (c3 : Int) := by omega
        refine held_one 2 rfl (by kernel_rfl) (by rfl) ?_
        refine wp_value (v := .slice p3 4 c3) (w' := W3) (by go_simp) ⟨hS3, ?_⟩
        simp only [Act.put, List.setIfInBounds_toArray, List.set_cons_zero, List.set_cons_succ]
        have t3 := conv_row (n := 4) (by rw [List.length_take, L24.out]; rfl) (r3.head 4 (by rw [L24.out]; omega))
        refine held_one 3 rfl (by kernel_rfl) (by rfl) ?_
        refine wp_value (v := .string ⟨(hb.take 4).toArray⟩) (w' := W3) (by go_simp) ⟨hS3, ?_⟩
        simp only [Act.put, List.setIfInBounds_toArray, List.set_cons_zero, List.set_cons_succ]
        refine held_one 7 rfl (by kernel_rfl) (by rfl) ?_
        have HS3 := Lib.hid hS3
        have HR3 := Lib.hid hR3
        have HB3 := Lib.hid hB3
        clear hS hS3 hR2 hB2 hR3 hB3 o3 r3 b3 t3 hc3 j3 j4
        by_cases hw : Pc.who xs = some (false, false)
        · have e4 := HI.out.1 hw
          refine wp_value (v := .bool false) (w' := W3) (by rw [e4]; go_simp) ⟨HS3.out, ?_⟩
          simp only [Act.put, List.setIfInBounds_toArray, List.set_cons_zero, List.set_cons_succ]
          refine held_done (by kernel_rfl) ?_
          clear HI HNO
          by_cases h24 : n < 24
          · have i1 : (n : Int) < 24 := by omega
            obtain rfl := Q1.out hw (by rw [Hn.out]; exact h24)
            clear Q1 Q2 Q3 hw e4
            go_wp2_with (refine wpList_store_head rfl (.tmp 2) (.tmp 32) rfl w.heap.size Pc.hz _ rfl rfl HR3.out rfl ?_)
            exact bodyPost_ret (head_ret Try.results16 rfl rfl HR3.out) rfl ⟨rfl, below_setRow HB3.out (Nat.le_refl _) _⟩
          · have i1 : ¬ (n : Int) < 24 := by omega
            have hcut := fun W (h : RowAt W a cap xs) => h.cut 4 6 (by omega) (by rw [Hn.out]; omega)
            rw [if_neg (by omega), List.drop_take] at hcut
            have l2 : ((xs.drop 4).take (6 - 4)).length = 2 := by simp; have := Hn.out; omega
            have c27 := fun W h => refGet_at (a.map (·.add 4)) 2 (cap - 4) _ false W l2 (by omega) (by omega) (hcut W h).bytes
            have q2 := Q2.out hw (by rw [Hn.out]; exact h24)
            have q3 := Q3.out hw (by rw [Hn.out]; exact h24)
            have c16 := fun W h => refNum_any a n cap xs 16 false W Hn.out hm (by omega) h
            have c20 := fun W h => refNum_any a n cap xs 20 false W Hn.out hm (by omega) h
            have C16 := Lib.hid c16
            have C20 := Lib.hid c20
            have C27 := Lib.hid c27
            have q2x : ¬ Oc.get ((xs.drop 4).take (6 - 4)) false = 2 → A = (Pc.hz, 3) := q2
            have q3x : Oc.get ((xs.drop 4).take (6 - 4)) false = 2 → A = (⟨false, false, Pc.num xs 16 false, Pc.num xs 20 false⟩, 0) := q3
            have l16 := Pc.num_lt xs 16 false
            have l20 := Pc.num_lt xs 20 false
            generalize Pc.num xs 16 false = v16 at *
            generalize Pc.num xs 20 false = v20 at *
            generalize Oc.get ((xs.drop 4).take (6 - 4)) false = v2 at *
            clear Q1 Q2 Q3 hw e4 hcut c27 q2 q3 c16 c20
            have j5 : (6 : Int) ≤ (cap : Int) := by omega
            have j6 : ¬ cap = 4 := by omega
            have j7 : ¬ (cap : Int) = 4 := by omega
            go_wp2_with fail
            have hS : W3.drew.heap[T]? = some (.cells (hcells ⟨false, false, 0, 0⟩).toArray 24 (0, 0)) := HS3.out.1
            refine held_start (S := fun W => W.heap[T]? = some (.cells (hcells ⟨false, false, 0, 0⟩).toArray 24 (0, 0))) 6 (by kernel_rfl) rfl ?_
            refine held_take 0 (v := ?_) rfl (by kernel_rfl) (by kernel_rfl) (by kernel_rfl) (fun _ _ _ h => h) (by assumption) (by rfl) ?_ ?_
            rotate_left
            · (intro W hW; go_simp; try with_reducible rfl)
            simp only [Act.put, List.setIfInBounds_toArray, List.set_cons_zero, List.set_cons_succ]
            refine held_take 1 (v := .slice (a.map (·.add 4)) 2 (cap - 4)) rfl (by kernel_rfl) (by kernel_rfl) (by kernel_rfl) (fun _ _ _ h => h) (by assumption) (by rfl) (by intro W hW; clear hW; go_simp) ?_
            simp only [Act.put, List.setIfInBounds_toArray, List.set_cons_zero, List.set_cons_succ]
            refine held_take 2 (v := ?_) rfl (by kernel_rfl) (by kernel_rfl) (by kernel_rfl) (fun _ _ _ h => h) (by assumption) (by rfl) ?_ ?_
            rotate_left
            · (intro W hW; go_simp; try with_reducible rfl)
            simp only [Act.put, List.setIfInBounds_toArray, List.set_cons_zero, List.set_cons_succ]
            refine held_take 3 (v := ?_) rfl (by kernel_rfl) (by kernel_rfl) (by kernel_rfl) (fun _ _ _ h => h) (by assumption) (by rfl) ?_ ?_
            rotate_left
            · (intro W hW; (have t0 : W.cell? ⟨T, 0, none⟩ = some (.bool false) := cell_of_row _ _ _ _ _ _ hW); clear hW; go_simp; try with_reducible rfl)
            simp only [Act.put, List.setIfInBounds_toArray, List.set_cons_zero, List.set_cons_succ]
            have bd : Below W3.heap.size W3 W3.drew := (Below.refl _ _).drew
            have hR4 := block_next HR3.out bd
            have hB4 := Below.chain HB3.out bd
            have hrow4 := HS3.out.2.next bd
            clear HR3 HB3 HS3 bd
            generalize W3.drew = W4 at *
            refine held_call 4 (f := 27) (args := #[.slice (a.map (·.add 4)) 2 (cap - 4), .bool false]) rfl (by kernel_rfl) (by rfl) (by go_simp) ?_
            refine (C27.out W4 hrow4).mono ?_
            rintro e W5 ⟨rfl, h5⟩
            refine ⟨_, rfl, by rw [h5]; exact hS, ?_⟩
            rw [h5]
            clear h5 W5
            simp only [Act.put, List.setIfInBounds_toArray, List.set_cons_zero, List.set_cons_succ]
            refine held_one 5 rfl (by kernel_rfl) (by rfl) ?_
            have HR4 := Lib.hid hR4
            have HB4 := Lib.hid hB4
            have HS4 := Lib.hid hS
            have HW4 := Lib.hid hrow4
            clear hR4 hB4 hS hrow4
            by_cases t2 : v2 = 2
            · obtain rfl := q3x t2
              have u2 : ((v2 : Int) != 2) = false := by rw [t2]; rfl
              clear q2x q3x t2
              refine wp_value (v := .bool false) (w' := W4) (by go_simp) ⟨HS4.out, ?_⟩
              simp only [Act.put, List.setIfInBounds_toArray, List.set_cons_zero, List.set_cons_succ]
              refine held_done (by kernel_rfl) ?_
              have t0 : W4.cell? ⟨T, 0, none⟩ = some (.bool false) := cell_of_row _ _ _ _ _ _ HS4.out
              have d4 : W4.cell? ⟨T, 2, none⟩ = some (.int .u32 0) := cell_of_row _ _ _ _ _ _ HS4.out
              have f4 := frozen_of_row _ _ 2 _ _ HS4.out
              go_wp2_with fail
              refine (C16.out W4 HW4.out).mono ?_
              rintro e W5 ⟨rfl, h5⟩
              rw [h5]
              clear h5 W5
              have hT5 := heap_setCell_same W4 T 2 _ _ (.int .u32 (v16 : Int)) HS4.out
              have hR5 : (W4.setCell ⟨T, 2, none⟩ (.int .u32 (v16 : Int))).heap[w.heap.size]? = _ := (heap_setCell_other W4 _ _ _ (by simp; omega)).trans HR4.out
              have hB5 := HB4.out.setCell (p := ⟨T, 2, none⟩) (by simp; omega) (.int .u32 (v16 : Int))
              have hW5 := H.out.next hB5
              have t5 : (W4.setCell ⟨T, 2, none⟩ (.int .u32 (v16 : Int))).cell? ⟨T, 0, none⟩ = some (.bool false) := cell_of_row _ _ _ _ _ _ hT5
              have d5 : (W4.setCell ⟨T, 2, none⟩ (.int .u32 (v16 : Int))).cell? ⟨T, 3, none⟩ = some (.int .u32 0) := cell_of_row _ _ _ _ _ _ hT5
              have f5 := frozen_of_row _ _ 3 _ _ hT5
              have hT6 := heap_setCell_same _ T 3 _ _ (.int .u32 (v20 : Int)) hT5
              have hR6 : ((W4.setCell ⟨T, 2, none⟩ (.int .u32 (v16 : Int))).setCell ⟨T, 3, none⟩ (.int .u32 (v20 : Int))).heap[w.heap.size]? = _ := (heap_setCell_other _ _ _ _ (by simp; omega)).trans hR5
              have HB6 := Lib.hid (hB5.setCell (p := ⟨T, 3, none⟩) (by simp; omega) (.int .u32 (v20 : Int)))
              have HT6 := Lib.hid hT6
              have HR6 := Lib.hid hR6
              have HW5 := Lib.hid hW5
              clear hT5 hR5 hB5 hW5 hT6 hR6
              go_wp2_with fail
              refine (C20.out _ HW5.out).mono ?_
              rintro e W5 ⟨rfl, h5⟩
              rw [h5]
              clear h5 W5 HW5
              go_wp2_with (first | (refine wpList_load_row rfl 24 (.tmp 5) rfl T rfl 24 (hcells ⟨false, false, v16, v20⟩).toArray (0, 0) _ HT6.out Try.underlying24 rfl info24 ?_) | (refine wpList_store_head rfl (.tmp 2) (.tmp 50) rfl w.heap.size ⟨false, false, v16, v20⟩ _ rfl rfl HR6.out rfl ?_))
              exact bodyPost_ret (head_ret Try.results16 rfl rfl HR6.out) rfl ⟨rfl, below_setRow HB6.out (Nat.le_refl _) _⟩
            · obtain rfl := q2x t2
              have u2 : ((v2 : Int) != 2) = true := by simp; omega
              clear q2x q3x t2
              refine wp_value (v := .bool true) (w' := W4) (by go_simp) ⟨HS4.out, ?_⟩
              simp only [Act.put, List.setIfInBounds_toArray, List.set_cons_zero, List.set_cons_succ]
              refine held_done (by kernel_rfl) ?_
              go_wp2_with (refine wpList_store_head rfl (.tmp 2) (.tmp 39) rfl w.heap.size Pc.hz _ rfl rfl HR4.out rfl ?_)
              exact bodyPost_ret (head_ret Try.results16 rfl rfl HR4.out) rfl ⟨rfl, below_setRow HB4.out (Nat.le_refl _) _⟩
        · have e4 : ¬ hb.take 4 = xs.take 4 := fun e => hw (HI.out.2 e)
          refine wp_value (v := .bool true) (w' := W3) (by go_simp) ⟨HS3.out, ?_⟩
          simp only [Act.put, List.setIfInBounds_toArray, List.set_cons_zero, List.set_cons_succ]
          refine held_done (by kernel_rfl) ?_
          have HNW := Lib.hid hw
          clear e4 hw HI Q1 Q2 Q3
          go_wp2
          go_roundw
          case rel => exact ⟨0 + 1, by simp, by omega, (fun j hj => by
            rcases Nat.lt_succ_iff_lt_or_eq.1 hj with h | h
            · exact HNO.out j h
            · subst h; exact HNW.out), HB3.out, HR3.out⟩
          case measure => simp [intOf]
      · skip
        have q1 := fun hw => Pc.head_short xs Hn4.out (big := true) (nano := false) hw
        have q2 := fun hw => Pc.head_two xs Hn4.out (big := true) (nano := false) hw
        have q3 := fun hw => Pc.head_good xs Hn4.out (big := true) (nano := false) hw
        have hiff := Pc.who_iff xs H4.out true false
        have h4b := Pc.hbytes_four ⟨true, false, 0, 0⟩
        simp only at h4b
        rw [← h4b] at hiff
        rw [HA.out] at q1 q2 q3
        have c23 := fun W => header_any ⟨true, false, 0, 0⟩ W ⟨by decide, by decide⟩
        have l24 := Pc.hbytes_length ⟨true, false, 0, 0⟩
        generalize Pc.hbytes ⟨true, false, 0, 0⟩ = hb at *
        have hT := heap_alloc_new wr (.cells (hcells ⟨true, false, 0, 0⟩).toArray 24)
        have bT : Below wr.heap.size wr (wr.alloc (.cells (hcells ⟨true, false, 0, 0⟩).toArray 24)) := (Below.refl _ _).alloc (Nat.le_refl _) _
        have HT : Hid ((wr.alloc (.cells #[.bool true, .bool false, .int .u32 0, .int .u32 0] 24)).heap[wr.heap.size]? = some (.cells (hcells ⟨true, false, 0, 0⟩).toArray 24 (0, 0))) := hT
        have HR1 : Hid ((wr.alloc (.cells #[.bool true, .bool false, .int .u32 0, .int .u32 0] 24)).heap[w.heap.size]? = some (.cells (hcells Pc.hz).toArray 24 (0, 0))) := block_next hR bT
        have B1 : Hid (Below w.heap.size w (wr.alloc (.cells #[.bool true, .bool false, .int .u32 0, .int .u32 0] 24))) := Below.chain hbw bT
        have hRT : w.heap.size < wr.heap.size := lt_of_block hR
        have Q1 := Lib.hid q1
        have Q2 := Lib.hid q2
        have Q3 := Lib.hid q3
        have HI := Lib.hid hiff
        have C23 := Lib.hid c23
        have L24 := Lib.hid l24
        have HNO := Lib.hid hno
        clear hR hbw hT bT q1 q2 q3 hiff h4b c23 l24 hno
        go_wp2_with fail
        generalize wr.alloc (.cells #[.bool true, .bool false, .int .u32 0, .int .u32 0] 24) = W1 at *
        generalize wr.heap.size = T at *
        have hS : W1.drew.heap[T]? = some (.cells (hcells ⟨true, false, 0, 0⟩).toArray 24 (0, 0)) ∧ RowAt W1.drew a cap xs := ⟨HT.out, (H.out.next B1.out).next (Below.refl _ _).drew⟩
        have hcap := H.out.le
        rw [Hn.out] at hcap
        have j1 : 4 ≤ cap := by omega
        have j2 : (4 : Int) ≤ (cap : Int) := by omega
        refine held_start (S := fun W => W.heap[T]? = some (.cells (hcells ⟨true, false, 0, 0⟩).toArray 24 (0, 0)) ∧ RowAt W a cap xs) 8 (by kernel_rfl) rfl ?_
        refine held_take 0 (v := .agg (hcells ⟨true, false, 0, 0⟩).toArray) rfl (by kernel_rfl) (by kernel_rfl) (by kernel_rfl) (fun _ _ _ h => h) (by assumption) (by rfl) (fun W hW => run_load_head (.tmp 5) rfl T _ rfl hW.1) ?_
        simp only [Act.put, List.setIfInBounds_toArray, List.set_cons_zero, List.set_cons_succ]
        refine held_take 4 (v := ?_) rfl (by kernel_rfl) (by kernel_rfl) (by kernel_rfl) (fun _ _ _ h => h) (by assumption) (by rfl) ?_ ?_
        rotate_left
        · (intro W hW; go_simp; try with_reducible rfl)
        simp only [Act.put, List.setIfInBounds_toArray, List.set_cons_zero, List.set_cons_succ]
        refine held_take 5 (v := ?_) rfl (by kernel_rfl) (by kernel_rfl) (by kernel_rfl) (fun _ _ _ h => h) (by assumption) (by rfl) ?_ ?_
        rotate_left
        · (intro W hW; go_simp; try with_reducible rfl)
        simp only [Act.put, List.setIfInBounds_toArray, List.set_cons_zero, List.set_cons_succ]
        refine held_take 6 (v := ?_) rfl (by kernel_rfl) (by kernel_rfl) (by kernel_rfl) (fun _ _ _ h => h) (by assumption) (by rfl) ?_ ?_
        rotate_left
        · (intro W hW; (have t0 := conv_row (n := 4) (by simp; have := H4.out; omega) (hW.2.head 4 H4.out)); clear hW; go_simp; try with_reducible rfl)
        simp only [Act.put, List.setIfInBounds_toArray, List.set_cons_zero, List.set_cons_succ]
        have bd : Below W1.heap.size W1 W1.drew := (Below.refl _ _).drew
        have hR2 := block_next HR1.out bd
        have hB2 := Below.chain B1.out bd
        clear bd HT HR1 B1
        generalize W1.drew = W2 at *
        refine held_call 1 (f := 23) (args := #[.agg (hcells ⟨true, false, 0, 0⟩).toArray]) rfl (by kernel_rfl) (by rfl) (by go_simp) ?_
        refine (C23.out W2).mono ?_
        rintro e W3 ⟨v3, rfl, o3, b3⟩
        obtain ⟨p3, c3, rfl, r3⟩ := rowAt_own L24.out o3
        have hS3 := And.intro (block_next hS.1 b3) (hS.2.next b3)
        have hR3 := block_next hR2 b3
        have hB3 := Below.chain hB2 b3
        refine ⟨_, rfl, hS3, ?_⟩
        simp only [Act.put, List.setIfInBounds_toArray, List.set_cons_zero, List.set_cons_succ]
        have hc3 := r3.le
        rw [L24.out] at hc3
        have j3 : 4 ≤ c3 := by omega
        have j4 : (4 : Int) ≤ (c3 : Int) := by omega
        refine held_one 2 rfl (by kernel_rfl) (by rfl) ?_
        refine wp_value (v := .slice p3 4 c3) (w' := W3) (by go_simp) ⟨hS3, ?_⟩
        simp only [Act.put, List.setIfInBounds_toArray, List.set_cons_zero, List.set_cons_succ]
        have t3 := conv_row (n := 4) (by rw [List.length_take, L24.out]; rfl) (r3.head 4 (by rw [L24.out]; omega))
        refine held_one 3 rfl (by kernel_rfl) (by rfl) ?_
        refine wp_value (v := .string ⟨(hb.take 4).toArray⟩) (w' := W3) (by go_simp) ⟨hS3, ?_⟩
        simp only [Act.put, List.setIfInBounds_toArray, List.set_cons_zero, List.set_cons_succ]
        refine held_one 7 rfl (by kernel_rfl) (by rfl) ?_
        have HS3 := Lib.hid hS3
        have HR3 := Lib.hid hR3
        have HB3 := Lib.hid hB3
        clear hS hS3 hR2 hB2 hR3 hB3 o3 r3 b3 t3 hc3 j3 j4
        by_cases hw : Pc.who xs = some (true, false)
        · have e4 := HI.out.1 hw
          refine wp_value (v := .bool false) (w' := W3) (by rw [e4]; go_simp) ⟨HS3.out, ?_⟩
          simp only [Act.put, List.setIfInBounds_toArray, List.set_cons_zero, List.set_cons_succ]
          refine held_done (by kernel_rfl) ?_
          clear HI HNO
          by_cases h24 : n < 24
          · have i1 : (n : Int) < 24 := by omega
            obtain rfl := Q1.out hw (by rw [Hn.out]; exact h24)
            clear Q1 Q2 Q3 hw e4
            go_wp2_with (refine wpList_store_head rfl (.tmp 2) (.tmp 32) rfl w.heap.size Pc.hz _ rfl rfl HR3.out rfl ?_)
            exact bodyPost_ret (head_ret Try.results16 rfl rfl HR3.out) rfl ⟨rfl, below_setRow HB3.out (Nat.le_refl _) _⟩
          · have i1 : ¬ (n : Int) < 24 := by omega
            have hcut := fun W (h : RowAt W a cap xs) => h.cut 4 6 (by omega) (by rw [Hn.out]; omega)
            rw [if_neg (by omega), List.drop_take] at hcut
            have l2 : ((xs.drop 4).take (6 - 4)).length = 2 := by simp; have := Hn.out; omega
            have c27 := fun W h => refGet_at (a.map (·.add 4)) 2 (cap - 4) _ true W l2 (by omega) (by omega) (hcut W h).bytes
            have q2 := Q2.out hw (by rw [Hn.out]; exact h24)
            have q3 := Q3.out hw (by rw [Hn.out]; exact h24)
            have c16 := fun W h => refNum_any a n cap xs 16 true W Hn.out hm (by omega) h
            have c20 := fun W h => refNum_any a n cap xs 20 true W Hn.out hm (by omega) h
            have C16 := Lib.hid c16
            have C20 := Lib.hid c20
            have C27 := Lib.hid c27
            have q2x : ¬ Oc.get ((xs.drop 4).take (6 - 4)) true = 2 → A = (Pc.hz, 3) := q2
            have q3x : Oc.get ((xs.drop 4).take (6 - 4)) true = 2 → A = (⟨true, false, Pc.num xs 16 true, Pc.num xs 20 true⟩, 0) := q3
            have l16 := Pc.num_lt xs 16 true
            have l20 := Pc.num_lt xs 20 true
            generalize Pc.num xs 16 true = v16 at *
            generalize Pc.num xs 20 true = v20 at *
            generalize Oc.get ((xs.drop 4).take (6 - 4)) true = v2 at *
            clear Q1 Q2 Q3 hw e4 hcut c27 q2 q3 c16 c20
            have j5 : (6 : Int) ≤ (cap : Int) := by omega
            have j6 : ¬ cap = 4 := by omega
            have j7 : ¬ (cap : Int) = 4 := by omega
            go_wp2_with fail
            have hS : W3.drew.heap[T]? = some (.cells (hcells ⟨true, false, 0, 0⟩).toArray 24 (0, 0)) := HS3.out.1
            refine held_start (S := fun W => W.heap[T]? = some (.cells (hcells ⟨true, false, 0, 0⟩).toArray 24 (0, 0))) 6 (by kernel_rfl) rfl ?_
            refine held_take 0 (v := ?_) rfl (by kernel_rfl) (by kernel_rfl) (by kernel_rfl) (fun _ _ _ h => h) (by assumption) (by rfl) ?_ ?_
            rotate_left
            · (intro W hW; go_simp; try with_reducible rfl)
            simp only [Act.put, List.setIfInBounds_toArray, List.set_cons_zero, List.set_cons_succ]
            refine held_take 1 (v := .slice (a.map (·.add 4)) 2 (cap - 4)) rfl (by kernel_rfl) (by kernel_rfl) (by kernel_rfl) (fun _ _ _ h => h) (by assumption) (by rfl) (by intro W hW; clear hW; go_simp) ?_
            simp only [Act.put, List.setIfInBounds_toArray, List.set_cons_zero, List.set_cons_succ]
            refine held_take 2 (v := ?_) rfl (by kernel_rfl) (by kernel_rfl) (by kernel_rfl) (fun _ _ _ h => h) (by assumption) (by rfl) ?_ ?_
            rotate_left
            · (intro W hW; go_simp; try with_reducible rfl)
            simp only [Act.put, List.setIfInBounds_toArray, List.set_cons_zero, List.set_cons_succ]
            refine held_take 3 (v := ?_) rfl (by kernel_rfl) (by kernel_rfl) (by kernel_rfl) (fun _ _ _ h => h) (by assumption) (by rfl) ?_ ?_
            rotate_left
            · (intro W hW; (have t0 : W.cell? ⟨T, 0, none⟩ = some (.bool true) := cell_of_row _ _ _ _ _ _ hW); clear hW; go_simp; try with_reducible rfl)
            simp only [Act.put, List.setIfInBounds_toArray, List.set_cons_zero, List.set_cons_succ]
            have bd : Below W3.heap.size W3 W3.drew := (Below.refl _ _).drew
            have hR4 := block_next HR3.out bd
            have hB4 := Below.chain HB3.out bd
            have hrow4 := HS3.out.2.next bd
            clear HR3 HB3 HS3 bd
            generalize W3.drew = W4 at *
            refine held_call 4 (f := 27) (args := #[.slice (a.map (·.add 4)) 2 (cap - 4), .bool true]) rfl (by kernel_rfl) (by rfl) (by go_simp) ?_
            refine (C27.out W4 hrow4).mono ?_
            rintro e W5 ⟨rfl, h5⟩
            refine ⟨_, rfl, by rw [h5]; exact hS, ?_⟩
            rw [h5]
            clear h5 W5
            simp only [Act.put, List.setIfInBounds_toArray, List.set_cons_zero, List.set_cons_succ]
            refine held_one 5 rfl (by kernel_rfl) (by rfl) ?_
            have HR4 := Lib.hid hR4
            have HB4 := Lib.hid hB4
            have HS4 := Lib.hid hS
            have HW4 := Lib.hid hrow4
            clear hR4 hB4 hS hrow4
            by_cases t2 : v2 = 2
            · obtain rfl := q3x t2
              have u2 : ((v2 : Int) != 2) = false := by rw [t2]; rfl
              clear q2x q3x t2
              refine wp_value (v := .bool false) (w' := W4) (by go_simp) ⟨HS4.out, ?_⟩
              simp only [Act.put, List.setIfInBounds_toArray, List.set_cons_zero, List.set_cons_succ]
              refine held_done (by kernel_rfl) ?_
              have t0 : W4.cell? ⟨T, 0, none⟩ = some (.bool true) := cell_of_row _ _ _ _ _ _ HS4.out
              have d4 : W4.cell? ⟨T, 2, none⟩ = some (.int .u32 0) := cell_of_row _ _ _ _ _ _ HS4.out
              have f4 := frozen_of_row _ _ 2 _ _ HS4.out
              go_wp2_with fail
              refine (C16.out W4 HW4.out).mono ?_
              rintro e W5 ⟨rfl, h5⟩
              rw [h5]
              clear h5 W5
              have hT5 := heap_setCell_same W4 T 2 _ _ (.int .u32 (v16 : Int)) HS4.out
              have hR5 : (W4.setCell ⟨T, 2, none⟩ (.int .u32 (v16 : Int))).heap[w.heap.size]? = _ := (heap_setCell_other W4 _ _ _ (by simp; omega)).trans HR4.out
              have hB5 := HB4.out.setCell (p := ⟨T, 2, none⟩) (by simp; omega) (.int .u32 (v16 : Int))
              have hW5 := H.out.next hB5
              have t5 : (W4.setCell ⟨T, 2, none⟩ (.int .u32 (v16 : Int))).cell? ⟨T, 0, none⟩ = some (.bool true) := cell_of_row _ _ _ _ _ _ hT5
              have d5 : (W4.setCell ⟨T, 2, none⟩ (.int .u32 (v16 : Int))).cell? ⟨T, 3, none⟩ = some (.int .u32 0) := cell_of_row _ _ _ _ _ _ hT5
              have f5 := frozen_of_row _ _ 3 _ _ hT5
              have hT6 := heap_setCell_same _ T 3 _ _ (.int .u32 (v20 : Int)) hT5
              have hR6 : ((W4.setCell ⟨T, 2, none⟩ (.int .u32 (v16 : Int))).setCell ⟨T, 3, none⟩ (.int .u32 (v20 : Int))).heap[w.heap.size]? = _ := (heap_setCell_other _ _ _ _ (by simp; omega)).trans hR5
              have HB6 := Lib.hid (hB5.setCell (p := ⟨T, 3, none⟩) (by simp; omega) (.int .u32 (v20 : Int)))
              have HT6 := Lib.hid hT6
              have HR6 := Lib.hid hR6
              have HW5 := Lib.hid hW5
              clear hT5 hR5 hB5 hW5 hT6 hR6
              go_wp2_with fail
              refine (C20.out _ HW5.out).mono ?_
              rintro e W5 ⟨rfl, h5⟩
              rw [h5]
              clear h5 W5 HW5
              go_wp2_with (first | (refine wpList_load_row rfl 24 (.tmp 5) rfl T rfl 24 (hcells ⟨true, false, v16, v20⟩).toArray (0, 0) _ HT6.out Try.underlying24 rfl info24 ?_) | (refine wpList_store_head rfl (.tmp 2) (.tmp 50) rfl w.heap.size ⟨true, false, v16, v20⟩ _ rfl rfl HR6.out rfl ?_))
              exact bodyPost_ret (head_ret Try.results16 rfl rfl HR6.out) rfl ⟨rfl, below_setRow HB6.out (Nat.le_refl _) _⟩
            · obtain rfl := q2x t2
              have u2 : ((v2 : Int) != 2) = true := by simp; omega
              clear q2x q3x t2
              refine wp_value (v := .bool true) (w' := W4) (by go_simp) ⟨HS4.out, ?_⟩
              simp only [Act.put, List.setIfInBounds_toArray, List.set_cons_zero, List.set_cons_succ]
              refine held_done (by kernel_rfl) ?_
              go_wp2_with (refine wpList_store_head rfl (.tmp 2) (.tmp 39) rfl w.heap.size Pc.hz _ rfl rfl HR4.out rfl ?_)
              exact bodyPost_ret (head_ret Try.results16 rfl rfl HR4.out) rfl ⟨rfl, below_setRow HB4.out (Nat.le_refl _) _⟩
        · have e4 : ¬ hb.take 4 = xs.take 4 := fun e => hw (HI.out.2 e)
          refine wp_value (v := .bool true) (w' := W3) (by go_simp) ⟨HS3.out, ?_⟩
          simp only [Act.put, List.setIfInBounds_toArray, List.set_cons_zero, List.set_cons_succ]
          refine held_done (by kernel_rfl) ?_
          have HNW := Lib.hid hw
          clear e4 hw HI Q1 Q2 Q3
          go_wp2
          go_roundw
          case rel => exact ⟨1 + 1, by simp, by omega, (fun j hj => by
            rcases Nat.lt_succ_iff_lt_or_eq.1 hj with h | h
            · exact HNO.out j h
            · subst h; exact HNW.out), HB3.out, HR3.out⟩
          case measure => simp [intOf]
      · skip
        have q1 := fun hw => Pc.head_short xs Hn4.out (big := false) (nano := true) hw
        have q2 := fun hw => Pc.head_two xs Hn4.out (big := false) (nano := true) hw
        have q3 := fun hw => Pc.head_good xs Hn4.out (big := false) (nano := true) hw
        have hiff := Pc.who_iff xs H4.out false true
        have h4b := Pc.hbytes_four ⟨false, true, 0, 0⟩
        simp only at h4b
        rw [← h4b] at hiff
        rw [HA.out] at q1 q2 q3
        have c23 := fun W => header_any ⟨false, true, 0, 0⟩ W ⟨by decide, by decide⟩
        have l24 := Pc.hbytes_length ⟨false, true, 0, 0⟩
        generalize Pc.hbytes ⟨false, true, 0, 0⟩ = hb at *
        have hT := heap_alloc_new wr (.cells (hcells ⟨false, true, 0, 0⟩).toArray 24)
        have bT : Below wr.heap.size wr (wr.alloc (.cells (hcells ⟨false, true, 0, 0⟩).toArray 24)) := (Below.refl _ _).alloc (Nat.le_refl _) _
        have HT : Hid ((wr.alloc (.cells #[.bool false, .bool true, .int .u32 0, .int .u32 0] 24)).heap[wr.heap.size]? = some (.cells (hcells ⟨false, true, 0, 0⟩).toArray 24 (0, 0))) := hT
        have HR1 : Hid ((wr.alloc (.cells #[.bool false, .bool true, .int .u32 0, .int .u32 0] 24)).heap[w.heap.size]? = some (.cells (hcells Pc.hz).toArray 24 (0, 0))) := block_next hR bT
        have B1 : Hid (Below w.heap.size w (wr.alloc (.cells #[.bool false, .bool true, .int .u32 0, .int .u32 0] 24))) := Below.chain hbw bT
        have hRT : w.heap.size < wr.heap.size := lt_of_block hR
        have Q1 := Lib.hid q1
        have Q2 := Lib.hid q2
        have Q3 := Lib.hid q3
        have HI := Lib.hid hiff
        have C23 := Lib.hid c23
        have L24 := Lib.hid l24
        have HNO := Lib.hid hno
        clear hR hbw hT bT q1 q2 q3 hiff h4b c23 l24 hno
        go_wp2_with fail
        generalize wr.alloc (.cells #[.bool false, .bool true, .int .u32 0, .int .u32 0] 24) = W1 at *
        generalize wr.heap.size = T at *
        have hS : W1.drew.heap[T]? = some (.cells (hcells ⟨false, true, 0, 0⟩).toArray 24 (0, 0)) ∧ RowAt W1.drew a cap xs := ⟨HT.out, (H.out.next B1.out).next (Below.refl _ _).drew⟩
        have hcap := H.out.le
        rw [Hn.out] at hcap
        have j1 : 4 ≤ cap := by omega
        have j2 : (4 : Int) ≤ (cap : Int) := by omega
        refine held_start (S := fun W => W.heap[T]? = some (.cells (hcells ⟨false, true, 0, 0⟩).toArray 24 (0, 0)) ∧ RowAt W a cap xs) 8 (by kernel_rfl) rfl ?_
        refine held_take 0 (v := .agg (hcells ⟨false, true, 0, 0⟩).toArray) rfl (by kernel_rfl) (by kernel_rfl) (by kernel_rfl) (fun _ _ _ h => h) (by assumption) (by rfl) (fun W hW => run_load_head (.tmp 5) rfl T _ rfl hW.1) ?_
        simp only [Act.put, List.setIfInBounds_toArray, List.set_cons_zero, List.set_cons_succ]
        refine held_take 4 (v := ?_) rfl (by kernel_rfl) (by kernel_rfl) (by kernel_rfl) (fun _ _ _ h => h) (by assumption) (by rfl) ?_ ?_
        rotate_left
        · (intro W hW; go_simp; try with_reducible rfl)
        simp only [Act.put, List.setIfInBounds_toArray, List.set_cons_zero, List.set_cons_succ]
        refine held_take 5 (v := ?_) rfl (by kernel_rfl) (by kernel_rfl) (by kernel_rfl) (fun _ _ _ h => h) (by assumption) (by rfl) ?_ ?_
        rotate_left
        · (intro W hW; go_simp; try with_reducible rfl)
        simp only [Act.put, List.setIfInBounds_toArray, List.set_cons_zero, List.set_cons_succ]
        refine held_take 6 (v := ?_) rfl (by kernel_rfl) (by kernel_rfl) (by kernel_rfl) (fun _ _ _ h => h) (by assumption) (by rfl) ?_ ?_
        rotate_left
        · (intro W hW; (have t0 := conv_row (n := 4) (by simp; have := H4.out; omega) (hW.2.head 4 H4.out)); clear hW; go_simp; try with_reducible rfl)
        simp only [Act.put, List.setIfInBounds_toArray, List.set_cons_zero, List.set_cons_succ]
        have bd : Below W1.heap.size W1 W1.drew := (Below.refl _ _).drew
        have hR2 := block_next HR1.out bd
        have hB2 := Below.chain B1.out bd
        clear bd HT HR1 B1
        generalize W1.drew = W2 at *
        refine held_call 1 (f := 23) (args := #[.agg (hcells ⟨false, true, 0, 0⟩).toArray]) rfl (by kernel_rfl) (by rfl) (by go_simp) ?_
        refine (C23.out W2).mono ?_
        rintro e W3 ⟨v3, rfl, o3, b3⟩
        obtain ⟨p3, c3, rfl, r3⟩ := rowAt_own L24.out o3
        have hS3 := And.intro (block_next hS.1 b3) (hS.2.next b3)
        have hR3 := block_next hR2 b3
        have hB3 := Below.chain hB2 b3
        refine ⟨_, rfl, hS3, ?_⟩
        simp only [Act.put, List.setIfInBounds_toArray, List.set_cons_zero, List.set_cons_succ]
        have hc3 := r3.le
        rw [L24.out] at hc3
        have j3 : 4 ≤ c3 := by omega
        have j4 : (4 : Int) ≤ (c3 : Int) := by omega
        refine held_one 2 rfl (by kernel_rfl) (by rfl) ?_
        refine wp_value (v := .slice p3 4 c3) (w' := W3) (by go_simp) ⟨hS3, ?_⟩
        simp only [Act.put, List.setIfInBounds_toArray, List.set_cons_zero, List.set_cons_succ]
        have t3 := conv_row (n := 4) (by rw [List.length_take, L24.out]; rfl) (r3.head 4 (by rw [L24.out]; omega))
        refine held_one 3 rfl (by kernel_rfl) (by rfl) ?_
        refine wp_value (v := .string ⟨(hb.take 4).toArray⟩) (w' := W3) (by go_simp) ⟨hS3, ?_⟩
        simp only [Act.put, List.setIfInBounds_toArray, List.set_cons_zero, List.set_cons_succ]
        refine held_one 7 rfl (by kernel_rfl) (by rfl) ?_
        have HS3 := Lib.hid hS3
        have HR3 := Lib.hid hR3
        have HB3 := Lib.hid hB3
        clear hS hS3 hR2 hB2 hR3 hB3 o3 r3 b3 t3 hc3 j3 j4
        by_cases hw : Pc.who xs = some (false, true)
        · have e4 := HI.out.1 hw
          refine wp_value (v := .bool false) (w' := W3) (by rw [e4]; go_simp) ⟨HS3.out, ?_⟩
          simp only [Act.put, List.setIfInBounds_toArray, List.set_cons_zero, List.set_cons_succ]
          refine held_done (by kernel_rfl) ?_
          clear HI HNO
          by_cases h24 : n < 24
          · have i1 : (n : Int) < 24 := by omega
            obtain rfl := Q1.out hw (by rw [Hn.out]; exact h24)
            clear Q1 Q2 Q3 hw e4
            go_wp2_with (refine wpList_store_head rfl (.tmp 2) (.tmp 32) rfl w.heap.size Pc.hz _ rfl rfl HR3.out rfl ?_)
            exact bodyPost_ret (head_ret Try.results16 rfl rfl HR3.out) rfl ⟨rfl, below_setRow HB3.out (Nat.le_refl _) _⟩
          · have i1 : ¬ (n : Int) < 24 := by omega
            have hcut := fun W (h : RowAt W a cap xs) => h.cut 4 6 (by omega) (by rw [Hn.out]; omega)
            rw [if_neg (by omega), List.drop_take] at hcut
            have l2 : ((xs.drop 4).take (6 - 4)).length = 2 := by simp; have := Hn.out; omega
            have c27 := fun W h => refGet_at (a.map (·.add 4)) 2 (cap - 4) _ false W l2 (by omega) (by omega) (hcut W h).bytes
            have q2 := Q2.out hw (by rw [Hn.out]; exact h24)
            have q3 := Q3.out hw (by rw [Hn.out]; exact h24)
            have c16 := fun W h => refNum_any a n cap xs 16 false W Hn.out hm (by omega) h
            have c20 := fun W h => refNum_any a n cap xs 20 false W Hn.out hm (by omega) h
            have C16 := Lib.hid c16
            have C20 := Lib.hid c20
            have C27 := Lib.hid c27
            have q2x : ¬ Oc.get ((xs.drop 4).take (6 - 4)) false = 2 → A = (Pc.hz, 3) := q2
            have q3x : Oc.get ((xs.drop 4).take (6 - 4)) false = 2 → A = (⟨false, true, Pc.num xs 16 false, Pc.num xs 20 false⟩, 0) := q3
            have l16 := Pc.num_lt xs 16 false
            have l20 := Pc.num_lt xs 20 false
            generalize Pc.num xs 16 false = v16 at *
            generalize Pc.num xs 20 false = v20 at *
            generalize Oc.get ((xs.drop 4).take (6 - 4)) false = v2 at *
            clear Q1 Q2 Q3 hw e4 hcut c27 q2 q3 c16 c20
            have j5 : (6 : Int) ≤ (cap : Int) := by omega
            have j6 : ¬ cap = 4 := by omega
            have j7 : ¬ (cap : Int) = 4 := by omega
            go_wp2_with fail
            have hS : W3.drew.heap[T]? = some (.cells (hcells ⟨false, true, 0, 0⟩).toArray 24 (0, 0)) := HS3.out.1
            refine held_start (S := fun W => W.heap[T]? = some (.cells (hcells ⟨false, true, 0, 0⟩).toArray 24 (0, 0))) 6 (by kernel_rfl) rfl ?_
            refine held_take 0 (v := ?_) rfl (by kernel_rfl) (by kernel_rfl) (by kernel_rfl) (fun _ _ _ h => h) (by assumption) (by rfl) ?_ ?_
            rotate_left
            · (intro W hW; go_simp; try with_reducible rfl)
            simp only [Act.put, List.setIfInBounds_toArray, List.set_cons_zero, List.set_cons_succ]
            refine held_take 1 (v := .slice (a.map (·.add 4)) 2 (cap - 4)) rfl (by kernel_rfl) (by kernel_rfl) (by kernel_rfl) (fun _ _ _ h => h) (by assumption) (by rfl) (by intro W hW; clear hW; go_simp) ?_
            simp only [Act.put, List.setIfInBounds_toArray, List.set_cons_zero, List.set_cons_succ]
            refine held_take 2 (v := ?_) rfl (by kernel_rfl) (by kernel_rfl) (by kernel_rfl) (fun _ _ _ h => h) (by assumption) (by rfl) ?_ ?_
            rotate_left
            · (intro W hW; go_simp; try with_reducible rfl)
            simp only [Act.put, List.setIfInBounds_toArray, List.set_cons_zero, List.set_cons_succ]
            refine held_take 3 (v := ?_) rfl (by kernel_rfl) (by kernel_rfl) (by kernel_rfl) (fun _ _ _ h => h) (by assumption) (by rfl) ?_ ?_
            rotate_left
            · (intro W hW; (have t0 : W.cell? ⟨T, 0, none⟩ = some (.bool false) := cell_of_row _ _ _ _ _ _ hW); clear hW; go_simp; try with_reducible rfl)
            simp only [Act.put, List.setIfInBounds_toArray, List.set_cons_zero, List.set_cons_succ]
            have bd : Below W3.heap.size W3 W3.drew := (Below.refl _ _).drew
            have hR4 := block_next HR3.out bd
            have hB4 := Below.chain HB3.out bd
            have hrow4 := HS3.out.2.next bd
            clear HR3 HB3 HS3 bd
            generalize W3.drew = W4 at *
            refine held_call 4 (f := 27) (args := #[.slice (a.map (·.add 4)) 2 (cap - 4), .bool false]) rfl (by kernel_rfl) (by rfl) (by go_simp) ?_
            refine (C27.out W4 hrow4).mono ?_
            rintro e W5 ⟨rfl, h5⟩
            refine ⟨_, rfl, by rw [h5]; exact hS, ?_⟩
            rw [h5]
            clear h5 W5
            simp only [Act.put, List.setIfInBounds_toArray, List.set_cons_zero, List.set_cons_succ]
            refine held_one 5 rfl (by kernel_rfl) (by rfl) ?_
            have HR4 := Lib.hid hR4
            have HB4 := Lib.hid hB4
            have HS4 := Lib.hid hS
            have HW4 := Lib.hid hrow4
            clear hR4 hB4 hS hrow4
            by_cases t2 : v2 = 2
            · obtain rfl := q3x t2
              have u2 : ((v2 : Int) != 2) = false := by rw [t2]; rfl
              clear q2x q3x t2
              refine wp_value (v := .bool false) (w' := W4) (by go_simp) ⟨HS4.out, ?_⟩
              simp only [Act.put, List.setIfInBounds_toArray, List.set_cons_zero, List.set_cons_succ]
              refine held_done (by kernel_rfl) ?_
              have t0 : W4.cell? ⟨T, 0, none⟩ = some (.bool false) := cell_of_row _ _ _ _ _ _ HS4.out
              have d4 : W4.cell? ⟨T, 2, none⟩ = some (.int .u32 0) := cell_of_row _ _ _ _ _ _ HS4.out
              have f4 := frozen_of_row _ _ 2 _ _ HS4.out
              go_wp2_with fail
              refine (C16.out W4 HW4.out).mono ?_
              rintro e W5 ⟨rfl, h5⟩
              rw [h5]
              clear h5 W5
              have hT5 := heap_setCell_same W4 T 2 _ _ (.int .u32 (v16 : Int)) HS4.out
              have hR5 : (W4.setCell ⟨T, 2, none⟩ (.int .u32 (v16 : Int))).heap[w.heap.size]? = _ := (heap_setCell_other W4 _ _ _ (by simp; omega)).trans HR4.out
              have hB5 := HB4.out.setCell (p := ⟨T, 2, none⟩) (by simp; omega) (.int .u32 (v16 : Int))
              have hW5 := H.out.next hB5
              have t5 : (W4.setCell ⟨T, 2, none⟩ (.int .u32 (v16 : Int))).cell? ⟨T, 0, none⟩ = some (.bool false) := cell_of_row _ _ _ _ _ _ hT5
              have d5 : (W4.setCell ⟨T, 2, none⟩ (.int .u32 (v16 : Int))).cell? ⟨T, 3, none⟩ = some (.int .u32 0) := cell_of_row _ _ _ _ _ _ hT5
              have f5 := frozen_of_row _ _ 3 _ _ hT5
              have hT6 := heap_setCell_same _ T 3 _ _ (.int .u32 (v20 : Int)) hT5
              have hR6 : ((W4.setCell ⟨T, 2, none⟩ (.int .u32 (v16 : Int))).setCell ⟨T, 3, none⟩ (.int .u32 (v20 : Int))).heap[w.heap.size]? = _ := (heap_setCell_other _ _ _ _ (by simp; omega)).trans hR5
              have HB6 := Lib.hid (hB5.setCell (p := ⟨T, 3, none⟩) (by simp; omega) (.int .u32 (v20 : Int)))
              have HT6 := Lib.hid hT6
              have HR6 := Lib.hid hR6
              have HW5 := Lib.hid hW5
              clear hT5 hR5 hB5 hW5 hT6 hR6
              go_wp2_with fail
              refine (C20.out _ HW5.out).mono ?_
              rintro e W5 ⟨rfl, h5⟩
              rw [h5]
              clear h5 W5 HW5
              go_wp2_with (first | (refine wpList_load_row rfl 24 (.tmp 5) rfl T rfl 24 (hcells ⟨false, true, v16, v20⟩).toArray (0, 0) _ HT6.out Try.underlying24 rfl info24 ?_) | (refine wpList_store_head rfl (.tmp 2) (.tmp 50) rfl w.heap.size ⟨false, true, v16, v20⟩ _ rfl rfl HR6.out rfl ?_))
              exact bodyPost_ret (head_ret Try.results16 rfl rfl HR6.out) rfl ⟨rfl, below_setRow HB6.out (Nat.le_refl _) _⟩
            · obtain rfl := q2x t2
              have u2 : ((v2 : Int) != 2) = true := by simp; omega
              clear q2x q3x t2
              refine wp_value (v := .bool true) (w' := W4) (by go_simp) ⟨HS4.out, ?_⟩
              simp only [Act.put, List.setIfInBounds_toArray, List.set_cons_zero, List.set_cons_succ]
              refine held_done (by kernel_rfl) ?_
              go_wp2_with (refine wpList_store_head rfl (.tmp 2) (.tmp 39) rfl w.heap.size Pc.hz _ rfl rfl HR4.out rfl ?_)
              exact bodyPost_ret (head_ret Try.results16 rfl rfl HR4.out) rfl ⟨rfl, below_setRow HB4.out (Nat.le_refl _) _⟩
        · have e4 : ¬ hb.take 4 = xs.take 4 := fun e => hw (HI.out.2 e)
          refine wp_value (v := .bool true) (w' := W3) (by go_simp) ⟨HS3.out, ?_⟩
          simp only [Act.put, List.setIfInBounds_toArray, List.set_cons_zero, List.set_cons_succ]
          refine held_done (by kernel_rfl) ?_
          have HNW := Lib.hid hw
          clear e4 hw HI Q1 Q2 Q3
          go_wp2
          go_roundw
          case rel => exact ⟨2 + 1, by simp, by omega, (fun j hj => by
            rcases Nat.lt_succ_iff_lt_or_eq.1 hj with h | h
            · exact HNO.out j h
            · subst h; exact HNW.out), HB3.out, HR3.out⟩
          case measure => simp [intOf]
      · skip
        have q1 := fun hw => Pc.head_short xs Hn4.out (big := true) (nano := true) hw
        have q2 := fun hw => Pc.head_two xs Hn4.out (big := true) (nano := true) hw
        have q3 := fun hw => Pc.head_good xs Hn4.out (big := true) (nano := true) hw
        have hiff := Pc.who_iff xs H4.out true true
        have h4b := Pc.hbytes_four ⟨true, true, 0, 0⟩
        simp only at h4b
        rw [← h4b] at hiff
        rw [HA.out] at q1 q2 q3
        have c23 := fun W => header_any ⟨true, true, 0, 0⟩ W ⟨by decide, by decide⟩
        have l24 := Pc.hbytes_length ⟨true, true, 0, 0⟩
        generalize Pc.hbytes ⟨true, true, 0, 0⟩ = hb at *
        have hT := heap_alloc_new wr (.cells (hcells ⟨true, true, 0, 0⟩).toArray 24)
        have bT : Below wr.heap.size wr (wr.alloc (.cells (hcells ⟨true, true, 0, 0⟩).toArray 24)) := (Below.refl _ _).alloc (Nat.le_refl _) _
        have HT : Hid ((wr.alloc (.cells #[.bool true, .bool true, .int .u32 0, .int .u32 0] 24)).heap[wr.heap.size]? = some (.cells (hcells ⟨true, true, 0, 0⟩).toArray 24 (0, 0))) := hT
        have HR1 : Hid ((wr.alloc (.cells #[.bool true, .bool true, .int .u32 0, .int .u32 0] 24)).heap[w.heap.size]? = some (.cells (hcells Pc.hz).toArray 24 (0, 0))) := block_next hR bT
        have B1 : Hid (Below w.heap.size w (wr.alloc (.cells #[.bool true, .bool true, .int .u32 0, .int .u32 0] 24))) := Below.chain hbw bT
        have hRT : w.heap.size < wr.heap.size := lt_of_block hR
        have Q1 := Lib.hid q1
        have Q2 := Lib.hid q2
        have Q3 := Lib.hid q3
        have HI := Lib.hid hiff
        have C23 := Lib.hid c23
        have L24 := Lib.hid l24
        have HNO := Lib.hid hno
        clear hR hbw hT bT q1 q2 q3 hiff h4b c23 l24 hno
        go_wp2_with fail
        generalize wr.alloc (.cells #[.bool true, .bool true, .int .u32 0, .int .u32 0] 24) = W1 at *
        generalize wr.heap.size = T at *
        have hS : W1.drew.heap[T]? = some (.cells (hcells ⟨true, true, 0, 0⟩).toArray 24 (0, 0)) ∧ RowAt W1.drew a cap xs := ⟨HT.out, (H.out.next B1.out).next (Below.refl _ _).drew⟩
        have hcap := H.out.le
        rw [Hn.out] at hcap
        have j1 : 4 ≤ cap := by omega
        have j2 : (4 : Int) ≤ (cap : Int) := by omega
        refine held_start (S := fun W => W.heap[T]? = some (.cells (hcells ⟨true, true, 0, 0⟩).toArray 24 (0, 0)) ∧ RowAt W a cap xs) 8 (by kernel_rfl) rfl ?_
        refine held_take 0 (v := .agg (hcells ⟨true, true, 0, 0⟩).toArray) rfl (by kernel_rfl) (by kernel_rfl) (by kernel_rfl) (fun _ _ _ h => h) (by assumption) (by rfl) (fun W hW => run_load_head (.tmp 5) rfl T _ rfl hW.1) ?_
        simp only [Act.put, List.setIfInBounds_toArray, List.set_cons_zero, List.set_cons_succ]
        refine held_take 4 (v := ?_) rfl (by kernel_rfl) (by kernel_rfl) (by kernel_rfl) (fun _ _ _ h => h) (by assumption) (by rfl) ?_ ?_
        rotate_left
        · (intro W hW; go_simp; try with_reducible rfl)
        simp only [Act.put, List.setIfInBounds_toArray, List.set_cons_zero, List.set_cons_succ]
        refine held_take 5 (v := ?_) rfl (by kernel_rfl) (by kernel_rfl) (by kernel_rfl) (fun _ _ _ h => h) (by assumption) (by rfl) ?_ ?_
        rotate_left
        · (intro W hW; go_simp; try with_reducible rfl)
        simp only [Act.put, List.setIfInBounds_toArray, List.set_cons_zero, List.set_cons_succ]
        refine held_take 6 (v := ?_) rfl (by kernel_rfl) (by kernel_rfl) (by kernel_rfl) (fun _ _ _ h => h) (by assumption) (by rfl) ?_ ?_
        rotate_left
        · (intro W hW; (have t0 := conv_row (n := 4) (by simp; have := H4.out; omega) (hW.2.head 4 H4.out)); clear hW; go_simp; try with_reducible rfl)
        simp only [Act.put, List.setIfInBounds_toArray, List.set_cons_zero, List.set_cons_succ]
        have bd : Below W1.heap.size W1 W1.drew := (Below.refl _ _).drew
        have hR2 := block_next HR1.out bd
        have hB2 := Below.chain B1.out bd
        clear bd HT HR1 B1
        generalize W1.drew = W2 at *
        refine held_call 1 (f := 23) (args := #[.agg (hcells ⟨true, true, 0, 0⟩).toArray]) rfl (by kernel_rfl) (by rfl) (by go_simp) ?_
        refine (C23.out W2).mono ?_
        rintro e W3 ⟨v3, rfl, o3, b3⟩
        obtain ⟨p3, c3, rfl, r3⟩ := rowAt_own L24.out o3
        have hS3 := And.intro (block_next hS.1 b3) (hS.2.next b3)
        have hR3 := block_next hR2 b3
        have hB3 := Below.chain hB2 b3
        refine ⟨_, rfl, hS3, ?_⟩
        simp only [Act.put, List.setIfInBounds_toArray, List.set_cons_zero, List.set_cons_succ]
        have hc3 := r3.le
        rw [L24.out] at hc3
        have j3 : 4 ≤ c3 := by omega
        have j4 : (4 : Int) ≤ (c3 : Int) := by omega
        refine held_one 2 rfl (by kernel_rfl) (by rfl) ?_
        refine wp_value (v := .slice p3 4 c3) (w' := W3) (by go_simp) ⟨hS3, ?_⟩
        simp only [Act.put, List.setIfInBounds_toArray, List.set_cons_zero, List.set_cons_succ]
        have t3 := conv_row (n := 4) (by rw [List.length_take, L24.out]; rfl) (r3.head 4 (by rw [L24.out]; omega))
        refine held_one 3 rfl (by kernel_rfl) (by rfl) ?_
        refine wp_value (v := .string ⟨(hb.take 4).toArray⟩) (w' := W3) (by go_simp) ⟨hS3, ?_⟩
        simp only [Act.put, List.setIfInBounds_toArray, List.set_cons_zero, List.set_cons_succ]
        refine held_one 7 rfl (by kernel_rfl) (by rfl) ?_
        have HS3 := Lib.hid hS3
        have HR3 := Lib.hid hR3
        have HB3 := Lib.hid hB3
        clear hS hS3 hR2 hB2 hR3 hB3 o3 r3 b3 t3 hc3 j3 j4
        by_cases hw : Pc.who xs = some (true, true)
        · have e4 := HI.out.1 hw
          refine wp_value (v := .bool false) (w' := W3) (by rw [e4]; go_simp) ⟨HS3.out, ?_⟩
          simp only [Act.put, List.setIfInBounds_toArray, List.set_cons_zero, List.set_cons_succ]
          refine held_done (by kernel_rfl) ?_
          clear HI HNO
          by_cases h24 : n < 24
          · have i1 : (n : Int) < 24 := by omega
            obtain rfl := Q1.out hw (by rw [Hn.out]; exact h24)
            clear Q1 Q2 Q3 hw e4
            go_wp2_with (refine wpList_store_head rfl (.tmp 2) (.tmp 32) rfl w.heap.size Pc.hz _ rfl rfl HR3.out rfl ?_)
            exact bodyPost_ret (head_ret Try.results16 rfl rfl HR3.out) rfl ⟨rfl, below_setRow HB3.out (Nat.le_refl _) _⟩
          · have i1 : ¬ (n : Int) < 24 := by omega
            have hcut := fun W (h : RowAt W a cap xs) => h.cut 4 6 (by omega) (by rw [Hn.out]; omega)
            rw [if_neg (by omega), List.drop_take] at hcut
            have l2 : ((xs.drop 4).take (6 - 4)).length = 2 := by simp; have := Hn.out; omega
            have c27 := fun W h => refGet_at (a.map (·.add 4)) 2 (cap - 4) _ true W l2 (by omega) (by omega) (hcut W h).bytes
            have q2 := Q2.out hw (by rw [Hn.out]; exact h24)
            have q3 := Q3.out hw (by rw [Hn.out]; exact h24)
            have c16 := fun W h => refNum_any a n cap xs 16 true W Hn.out hm (by omega) h
            have c20 := fun W h => refNum_any a n cap xs 20 true W Hn.out hm (by omega) h
            have C16 := Lib.hid c16
            have C20 := Lib.hid c20
            have C27 := Lib.hid c27
            have q2x : ¬ Oc.get ((xs.drop 4).take (6 - 4)) true = 2 → A = (Pc.hz, 3) := q2
            have q3x : Oc.get ((xs.drop 4).take (6 - 4)) true = 2 → A = (⟨true, true, Pc.num xs 16 true, Pc.num xs 20 true⟩, 0) := q3
            have l16 := Pc.num_lt xs 16 true
            have l20 := Pc.num_lt xs 20 true
            generalize Pc.num xs 16 true = v16 at *
            generalize Pc.num xs 20 true = v20 at *
            generalize Oc.get ((xs.drop 4).take (6 - 4)) true = v2 at *
            clear Q1 Q2 Q3 hw e4 hcut c27 q2 q3 c16 c20
            have j5 : (6 : Int) ≤ (cap : Int) := by omega
            have j6 : ¬ cap = 4 := by omega
            have j7 : ¬ (cap : Int) = 4 := by omega
            go_wp2_with fail
            have hS : W3.drew.heap[T]? = some (.cells (hcells ⟨true, true, 0, 0⟩).toArray 24 (0, 0)) := HS3.out.1
            refine held_start (S := fun W => W.heap[T]? = some (.cells (hcells ⟨true, true, 0, 0⟩).toArray 24 (0, 0))) 6 (by kernel_rfl) rfl ?_
            refine held_take 0 (v := ?_) rfl (by kernel_rfl) (by kernel_rfl) (by kernel_rfl) (fun _ _ _ h => h) (by assumption) (by rfl) ?_ ?_
            rotate_left
            · (intro W hW; go_simp; try with_reducible rfl)
            simp only [Act.put, List.setIfInBounds_toArray, List.set_cons_zero, List.set_cons_succ]
            refine held_take 1 (v := .slice (a.map (·.add 4)) 2 (cap - 4)) rfl (by kernel_rfl) (by kernel_rfl) (by kernel_rfl) (fun _ _ _ h => h) (by assumption) (by rfl) (by intro W hW; clear hW; go_simp) ?_
            simp only [Act.put, List.setIfInBounds_toArray, List.set_cons_zero, List.set_cons_succ]
            refine held_take 2 (v := ?_) rfl (by kernel_rfl) (by kernel_rfl) (by kernel_rfl) (fun _ _ _ h => h) (by assumption) (by rfl) ?_ ?_
            rotate_left
            · (intro W hW; go_simp; try with_reducible rfl)
            simp only [Act.put, List.setIfInBounds_toArray, List.set_cons_zero, List.set_cons_succ]
            refine held_take 3 (v := ?_) rfl (by kernel_rfl) (by kernel_rfl) (by kernel_rfl) (fun _ _ _ h => h) (by assumption) (by rfl) ?_ ?_
            rotate_left
            · (intro W hW; (have t0 : W.cell? ⟨T, 0, none⟩ = some (.bool true) := cell_of_row _ _ _ _ _ _ hW); clear hW; go_simp; try with_reducible rfl)
            simp only [Act.put, List.setIfInBounds_toArray, List.set_cons_zero, List.set_cons_succ]
            have bd : Below W3.heap.size W3 W3.drew := (Below.refl _ _).drew
            have hR4 := block_next HR3.out bd
            have hB4 := Below.chain HB3.out bd
            have hrow4 := HS3.out.2.next bd
            clear HR3 HB3 HS3 bd
            generalize W3.drew = W4 at *
            refine held_call 4 (f := 27) (args := #[.slice (a.map (·.add 4)) 2 (cap - 4), .bool true]) rfl (by kernel_rfl) (by rfl) (by go_simp) ?_
            refine (C27.out W4 hrow4).mono ?_
            rintro e W5 ⟨rfl, h5⟩
            refine ⟨_, rfl, by rw [h5]; exact hS, ?_⟩
            rw [h5]
            clear h5 W5
            simp only [Act.put, List.setIfInBounds_toArray, List.set_cons_zero, List.set_cons_succ]
            refine held_one 5 rfl (by kernel_rfl) (by rfl) ?_
            have HR4 := Lib.hid hR4
            have HB4 := Lib.hid hB4
            have HS4 := Lib.hid hS
            have HW4 := Lib.hid hrow4
            clear hR4 hB4 hS hrow4
            by_cases t2 : v2 = 2
            · obtain rfl := q3x t2
              have u2 : ((v2 : Int) != 2) = false := by rw [t2]; rfl
              clear q2x q3x t2
              refine wp_value (v := .bool false) (w' := W4) (by go_simp) ⟨HS4.out, ?_⟩
              simp only [Act.put, List.setIfInBounds_toArray, List.set_cons_zero, List.set_cons_succ]
              refine held_done (by kernel_rfl) ?_
              have t0 : W4.cell? ⟨T, 0, none⟩ = some (.bool true) := cell_of_row _ _ _ _ _ _ HS4.out
              have d4 : W4.cell? ⟨T, 2, none⟩ = some (.int .u32 0) := cell_of_row _ _ _ _ _ _ HS4.out
              have f4 := frozen_of_row _ _ 2 _ _ HS4.out
              go_wp2_with fail
              refine (C16.out W4 HW4.out).mono ?_
              rintro e W5 ⟨rfl, h5⟩
              rw [h5]
              clear h5 W5
              have hT5 := heap_setCell_same W4 T 2 _ _ (.int .u32 (v16 : Int)) HS4.out
              have hR5 : (W4.setCell ⟨T, 2, none⟩ (.int .u32 (v16 : Int))).heap[w.heap.size]? = _ := (heap_setCell_other W4 _ _ _ (by simp; omega)).trans HR4.out
              have hB5 := HB4.out.setCell (p := ⟨T, 2, none⟩) (by simp; omega) (.int .u32 (v16 : Int))
              have hW5 := H.out.next hB5
              have t5 : (W4.setCell ⟨T, 2, none⟩ (.int .u32 (v16 : Int))).cell? ⟨T, 0, none⟩ = some (.bool true) := cell_of_row _ _ _ _ _ _ hT5
              have d5 : (W4.setCell ⟨T, 2, none⟩ (.int .u32 (v16 : Int))).cell? ⟨T, 3, none⟩ = some (.int .u32 0) := cell_of_row _ _ _ _ _ _ hT5
              have f5 := frozen_of_row _ _ 3 _ _ hT5
              have hT6 := heap_setCell_same _ T 3 _ _ (.int .u32 (v20 : Int)) hT5
              have hR6 : ((W4.setCell ⟨T, 2, none⟩ (.int .u32 (v16 : Int))).setCell ⟨T, 3, none⟩ (.int .u32 (v20 : Int))).heap[w.heap.size]? = _ := (heap_setCell_other _ _ _ _ (by simp; omega)).trans hR5
              have HB6 := Lib.hid (hB5.setCell (p := ⟨T, 3, none⟩) (by simp; omega) (.int .u32 (v20 : Int)))
              have HT6 := Lib.hid hT6
              have HR6 := Lib.hid hR6
              have HW5 := Lib.hid hW5
              clear hT5 hR5 hB5 hW5 hT6 hR6
              go_wp2_with fail
              refine (C20.out _ HW5.out).mono ?_
              rintro e W5 ⟨rfl, h5⟩
              rw [h5]
              clear h5 W5 HW5
              go_wp2_with (first | (refine wpList_load_row rfl 24 (.tmp 5) rfl T rfl 24 (hcells ⟨true, true, v16, v20⟩).toArray (0, 0) _ HT6.out Try.underlying24 rfl info24 ?_) | (refine wpList_store_head rfl (.tmp 2) (.tmp 50) rfl w.heap.size ⟨true, true, v16, v20⟩ _ rfl rfl HR6.out rfl ?_))
              exact bodyPost_ret (head_ret Try.results16 rfl rfl HR6.out) rfl ⟨rfl, below_setRow HB6.out (Nat.le_refl _) _⟩
            · obtain rfl := q2x t2
              have u2 : ((v2 : Int) != 2) = true := by simp; omega
              clear q2x q3x t2
              refine wp_value (v := .bool true) (w' := W4) (by go_simp) ⟨HS4.out, ?_⟩
              simp only [Act.put, List.setIfInBounds_toArray, List.set_cons_zero, List.set_cons_succ]
              refine held_done (by kernel_rfl) ?_
              go_wp2_with (refine wpList_store_head rfl (.tmp 2) (.tmp 39) rfl w.heap.size Pc.hz _ rfl rfl HR4.out rfl ?_)
              exact bodyPost_ret (head_ret Try.results16 rfl rfl HR4.out) rfl ⟨rfl, below_setRow HB4.out (Nat.le_refl _) _⟩
        · have e4 : ¬ hb.take 4 = xs.take 4 := fun e => hw (HI.out.2 e)
          refine wp_value (v := .bool true) (w' := W3) (by go_simp) ⟨HS3.out, ?_⟩
          simp only [Act.put, List.setIfInBounds_toArray, List.set_cons_zero, List.set_cons_succ]
          refine held_done (by kernel_rfl) ?_
          have HNW := Lib.hid hw
          clear e4 hw HI Q1 Q2 Q3
          go_wp2
          go_roundw
          case rel => exact ⟨3 + 1, by simp, by omega, (fun j hj => by
            rcases Nat.lt_succ_iff_lt_or_eq.1 hj with h | h
            · exact HNO.out j h
            · subst h; exact HNW.out), HB3.out, HR3.out⟩
          case measure => simp [intOf]
      · have hw : Pc.who xs = none := by
          cases hq : Pc.who xs with
          | none => rfl
          | some p =>
            exfalso
            obtain ⟨x, y⟩ := p
            have h0 := hno 0 (by omega)
            have h1 := hno 1 (by omega)
            have h2 := hno 2 (by omega)
            have h3 := hno 3 (by omega)
            rw [hq] at h0 h1 h2 h3
            cases x <;> cases y
            · exact h0 rfl
            · exact h2 rfl
            · exact h1 rfl
            · exact h3 rfl
        obtain rfl := QN.out hw
        have HR := Lib.hid hR
        have HB := Lib.hid hbw
        clear hR hbw hno hw
        go_wp2_with (refine wpList_store_head rfl (.tmp 2) (.tmp 51) rfl w.heap.size Pc.hz _ rfl rfl HR.out rfl ?_)
        exact bodyPost_ret (head_ret Try.results16 rfl rfl HR.out) rfl ⟨rfl, below_setRow HB.out (Nat.le_refl _) _⟩
end Go.Proofs.Ytfkjjolohphaoaa
