/- Contract of the document's Next. -/
import Derived.Test.YtfkjjolohphaoaaRu
namespace Go.Proofs.Ytfkjjolohphaoaa
open Go.RowKit

set_option maxRecDepth 100000 in
set_option maxHeartbeats 4000000 in
theorem refNext_any (a : Option Addr) (n cap : Nat) (xs : List UInt8) (big : Bool) (w : World) (hn : xs.length = n) (hm : n ≤ 300000) (h : RowAt w a cap xs) :
    Calls Try.prog 19 #[.slice a n cap, .bool big] w fun e w' => NextRes w w' e (Pc.next xs big) := by
  by_cases h16 : n < 16
  · rw [Pc.next_end xs big (by omega)]
    have i1 : (n : Int) < 16 := by omega
    go_enter Try.func19, Try.ntmps19
    go_wp2
    exact bodyPost_ret (rec_ret0 (r := Pc.rz) (v := .slice none 0 0) Try.results19 rfl rfl rfl) rfl (next_none ((Below.refl _ _).alloc (Nat.le_refl _) _))
  · have i1 : ¬ (n : Int) < 16 := by omega
    have q1 := Pc.next_long xs big (by omega)
    have q2 := Pc.next_short xs big (by omega)
    have q3 := Pc.next_good xs big (by omega)
    have l0 := Pc.num_lt xs 0 big
    have l4 := Pc.num_lt xs 4 big
    have l8 := Pc.num_lt xs 8 big
    have l12 := Pc.num_lt xs 12 big
    have c0 := fun W h => refNum_any a n cap xs 0 big W hn hm (by omega) h
    have c4 := fun W h => refNum_any a n cap xs 4 big W hn hm (by omega) h
    have c8 := fun W h => refNum_any a n cap xs 8 big W hn hm (by omega) h
    have c12 := fun W h => refNum_any a n cap xs 12 big W hn hm (by omega) h
    obtain ⟨A, hA⟩ : ∃ A, Pc.next xs big = A := ⟨_, rfl⟩
    rw [hA] at q1 q2 q3 ⊢
    generalize Pc.num xs 0 big = v0 at *
    generalize Pc.num xs 4 big = v4 at *
    generalize Pc.num xs 8 big = v8 at *
    generalize Pc.num xs 12 big = v12 at *
    rw [hn] at q2 q3
    have hle := h.le
    rw [hn] at hle
    have hcut : ¬ n < 16 + v8 → ∀ W, RowAt W a cap xs → RowAt W (if cap = 16 then a else a.map (·.add 16)) (cap - 16) ((xs.drop 16).take v8) := fun hle2 W hW => by
      have := hW.cut 16 (16 + v8) (by omega) (by omega)
      rw [List.drop_take, Nat.add_sub_cancel_left] at this
      exact this
    have hys : ¬ n < 16 + v8 → ((xs.drop 16).take v8).length = v8 := fun hle => by simp; omega
    generalize (xs.drop 16).take v8 = ys at *
    have Q1 := Lib.hid q1
    have Q2 := Lib.hid q2
    have Q3 := Lib.hid q3
    have H := Lib.hid h
    have C0 := Lib.hid c0
    have C4 := Lib.hid c4
    have C8 := Lib.hid c8
    have C12 := Lib.hid c12
    have HC := Lib.hid hcut
    have Hys := Lib.hid hys
    clear q1 q2 q3 h c0 c4 c8 c12 hA hn hcut hys
    have hw8 : IntKind.i64.wrap (v8 : Int) = (v8 : Int) := by rw [IntKind.wrap_i64]; omega
    have hR1 := heap_alloc_new w (.cells (rcells Pc.rz (.slice none 0 0)).toArray 46)
    have b1 : Below w.heap.size w (w.alloc (.cells (rcells Pc.rz (.slice none 0 0)).toArray 46)) := (Below.refl _ _).alloc (Nat.le_refl _) _
    have HR1 : Hid ((w.alloc (.cells #[.int .u32 0, .int .u32 0, .int .u32 0, .slice none 0 0] 46)).heap[w.heap.size]? = some (.cells (rcells Pc.rz (.slice none 0 0)).toArray 46 (0, 0))) := hR1
    have B1 : Hid (Below w.heap.size w (w.alloc (.cells #[.int .u32 0, .int .u32 0, .int .u32 0, .slice none 0 0] 46))) := b1
    clear hR1 b1
    go_enter Try.func19, Try.ntmps19
    go_wp2_with fail
    generalize w.alloc (.cells #[.int .u32 0, .int .u32 0, .int .u32 0, .slice none 0 0] 46) = W1 at *
    refine (C8.out _ (H.out.next B1.out)).mono ?_
    rintro e w2 ⟨rfl, h2⟩
    rw [h2]
    clear h2 C8
    by_cases u1 : 131072 < v8
    · obtain rfl := Q1.out u1
      clear Q1 Q2 Q3 C0 C4 C12 HC Hys
      have j1 : 131072 < (v8 : Int) := by omega
      go_wp2_with (refine wpList_store_rec rfl (.tmp 4) (.tmp 19) rfl w.heap.size Pc.rz none 0 0 _ rfl rfl HR1.out rfl ?_)
      exact bodyPost_ret (rec_ret (r := Pc.rz) (v := .slice none 0 0) Try.results19 rfl rfl rfl HR1.out) rfl (next_none (below_setRow B1.out (Nat.le_refl _) _))
    · have j1 : ¬ 131072 < (v8 : Int) := by omega
      by_cases u2 : n < 16 + v8
      · obtain rfl := Q2.out u1 u2
        clear Q1 Q2 Q3 C0 C4 C12 HC Hys
        have j2 : (n : Int) < 16 + (v8 : Int) := by omega
        go_wp2_with (refine wpList_store_rec rfl (.tmp 4) (.tmp 25) rfl w.heap.size Pc.rz none 0 0 _ rfl rfl HR1.out rfl ?_)
        exact bodyPost_ret (rec_ret (r := Pc.rz) (v := .slice none 0 0) Try.results19 rfl rfl rfl HR1.out) rfl (next_none (below_setRow B1.out (Nat.le_refl _) _))
      · obtain rfl := Q3.out u1 u2
        have hy := Hys.out u2
        have j2 : ¬ (n : Int) < 16 + (v8 : Int) := by omega
        clear Q1 Q2 Q3 Hys
        go_wp2_with fail
        refine (C0.out _ (H.out.next B1.out)).mono ?_
        rintro e w3 ⟨rfl, h3⟩
        rw [h3]
        clear h3 C0
        go_wp2_with fail
        refine (C4.out _ (H.out.next B1.out)).mono ?_
        rintro e w3 ⟨rfl, h3⟩
        rw [h3]
        clear h3 C4
        go_wp2_with fail
        refine (C12.out _ (H.out.next B1.out)).mono ?_
        rintro e w3 ⟨rfl, h3⟩
        rw [h3]
        clear h3 C12
        have hT := heap_alloc_new W1 (.cells (rcells ⟨v0, v4, v12, ys⟩ (.slice none 0 0)).toArray 46)
        have b2 : Below W1.heap.size W1 (W1.alloc (.cells (rcells ⟨v0, v4, v12, ys⟩ (.slice none 0 0)).toArray 46)) := (Below.refl _ _).alloc (Nat.le_refl _) _
        have hR2 := block_next HR1.out b2
        have HT : Hid ((W1.alloc (.cells #[.int .u32 (v0 : Int), .int .u32 (v4 : Int), .int .u32 (v12 : Int), .slice none 0 0] 46)).heap[W1.heap.size]? = some (.cells (rcells ⟨v0, v4, v12, ys⟩ (.slice none 0 0)).toArray 46 (0, 0))) := hT
        have HR2 : Hid ((W1.alloc (.cells #[.int .u32 (v0 : Int), .int .u32 (v4 : Int), .int .u32 (v12 : Int), .slice none 0 0] 46)).heap[w.heap.size]? = some (.cells (rcells Pc.rz (.slice none 0 0)).toArray 46 (0, 0))) := hR2
        have B2 : Hid (Below w.heap.size w (W1.alloc (.cells #[.int .u32 (v0 : Int), .int .u32 (v4 : Int), .int .u32 (v12 : Int), .slice none 0 0] 46))) := Below.chain B1.out b2
        have hlt1 := lt_of_block HR1.out
        have hge1 := B1.out.size
        clear hT b2 hR2
        go_wp2_with fail
        generalize W1.alloc (.cells #[.int .u32 (v0 : Int), .int .u32 (v4 : Int), .int .u32 (v12 : Int), .slice none 0 0] 46) = W2 at *
        generalize W1.heap.size = T at *
        have hS : W2.drew.heap[T]? = some (.cells (rcells ⟨v0, v4, v12, ys⟩ (.slice none 0 0)).toArray 46 (0, 0)) := HT.out
        have hTr : True := trivial
        refine held_start (S := fun _ => True) 9 (by kernel_rfl) rfl ?_
        refine held_take 0 (v := ?_) rfl (by kernel_rfl) (by kernel_rfl) (by kernel_rfl) (fun _ _ _ h => h) (by assumption) (by rfl) ?_ ?_
        rotate_left
        · (intro W hW; go_simp; try with_reducible rfl)
        simp only [Act.put, List.setIfInBounds_toArray, List.set_cons_zero, List.set_cons_succ]
        have hw16 : IntKind.i64.wrap (16 + (v8 : Int)) = 16 + (v8 : Int) := by rw [IntKind.wrap_i64]; omega
        have hz16 : (16 + (v8 : Int)).toNat - 16 = v8 := by omega
        refine held_take 2 (v := ?_) rfl (by kernel_rfl) (by kernel_rfl) (by kernel_rfl) (fun _ _ _ h => h) (by assumption) (by rfl) ?_ ?_
        rotate_left
        · (intro W hW; go_simp; try with_reducible rfl)
        simp only [Act.put, List.setIfInBounds_toArray, List.set_cons_zero, List.set_cons_succ]
        refine held_take 3 (v := ?_) rfl (by kernel_rfl) (by kernel_rfl) (by kernel_rfl) (fun _ _ _ h => h) (by assumption) (by rfl) ?_ ?_
        rotate_left
        · (intro W hW; go_simp; try with_reducible rfl)
        simp only [Act.put, List.setIfInBounds_toArray, List.set_cons_zero, List.set_cons_succ]
        refine held_take 4 (v := ?_) rfl (by kernel_rfl) (by kernel_rfl) (by kernel_rfl) (fun _ _ _ h => h) (by assumption) (by rfl) ?_ ?_
        rotate_left
        · (intro W hW; skip; go_simp; try with_reducible rfl)
        simp only [Act.put, List.setIfInBounds_toArray, List.set_cons_zero, List.set_cons_succ]
        have j3 : (16 : Int) + (v8 : Int) ≤ (cap : Int) := by omega
        have j4 : 16 + v8 ≤ cap := by omega
        refine held_take 5 (v := .slice (if cap = 16 then a else a.map (·.add 16)) v8 (cap - 16)) rfl (by kernel_rfl) (by kernel_rfl) (by kernel_rfl) (fun _ _ _ h => h) (by assumption) (by rfl) ?_ ?_
        · intro W hW
          clear hW
          by_cases hca : cap = 16
          · have j5 : (cap : Int) = 16 := by omega
            rw [if_pos hca]
            subst hca
            go_simp
            rw [if_pos ⟨by omega, by omega⟩, if_pos (by omega)]
          · have j5 : ¬ (cap : Int) = 16 := by omega
            rw [if_neg hca]
            go_simp
            rw [if_pos (by omega), if_pos (by omega)]
        simp only [Act.put, List.setIfInBounds_toArray, List.set_cons_zero, List.set_cons_succ]
        have hrow := HC.out u2 _ ((H.out.next B2.out).next (Below.refl _ _).drew)
        have bd : Below W2.heap.size W2 W2.drew := (Below.refl _ _).drew
        generalize (if cap = 16 then a else a.map (·.add 16)) = q at *
        generalize cap - 16 = qc at *
        have hR3 := block_next HR2.out bd
        have hB3 := Below.chain B2.out bd
        clear HR2 B2 bd HT HC H
        generalize W2.drew = W3 at *
        refine held_one 1 rfl (by kernel_rfl) (by rfl) ?_
        have t0 : W3.cell? ⟨T, 3, none⟩ = some (.slice none 0 0) := cell_of_row _ _ _ _ _ _ hS
        refine wp_value (v := .slice none 0 0) (w' := W3) (by go_simp) ⟨trivial, ?_⟩
        simp only [Act.put, List.setIfInBounds_toArray, List.set_cons_zero, List.set_cons_succ]
        refine held_one 6 rfl (by kernel_rfl) (by rfl) ?_
        refine wp_append_row (.tmp 37) (.tmp 41) rfl W3.heap.size (.slice none 0 0) 0 [] rfl (World.ownsRow_nil _ _ _ _) q v8 qc ys rfl hy hrow (by omega) (Nat.le_refl _) ?_
        intro v W4 o4 g4
        have b4 : Below W3.heap.size W3 W4 := Below.grown (Below.refl _ _) g4 (Nat.le_refl _) (fun k hk => by simp [Value.ownBlock] at hk)
        have hS4 := block_next hS b4
        have hR4 := block_next hR3 b4
        have hB4 := Below.chain hB3 b4
        refine ⟨trivial, ?_⟩
        simp only [Act.put, List.setIfInBounds_toArray, List.set_cons_zero, List.set_cons_succ]
        refine held_take 7 (v := ?_) rfl (by kernel_rfl) (by kernel_rfl) (by kernel_rfl) (fun _ _ _ h => h) (by assumption) (by rfl) ?_ ?_
        rotate_left
        · (intro W hW; go_simp; try with_reducible rfl)
        simp only [Act.put, List.setIfInBounds_toArray, List.set_cons_zero, List.set_cons_succ]
        rw [Nat.zero_add, List.nil_append] at o4
        have hlt := lt_of_block hS
        have o5 := ownsRow_set (i := 3) (u := v) o4 hlt
        obtain ⟨p, c, rfl⟩ := own_slice o4
        have d4 : W4.cell? ⟨T, 3, none⟩ = some (.slice none 0 0) := cell_of_row _ _ _ _ _ _ hS4
        have f4 := frozen_of_row _ _ 3 _ _ hS4
        have hT5 := heap_setCell_same W4 T 3 _ _ (.slice p v8 c) hS4
        have hR5 : (W4.setCell ⟨T, 3, none⟩ (.slice p v8 c)).heap[w.heap.size]? = _ := (heap_setCell_other W4 _ _ _ (by simp; omega)).trans hR4
        have B5 := Lib.hid (hB4.setCell (p := ⟨T, 3, none⟩) (by simp; omega) (.slice p v8 c))
        have HT5 := Lib.hid hT5
        have HR5 := Lib.hid hR5
        have hrl := lt_of_block hR3
        have O5 := Lib.hid (ownsRow_lower (base' := w.heap.size) (ownsRow_setRow o5 hrl (rcells ⟨v0, v4, v12, ys⟩ (.slice p v8 c)).toArray) (by omega))
        have hne : w.heap.size ≠ T := by omega
        refine held_alone 8 (w' := W4.setCell ⟨T, 3, none⟩ (.slice p v8 c)) rfl (by kernel_rfl) (by rfl) (by go_simp) trivial ?_
        refine held_done (by kernel_rfl) ?_
        clear hS4 hR4 hB4 o4 o5 hT5 hR5 d4 f4 b4 g4 hrow hS hR3 hB3 t0
        generalize W4.setCell ⟨T, 3, none⟩ (.slice p v8 c) = W5 at *
        go_wp2_with (first | (refine wpList_load_row rfl 46 (.tmp 8) rfl T rfl 46 (rcells ⟨v0, v4, v12, ys⟩ (.slice p v8 c)).toArray (0, 0) _ HT5.out Try.underlying46 rfl info46 ?_) | (refine wpList_store_rec rfl (.tmp 4) (.tmp 44) rfl w.heap.size ⟨v0, v4, v12, ys⟩ p v8 c _ rfl rfl HR5.out rfl ?_))
        refine bodyPost_ret (rec_ret (k := 16 + v8) (e := 0) (r := ⟨v0, v4, v12, ys⟩) (v := .slice p v8 c) Try.results19 rfl ?_ rfl HR5.out) rfl ⟨_, rfl, by rw [← hy] at O5 ⊢; exact O5.out, below_setRow B5.out (Nat.le_refl _) _⟩
        show Value.int .i64 _ = _
        first | rfl | (congr 1; omega)
end Go.Proofs.Ytfkjjolohphaoaa
