/- Contracts of the document's Read and Same. -/
import Derived.Test.YtjalhlofpoknoaaDoorCb
namespace Go.Proofs.YtjalhlofpoknoaaDoor
open Go.RowKit

set_option maxRecDepth 100000 in
set_option maxHeartbeats 1000000 in
theorem refRead_any (a : Option Addr) (n c : Nat) (xs : List UInt8) (w : World) (hn : xs.length = n) (hm : n ≤ 300000) (h : RowAt w a c xs) :
    Calls Tryd.prog 13 #[.slice a n c] w fun e w' => ReadRes w w' e (Ch.read xs) := by
  have b0 := below_one w (.cells (ccells none 0 0 []).toArray 24)
  have hR0 := heap_alloc_new w (.cells (ccells none 0 0 []).toArray 24)
  cases xs with
  | nil =>
    have i0 : n = 0 := by simpa using hn.symm
    subst i0
    have B0 := Lib.hid b0
    clear hn h b0
    go_enter Tryd.func13, Tryd.ntmps13
    go_wp2_with (first | (refine wpList_value (by rfl) (run_build_none rfl _) ?_) | (refine wpList_store_ch rfl (.tmp 2) (.tmp 9) rfl w.heap.size none 0 0 [] _ rfl rfl hR0 rfl ?_))
    exact bodyPost_ret (ch_ret (e := 2) Tryd.results13 rfl rfl (setRow_heap _ _ _ _ _ _ hR0) rfl) rfl (readRes_bad (below_setRow B0.out (Nat.le_refl _) _) rfl)
  | cons x r =>
    obtain ⟨b, off, rfl⟩ := h.some (by simp)
    have i0 : 0 < n := by rw [← hn]; simp
    have i00 : ((n : Int) == 0) = false := by simp; omega
    have hrl : r.length = n - 1 := by rw [← hn]; simp
    have hx := UInt8.toNat_lt x
    have hc := h.le
    rw [hn] at hc
    have h1 := h.next b0
    have kx : (w.alloc (.cells (ccells none 0 0 []).toArray 24)).cell? ⟨b, off, none⟩ = some (.int .u8 (x.toNat : Int)) := by
      have := h1.cell _ rfl 0 (.int .u8 (x.toNat : Int)) (by simp [Lib.byteCells])
      rw [Go.WideShapes.add_plain, Nat.add_zero] at this
      exact this
    have hw1 : IntKind.i64.wrap (x.toNat : Int) = (x.toNat : Int) := by rw [IntKind.wrap_i64]; omega
    have q1 : x.toNat = 0 → Ch.read (x :: r) = ([], [], 1) := Ch.read_end
    have q2 : ¬ x.toNat = 0 → r.length < x.toNat → Ch.read (x :: r) = ([], [], 2) := Ch.read_cut
    have q3 : ¬ x.toNat = 0 → ¬ r.length < x.toNat → 65526 < r.length - x.toNat → Ch.read (x :: r) = ([], [], 4) := Ch.read_long
    have q4 : ¬ x.toNat = 0 → ¬ r.length < x.toNat → ¬ 65526 < r.length - x.toNat → Ch.read (x :: r) = (r.take x.toNat, r.drop x.toNat, 0) := Ch.read_good
    have hcutN : x.toNat < n → RowAt (w.alloc (.cells (ccells none 0 0 []).toArray 24)) (if c = 1 + x.toNat then some ⟨b, off, none⟩ else some ⟨b, off + (1 + x.toNat), none⟩) (c - (1 + x.toNat)) (r.drop x.toNat) := fun hx => by
      have := h1.cut (1 + x.toNat) n (by omega) (by omega)
      rw [List.take_of_length_le (by omega), Option.map_some, Go.WideShapes.add_plain, Nat.add_comm 1 x.toNat, List.drop_succ_cons, Nat.add_comm x.toNat 1] at this
      exact this
    have hcutV : ∀ W, Below w.heap.size w W → x.toNat < n → ¬ x.toNat = 0 → RowAt W (some ⟨b, off + 1, none⟩) (c - 1) (r.take x.toNat) := fun W hW hx h0 => by
      have := (h.next hW).cut 1 (1 + x.toNat) (by omega) (by omega)
      rw [if_neg (by omega), Option.map_some, Go.WideShapes.add_plain, Nat.add_comm 1 x.toNat, List.take_succ_cons, List.drop_succ_cons, List.drop_zero] at this
      exact this
    generalize Ch.read (x :: r) = O at *
    have hrl' : r.length = n - 1 := hrl
    rw [hrl] at q2 q3 q4
    have Q1 := Lib.hid q1
    have Q2 := Lib.hid q2
    have Q3 := Lib.hid q3
    have Q4 := Lib.hid q4
    have B0 := Lib.hid b0
    have R0 := Lib.hid hR0
    have HN := Lib.hid hcutN
    have HV := Lib.hid hcutV
    clear q1 q2 q3 q4 b0 hR0 h1 h hcutN hcutV
    simp only [ccells] at kx B0 R0 HN HV
    generalize x.toNat = k at *
    by_cases h0 : k = 0
    · obtain rfl := Q1.out h0
      subst h0
      clear Q2 Q3 Q4 HN HV
      go_enter Tryd.func13, Tryd.ntmps13
      go_wp2_with (first | (refine wpList_value (by rfl) (run_build_none rfl _) ?_) | (refine wpList_store_ch rfl (.tmp 2) (.tmp 16) rfl w.heap.size none 0 0 [] _ rfl rfl R0.out rfl ?_))
      exact bodyPost_ret (ch_ret (e := 1) Tryd.results13 rfl rfl (setRow_heap _ _ _ _ _ _ R0.out) rfl) rfl (readRes_bad (below_setRow B0.out (Nat.le_refl _) _) rfl)
    have j0 : ((k : Int) == 0) = false := by simp; omega
    by_cases h2 : n - 1 < k
    · obtain rfl := Q2.out h0 h2
      have i1 : (n : Int) < 1 + (k : Int) := by omega
      clear Q1 Q3 Q4 HN HV
      go_enter Tryd.func13, Tryd.ntmps13
      go_wp2_with (first | (refine wpList_value (by rfl) (run_build_none rfl _) ?_) | (refine wpList_store_ch rfl (.tmp 2) (.tmp 22) rfl w.heap.size none 0 0 [] _ rfl rfl R0.out rfl ?_))
      exact bodyPost_ret (ch_ret (e := 2) Tryd.results13 rfl rfl (setRow_heap _ _ _ _ _ _ R0.out) rfl) rfl (readRes_bad (below_setRow B0.out (Nat.le_refl _) _) rfl)
    have i1 : 1 + (k : Int) ≤ (n : Int) := by omega
    by_cases h3 : 65526 < n - 1 - k
    · obtain rfl := Q3.out h0 h2 h3
      have i3 : (65526 : Int) < (n : Int) - 1 - (k : Int) := by omega
      clear Q1 Q2 Q4 HN HV
      go_enter Tryd.func13, Tryd.ntmps13
      go_wp2_with (first | (refine wpList_value (by rfl) (run_build_none rfl _) ?_) | (refine wpList_store_ch rfl (.tmp 2) (.tmp 29) rfl w.heap.size none 0 0 [] _ rfl rfl R0.out rfl ?_))
      exact bodyPost_ret (ch_ret (e := 4) Tryd.results13 rfl rfl (setRow_heap _ _ _ _ _ _ R0.out) rfl) rfl (readRes_bad (below_setRow B0.out (Nat.le_refl _) _) rfl)
    have i3 : (n : Int) - 1 - (k : Int) ≤ 65526 := by omega
    obtain rfl := Q4.out h0 h2 h3
    have i4 : 1 + (k : Int) ≤ (c : Int) := by omega
    have i5 : (n : Int) ≤ (c : Int) := by omega
    have hlt : (r.take k).length = k := by rw [List.length_take]; omega
    have HLT := Lib.hid hlt
    have hld : (r.drop k).length = n - (1 + k) := by rw [List.length_drop]; omega
    have hcv := conv_row hld (HN.out (by omega))
    have hV := Lib.hid (fun W hW => HV.out W hW (by omega) h0)
    have hc1 : ¬ c = 1 := by omega
    have hwk : IntKind.i64.wrap (1 + (k : Int)) = 1 + (k : Int) := by rw [IntKind.wrap_i64]; omega
    obtain ⟨C, hC⟩ : ∃ C, c - 1 = C := ⟨_, rfl⟩
    rw [hC] at hV
    have b2 := below_two w (.cells #[.slice none 0 0, .string ⟨#[]⟩] 24) (.cells #[.slice none 0 0, .string ⟨(r.drop k).toArray⟩] 24)
    have hA2 : ((w.alloc (.cells #[.slice none 0 0, .string ⟨#[]⟩] 24)).alloc (.cells #[.slice none 0 0, .string ⟨(r.drop k).toArray⟩] 24)).heap[w.heap.size]? = some (.cells (ccells none 0 0 []).toArray 24 (0, 0)) := heap_alloc2_old w _ _
    have hB2 : ((w.alloc (.cells #[.slice none 0 0, .string ⟨#[]⟩] 24)).alloc (.cells #[.slice none 0 0, .string ⟨(r.drop k).toArray⟩] 24)).heap[w.heap.size + 1]? = some (.cells (ccells none 0 0 (r.drop k)).toArray 24 (0, 0)) := by
      have := heap_alloc_new (w.alloc (.cells #[.slice none 0 0, .string ⟨#[]⟩] 24)) (.cells #[.slice none 0 0, .string ⟨(r.drop k).toArray⟩] 24)
      rw [show (w.alloc (.cells #[.slice none 0 0, .string ⟨#[]⟩] 24)).heap.size = w.heap.size + 1 by simp] at this
      exact this
    have X2 := Lib.hid b2
    have XA := Lib.hid hA2
    have XB := Lib.hid hB2
    clear Q1 Q2 Q3 Q4 hlt hld HN HV b2 hA2 hB2
    go_enter Tryd.func13, Tryd.ntmps13
    go_wp2_with fail
    all_goals
      refine held_start (S := fun _ => True) 9 (by kernel_rfl) rfl ?_
      have hS : True := trivial
      have b3 := X2.out.drew
      have hA3 := Lib.hid (block_next XA.out (Below.refl _ _).drew)
      have hB3 : ChAt _ (w.heap.size + 1) none 0 0 (r.drop k) := block_next XB.out (Below.refl _ _).drew
      clear X2 XA XB hcv
      generalize ((w.alloc (.cells #[.slice none 0 0, .string ⟨#[]⟩] 24)).alloc (.cells #[.slice none 0 0, .string ⟨(r.drop k).toArray⟩] 24)).drew = W3 at *
      refine held_take 0 (v := ?_) rfl (by kernel_rfl) (by kernel_rfl) (by kernel_rfl) (fun _ _ _ h => h) (by assumption) (by rfl) ?_ ?_
      rotate_left
      · (intro W hW; go_simp; try with_reducible rfl)
      simp only [Act.put, List.setIfInBounds_toArray, List.set_cons_zero, List.set_cons_succ]
      refine held_take 2 (v := ?_) rfl (by kernel_rfl) (by kernel_rfl) (by kernel_rfl) (fun _ _ _ h => h) (by assumption) (by rfl) ?_ ?_
      rotate_left
      · (intro W hW; go_simp; try with_reducible rfl)
      simp only [Act.put, List.setIfInBounds_toArray, List.set_cons_zero, List.set_cons_succ]
      refine held_take 3 (v := ?_) rfl (by kernel_rfl) (by kernel_rfl) (by kernel_rfl) (fun _ _ _ h => h) (by assumption) (by rfl) ?_ ?_
      rotate_left
      · (intro W hW; go_simp; try with_reducible rfl)
      simp only [Act.put, List.setIfInBounds_toArray, List.set_cons_zero, List.set_cons_succ]
      refine held_take 4 (v := ?_) rfl (by kernel_rfl) (by kernel_rfl) (by kernel_rfl) (fun _ _ _ h => h) (by assumption) (by rfl) ?_ ?_
      rotate_left
      · (intro W hW; go_simp; try with_reducible rfl)
      simp only [Act.put, List.setIfInBounds_toArray, List.set_cons_zero, List.set_cons_succ]
      refine held_take 5 (v := .slice (some ⟨b, off + 1, none⟩) k C) rfl (by kernel_rfl) (by kernel_rfl) (by kernel_rfl) (fun _ _ _ h => h) trivial (by rfl) ?_ ?_
      · intro W hW
        go_simp
        (try rw [hwk])
        repeat rw [if_pos (by omega)]
        (try rw [show ((1 : Int) + (k : Int)).toNat - 1 = k by omega])
        first
          | done
          | rfl
          | (obtain rfl : C = k := by omega
             rfl)
      simp only [Act.put, List.setIfInBounds_toArray, List.set_cons_zero, List.set_cons_succ]
      refine held_one 1 rfl (by kernel_rfl) (by rfl) ?_
      have hf := hB3.fst
      refine wp_value (v := .slice none 0 0) (w' := W3) (by go_simp) ⟨trivial, ?_⟩
      simp only [Act.put, List.setIfInBounds_toArray, List.set_cons_zero, List.set_cons_succ]
      refine held_one 6 rfl (by kernel_rfl) (by rfl) ?_
      refine wp_append_row (.tmp 37) (.tmp 41) rfl W3.heap.size (.slice none 0 0) 0 [] rfl (World.ownsRow_nil _ _ _ _) (some ⟨b, off + 1, none⟩) k C (r.take k) rfl HLT.out (hV.out W3 b3) (by omega) (Nat.le_refl _) ?_
      intro v4 w4 o4 g4
      refine ⟨trivial, ?_⟩
      simp only [Act.put, List.setIfInBounds_toArray, List.set_cons_zero, List.set_cons_succ]
      have hg4 := fun g (hg : g < W3.heap.size) => g4.block g hg (by simp [Value.ownBlock])
      have hA4 := Lib.hid ((hg4 _ (lt_of_block hA3.out)).trans hA3.out)
      have hB4 : ChAt w4 (w.heap.size + 1) none 0 0 (r.drop k) := (hg4 _ (lt_of_block hB3)).trans hB3
      have b4 := Lib.hid (Below.grown b3 g4 b3.size (fun j hj => by simp [Value.ownBlock] at hj))
      rw [Nat.zero_add, List.nil_append] at o4
      have hge := o4.lt
      have O4 := Lib.hid (ownsRow_lower (base' := w.heap.size + 2) o4 (by have := lt_of_block hB3; omega))
      obtain ⟨p, q, rfl⟩ := own_slice o4
      have hlt3 := lt_of_block hB3
      clear hA3 hB3 hf b3 hg4 g4 o4 hge hV
      refine held_take 7 (v := ?_) rfl (by kernel_rfl) (by kernel_rfl) (by kernel_rfl) (fun _ _ _ h => h) (by assumption) (by rfl) ?_ ?_
      rotate_left
      · (intro W hW; go_simp; try with_reducible rfl)
      simp only [Act.put, List.setIfInBounds_toArray, List.set_cons_zero, List.set_cons_succ]
      have kc := hB4.fst
      have kf : w4.frozen? ⟨w.heap.size + 1, 0, none⟩ = false := frozen_of_row _ _ _ _ _ hB4
      refine held_alone 8 (w' := w4.setCell ⟨w.heap.size + 1, 0, none⟩ (.slice p k q)) rfl (by kernel_rfl) (by rfl) (by go_simp) trivial ?_
      simp only [Act.put]
      refine held_done (by kernel_rfl) ?_
      have hB5 : ChAt (w4.setCell ⟨w.heap.size + 1, 0, none⟩ (.slice p k q)) (w.heap.size + 1) p k q (r.drop k) := heap_setCell_same w4 (w.heap.size + 1) 0 _ _ _ hB4
      have hA5 := Lib.hid ((heap_setCell_other w4 ⟨w.heap.size + 1, 0, none⟩ w.heap.size (.slice p k q) (by show w.heap.size ≠ w.heap.size + 1; omega)).trans hA4.out)
      have b5 : Hid (Below w.heap.size w (w4.setCell ⟨w.heap.size + 1, 0, none⟩ (.slice p k q))) := b4.out.setCell (Nat.le_succ _) _
      have O5 := Lib.hid (ownsRow_set (g := w.heap.size + 1) (i := 0) (u := .slice p k q) O4.out (by omega))
      clear kc kf hB4 hA4 b4 O4
      generalize w4.setCell ⟨w.heap.size + 1, 0, none⟩ (.slice p k q) = w5 at *
      go_wp2_with (first | (refine wpList_value (by rfl) (run_load_ch (.tmp 5) rfl (w.heap.size + 1) p k q (r.drop k) rfl hB5) ?_) | (refine wpList_store_ch rfl (.tmp 2) (.tmp 44) rfl w.heap.size p k q (r.drop k) _ rfl rfl hA5.out rfl ?_))
      exact bodyPost_ret (ch_ret (e := 0) Tryd.results13 rfl rfl (setRow_heap _ _ _ _ _ _ hA5.out) rfl) rfl (readRes_ok HLT.out ⟨HLT.out, ownsRow_lower (ownsRow_setRow O5.out (by omega) _) (by omega), below_setRow b5.out (Nat.le_refl _) _⟩)
end Go.Proofs.YtjalhlofpoknoaaDoor
