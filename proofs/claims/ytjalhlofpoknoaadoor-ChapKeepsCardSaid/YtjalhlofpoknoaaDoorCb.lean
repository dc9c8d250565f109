/- Contracts of bytes.Clone, Read, the document's Read and Same. -/
import Derived.Test.YtjalhlofpoknoaaDoorCa
import Derived.Test.YtjalhlofpoknoaaDoorHeld
namespace Go.Proofs.YtjalhlofpoknoaaDoor
open Go.RowKit

theorem clone_nil (c : Nat) (w : World) (hc : c = 0) : Calls Tryd.prog 20 #[.slice none 0 c] w fun e w' => e = .returned (.slice none 0 0) ∧ w' = w := by
  subst hc
  go_enter Tryd.func20, Tryd.ntmps20
  have q := Lib.run_eql_slice_nil (P := Tryd.prog) w 22 5 none 0 0 0 0 Tryd.underlying22
  go_wp2
  go_ret
  exact ⟨rfl, rfl⟩
set_option maxHeartbeats 1000000 in
theorem clone_some (ad : Addr) (n c : Nat) (xs : List UInt8) (w : World) (hn : xs.length = n) (hm : n ≤ 300000) (h : RowAt w (some ad) c xs) :
    Calls Tryd.prog 20 #[.slice (some ad) n c] w fun e w' => ∃ v, e = .returned v ∧ w'.ownsRow w.heap.size 5 1 v n (Lib.byteCells xs) ∧ Below w.heap.size w w' := by
  have H := Lib.hid h
  have Hn := Lib.hid hn
  clear h hn
  go_enter Tryd.func20, Tryd.ntmps20
  have q := Lib.run_eql_slice_nil (P := Tryd.prog) w 22 5 (some ad) n c 0 0 Tryd.underlying22
  go_wp2_with (at_builtin; refine wpList_append_row rfl (.tmp 5) (.tmp 6) rfl w.heap.size _ 0 [] rfl (World.ownsRow_made w #[] 0 (Nat.le_refl _) (Nat.zero_le _) rfl) (some ad) n c xs rfl Hn.out (rowAt_alloc H.out _) (by omega) (by simp) ?_; intro v2 w2 o2 g2; rw [Nat.zero_add, List.nil_append] at o2)
  go_ret
  exact ⟨_, rfl, o2, Below.grown (below_one w _) g2 (by simp) (fun k hk => by have e : some w.heap.size = some k := hk; exact Nat.le_of_eq (Option.some.inj e))⟩
theorem clone_any (a : Option Addr) (n c : Nat) (xs : List UInt8) (w : World) (hn : xs.length = n) (hm : n ≤ 300000) (h : RowAt w a c xs) :
    Calls Tryd.prog 20 #[.slice a n c] w fun e w' => ∃ v, e = .returned v ∧ w'.ownsRow w.heap.size 5 1 v n (Lib.byteCells xs) ∧ Below w.heap.size w w' := by
  cases a with
  | none =>
    have h0 := h.nil rfl
    have h1 := h.le
    have hx : xs = [] := List.eq_nil_of_length_eq_zero (by omega)
    subst hx
    obtain rfl : n = 0 := by simpa using hn.symm
    refine (clone_nil c w h0).mono ?_
    rintro e w' ⟨rfl, rfl⟩
    exact ⟨_, rfl, World.ownsRow_nil _ _ _ _, Below.refl _ _⟩
  | some ad => exact clone_some ad n c xs w hn hm h


/-- What Read and the document's Read answer. -/
def ReadRes (w w' : World) (e : Ending) (A : List UInt8 × List UInt8 × Nat) : Prop :=
  ∃ p c, e = .returned (.tuple #[.agg (ccells p A.1.length c A.2.1).toArray, .int .i64 (A.2.2 : Int)]) ∧ Own w w' p A.1.length c A.1
theorem readRes_bad {w w' : World} {k : Nat} {z : Int} (b : Below w.heap.size w w') (hz : (k : Int) = z) : ReadRes w w' (.returned (.tuple #[.agg (ccells none 0 0 []).toArray, .int .i64 z])) ([], [], k) := by
  subst hz
  exact ⟨none, 0, rfl, rfl, World.ownsRow_nil _ _ _ _, b⟩
theorem ReadRes.at {w w' : World} {e : Ending} {A : List UInt8 × List UInt8 × Nat} (h : ReadRes w w' e A) {v s : List UInt8} {k n : Nat} {z : Int} (hA : A = (v, s, k)) (hn : v.length = n) (hz : (k : Int) = z) :
    ∃ p c, e = .returned (.tuple #[.agg (ccells p n c s).toArray, .int .i64 z]) ∧ Own w w' p n c v := by
  subst hA
  subst hn
  subst hz
  exact h
theorem readRes_ok {w w' : World} {p : Option Addr} {n c : Nat} {v s : List UInt8} (hn : v.length = n) (o : Own w w' p n c v) : ReadRes w w' (.returned (.tuple #[.agg (ccells p n c s).toArray, .int .i64 0])) (v, s, 0) := by
  subst hn
  exact ⟨p, c, rfl, o⟩
theorem rowAt_setRow {w : World} {b off c g : Nat} {xs : List UInt8} (h : RowAt w (some ⟨b, off, none⟩) c xs) (hne : b ≠ g) (cs : Array Value) : RowAt (w.setRow g cs) (some ⟨b, off, none⟩) c xs :=
  ⟨h.le, h.max, h.nil, fun ad e j v hv => by
    have h1 := h.cell ad e j v hv
    cases e
    rw [Go.WideShapes.add_plain] at h1 ⊢
    rw [cell_setRow_other hne]
    exact h1⟩
/-- The row that is left, wherever it lies. -/
def Left (a : Option Addr) (c : Nat) (xs : List UInt8) (a' : Option Addr) (c' : Nat) (r : List UInt8) : Prop := ∀ W, RowAt W a c xs → RowAt W a' c' r

set_option maxRecDepth 100000 in
set_option maxHeartbeats 1000000 in
theorem read_any (a : Option Addr) (n c : Nat) (xs : List UInt8) (w : World) (hn : xs.length = n) (hm : n ≤ 300000) (h : RowAt w a c xs) :
    Calls Tryd.prog 12 #[.slice a n c] w fun e w' => ReadRes w w' e (Ch.read xs) := by
  have b0 := below_one w (.cells (ccells none 0 0 []).toArray 24)
  have hR0 := heap_alloc_new w (.cells (ccells none 0 0 []).toArray 24)
  cases xs with
  | nil =>
    have i0 : n = 0 := by simpa using hn.symm
    subst i0
    have B0 := Lib.hid b0
    clear hn h b0
    go_enter Tryd.func12, Tryd.ntmps12
    go_wp2_with (first | (refine wpList_value (by rfl) (run_build_none rfl _) ?_) | (refine wpList_store_ch rfl (.tmp 2) (.tmp 9) rfl w.heap.size none 0 0 [] _ rfl rfl hR0 rfl ?_))
    exact bodyPost_ret (ch_ret (e := 2) Tryd.results12 rfl rfl (setRow_heap _ _ _ _ _ _ hR0) rfl) rfl (readRes_bad (below_setRow B0.out (Nat.le_refl _) _) rfl)
  | cons x r =>
    obtain ⟨b, off, rfl⟩ := h.some (by simp)
    have i0 : 0 < n := by rw [← hn]; simp
    have i00 : ((n : Int) == 0) = false := by simp; omega
    have hrl : r.length = n - 1 := by rw [← hn]; simp
    have hx := UInt8.toNat_lt x
    have hc := h.le
    rw [hn] at hc
    have h1 := h.next b0
    have kx : ∀ j, ((w.alloc (.cells (ccells none 0 0 []).toArray 24)).drewN j).cell? ⟨b, off, none⟩ = some (.int .u8 (x.toNat : Int)) := fun _ => by
      have := h1.cell _ rfl 0 (.int .u8 (x.toNat : Int)) (by simp [Lib.byteCells])
      rw [Go.WideShapes.add_plain, Nat.add_zero] at this
      exact this
    have hw1 : IntKind.i64.wrap (x.toNat : Int) = (x.toNat : Int) := by rw [IntKind.wrap_i64]; omega
    have q1 : x.toNat = 0 → Ch.read (x :: r) = ([], [], 1) := Ch.read_end
    have q2 : ¬ x.toNat = 0 → r.length < x.toNat → Ch.read (x :: r) = ([], [], 2) := Ch.read_cut
    have q3 : ¬ x.toNat = 0 → ¬ r.length < x.toNat → 65526 < r.length - x.toNat → Ch.read (x :: r) = ([], [], 4) := Ch.read_long
    have q4 : ¬ x.toNat = 0 → ¬ r.length < x.toNat → ¬ 65526 < r.length - x.toNat → Ch.read (x :: r) = (r.take x.toNat, r.drop x.toNat, 0) := Ch.read_good
    generalize Ch.read (x :: r) = O at *
    rw [hrl] at q2 q3 q4
    have Q1 := Lib.hid q1
    have Q2 := Lib.hid q2
    have Q3 := Lib.hid q3
    have Q4 := Lib.hid q4
    have B0 := Lib.hid b0
    have R0 := Lib.hid hR0
    have H1 := Lib.hid h1
    have hbl : b < w.heap.size := World.block_lt_of_cell? w _ (h.cell _ rfl 0 (.int .u8 (x.toNat : Int)) (by simp [Lib.byteCells]))
    clear q1 q2 q3 q4 b0 hR0 h1 h
    simp only [ccells] at kx B0 R0 H1
    go_enter Tryd.func12, Tryd.ntmps12
    go_wp2
    go_quiet (fail)
    have HL : Hid (Left (some ⟨b, off, none⟩) c (x :: r) (if c = 1 then some ⟨b, off, none⟩ else some ⟨b, off + 1, none⟩) (c - 1) r) := fun W hW => by
      have := hW.cut 1 n (by omega) (by omega)
      rw [List.take_of_length_le (by omega), Option.map_some, Go.WideShapes.add_plain] at this
      exact this
    have HS : Hid (∀ W cs, RowAt W (if c = 1 then some ⟨b, off, none⟩ else some ⟨b, off + 1, none⟩) (c - 1) r → RowAt (W.setRow w.heap.size cs) (if c = 1 then some ⟨b, off, none⟩ else some ⟨b, off + 1, none⟩) (c - 1) r) := fun W cs hW => by
      split at hW
      · rename_i h9; rw [if_pos h9]; exact rowAt_setRow hW (by omega) cs
      · rename_i h9; rw [if_neg h9]; exact rowAt_setRow hW (by omega) cs
    have B1 := Lib.hid (keeps_below B0.out nq)
    have R1 := Lib.hid (keeps_drewN H1.out nq)
    have G1 : Hid (((w.alloc (.cells #[.slice none 0 0, .string ⟨#[]⟩] 24)).drewN nq).heap[w.heap.size]? = some (.cells (ccells none 0 0 []).toArray 24 (0, 0))) := R0.out
    clear kx H1 R0 B0
    generalize (w.alloc (.cells #[.slice none 0 0, .string ⟨#[]⟩] 24)).drewN nq = w1 at *
    generalize (if c = 1 then (some ⟨b, off, none⟩ : Option Addr) else some ⟨b, off + 1, none⟩) = a1 at *
    have i2 : n - 1 ≤ c - 1 := by omega
    have hm1 : n - 1 ≤ 300000 := by omega
    generalize n - 1 = m at *
    generalize c - 1 = d at *
    generalize x.toNat = k at *
    by_cases h0 : k = 0
    · obtain rfl := Q1.out h0
      subst h0
      clear Q2 Q3 Q4 HL R1
      go_wp2_with (first | (refine wpList_value (by rfl) (run_build_none rfl _) ?_) | (refine wpList_store_ch rfl (.tmp 2) (.tmp 19) rfl w.heap.size none 0 0 [] _ rfl rfl G1.out rfl ?_))
      exact bodyPost_ret (ch_ret (e := 1) Tryd.results12 rfl rfl (setRow_heap _ _ _ _ _ _ G1.out) rfl) rfl (readRes_bad (below_setRow B1.out (Nat.le_refl _) _) rfl)
    have j0 : ((k : Int) == 0) = false := by simp; omega
    by_cases h2 : m < k
    · obtain rfl := Q2.out h0 h2
      have i1 : (m : Int) < (k : Int) := by omega
      clear Q1 Q3 Q4 HL R1
      go_wp2_with (first | (refine wpList_value (by rfl) (run_build_none rfl _) ?_) | (refine wpList_store_ch rfl (.tmp 2) (.tmp 25) rfl w.heap.size none 0 0 [] _ rfl rfl G1.out rfl ?_))
      exact bodyPost_ret (ch_ret (e := 2) Tryd.results12 rfl rfl (setRow_heap _ _ _ _ _ _ G1.out) rfl) rfl (readRes_bad (below_setRow B1.out (Nat.le_refl _) _) rfl)
    have i1 : (k : Int) ≤ (m : Int) := by omega
    by_cases h3 : 65526 < m - k
    · obtain rfl := Q3.out h0 h2 h3
      have i3 : (65526 : Int) < (m : Int) - (k : Int) := by omega
      clear Q1 Q2 Q4 HL R1
      go_wp2_with (first | (refine wpList_value (by rfl) (run_build_none rfl _) ?_) | (refine wpList_store_ch rfl (.tmp 2) (.tmp 32) rfl w.heap.size none 0 0 [] _ rfl rfl G1.out rfl ?_))
      exact bodyPost_ret (ch_ret (e := 4) Tryd.results12 rfl rfl (setRow_heap _ _ _ _ _ _ G1.out) rfl) rfl (readRes_bad (below_setRow B1.out (Nat.le_refl _) _) rfl)
    have i3 : (m : Int) - (k : Int) ≤ 65526 := by omega
    obtain rfl := Q4.out h0 h2 h3
    have i4 : (k : Int) ≤ (d : Int) := by omega
    have i5 : (m : Int) ≤ (d : Int) := by omega
    have hlt : (r.take k).length = k := by rw [List.length_take]; omega
    have HLT := Lib.hid hlt
    have hld : (r.drop k).length = m - k := by rw [List.length_drop]; omega
    have RL := Lib.hid (HL.out _ R1.out)
    have HC : Hid (∀ W, RowAt W a1 d r → (convert 22 9 (.slice (if d = k then a1 else Option.map (fun x => x.add k) a1) (m - k) (d - k))).run Tryd.prog W = .ok (.string ⟨(r.drop k).toArray⟩) W) := fun W hW => by
      have := hW.cut k m (by omega) (by omega)
      rw [List.take_of_length_le (by omega)] at this
      exact conv_row hld this
    clear Q1 Q2 Q3 Q4 R1 HL hlt hld
    go_wp2
    refine held_start (S := fun W => RowAt W a1 d r) 11 (by kernel_rfl) rfl ?_
    have hS : RowAt w1.drew a1 d r := RL.out.next (Below.refl _ _).drew
    have hB3 := Lib.hid B1.out.drew
    have hR3 : Hid (w1.drew.heap[w.heap.size]? = some (.cells (ccells none 0 0 []).toArray 24 (0, 0))) := G1.out
    clear RL B1 G1
    generalize w1.drew = W3 at *
    refine held_take 0 (v := ?_) rfl (by kernel_rfl) (by kernel_rfl) (by kernel_rfl) (fun _ _ _ h => h) (by assumption) (by rfl) ?_ ?_
    rotate_left
    · (intro W hW; go_simp; try with_reducible rfl)
    simp only [Act.put, List.setIfInBounds_toArray, List.set_cons_zero, List.set_cons_succ]
    refine held_take 1 (v := ?_) rfl (by kernel_rfl) (by kernel_rfl) (by kernel_rfl) (fun _ _ _ h => h) (by assumption) (by rfl) ?_ ?_
    rotate_left
    · (intro W hW; go_simp; try with_reducible rfl)
    simp only [Act.put, List.setIfInBounds_toArray, List.set_cons_zero, List.set_cons_succ]
    refine held_take 2 (v := ?_) rfl (by kernel_rfl) (by kernel_rfl) (by kernel_rfl) (fun _ _ _ h => h) (by assumption) (by rfl) ?_ ?_
    rotate_left
    · (intro W hW; go_simp; try with_reducible rfl)
    simp only [Act.put, List.setIfInBounds_toArray, List.set_cons_zero, List.set_cons_succ]
    refine held_take 4 (v := ?_) rfl (by kernel_rfl) (by kernel_rfl) (by kernel_rfl) (fun _ _ _ h => h) (by assumption) (by rfl) ?_ ?_
    rotate_left
    · (intro W hW; go_simp; try with_reducible rfl)
    simp only [Act.put, List.setIfInBounds_toArray, List.set_cons_zero, List.set_cons_succ]
    refine held_take 5 (v := ?_) rfl (by kernel_rfl) (by kernel_rfl) (by kernel_rfl) (fun _ _ _ h => h) (by assumption) (by rfl) ?_ ?_
    rotate_left
    · (intro W hW; go_simp; try with_reducible rfl)
    simp only [Act.put, List.setIfInBounds_toArray, List.set_cons_zero, List.set_cons_succ]
    refine held_take 6 (v := ?_) rfl (by kernel_rfl) (by kernel_rfl) (by kernel_rfl) (fun _ _ _ h => h) (by assumption) (by rfl) ?_ ?_
    rotate_left
    · (intro W hW; go_simp; try with_reducible rfl)
    simp only [Act.put, List.setIfInBounds_toArray, List.set_cons_zero, List.set_cons_succ]
    refine held_take 7 (v := ?_) rfl (by kernel_rfl) (by kernel_rfl) (by kernel_rfl) (fun _ _ _ h => h) (by assumption) (by rfl) ?_ ?_
    rotate_left
    · (intro W hW; have hc := HC.out W hW; go_simp; try with_reducible rfl)
    simp only [Act.put, List.setIfInBounds_toArray, List.set_cons_zero, List.set_cons_succ]
    refine held_call 3 (f := 20) (args := #[.slice a1 k d]) rfl (by kernel_rfl) (by rfl) (by go_simp) ?_
    refine (clone_any a1 k d (r.take k) W3 HLT.out (by omega) (hS.head k (by omega))).mono ?_
    rintro e W4 ⟨v, rfl, o4, b4⟩
    have hS4 := hS.next b4
    have hR4 := block_next hR3.out b4
    have hB4 := Below.chain hB3.out b4
    have hge := hB3.out.size
    obtain ⟨p, q, rfl⟩ := own_slice o4
    have hS5 : RowAt (W4.setRow w.heap.size (ccells p k q (r.drop k)).toArray) a1 d r := HS.out _ _ hS4
    refine ⟨_, rfl, hS4, ?_⟩
    simp only [Act.put, List.setIfInBounds_toArray, List.set_cons_zero, List.set_cons_succ]
    refine held_take 8 (v := ?_) rfl (by kernel_rfl) (by kernel_rfl) (by kernel_rfl) (fun _ _ _ h => h) (by assumption) (by rfl) ?_ ?_
    rotate_left
    · (intro W hW; go_simp; try with_reducible rfl)
    simp only [Act.put, List.setIfInBounds_toArray, List.set_cons_zero, List.set_cons_succ]
    refine held_alone 9 (w' := W4.setRow w.heap.size (ccells p k q (r.drop k)).toArray) rfl (by kernel_rfl) (by rfl) (run_store_ch (.tmp 2) (.tmp 41) rfl w.heap.size p k q (r.drop k) _ rfl rfl hR4 rfl) hS5 ?_
    simp only [Act.put]
    refine held_take 10 (v := ?_) rfl (by kernel_rfl) (by kernel_rfl) (by kernel_rfl) (fun _ _ _ h => h) (by assumption) (by rfl) ?_ ?_
    rotate_left
    · (intro W hW; go_simp; try with_reducible rfl)
    simp only [Act.put, List.setIfInBounds_toArray, List.set_cons_zero, List.set_cons_succ]
    refine held_done (by kernel_rfl) ?_
    have o5 : Own w (W4.setRow w.heap.size (ccells p k q (r.drop k)).toArray) p k q (r.take k) := ⟨HLT.out, ownsRow_lower (ownsRow_setRow o4 (by have := lt_of_block hR3.out; omega) _) hge, below_setRow hB4 (Nat.le_refl _) _⟩
    have hR5 := setRow_heap W4 w.heap.size _ (ccells p k q (r.drop k)).toArray _ _ hR4
    go_wp2 <;> exact bodyPost_ret (ch_ret (e := 0) Tryd.results12 rfl rfl hR5 rfl) rfl (readRes_ok HLT.out o5)
end Go.Proofs.YtjalhlofpoknoaaDoor
