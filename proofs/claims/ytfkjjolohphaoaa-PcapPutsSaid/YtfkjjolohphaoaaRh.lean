/- Contract of the document's Header. -/
import Derived.Test.YtfkjjolohphaoaaRn
import Derived.Test.YtfkjjolohphaoaaPu
namespace Go.Proofs.Ytfkjjolohphaoaa
open Go.RowKit

theorem Pc.put_zero (big : Bool) : Oc.put 0 4 big = [0, 0, 0, 0] := by cases big <;> decide +kernel
theorem Pc.hbytes_eq (m : Pc.Hdr) : ((((([] ++ Oc.put (Pc.mark m.nano) 4 m.big) ++ Oc.put 2 2 m.big) ++ Oc.put 4 2 m.big) ++ [0, 0, 0, 0, 0, 0, 0, 0]) ++ Oc.put m.snap 4 m.big) ++ Oc.put m.link 4 m.big = Pc.hbytes m := by
  simp [Pc.hbytes, Pc.hparts, Pc.nums, Pc.put_zero]
theorem step_len {a b : List UInt8} {n k : Nat} (h1 : a.length = n) (h2 : b.length = k) : (a ++ b).length = n + k := by rw [List.length_append, h1, h2]

/-- Bytes that were made since W0, and nothing else changed. -/
structure Own (W0 W : World) (p : Option Addr) (n c : Nat) (xs : List UInt8) : Prop where
  len : xs.length = n
  own : W.ownsRow W0.heap.size 5 1 (.slice p n c) n (Lib.byteCells xs)
  bel : Below W0.heap.size W0 W
theorem Own.next {W0 W W' : World} {p : Option Addr} {n c : Nat} {xs : List UInt8} (h : Own W0 W p n c xs) (b : Below W.heap.size W W') : Own W0 W' p n c xs := ⟨h.len, ownsRow_next h.own b, Below.chain h.bel b⟩
theorem own_nil (W0 : World) : Own W0 W0 none 0 0 [] := ⟨rfl, World.ownsRow_nil _ _ _ _, Below.refl _ _⟩
theorem Own.row {W0 W : World} {p : Option Addr} {n c : Nat} {xs : List UInt8} (h : Own W0 W p n c xs) : RowAt W p c xs := by
  obtain ⟨p', c', e, hr⟩ := rowAt_own h.len h.own
  simp only [Value.slice.injEq, true_and] at e
  obtain ⟨rfl, rfl⟩ := e
  exact hr
theorem four_own (p : Option Addr) (n c k : Nat) (xs : List UInt8) (x : Nat) (big : Bool) (W0 w : World) (hk : n + 4 = k) (hm : n ≤ 300000) (hx : x < 4294967296) (h : Own W0 w p n c xs) :
    Calls Try.prog 24 #[.slice p n c, .int .u32 (x : Int), .bool big] w fun e w' => ∃ p' c', e = .returned (.slice p' k c') ∧ Own W0 w' p' k c' (xs ++ Oc.put x 4 big) := by
  subst hk
  refine (four_any W0.heap.size (.slice p n c) n xs x big W0 w h.len hm hx h.own h.bel.size h.bel).mono ?_
  rintro e w1 ⟨v1, rfl, o1, s1, b1⟩
  obtain ⟨p1, d1, rfl⟩ := own_slice o1
  exact ⟨p1, d1, rfl, step_len h.len (Oc.put_length _ _ _), o1, b1⟩
theorem wpList_append_mine {W0 w : World} {ops : Array Oper} {rest : List Oper} {o : Oper} {a : Act} {Q : Exit → Act → World → Prop} (hgd : o.guard = none) (s x : Operand)
    (ho : o.op = .call { callee := .builtin .append, args := #[s, x], argTypes := #[28, 28] })
    (p : Option Addr) (n c k : Nat) (xs : List UInt8) (hs : a.eval s = .slice p n c) (hO : Own W0 w p n c xs)
    (q : Option Addr) (m d : Nat) (ys : List UInt8) (hx : a.eval x = .slice q m d) (hm : ys.length = m) (hrow : RowAt w q d ys) (hk : n + m = k) (h63 : k ≤ 1000000)
    (h : ∀ p' c' w', Own W0 w' p' k c' (xs ++ ys) → wpList Try.prog ops Q rest (a.put o.dst (.slice p' k c')) w') : wpList Try.prog ops Q (o :: rest) a w := by
  subst hk
  refine wpList_append_row hgd s x ho W0.heap.size (.slice p n c) n _ hs hO.own q m d ys hx hm hrow h63 hO.bel.size ?_
  intro v' w' o2 g2
  obtain ⟨p', c', rfl⟩ := own_slice o2
  exact h p' c' w' ⟨step_len hO.len hm, by rw [Lib.byteCells_append]; exact o2, Below.grown hO.bel g2 hO.bel.size (fun k hk => (hO.own.lt k hk).1)⟩
theorem rowAt_zeros (w : World) : RowAt (w.alloc (.cells #[.int .u8 0, .int .u8 0, .int .u8 0, .int .u8 0, .int .u8 0, .int .u8 0, .int .u8 0, .int .u8 0] 5)) (some ⟨w.heap.size, 0, none⟩) 8 [0, 0, 0, 0, 0, 0, 0, 0] := rowAt_built w [0, 0, 0, 0, 0, 0, 0, 0] 8 _ rfl (by simp [Lib.byteCells]) (by omega) _

set_option maxRecDepth 100000 in
set_option maxHeartbeats 2000000 in
theorem header_any (m : Pc.Hdr) (w : World) (hm : m.Ok) :
    Calls Try.prog 23 #[.agg (hcells m).toArray] w fun e w' => ∃ v, e = .returned v ∧ w'.ownsRow w.heap.size 5 1 v 24 (Lib.byteCells (Pc.hbytes m)) ∧ Below w.heap.size w w' := by
  obtain ⟨F, hF⟩ : ∃ F, Pc.hbytes m = F := ⟨_, rfl⟩
  have hE := Pc.hbytes_eq m
  rw [hF] at hE ⊢
  obtain ⟨x, hx⟩ : ∃ x, Pc.mark m.nano = x := ⟨_, rfl⟩
  have hx4 := Pc.mark_lt m.nano
  rw [hx] at hx4 hE
  have HX : Hid ((if m.nano then (2712812621 : Int) else 2712847316) = (x : Int)) := by show _ = _; rw [← hx]; cases m.nano <;> rfl
  have hsn := hm.snap
  have hln := hm.link
  obtain ⟨big, nano, snap, link⟩ := m
  simp only at hsn hln HX hE
  have HE := Lib.hid hE
  obtain ⟨ob, hob⟩ : ∃ ob, ob = Obj.cells (hcells ⟨big, nano, snap, link⟩).toArray 24 (0, 0) := ⟨_, rfl⟩
  have b0 : Below w.heap.size w (w.alloc (.cells #[.bool big, .bool nano, .int .u32 (snap : Int), .int .u32 (link : Int)] 24)) := (Below.refl _ _).alloc (Nat.le_refl _) _
  have hT0 : (w.alloc (.cells #[.bool big, .bool nano, .int .u32 (snap : Int), .int .u32 (link : Int)] 24)).heap[w.heap.size]? = some ob := by rw [hob]; exact heap_alloc_new w _
  have B0 := Lib.hid b0
  have T0 := Lib.hid hT0
  clear hF hx hm hE b0 hT0
  cases nano
  · skip
    have hxi : (2712847316 : Int) = (x : Int) := HX.out
    have HXI := Lib.hid hxi
    clear HX hxi
    go_enter Try.func23, Try.ntmps23
    simp only [hcells]
    go_wp2_with fail
    generalize w.alloc (.cells #[.bool big, .bool false, .int .u32 (snap : Int), .int .u32 (link : Int)] 24) = W0 at *
    rw [HXI.out]
    have TC : Hid (∀ W, Below W0.heap.size W0 W → W.cell? ⟨w.heap.size, 0, none⟩ = some (.bool big)) := fun W b => by have := block_next T0.out b; subst hob; exact cell_of_row _ _ _ _ _ _ this
    refine (four_own none 0 0 4 [] x big W0 W0 rfl (by omega) hx4 (own_nil W0)).mono ?_
    rintro e w1 ⟨p1, d1, rfl, o1⟩
    have t1 := TC.out _ o1.bel
    have O1 := Lib.hid o1
    clear o1
    go_wp2_with fail
    refine (refPut_any 2 2 big w1 (by omega) (by omega)).mono ?_
    rintro e w2 ⟨v2, rfl, o2, b2⟩
    have L2 := Oc.put_length 2 2 big
    obtain ⟨p2, d2, rfl, r2⟩ := rowAt_own L2 o2
    have O2 := Lib.hid (O1.out.next b2)
    have R2 := Lib.hid r2
    clear o2 r2 b2 O1 t1
    go_wp2_with (at_builtin; refine wpList_append_mine rfl (.tmp 11) (.tmp 14) rfl p1 4 d1 6 _ rfl O2.out p2 2 d2 (Oc.put 2 2 big) rfl L2 R2.out rfl (by omega) ?_; intro p3 d3 w3 o3; have t3 := TC.out _ o3.bel; have O3 := Lib.hid o3; clear o3)
    refine (refPut_any 4 2 big w3 (by omega) (by omega)).mono ?_
    rintro e w4 ⟨v4, rfl, o4, b4⟩
    have L4 := Oc.put_length 4 2 big
    obtain ⟨p4, d4, rfl, r4⟩ := rowAt_own L4 o4
    have O4 := Lib.hid (O3.out.next b4)
    have R4 := Lib.hid r4
    clear o4 r4 b4 O3 t3 O2 R2
    go_wp2_with (first | (at_builtin; refine wpList_append_mine rfl (.tmp 16) (.tmp 19) rfl p3 6 d3 8 _ rfl O4.out p4 2 d4 (Oc.put 4 2 big) rfl L4 R4.out rfl (by omega) ?_; intro p5 d5 w5 o5; have O5 := Lib.hid o5; clear o5) | (at_builtin; refine wpList_append_mine rfl (.tmp 21) (.tmp 22) rfl p5 8 d5 16 _ rfl (O5.out.next ((Below.refl _ _).alloc (Nat.le_refl _) _)) _ 8 8 [0, 0, 0, 0, 0, 0, 0, 0] rfl rfl (rowAt_zeros _) rfl (by omega) ?_; intro p6 d6 w6 o6; have O6 := Lib.hid o6; clear o6))
    have hS : w6.drew.heap[w.heap.size]? = some ob := block_next T0.out O6.out.bel.drew
    refine held_start (S := fun W => W.heap[w.heap.size]? = some ob) 12 (by kernel_rfl) rfl ?_
    refine held_take 0 (v := ?_) rfl (by kernel_rfl) (by kernel_rfl) (by kernel_rfl) (fun _ _ _ h => h) (by assumption) (by rfl) ?_ ?_
    rotate_left
    · (intro W hW; go_simp; try with_reducible rfl)
    simp only [Act.put, List.setIfInBounds_toArray, List.set_cons_zero, List.set_cons_succ]
    refine held_take 1 (v := ?_) rfl (by kernel_rfl) (by kernel_rfl) (by kernel_rfl) (fun _ _ _ h => h) (by assumption) (by rfl) ?_ ?_
    rotate_left
    · (intro W hW; go_simp; try with_reducible rfl)
    simp only [Act.put, List.setIfInBounds_toArray, List.set_cons_zero, List.set_cons_succ]
    refine held_take 2 (v := ?_) rfl (by kernel_rfl) (by kernel_rfl) (by kernel_rfl) (fun _ _ _ h => h) (by assumption) (by rfl) ?_ ?_
    rotate_left
    · (intro W hW; (have t0 : W.cell? ⟨w.heap.size, 2, none⟩ = some (.int .u32 (snap : Int)) := by subst hob; exact cell_of_row _ _ _ _ _ _ hW); clear hW; go_simp; try with_reducible rfl)
    simp only [Act.put, List.setIfInBounds_toArray, List.set_cons_zero, List.set_cons_succ]
    refine held_take 3 (v := ?_) rfl (by kernel_rfl) (by kernel_rfl) (by kernel_rfl) (fun _ _ _ h => h) (by assumption) (by rfl) ?_ ?_
    rotate_left
    · (intro W hW; go_simp; try with_reducible rfl)
    simp only [Act.put, List.setIfInBounds_toArray, List.set_cons_zero, List.set_cons_succ]
    refine held_take 4 (v := ?_) rfl (by kernel_rfl) (by kernel_rfl) (by kernel_rfl) (fun _ _ _ h => h) (by assumption) (by rfl) ?_ ?_
    rotate_left
    · (intro W hW; (have t0 : W.cell? ⟨w.heap.size, 0, none⟩ = some (.bool big) := by subst hob; exact cell_of_row _ _ _ _ _ _ hW); clear hW; go_simp; try with_reducible rfl)
    simp only [Act.put, List.setIfInBounds_toArray, List.set_cons_zero, List.set_cons_succ]
    refine held_take 6 (v := ?_) rfl (by kernel_rfl) (by kernel_rfl) (by kernel_rfl) (fun _ _ _ h => h) (by assumption) (by rfl) ?_ ?_
    rotate_left
    · (intro W hW; go_simp; try with_reducible rfl)
    simp only [Act.put, List.setIfInBounds_toArray, List.set_cons_zero, List.set_cons_succ]
    refine held_take 7 (v := ?_) rfl (by kernel_rfl) (by kernel_rfl) (by kernel_rfl) (fun _ _ _ h => h) (by assumption) (by rfl) ?_ ?_
    rotate_left
    · (intro W hW; (have t0 : W.cell? ⟨w.heap.size, 3, none⟩ = some (.int .u32 (link : Int)) := by subst hob; exact cell_of_row _ _ _ _ _ _ hW); clear hW; go_simp; try with_reducible rfl)
    simp only [Act.put, List.setIfInBounds_toArray, List.set_cons_zero, List.set_cons_succ]
    refine held_take 8 (v := ?_) rfl (by kernel_rfl) (by kernel_rfl) (by kernel_rfl) (fun _ _ _ h => h) (by assumption) (by rfl) ?_ ?_
    rotate_left
    · (intro W hW; go_simp; try with_reducible rfl)
    simp only [Act.put, List.setIfInBounds_toArray, List.set_cons_zero, List.set_cons_succ]
    refine held_take 9 (v := ?_) rfl (by kernel_rfl) (by kernel_rfl) (by kernel_rfl) (fun _ _ _ h => h) (by assumption) (by rfl) ?_ ?_
    rotate_left
    · (intro W hW; (have t0 : W.cell? ⟨w.heap.size, 0, none⟩ = some (.bool big) := by subst hob; exact cell_of_row _ _ _ _ _ _ hW); clear hW; go_simp; try with_reducible rfl)
    simp only [Act.put, List.setIfInBounds_toArray, List.set_cons_zero, List.set_cons_succ]
    refine held_call 5 (f := 24) (args := #[.slice p6 16 d6, .int .u32 (snap : Int), .bool big]) rfl (by kernel_rfl) (by rfl) (by go_simp) ?_
    refine (four_own p6 16 d6 20 _ snap big W0 _ rfl (by omega) hsn (O6.out.next ((Below.refl _ _).drew))).mono ?_
    rintro e w7 ⟨p7, d7, rfl, o7⟩
    have hS7 : w7.heap[w.heap.size]? = some ob := block_next T0.out o7.bel
    refine ⟨_, rfl, hS7, ?_⟩
    simp only [Act.put, List.setIfInBounds_toArray, List.set_cons_zero, List.set_cons_succ]
    refine held_call 10 (f := 24) (args := #[.slice p7 20 d7, .int .u32 (link : Int), .bool big]) rfl (by kernel_rfl) (by rfl) (by go_simp) ?_
    refine (four_own p7 20 d7 24 _ link big W0 _ rfl (by omega) hln o7).mono ?_
    rintro e w8 ⟨p8, d8, rfl, o8⟩
    have hS8 : w8.heap[w.heap.size]? = some ob := block_next T0.out o8.bel
    refine ⟨_, rfl, hS8, ?_⟩
    simp only [Act.put, List.setIfInBounds_toArray, List.set_cons_zero, List.set_cons_succ]
    refine held_take 11 (v := ?_) rfl (by kernel_rfl) (by kernel_rfl) (by kernel_rfl) (fun _ _ _ h => h) (by assumption) (by rfl) ?_ ?_
    rotate_left
    · (intro W hW; go_simp; try with_reducible rfl)
    simp only [Act.put, List.setIfInBounds_toArray, List.set_cons_zero, List.set_cons_succ]
    refine held_done (by kernel_rfl) ?_
    have hsz := B0.out.size
    have O8 := Lib.hid o8
    clear hS hS7 o7 o8 hS8
    go_wp2
    go_ret
    exact ⟨_, rfl, by have := O8.out.own; rw [HE.out] at this; exact ownsRow_lower this hsz, Below.trans B0.out (O8.out.bel.mono hsz)⟩
  · skip
    have hxi : (2712812621 : Int) = (x : Int) := HX.out
    have HXI := Lib.hid hxi
    clear HX hxi
    go_enter Try.func23, Try.ntmps23
    simp only [hcells]
    go_wp2_with fail
    generalize w.alloc (.cells #[.bool big, .bool true, .int .u32 (snap : Int), .int .u32 (link : Int)] 24) = W0 at *
    rw [HXI.out]
    have TC : Hid (∀ W, Below W0.heap.size W0 W → W.cell? ⟨w.heap.size, 0, none⟩ = some (.bool big)) := fun W b => by have := block_next T0.out b; subst hob; exact cell_of_row _ _ _ _ _ _ this
    refine (four_own none 0 0 4 [] x big W0 W0 rfl (by omega) hx4 (own_nil W0)).mono ?_
    rintro e w1 ⟨p1, d1, rfl, o1⟩
    have t1 := TC.out _ o1.bel
    have O1 := Lib.hid o1
    clear o1
    go_wp2_with fail
    refine (refPut_any 2 2 big w1 (by omega) (by omega)).mono ?_
    rintro e w2 ⟨v2, rfl, o2, b2⟩
    have L2 := Oc.put_length 2 2 big
    obtain ⟨p2, d2, rfl, r2⟩ := rowAt_own L2 o2
    have O2 := Lib.hid (O1.out.next b2)
    have R2 := Lib.hid r2
    clear o2 r2 b2 O1 t1
    go_wp2_with (at_builtin; refine wpList_append_mine rfl (.tmp 11) (.tmp 14) rfl p1 4 d1 6 _ rfl O2.out p2 2 d2 (Oc.put 2 2 big) rfl L2 R2.out rfl (by omega) ?_; intro p3 d3 w3 o3; have t3 := TC.out _ o3.bel; have O3 := Lib.hid o3; clear o3)
    refine (refPut_any 4 2 big w3 (by omega) (by omega)).mono ?_
    rintro e w4 ⟨v4, rfl, o4, b4⟩
    have L4 := Oc.put_length 4 2 big
    obtain ⟨p4, d4, rfl, r4⟩ := rowAt_own L4 o4
    have O4 := Lib.hid (O3.out.next b4)
    have R4 := Lib.hid r4
    clear o4 r4 b4 O3 t3 O2 R2
    go_wp2_with (first | (at_builtin; refine wpList_append_mine rfl (.tmp 16) (.tmp 19) rfl p3 6 d3 8 _ rfl O4.out p4 2 d4 (Oc.put 4 2 big) rfl L4 R4.out rfl (by omega) ?_; intro p5 d5 w5 o5; have O5 := Lib.hid o5; clear o5) | (at_builtin; refine wpList_append_mine rfl (.tmp 21) (.tmp 22) rfl p5 8 d5 16 _ rfl (O5.out.next ((Below.refl _ _).alloc (Nat.le_refl _) _)) _ 8 8 [0, 0, 0, 0, 0, 0, 0, 0] rfl rfl (rowAt_zeros _) rfl (by omega) ?_; intro p6 d6 w6 o6; have O6 := Lib.hid o6; clear o6))
    have hS : w6.drew.heap[w.heap.size]? = some ob := block_next T0.out O6.out.bel.drew
    refine held_start (S := fun W => W.heap[w.heap.size]? = some ob) 12 (by kernel_rfl) rfl ?_
    refine held_take 0 (v := ?_) rfl (by kernel_rfl) (by kernel_rfl) (by kernel_rfl) (fun _ _ _ h => h) (by assumption) (by rfl) ?_ ?_
    rotate_left
    · (intro W hW; go_simp; try with_reducible rfl)
    simp only [Act.put, List.setIfInBounds_toArray, List.set_cons_zero, List.set_cons_succ]
    refine held_take 1 (v := ?_) rfl (by kernel_rfl) (by kernel_rfl) (by kernel_rfl) (fun _ _ _ h => h) (by assumption) (by rfl) ?_ ?_
    rotate_left
    · (intro W hW; go_simp; try with_reducible rfl)
    simp only [Act.put, List.setIfInBounds_toArray, List.set_cons_zero, List.set_cons_succ]
    refine held_take 2 (v := ?_) rfl (by kernel_rfl) (by kernel_rfl) (by kernel_rfl) (fun _ _ _ h => h) (by assumption) (by rfl) ?_ ?_
    rotate_left
    · (intro W hW; (have t0 : W.cell? ⟨w.heap.size, 2, none⟩ = some (.int .u32 (snap : Int)) := by subst hob; exact cell_of_row _ _ _ _ _ _ hW); clear hW; go_simp; try with_reducible rfl)
    simp only [Act.put, List.setIfInBounds_toArray, List.set_cons_zero, List.set_cons_succ]
    refine held_take 3 (v := ?_) rfl (by kernel_rfl) (by kernel_rfl) (by kernel_rfl) (fun _ _ _ h => h) (by assumption) (by rfl) ?_ ?_
    rotate_left
    · (intro W hW; go_simp; try with_reducible rfl)
    simp only [Act.put, List.setIfInBounds_toArray, List.set_cons_zero, List.set_cons_succ]
    refine held_take 4 (v := ?_) rfl (by kernel_rfl) (by kernel_rfl) (by kernel_rfl) (fun _ _ _ h => h) (by assumption) (by rfl) ?_ ?_
    rotate_left
    · (intro W hW; (have t0 : W.cell? ⟨w.heap.size, 0, none⟩ = some (.bool big) := by subst hob; exact cell_of_row _ _ _ _ _ _ hW); clear hW; go_simp; try with_reducible rfl)
    simp only [Act.put, List.setIfInBounds_toArray, List.set_cons_zero, List.set_cons_succ]
    refine held_take 6 (v := ?_) rfl (by kernel_rfl) (by kernel_rfl) (by kernel_rfl) (fun _ _ _ h => h) (by assumption) (by rfl) ?_ ?_
    rotate_left
    · (intro W hW; go_simp; try with_reducible rfl)
    simp only [Act.put, List.setIfInBounds_toArray, List.set_cons_zero, List.set_cons_succ]
    refine held_take 7 (v := ?_) rfl (by kernel_rfl) (by kernel_rfl) (by kernel_rfl) (fun _ _ _ h => h) (by assumption) (by rfl) ?_ ?_
    rotate_left
    · (intro W hW; (have t0 : W.cell? ⟨w.heap.size, 3, none⟩ = some (.int .u32 (link : Int)) := by subst hob; exact cell_of_row _ _ _ _ _ _ hW); clear hW; go_simp; try with_reducible rfl)
    simp only [Act.put, List.setIfInBounds_toArray, List.set_cons_zero, List.set_cons_succ]
    refine held_take 8 (v := ?_) rfl (by kernel_rfl) (by kernel_rfl) (by kernel_rfl) (fun _ _ _ h => h) (by assumption) (by rfl) ?_ ?_
    rotate_left
    · (intro W hW; go_simp; try with_reducible rfl)
    simp only [Act.put, List.setIfInBounds_toArray, List.set_cons_zero, List.set_cons_succ]
    refine held_take 9 (v := ?_) rfl (by kernel_rfl) (by kernel_rfl) (by kernel_rfl) (fun _ _ _ h => h) (by assumption) (by rfl) ?_ ?_
    rotate_left
    · (intro W hW; (have t0 : W.cell? ⟨w.heap.size, 0, none⟩ = some (.bool big) := by subst hob; exact cell_of_row _ _ _ _ _ _ hW); clear hW; go_simp; try with_reducible rfl)
    simp only [Act.put, List.setIfInBounds_toArray, List.set_cons_zero, List.set_cons_succ]
    refine held_call 5 (f := 24) (args := #[.slice p6 16 d6, .int .u32 (snap : Int), .bool big]) rfl (by kernel_rfl) (by rfl) (by go_simp) ?_
    refine (four_own p6 16 d6 20 _ snap big W0 _ rfl (by omega) hsn (O6.out.next ((Below.refl _ _).drew))).mono ?_
    rintro e w7 ⟨p7, d7, rfl, o7⟩
    have hS7 : w7.heap[w.heap.size]? = some ob := block_next T0.out o7.bel
    refine ⟨_, rfl, hS7, ?_⟩
    simp only [Act.put, List.setIfInBounds_toArray, List.set_cons_zero, List.set_cons_succ]
    refine held_call 10 (f := 24) (args := #[.slice p7 20 d7, .int .u32 (link : Int), .bool big]) rfl (by kernel_rfl) (by rfl) (by go_simp) ?_
    refine (four_own p7 20 d7 24 _ link big W0 _ rfl (by omega) hln o7).mono ?_
    rintro e w8 ⟨p8, d8, rfl, o8⟩
    have hS8 : w8.heap[w.heap.size]? = some ob := block_next T0.out o8.bel
    refine ⟨_, rfl, hS8, ?_⟩
    simp only [Act.put, List.setIfInBounds_toArray, List.set_cons_zero, List.set_cons_succ]
    refine held_take 11 (v := ?_) rfl (by kernel_rfl) (by kernel_rfl) (by kernel_rfl) (fun _ _ _ h => h) (by assumption) (by rfl) ?_ ?_
    rotate_left
    · (intro W hW; go_simp; try with_reducible rfl)
    simp only [Act.put, List.setIfInBounds_toArray, List.set_cons_zero, List.set_cons_succ]
    refine held_done (by kernel_rfl) ?_
    have hsz := B0.out.size
    have O8 := Lib.hid o8
    clear hS hS7 o7 o8 hS8
    go_wp2
    go_ret
    exact ⟨_, rfl, by have := O8.out.own; rw [HE.out] at this; exact ownsRow_lower this hsz, Below.trans B0.out (O8.out.bel.mono hsz)⟩
end Go.Proofs.Ytfkjjolohphaoaa
