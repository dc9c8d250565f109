/- Contract of putHead. -/
import Derived.Test.YtfkjjolohphaoaaPq
namespace Go.Proofs.Ytfkjjolohphaoaa
open Go.RowKit

theorem with_ops {P : Program} {l : List Oper} {Q : Exit → Act → World → Prop} {S : World → Prop} {n : Nat} {listed : Array Bool} {a : Act} {w : World} (h : ∀ l' Q', l' = l → Q' = Q → wpAnyH P .any l'.toArray Q' S n listed a w) : wpAnyH P .any l.toArray Q S n listed a w := h l Q rfl rfl

/-- What putHead has made so far: slices of numbers, and the bytes of numbers. -/
structure Ph (w W : World) (T : Nat) (ob : Obj) (big : Bool) (x snap link : Nat) (g3 g7 g15 : Option Nat) (v10 v14 v22 : Option Value) : Prop where
  bel : Below w.heap.size w W
  box : W.heap[T]? = some ob
  b3 : ∀ g, g3 = some g → W.heap[g]? = some (.cells (wcells [x]).toArray 22 (0, 0))
  b7 : ∀ g, g7 = some g → W.heap[g]? = some (.cells (wcells [2, 4]).toArray 22 (0, 0))
  b15 : ∀ g, g15 = some g → W.heap[g]? = some (.cells (wcells [0, 0, snap, link]).toArray 22 (0, 0))
  c10 : ∀ v, v10 = some v → W.ownsRow w.heap.size 5 1 v 4 (Lib.byteCells (Pc.nums big 4 [x]))
  c14 : ∀ v, v14 = some v → W.ownsRow w.heap.size 5 1 v 4 (Lib.byteCells (Pc.nums big 2 [2, 4]))
  c22 : ∀ v, v22 = some v → W.ownsRow w.heap.size 5 1 v 16 (Lib.byteCells (Pc.nums big 4 [0, 0, snap, link]))
section
variable {w W : World} {T : Nat} {ob : Obj} {big : Bool} {x snap link : Nat} {g3 g7 g15 : Option Nat} {v10 v14 v22 : Option Value}
theorem Ph.next (h : Ph w W T ob big x snap link g3 g7 g15 v10 v14 v22) {W' : World} (b : Below W.heap.size W W') : Ph w W' T ob big x snap link g3 g7 g15 v10 v14 v22 :=
  ⟨Below.chain h.bel b, block_next h.box b, fun g e => block_next (h.b3 g e) b, fun g e => block_next (h.b7 g e) b, fun g e => block_next (h.b15 g e) b, fun v e => ownsRow_next (h.c10 v e) b, fun v e => ownsRow_next (h.c14 v e) b, fun v e => ownsRow_next (h.c22 v e) b⟩
theorem Ph.al (h : Ph w W T ob big x snap link g3 g7 g15 v10 v14 v22) (o : Obj) : Ph w (W.alloc o) T ob big x snap link g3 g7 g15 v10 v14 v22 := h.next ((Below.refl _ _).alloc (Nat.le_refl _) _)
theorem Ph.mk3 (h : Ph w W T ob big x snap link none g7 g15 v10 v14 v22) : Ph w (W.alloc (.cells #[.int .u32 (x : Int)] 22)) T ob big x snap link (some W.heap.size) g7 g15 v10 v14 v22 := by
  have h2 := h.al (.cells #[.int .u32 (x : Int)] 22)
  exact ⟨h2.bel, h2.box, fun g e => by cases e; exact heap_alloc_new W _, h2.b7, h2.b15, h2.c10, h2.c14, h2.c22⟩
theorem Ph.mk7 (h : Ph w W T ob big x snap link g3 none g15 v10 v14 v22) : Ph w (W.alloc (.cells #[.int .u32 2, .int .u32 4] 22)) T ob big x snap link g3 (some W.heap.size) g15 v10 v14 v22 := by
  have h2 := h.al (.cells #[.int .u32 2, .int .u32 4] 22)
  exact ⟨h2.bel, h2.box, h2.b3, fun g e => by cases e; exact heap_alloc_new W _, h2.b15, h2.c10, h2.c14, h2.c22⟩
theorem Ph.mk15 (h : Ph w W T ob big x snap link g3 g7 none v10 v14 v22) : Ph w (W.alloc (.cells #[.int .u32 0, .int .u32 0, .int .u32 (snap : Int), .int .u32 (link : Int)] 22)) T ob big x snap link g3 g7 (some W.heap.size) v10 v14 v22 := by
  have h2 := h.al (.cells #[.int .u32 0, .int .u32 0, .int .u32 (snap : Int), .int .u32 (link : Int)] 22)
  exact ⟨h2.bel, h2.box, h2.b3, h2.b7, fun g e => by cases e; exact heap_alloc_new W _, h2.c10, h2.c14, h2.c22⟩
theorem Ph.call10 (h : Ph w W T ob big x snap link g3 g7 g15 none v14 v22) {W' : World} {v : Value} (o : W'.ownsRow W.heap.size 5 1 v (Pc.nums big 4 [x]).length (Lib.byteCells (Pc.nums big 4 [x]))) (b : Below W.heap.size W W') : Ph w W' T ob big x snap link g3 g7 g15 (some v) v14 v22 := by
  have h2 := h.next b
  exact ⟨h2.bel, h2.box, h2.b3, h2.b7, h2.b15, fun u e => by cases e; rw [Pc.nums_length] at o; exact ownsRow_lower o h.bel.size, h2.c14, h2.c22⟩
theorem Ph.call14 (h : Ph w W T ob big x snap link g3 g7 g15 v10 none v22) {W' : World} {v : Value} (o : W'.ownsRow W.heap.size 5 1 v (Pc.nums big 2 [2, 4]).length (Lib.byteCells (Pc.nums big 2 [2, 4]))) (b : Below W.heap.size W W') : Ph w W' T ob big x snap link g3 g7 g15 v10 (some v) v22 := by
  have h2 := h.next b
  exact ⟨h2.bel, h2.box, h2.b3, h2.b7, h2.b15, h2.c10, fun u e => by cases e; rw [Pc.nums_length] at o; exact ownsRow_lower o h.bel.size, h2.c22⟩
theorem Ph.call22 (h : Ph w W T ob big x snap link g3 g7 g15 v10 v14 none) {W' : World} {v : Value} (o : W'.ownsRow W.heap.size 5 1 v (Pc.nums big 4 [0, 0, snap, link]).length (Lib.byteCells (Pc.nums big 4 [0, 0, snap, link]))) (b : Below W.heap.size W W') : Ph w W' T ob big x snap link g3 g7 g15 v10 v14 (some v) := by
  have h2 := h.next b
  exact ⟨h2.bel, h2.box, h2.b3, h2.b7, h2.b15, h2.c10, h2.c14, fun u e => by cases e; rw [Pc.nums_length] at o; exact ownsRow_lower o h.bel.size⟩
theorem Ph.parts {p10 p14 p22 : Option Addr} {c10 c14 c22 : Nat} (h : Ph w W T ob big x snap link g3 g7 g15 v10 v14 v22) (e1 : v10 = some (.slice p10 4 c10)) (e2 : v14 = some (.slice p14 4 c14)) (e3 : v22 = some (.slice p22 16 c22)) :
    PartsAt (W.alloc (.cells #[.slice p10 4 c10, .slice p14 4 c14, .slice p22 16 c22] 28)) (some ⟨W.heap.size, 0, none⟩) [Pc.nums big 4 [x], Pc.nums big 2 [2, 4], Pc.nums big 4 [0, 0, snap, link]] := by
  have h2 := h.al (.cells #[.slice p10 4 c10, .slice p14 4 c14, .slice p22 16 c22] 28)
  have hg := heap_alloc_new W (.cells #[.slice p10 4 c10, .slice p14 4 c14, .slice p22 16 c22] 28)
  obtain ⟨a1, d1, q1, r1⟩ := rowAt_own (by rw [Pc.nums_length]; rfl) (h2.c10 _ e1)
  obtain ⟨a2, d2, q2, r2⟩ := rowAt_own (by rw [Pc.nums_length]; rfl) (h2.c14 _ e2)
  obtain ⟨a3, d3, q3, r3⟩ := rowAt_own (by rw [Pc.nums_length]; rfl) (h2.c22 _ e3)
  simp only [Value.slice.injEq, true_and] at q1 q2 q3
  obtain ⟨rfl, rfl⟩ := q1
  obtain ⟨rfl, rfl⟩ := q2
  obtain ⟨rfl, rfl⟩ := q3
  refine .inr ⟨W.heap.size, 0, rfl, lt_of_block hg, fun j hj => ?_⟩
  have hj3 : j = 0 ∨ j = 1 ∨ j = 2 := by simp at hj; omega
  rcases hj3 with rfl | rfl | rfl
  · exact ⟨_, _, by rw [cell_of_row _ _ _ _ _ _ hg]; simp [Pc.nums_length], r1⟩
  · exact ⟨_, _, by rw [cell_of_row _ _ _ _ _ _ hg]; simp [Pc.nums_length], r2⟩
  · exact ⟨_, _, by rw [cell_of_row _ _ _ _ _ _ hg]; simp [Pc.nums_length], r3⟩
end
set_option maxRecDepth 100000 in
set_option maxHeartbeats 4000000 in
theorem putHead_any (m : Pc.Hdr) (w : World) (hm : m.Ok) :
    Calls Try.prog 20 #[.agg (hcells m).toArray] w fun e w' => ∃ v, e = .returned v ∧ w'.ownsRow w.heap.size 5 1 v 24 (Lib.byteCells (Pc.hbytes m)) ∧ Below w.heap.size w w' := by
  have hlen := Pc.hbytes_length m
  obtain ⟨F, hF⟩ : ∃ F, Pc.hbytes m = F := ⟨_, rfl⟩
  rw [hF] at hlen ⊢
  obtain ⟨x, hx⟩ : ∃ x, Pc.mark m.nano = x := ⟨_, rfl⟩
  have hx4 := Pc.mark_lt m.nano
  rw [hx] at hx4
  have HX : Hid ((if m.nano then (2712812621 : Int) else 2712847316) = (x : Int)) := by show _ = _; rw [← hx]; cases m.nano <;> rfl
  have hsn := hm.snap
  have hln := hm.link
  have HF : Hid ([Pc.nums m.big 4 [x], Pc.nums m.big 2 [2, 4], Pc.nums m.big 4 [0, 0, m.snap, m.link]].flatten = F) := by show _ = _; rw [← hF, ← hx]; rfl
  obtain ⟨big, nano, snap, link⟩ := m
  simp only at hsn hln HX HF
  have Hl := Lib.hid hlen
  have N3 : ∀ y ∈ [x], y < 256 ^ 4 := fun y h => by simp at h; subst h; exact hx4
  have N7 : ∀ y ∈ [2, 4], y < 256 ^ 2 := fun y h => by simp at h; rcases h with rfl | rfl <;> decide
  have N15 : ∀ y ∈ [0, 0, snap, link], y < 256 ^ 4 := fun y h => by simp at h; rcases h with rfl | rfl | rfl <;> first | exact hsn | exact hln | decide
  have HB : Below w.heap.size w (w.alloc (.cells (hcells ⟨big, nano, snap, link⟩).toArray 24)) := (Below.refl _ _).alloc (Nat.le_refl _) _
  have HT := heap_alloc_new w (.cells (hcells ⟨big, nano, snap, link⟩).toArray 24)
  have hlen24 : F.length ≤ 300000 := by omega
  obtain ⟨ob, hob⟩ : ∃ ob, ob = Obj.cells (hcells ⟨big, nano, snap, link⟩).toArray 24 (0, 0) := ⟨_, rfl⟩
  clear hF hx hm hlen
  cases nano
  · skip
    have hxi : (2712847316 : Int) = (x : Int) := HX.out
    have HXI := Lib.hid hxi
    clear HX hxi
    go_enter Try.func20, Try.ntmps20
    simp only [hcells]
    go_wp2_with fail
    rw [HXI.out]
    have hW : (w.alloc (.cells #[.bool big, .bool false, .int .u32 (snap : Int), .int .u32 (link : Int)] 24)).drew.heap[w.heap.size]? = some ob := by rw [hob]; exact HT
    have hS : Below w.heap.size w (w.alloc (.cells #[.bool big, .bool false, .int .u32 (snap : Int), .int .u32 (link : Int)] 24)).drew := HB.drew
    clear HB HT
    refine held_start (S := fun W => W.heap[w.heap.size]? = some ob) 20 (by kernel_rfl) rfl ?_
    generalize (w.alloc (.cells #[.bool big, .bool false, .int .u32 (snap : Int), .int .u32 (link : Int)] 24)).drew = W0 at hW hS ⊢
    generalize w.heap.size = T at hW ⊢
    refine with_ops ?_
    intro l Q hl hQ
    obtain ⟨u0, hu0⟩ : ∃ u0, u0 = Value.agg #[Value.bool big, Value.bool false, Value.int IntKind.u32 ↑snap, Value.int IntKind.u32 ↑link] := ⟨_, rfl⟩
    obtain ⟨u5, hu5⟩ : ∃ u5, u5 = Value.bool false := ⟨_, rfl⟩
    rw [← hu0, ← hu5]
    clear hu0 hu5
    have s3111 : ∀ (W : World) (g3 g7 g15 : Nat) (v10 v14 v22 : Value), Ph w W T ob big x snap link (some g3) (some g7) (some g15) (some v10) (some v14) (some v22) → wpAnyH Try.prog .any l.toArray Q (fun W => W.heap[T]? = some ob) 3 #[true, true, true, true, true, true, true, true, true, true, true, true, true, true, true, true, true, false, false, false] { tmps := #[u0, .pointer (some ⟨T, 0, none⟩), .slice none 0 0, .int .u32 (x : Int), .pointer (some ⟨T, 1, none⟩), u5, .pointer (some ⟨T, 0, none⟩), .bool big, .int .u32 (x : Int), .slice (some ⟨g3, 0, none⟩) 1 1, v10, .pointer (some ⟨T, 0, none⟩), .bool big, .slice (some ⟨g7, 0, none⟩) 2 2, v14, .pointer (some ⟨T, 0, none⟩), .bool big, .pointer (some ⟨T, 2, none⟩), .int .u32 (snap : Int), .pointer (some ⟨T, 3, none⟩), .int .u32 (link : Int), .slice (some ⟨g15, 0, none⟩) 4 4, v22, undef, undef], defers := [] } W := by
      intro W g3 g7 g15 v10 v14 v22 h
      subst hl
      obtain ⟨p10, c10, rfl⟩ := own_slice (h.c10 _ rfl)
      obtain ⟨p14, c14, rfl⟩ := own_slice (h.c14 _ rfl)
      obtain ⟨p22, c22, rfl⟩ := own_slice (h.c22 _ rfl)
      have hps := h.parts rfl rfl rfl
      have hps2 := Ph.bel h
      refine held_makes 17 (v := .slice (some ⟨W.heap.size, 0, none⟩) 3 3) (w' := W.alloc (.cells #[.slice p10 4 c10, .slice p14 4 c14, .slice p22 16 c22] 28)) rfl (by kernel_rfl) (by rfl) (by go_simp) (block_next h.box ((Below.refl _ _).alloc (Nat.le_refl _) _)) ?_
      simp only [Act.put, List.setIfInBounds_toArray, List.set_cons_zero, List.set_cons_succ]
      refine held_call 18 (f := 22) (args := #[.slice (some ⟨W.heap.size, 0, none⟩) 3 3]) rfl (by kernel_rfl) (by rfl) (by go_simp) ?_
      refine (join_at _ 3 3 _ F _ (by rfl) HF.out (by simp) (by omega) hps).mono ?_
      rintro e W2 ⟨v, rfl, o2, b2⟩
      refine ⟨_, rfl, block_next (block_next h.box ((Below.refl _ _).alloc (Nat.le_refl _) _)) b2, ?_⟩
      simp only [Act.put, List.setIfInBounds_toArray, List.set_cons_zero, List.set_cons_succ]
      subst hQ
      have hS2 : W2.heap[T]? = some ob := block_next (block_next h.box ((Below.refl _ _).alloc (Nat.le_refl _) _)) b2
      refine held_take 19 (v := ?_) rfl (by kernel_rfl) (by kernel_rfl) (by kernel_rfl) (fun _ _ _ h => h) (by assumption) (by rfl) ?_ ?_
      rotate_left
      · (intro W hW; go_simp; try with_reducible rfl)
      simp only [Act.put, List.setIfInBounds_toArray, List.set_cons_zero, List.set_cons_succ]
      refine held_done (by kernel_rfl) ?_
      have O2 := Lib.hid (ownsRow_lower (base' := w.heap.size) o2 (by have := hps2.size; simp; omega))
      have B2 := Lib.hid (Below.trans (hps2.alloc hps2.size _) (b2.mono (by have := hps2.size; simp; omega)))
      clear hps hps2 o2 b2 h hS2
      go_wp2
      go_ret
      exact ⟨_, rfl, by rw [Hl.out] at O2; exact O2.out, B2.out⟩
    have s2111 : ∀ (W : World) (g3 g7 g15 : Nat) (v10 v14 : Value), Ph w W T ob big x snap link (some g3) (some g7) (some g15) (some v10) (some v14) none → wpAnyH Try.prog .any l.toArray Q (fun W => W.heap[T]? = some ob) 4 #[true, true, true, true, true, true, true, true, true, true, true, true, true, true, true, true, false, false, false, false] { tmps := #[u0, .pointer (some ⟨T, 0, none⟩), .slice none 0 0, .int .u32 (x : Int), .pointer (some ⟨T, 1, none⟩), u5, .pointer (some ⟨T, 0, none⟩), .bool big, .int .u32 (x : Int), .slice (some ⟨g3, 0, none⟩) 1 1, v10, .pointer (some ⟨T, 0, none⟩), .bool big, .slice (some ⟨g7, 0, none⟩) 2 2, v14, .pointer (some ⟨T, 0, none⟩), .bool big, .pointer (some ⟨T, 2, none⟩), .int .u32 (snap : Int), .pointer (some ⟨T, 3, none⟩), .int .u32 (link : Int), .slice (some ⟨g15, 0, none⟩) 4 4, undef, undef, undef], defers := [] } W := by
      intro W g3 g7 g15 v10 v14 h
      subst hl
      refine held_one 16 rfl (by kernel_rfl) (by rfl) ?_
      · refine wp_enter (f := 21) (args := #[.bool big, .int .i64 4, .slice (some ⟨g15, 0, none⟩) 4 4]) (by go_simp) ((numbers_put [0, 0, snap, link] 4 4 big g15 W rfl (by omega) (by omega) (by omega) N15 (h.b15 _ rfl)).mono ?_)
        rintro e W2 ⟨v, rfl, o2, b2⟩
        refine ⟨_, rfl, block_next h.box b2, ?_⟩
        simp only [Act.put, List.setIfInBounds_toArray, List.set_cons_zero, List.set_cons_succ]
        exact s3111 _ g3 g7 g15 v10 v14 _ (h.call22 o2 b2)
    have s1111 : ∀ (W : World) (g3 g7 g15 : Nat) (v10 : Value), Ph w W T ob big x snap link (some g3) (some g7) (some g15) (some v10) none none → wpAnyH Try.prog .any l.toArray Q (fun W => W.heap[T]? = some ob) 5 #[true, true, true, true, true, true, true, true, false, true, true, true, true, true, true, true, false, false, false, false] { tmps := #[u0, .pointer (some ⟨T, 0, none⟩), .slice none 0 0, .int .u32 (x : Int), .pointer (some ⟨T, 1, none⟩), u5, .pointer (some ⟨T, 0, none⟩), .bool big, .int .u32 (x : Int), .slice (some ⟨g3, 0, none⟩) 1 1, v10, .pointer (some ⟨T, 0, none⟩), .bool big, .slice (some ⟨g7, 0, none⟩) 2 2, undef, .pointer (some ⟨T, 0, none⟩), .bool big, .pointer (some ⟨T, 2, none⟩), .int .u32 (snap : Int), .pointer (some ⟨T, 3, none⟩), .int .u32 (link : Int), .slice (some ⟨g15, 0, none⟩) 4 4, undef, undef, undef], defers := [] } W := by
      intro W g3 g7 g15 v10 h
      subst hl
      refine held_one 8 rfl (by kernel_rfl) (by rfl) ?_
      · refine wp_enter (f := 21) (args := #[.bool big, .int .i64 2, .slice (some ⟨g7, 0, none⟩) 2 2]) (by go_simp) ((numbers_put [2, 4] 2 2 big g7 W rfl (by omega) (by omega) (by omega) N7 (h.b7 _ rfl)).mono ?_)
        rintro e W2 ⟨v, rfl, o2, b2⟩
        refine ⟨_, rfl, block_next h.box b2, ?_⟩
        simp only [Act.put, List.setIfInBounds_toArray, List.set_cons_zero, List.set_cons_succ]
        exact s2111 _ g3 g7 g15 v10 _ (h.call14 o2 b2)
    have s2110 : ∀ (W : World) (g3 g7 : Nat) (v10 v14 : Value), Ph w W T ob big x snap link (some g3) (some g7) none (some v10) (some v14) none → wpAnyH Try.prog .any l.toArray Q (fun W => W.heap[T]? = some ob) 5 #[true, true, true, true, true, true, true, true, true, true, true, true, true, true, true, false, false, false, false, false] { tmps := #[u0, .pointer (some ⟨T, 0, none⟩), .slice none 0 0, .int .u32 (x : Int), .pointer (some ⟨T, 1, none⟩), u5, .pointer (some ⟨T, 0, none⟩), .bool big, .int .u32 (x : Int), .slice (some ⟨g3, 0, none⟩) 1 1, v10, .pointer (some ⟨T, 0, none⟩), .bool big, .slice (some ⟨g7, 0, none⟩) 2 2, v14, .pointer (some ⟨T, 0, none⟩), .bool big, .pointer (some ⟨T, 2, none⟩), .int .u32 (snap : Int), .pointer (some ⟨T, 3, none⟩), .int .u32 (link : Int), undef, undef, undef, undef], defers := [] } W := by
      intro W g3 g7 v10 v14 h
      subst hl
      refine held_one 15 rfl (by kernel_rfl) (by rfl) ?_
      · refine wp_value (v := .slice (some ⟨W.heap.size, 0, none⟩) 4 4) (w' := W.alloc (.cells #[.int .u32 0, .int .u32 0, .int .u32 (snap : Int), .int .u32 (link : Int)] 22)) (by go_simp) ⟨block_next h.box ((Below.refl _ _).alloc (Nat.le_refl _) _), ?_⟩
        simp only [Act.put, List.setIfInBounds_toArray, List.set_cons_zero, List.set_cons_succ]
        exact s2111 _ g3 g7 _ v10 v14 h.mk15
    have s0111 : ∀ (W : World) (g3 g7 g15 : Nat), Ph w W T ob big x snap link (some g3) (some g7) (some g15) none none none → wpAnyH Try.prog .any l.toArray Q (fun W => W.heap[T]? = some ob) 6 #[true, true, true, true, false, true, true, true, false, true, true, true, true, true, true, true, false, false, false, false] { tmps := #[u0, .pointer (some ⟨T, 0, none⟩), .slice none 0 0, .int .u32 (x : Int), .pointer (some ⟨T, 1, none⟩), u5, .pointer (some ⟨T, 0, none⟩), .bool big, .int .u32 (x : Int), .slice (some ⟨g3, 0, none⟩) 1 1, undef, .pointer (some ⟨T, 0, none⟩), .bool big, .slice (some ⟨g7, 0, none⟩) 2 2, undef, .pointer (some ⟨T, 0, none⟩), .bool big, .pointer (some ⟨T, 2, none⟩), .int .u32 (snap : Int), .pointer (some ⟨T, 3, none⟩), .int .u32 (link : Int), .slice (some ⟨g15, 0, none⟩) 4 4, undef, undef, undef], defers := [] } W := by
      intro W g3 g7 g15 h
      subst hl
      refine held_one 4 rfl (by kernel_rfl) (by rfl) ?_
      · refine wp_enter (f := 21) (args := #[.bool big, .int .i64 4, .slice (some ⟨g3, 0, none⟩) 1 1]) (by go_simp) ((numbers_put [x] 1 4 big g3 W rfl (by omega) (by omega) (by omega) N3 (h.b3 _ rfl)).mono ?_)
        rintro e W2 ⟨v, rfl, o2, b2⟩
        refine ⟨_, rfl, block_next h.box b2, ?_⟩
        simp only [Act.put, List.setIfInBounds_toArray, List.set_cons_zero, List.set_cons_succ]
        exact s1111 _ g3 g7 g15 _ (h.call10 o2 b2)
    have s1110 : ∀ (W : World) (g3 g7 : Nat) (v10 : Value), Ph w W T ob big x snap link (some g3) (some g7) none (some v10) none none → wpAnyH Try.prog .any l.toArray Q (fun W => W.heap[T]? = some ob) 6 #[true, true, true, true, true, true, true, true, false, true, true, true, true, true, true, false, false, false, false, false] { tmps := #[u0, .pointer (some ⟨T, 0, none⟩), .slice none 0 0, .int .u32 (x : Int), .pointer (some ⟨T, 1, none⟩), u5, .pointer (some ⟨T, 0, none⟩), .bool big, .int .u32 (x : Int), .slice (some ⟨g3, 0, none⟩) 1 1, v10, .pointer (some ⟨T, 0, none⟩), .bool big, .slice (some ⟨g7, 0, none⟩) 2 2, undef, .pointer (some ⟨T, 0, none⟩), .bool big, .pointer (some ⟨T, 2, none⟩), .int .u32 (snap : Int), .pointer (some ⟨T, 3, none⟩), .int .u32 (link : Int), undef, undef, undef, undef], defers := [] } W := by
      intro W g3 g7 v10 h
      subst hl
      refine held_pair 8 15 rfl rfl (by kernel_rfl) (by rfl) (by rfl) ?_ ?_
      · refine wp_enter (f := 21) (args := #[.bool big, .int .i64 2, .slice (some ⟨g7, 0, none⟩) 2 2]) (by go_simp) ((numbers_put [2, 4] 2 2 big g7 W rfl (by omega) (by omega) (by omega) N7 (h.b7 _ rfl)).mono ?_)
        rintro e W2 ⟨v, rfl, o2, b2⟩
        refine ⟨_, rfl, block_next h.box b2, ?_⟩
        simp only [Act.put, List.setIfInBounds_toArray, List.set_cons_zero, List.set_cons_succ]
        exact s2110 _ g3 g7 v10 _ (h.call14 o2 b2)
      · refine wp_value (v := .slice (some ⟨W.heap.size, 0, none⟩) 4 4) (w' := W.alloc (.cells #[.int .u32 0, .int .u32 0, .int .u32 (snap : Int), .int .u32 (link : Int)] 22)) (by go_simp) ⟨block_next h.box ((Below.refl _ _).alloc (Nat.le_refl _) _), ?_⟩
        simp only [Act.put, List.setIfInBounds_toArray, List.set_cons_zero, List.set_cons_succ]
        exact s1111 _ g3 g7 _ v10 h.mk15
    have s1101 : ∀ (W : World) (g3 g15 : Nat) (v10 : Value), Ph w W T ob big x snap link (some g3) none (some g15) (some v10) none none → wpAnyH Try.prog .any l.toArray Q (fun W => W.heap[T]? = some ob) 6 #[true, true, true, true, true, true, true, false, false, true, true, true, true, true, true, true, false, false, false, false] { tmps := #[u0, .pointer (some ⟨T, 0, none⟩), .slice none 0 0, .int .u32 (x : Int), .pointer (some ⟨T, 1, none⟩), u5, .pointer (some ⟨T, 0, none⟩), .bool big, .int .u32 (x : Int), .slice (some ⟨g3, 0, none⟩) 1 1, v10, .pointer (some ⟨T, 0, none⟩), .bool big, undef, undef, .pointer (some ⟨T, 0, none⟩), .bool big, .pointer (some ⟨T, 2, none⟩), .int .u32 (snap : Int), .pointer (some ⟨T, 3, none⟩), .int .u32 (link : Int), .slice (some ⟨g15, 0, none⟩) 4 4, undef, undef, undef], defers := [] } W := by
      intro W g3 g15 v10 h
      subst hl
      refine held_one 7 rfl (by kernel_rfl) (by rfl) ?_
      · refine wp_value (v := .slice (some ⟨W.heap.size, 0, none⟩) 2 2) (w' := W.alloc (.cells #[.int .u32 2, .int .u32 4] 22)) (by go_simp) ⟨block_next h.box ((Below.refl _ _).alloc (Nat.le_refl _) _), ?_⟩
        simp only [Act.put, List.setIfInBounds_toArray, List.set_cons_zero, List.set_cons_succ]
        exact s1111 _ g3 _ g15 v10 h.mk7
    have s0110 : ∀ (W : World) (g3 g7 : Nat), Ph w W T ob big x snap link (some g3) (some g7) none none none none → wpAnyH Try.prog .any l.toArray Q (fun W => W.heap[T]? = some ob) 7 #[true, true, true, true, false, true, true, true, false, true, true, true, true, true, true, false, false, false, false, false] { tmps := #[u0, .pointer (some ⟨T, 0, none⟩), .slice none 0 0, .int .u32 (x : Int), .pointer (some ⟨T, 1, none⟩), u5, .pointer (some ⟨T, 0, none⟩), .bool big, .int .u32 (x : Int), .slice (some ⟨g3, 0, none⟩) 1 1, undef, .pointer (some ⟨T, 0, none⟩), .bool big, .slice (some ⟨g7, 0, none⟩) 2 2, undef, .pointer (some ⟨T, 0, none⟩), .bool big, .pointer (some ⟨T, 2, none⟩), .int .u32 (snap : Int), .pointer (some ⟨T, 3, none⟩), .int .u32 (link : Int), undef, undef, undef, undef], defers := [] } W := by
      intro W g3 g7 h
      subst hl
      refine held_pair 4 15 rfl rfl (by kernel_rfl) (by rfl) (by rfl) ?_ ?_
      · refine wp_enter (f := 21) (args := #[.bool big, .int .i64 4, .slice (some ⟨g3, 0, none⟩) 1 1]) (by go_simp) ((numbers_put [x] 1 4 big g3 W rfl (by omega) (by omega) (by omega) N3 (h.b3 _ rfl)).mono ?_)
        rintro e W2 ⟨v, rfl, o2, b2⟩
        refine ⟨_, rfl, block_next h.box b2, ?_⟩
        simp only [Act.put, List.setIfInBounds_toArray, List.set_cons_zero, List.set_cons_succ]
        exact s1110 _ g3 g7 _ (h.call10 o2 b2)
      · refine wp_value (v := .slice (some ⟨W.heap.size, 0, none⟩) 4 4) (w' := W.alloc (.cells #[.int .u32 0, .int .u32 0, .int .u32 (snap : Int), .int .u32 (link : Int)] 22)) (by go_simp) ⟨block_next h.box ((Below.refl _ _).alloc (Nat.le_refl _) _), ?_⟩
        simp only [Act.put, List.setIfInBounds_toArray, List.set_cons_zero, List.set_cons_succ]
        exact s0111 _ g3 g7 _ h.mk15
    have s0101 : ∀ (W : World) (g3 g15 : Nat), Ph w W T ob big x snap link (some g3) none (some g15) none none none → wpAnyH Try.prog .any l.toArray Q (fun W => W.heap[T]? = some ob) 7 #[true, true, true, true, false, true, true, false, false, true, true, true, true, true, true, true, false, false, false, false] { tmps := #[u0, .pointer (some ⟨T, 0, none⟩), .slice none 0 0, .int .u32 (x : Int), .pointer (some ⟨T, 1, none⟩), u5, .pointer (some ⟨T, 0, none⟩), .bool big, .int .u32 (x : Int), .slice (some ⟨g3, 0, none⟩) 1 1, undef, .pointer (some ⟨T, 0, none⟩), .bool big, undef, undef, .pointer (some ⟨T, 0, none⟩), .bool big, .pointer (some ⟨T, 2, none⟩), .int .u32 (snap : Int), .pointer (some ⟨T, 3, none⟩), .int .u32 (link : Int), .slice (some ⟨g15, 0, none⟩) 4 4, undef, undef, undef], defers := [] } W := by
      intro W g3 g15 h
      subst hl
      refine held_pair 4 7 rfl rfl (by kernel_rfl) (by rfl) (by rfl) ?_ ?_
      · refine wp_enter (f := 21) (args := #[.bool big, .int .i64 4, .slice (some ⟨g3, 0, none⟩) 1 1]) (by go_simp) ((numbers_put [x] 1 4 big g3 W rfl (by omega) (by omega) (by omega) N3 (h.b3 _ rfl)).mono ?_)
        rintro e W2 ⟨v, rfl, o2, b2⟩
        refine ⟨_, rfl, block_next h.box b2, ?_⟩
        simp only [Act.put, List.setIfInBounds_toArray, List.set_cons_zero, List.set_cons_succ]
        exact s1101 _ g3 g15 _ (h.call10 o2 b2)
      · refine wp_value (v := .slice (some ⟨W.heap.size, 0, none⟩) 2 2) (w' := W.alloc (.cells #[.int .u32 2, .int .u32 4] 22)) (by go_simp) ⟨block_next h.box ((Below.refl _ _).alloc (Nat.le_refl _) _), ?_⟩
        simp only [Act.put, List.setIfInBounds_toArray, List.set_cons_zero, List.set_cons_succ]
        exact s0111 _ g3 _ g15 h.mk7
    have s0011 : ∀ (W : World) (g7 g15 : Nat), Ph w W T ob big x snap link none (some g7) (some g15) none none none → wpAnyH Try.prog .any l.toArray Q (fun W => W.heap[T]? = some ob) 7 #[true, true, true, false, false, true, true, true, false, true, true, true, true, true, true, true, false, false, false, false] { tmps := #[u0, .pointer (some ⟨T, 0, none⟩), .slice none 0 0, .int .u32 (x : Int), .pointer (some ⟨T, 1, none⟩), u5, .pointer (some ⟨T, 0, none⟩), .bool big, .int .u32 (x : Int), undef, undef, .pointer (some ⟨T, 0, none⟩), .bool big, .slice (some ⟨g7, 0, none⟩) 2 2, undef, .pointer (some ⟨T, 0, none⟩), .bool big, .pointer (some ⟨T, 2, none⟩), .int .u32 (snap : Int), .pointer (some ⟨T, 3, none⟩), .int .u32 (link : Int), .slice (some ⟨g15, 0, none⟩) 4 4, undef, undef, undef], defers := [] } W := by
      intro W g7 g15 h
      subst hl
      refine held_one 3 rfl (by kernel_rfl) (by rfl) ?_
      · refine wp_value (v := .slice (some ⟨W.heap.size, 0, none⟩) 1 1) (w' := W.alloc (.cells #[.int .u32 (x : Int)] 22)) (by go_simp) ⟨block_next h.box ((Below.refl _ _).alloc (Nat.le_refl _) _), ?_⟩
        simp only [Act.put, List.setIfInBounds_toArray, List.set_cons_zero, List.set_cons_succ]
        exact s0111 _ _ g7 g15 h.mk3
    have s1100 : ∀ (W : World) (g3 : Nat) (v10 : Value), Ph w W T ob big x snap link (some g3) none none (some v10) none none → wpAnyH Try.prog .any l.toArray Q (fun W => W.heap[T]? = some ob) 7 #[true, true, true, true, true, true, true, false, false, true, true, true, true, true, true, false, false, false, false, false] { tmps := #[u0, .pointer (some ⟨T, 0, none⟩), .slice none 0 0, .int .u32 (x : Int), .pointer (some ⟨T, 1, none⟩), u5, .pointer (some ⟨T, 0, none⟩), .bool big, .int .u32 (x : Int), .slice (some ⟨g3, 0, none⟩) 1 1, v10, .pointer (some ⟨T, 0, none⟩), .bool big, undef, undef, .pointer (some ⟨T, 0, none⟩), .bool big, .pointer (some ⟨T, 2, none⟩), .int .u32 (snap : Int), .pointer (some ⟨T, 3, none⟩), .int .u32 (link : Int), undef, undef, undef, undef], defers := [] } W := by
      intro W g3 v10 h
      subst hl
      refine held_pair 7 15 rfl rfl (by kernel_rfl) (by rfl) (by rfl) ?_ ?_
      · refine wp_value (v := .slice (some ⟨W.heap.size, 0, none⟩) 2 2) (w' := W.alloc (.cells #[.int .u32 2, .int .u32 4] 22)) (by go_simp) ⟨block_next h.box ((Below.refl _ _).alloc (Nat.le_refl _) _), ?_⟩
        simp only [Act.put, List.setIfInBounds_toArray, List.set_cons_zero, List.set_cons_succ]
        exact s1110 _ g3 _ v10 h.mk7
      · refine wp_value (v := .slice (some ⟨W.heap.size, 0, none⟩) 4 4) (w' := W.alloc (.cells #[.int .u32 0, .int .u32 0, .int .u32 (snap : Int), .int .u32 (link : Int)] 22)) (by go_simp) ⟨block_next h.box ((Below.refl _ _).alloc (Nat.le_refl _) _), ?_⟩
        simp only [Act.put, List.setIfInBounds_toArray, List.set_cons_zero, List.set_cons_succ]
        exact s1101 _ g3 _ v10 h.mk15
    have s0100 : ∀ (W : World) (g3 : Nat), Ph w W T ob big x snap link (some g3) none none none none none → wpAnyH Try.prog .any l.toArray Q (fun W => W.heap[T]? = some ob) 8 #[true, true, true, true, false, true, true, false, false, true, true, true, true, true, true, false, false, false, false, false] { tmps := #[u0, .pointer (some ⟨T, 0, none⟩), .slice none 0 0, .int .u32 (x : Int), .pointer (some ⟨T, 1, none⟩), u5, .pointer (some ⟨T, 0, none⟩), .bool big, .int .u32 (x : Int), .slice (some ⟨g3, 0, none⟩) 1 1, undef, .pointer (some ⟨T, 0, none⟩), .bool big, undef, undef, .pointer (some ⟨T, 0, none⟩), .bool big, .pointer (some ⟨T, 2, none⟩), .int .u32 (snap : Int), .pointer (some ⟨T, 3, none⟩), .int .u32 (link : Int), undef, undef, undef, undef], defers := [] } W := by
      intro W g3 h
      subst hl
      refine held_three 4 7 15 rfl rfl rfl (by kernel_rfl) (by rfl) (by rfl) (by rfl) ?_ ?_ ?_
      · refine wp_enter (f := 21) (args := #[.bool big, .int .i64 4, .slice (some ⟨g3, 0, none⟩) 1 1]) (by go_simp) ((numbers_put [x] 1 4 big g3 W rfl (by omega) (by omega) (by omega) N3 (h.b3 _ rfl)).mono ?_)
        rintro e W2 ⟨v, rfl, o2, b2⟩
        refine ⟨_, rfl, block_next h.box b2, ?_⟩
        simp only [Act.put, List.setIfInBounds_toArray, List.set_cons_zero, List.set_cons_succ]
        exact s1100 _ g3 _ (h.call10 o2 b2)
      · refine wp_value (v := .slice (some ⟨W.heap.size, 0, none⟩) 2 2) (w' := W.alloc (.cells #[.int .u32 2, .int .u32 4] 22)) (by go_simp) ⟨block_next h.box ((Below.refl _ _).alloc (Nat.le_refl _) _), ?_⟩
        simp only [Act.put, List.setIfInBounds_toArray, List.set_cons_zero, List.set_cons_succ]
        exact s0110 _ g3 _ h.mk7
      · refine wp_value (v := .slice (some ⟨W.heap.size, 0, none⟩) 4 4) (w' := W.alloc (.cells #[.int .u32 0, .int .u32 0, .int .u32 (snap : Int), .int .u32 (link : Int)] 22)) (by go_simp) ⟨block_next h.box ((Below.refl _ _).alloc (Nat.le_refl _) _), ?_⟩
        simp only [Act.put, List.setIfInBounds_toArray, List.set_cons_zero, List.set_cons_succ]
        exact s0101 _ g3 _ h.mk15
    have s0010 : ∀ (W : World) (g7 : Nat), Ph w W T ob big x snap link none (some g7) none none none none → wpAnyH Try.prog .any l.toArray Q (fun W => W.heap[T]? = some ob) 8 #[true, true, true, false, false, true, true, true, false, true, true, true, true, true, true, false, false, false, false, false] { tmps := #[u0, .pointer (some ⟨T, 0, none⟩), .slice none 0 0, .int .u32 (x : Int), .pointer (some ⟨T, 1, none⟩), u5, .pointer (some ⟨T, 0, none⟩), .bool big, .int .u32 (x : Int), undef, undef, .pointer (some ⟨T, 0, none⟩), .bool big, .slice (some ⟨g7, 0, none⟩) 2 2, undef, .pointer (some ⟨T, 0, none⟩), .bool big, .pointer (some ⟨T, 2, none⟩), .int .u32 (snap : Int), .pointer (some ⟨T, 3, none⟩), .int .u32 (link : Int), undef, undef, undef, undef], defers := [] } W := by
      intro W g7 h
      subst hl
      refine held_pair 3 15 rfl rfl (by kernel_rfl) (by rfl) (by rfl) ?_ ?_
      · refine wp_value (v := .slice (some ⟨W.heap.size, 0, none⟩) 1 1) (w' := W.alloc (.cells #[.int .u32 (x : Int)] 22)) (by go_simp) ⟨block_next h.box ((Below.refl _ _).alloc (Nat.le_refl _) _), ?_⟩
        simp only [Act.put, List.setIfInBounds_toArray, List.set_cons_zero, List.set_cons_succ]
        exact s0110 _ _ g7 h.mk3
      · refine wp_value (v := .slice (some ⟨W.heap.size, 0, none⟩) 4 4) (w' := W.alloc (.cells #[.int .u32 0, .int .u32 0, .int .u32 (snap : Int), .int .u32 (link : Int)] 22)) (by go_simp) ⟨block_next h.box ((Below.refl _ _).alloc (Nat.le_refl _) _), ?_⟩
        simp only [Act.put, List.setIfInBounds_toArray, List.set_cons_zero, List.set_cons_succ]
        exact s0011 _ g7 _ h.mk15
    have s0001 : ∀ (W : World) (g15 : Nat), Ph w W T ob big x snap link none none (some g15) none none none → wpAnyH Try.prog .any l.toArray Q (fun W => W.heap[T]? = some ob) 8 #[true, true, true, false, false, true, true, false, false, true, true, true, true, true, true, true, false, false, false, false] { tmps := #[u0, .pointer (some ⟨T, 0, none⟩), .slice none 0 0, .int .u32 (x : Int), .pointer (some ⟨T, 1, none⟩), u5, .pointer (some ⟨T, 0, none⟩), .bool big, .int .u32 (x : Int), undef, undef, .pointer (some ⟨T, 0, none⟩), .bool big, undef, undef, .pointer (some ⟨T, 0, none⟩), .bool big, .pointer (some ⟨T, 2, none⟩), .int .u32 (snap : Int), .pointer (some ⟨T, 3, none⟩), .int .u32 (link : Int), .slice (some ⟨g15, 0, none⟩) 4 4, undef, undef, undef], defers := [] } W := by
      intro W g15 h
      subst hl
      refine held_pair 3 7 rfl rfl (by kernel_rfl) (by rfl) (by rfl) ?_ ?_
      · refine wp_value (v := .slice (some ⟨W.heap.size, 0, none⟩) 1 1) (w' := W.alloc (.cells #[.int .u32 (x : Int)] 22)) (by go_simp) ⟨block_next h.box ((Below.refl _ _).alloc (Nat.le_refl _) _), ?_⟩
        simp only [Act.put, List.setIfInBounds_toArray, List.set_cons_zero, List.set_cons_succ]
        exact s0101 _ _ g15 h.mk3
      · refine wp_value (v := .slice (some ⟨W.heap.size, 0, none⟩) 2 2) (w' := W.alloc (.cells #[.int .u32 2, .int .u32 4] 22)) (by go_simp) ⟨block_next h.box ((Below.refl _ _).alloc (Nat.le_refl _) _), ?_⟩
        simp only [Act.put, List.setIfInBounds_toArray, List.set_cons_zero, List.set_cons_succ]
        exact s0011 _ _ g15 h.mk7
    have s0000 : ∀ (W : World), Ph w W T ob big x snap link none none none none none none → wpAnyH Try.prog .any l.toArray Q (fun W => W.heap[T]? = some ob) 9 #[true, true, true, false, false, true, true, false, false, true, true, true, true, true, true, false, false, false, false, false] { tmps := #[u0, .pointer (some ⟨T, 0, none⟩), .slice none 0 0, .int .u32 (x : Int), .pointer (some ⟨T, 1, none⟩), u5, .pointer (some ⟨T, 0, none⟩), .bool big, .int .u32 (x : Int), undef, undef, .pointer (some ⟨T, 0, none⟩), .bool big, undef, undef, .pointer (some ⟨T, 0, none⟩), .bool big, .pointer (some ⟨T, 2, none⟩), .int .u32 (snap : Int), .pointer (some ⟨T, 3, none⟩), .int .u32 (link : Int), undef, undef, undef, undef], defers := [] } W := by
      intro W h
      subst hl
      refine held_three 3 7 15 rfl rfl rfl (by kernel_rfl) (by rfl) (by rfl) (by rfl) ?_ ?_ ?_
      · refine wp_value (v := .slice (some ⟨W.heap.size, 0, none⟩) 1 1) (w' := W.alloc (.cells #[.int .u32 (x : Int)] 22)) (by go_simp) ⟨block_next h.box ((Below.refl _ _).alloc (Nat.le_refl _) _), ?_⟩
        simp only [Act.put, List.setIfInBounds_toArray, List.set_cons_zero, List.set_cons_succ]
        exact s0100 _ _ h.mk3
      · refine wp_value (v := .slice (some ⟨W.heap.size, 0, none⟩) 2 2) (w' := W.alloc (.cells #[.int .u32 2, .int .u32 4] 22)) (by go_simp) ⟨block_next h.box ((Below.refl _ _).alloc (Nat.le_refl _) _), ?_⟩
        simp only [Act.put, List.setIfInBounds_toArray, List.set_cons_zero, List.set_cons_succ]
        exact s0010 _ _ h.mk7
      · refine wp_value (v := .slice (some ⟨W.heap.size, 0, none⟩) 4 4) (w' := W.alloc (.cells #[.int .u32 0, .int .u32 0, .int .u32 (snap : Int), .int .u32 (link : Int)] 22)) (by go_simp) ⟨block_next h.box ((Below.refl _ _).alloc (Nat.le_refl _) _), ?_⟩
        simp only [Act.put, List.setIfInBounds_toArray, List.set_cons_zero, List.set_cons_succ]
        exact s0001 _ _ h.mk15
    subst hl
    subst hQ
    refine held_take 0 (v := ?_) rfl (by kernel_rfl) (by kernel_rfl) (by kernel_rfl) (fun _ _ _ h => h) (by assumption) (by rfl) ?_ ?_
    rotate_left
    · (intro W hW; go_simp; try with_reducible rfl)
    simp only [Act.put, List.setIfInBounds_toArray, List.set_cons_zero, List.set_cons_succ]
    refine held_take 1 (v := ?_) rfl (by kernel_rfl) (by kernel_rfl) (by kernel_rfl) (fun _ _ _ h => h) (by assumption) (by rfl) ?_ ?_
    rotate_left
    · (intro W hW; (have t0 : W.cell? ⟨T, 0, none⟩ = some (.bool big) := by subst hob; exact cell_of_row _ _ _ _ _ _ hW); clear hW; go_simp; try with_reducible rfl)
    simp only [Act.put, List.setIfInBounds_toArray, List.set_cons_zero, List.set_cons_succ]
    refine held_take 2 (v := ?_) rfl (by kernel_rfl) (by kernel_rfl) (by kernel_rfl) (fun _ _ _ h => h) (by assumption) (by rfl) ?_ ?_
    rotate_left
    · (intro W hW; go_simp; try with_reducible rfl)
    simp only [Act.put, List.setIfInBounds_toArray, List.set_cons_zero, List.set_cons_succ]
    refine held_take 5 (v := ?_) rfl (by kernel_rfl) (by kernel_rfl) (by kernel_rfl) (fun _ _ _ h => h) (by assumption) (by rfl) ?_ ?_
    rotate_left
    · (intro W hW; go_simp; try with_reducible rfl)
    simp only [Act.put, List.setIfInBounds_toArray, List.set_cons_zero, List.set_cons_succ]
    refine held_take 6 (v := ?_) rfl (by kernel_rfl) (by kernel_rfl) (by kernel_rfl) (fun _ _ _ h => h) (by assumption) (by rfl) ?_ ?_
    rotate_left
    · (intro W hW; (have t0 : W.cell? ⟨T, 0, none⟩ = some (.bool big) := by subst hob; exact cell_of_row _ _ _ _ _ _ hW); clear hW; go_simp; try with_reducible rfl)
    simp only [Act.put, List.setIfInBounds_toArray, List.set_cons_zero, List.set_cons_succ]
    refine held_take 9 (v := ?_) rfl (by kernel_rfl) (by kernel_rfl) (by kernel_rfl) (fun _ _ _ h => h) (by assumption) (by rfl) ?_ ?_
    rotate_left
    · (intro W hW; go_simp; try with_reducible rfl)
    simp only [Act.put, List.setIfInBounds_toArray, List.set_cons_zero, List.set_cons_succ]
    refine held_take 10 (v := ?_) rfl (by kernel_rfl) (by kernel_rfl) (by kernel_rfl) (fun _ _ _ h => h) (by assumption) (by rfl) ?_ ?_
    rotate_left
    · (intro W hW; (have t0 : W.cell? ⟨T, 0, none⟩ = some (.bool big) := by subst hob; exact cell_of_row _ _ _ _ _ _ hW); clear hW; go_simp; try with_reducible rfl)
    simp only [Act.put, List.setIfInBounds_toArray, List.set_cons_zero, List.set_cons_succ]
    refine held_take 11 (v := ?_) rfl (by kernel_rfl) (by kernel_rfl) (by kernel_rfl) (fun _ _ _ h => h) (by assumption) (by rfl) ?_ ?_
    rotate_left
    · (intro W hW; go_simp; try with_reducible rfl)
    simp only [Act.put, List.setIfInBounds_toArray, List.set_cons_zero, List.set_cons_succ]
    refine held_take 12 (v := ?_) rfl (by kernel_rfl) (by kernel_rfl) (by kernel_rfl) (fun _ _ _ h => h) (by assumption) (by rfl) ?_ ?_
    rotate_left
    · (intro W hW; (have t0 : W.cell? ⟨T, 2, none⟩ = some (.int .u32 (snap : Int)) := by subst hob; exact cell_of_row _ _ _ _ _ _ hW); clear hW; go_simp; try with_reducible rfl)
    simp only [Act.put, List.setIfInBounds_toArray, List.set_cons_zero, List.set_cons_succ]
    refine held_take 13 (v := ?_) rfl (by kernel_rfl) (by kernel_rfl) (by kernel_rfl) (fun _ _ _ h => h) (by assumption) (by rfl) ?_ ?_
    rotate_left
    · (intro W hW; go_simp; try with_reducible rfl)
    simp only [Act.put, List.setIfInBounds_toArray, List.set_cons_zero, List.set_cons_succ]
    refine held_take 14 (v := ?_) rfl (by kernel_rfl) (by kernel_rfl) (by kernel_rfl) (fun _ _ _ h => h) (by assumption) (by rfl) ?_ ?_
    rotate_left
    · (intro W hW; (have t0 : W.cell? ⟨T, 3, none⟩ = some (.int .u32 (link : Int)) := by subst hob; exact cell_of_row _ _ _ _ _ _ hW); clear hW; go_simp; try with_reducible rfl)
    simp only [Act.put, List.setIfInBounds_toArray, List.set_cons_zero, List.set_cons_succ]
    exact s0000 _ ⟨hS, hW, (fun _ e => by cases e), (fun _ e => by cases e), (fun _ e => by cases e), (fun _ e => by cases e), (fun _ e => by cases e), (fun _ e => by cases e)⟩
  · skip
    have hxi : (2712812621 : Int) = (x : Int) := HX.out
    have HXI := Lib.hid hxi
    clear HX hxi
    go_enter Try.func20, Try.ntmps20
    simp only [hcells]
    go_wp2_with fail
    rw [HXI.out]
    have hW : (w.alloc (.cells #[.bool big, .bool true, .int .u32 (snap : Int), .int .u32 (link : Int)] 24)).drew.heap[w.heap.size]? = some ob := by rw [hob]; exact HT
    have hS : Below w.heap.size w (w.alloc (.cells #[.bool big, .bool true, .int .u32 (snap : Int), .int .u32 (link : Int)] 24)).drew := HB.drew
    clear HB HT
    refine held_start (S := fun W => W.heap[w.heap.size]? = some ob) 20 (by kernel_rfl) rfl ?_
    generalize (w.alloc (.cells #[.bool big, .bool true, .int .u32 (snap : Int), .int .u32 (link : Int)] 24)).drew = W0 at hW hS ⊢
    generalize w.heap.size = T at hW ⊢
    refine with_ops ?_
    intro l Q hl hQ
    obtain ⟨u0, hu0⟩ : ∃ u0, u0 = Value.agg #[Value.bool big, Value.bool true, Value.int IntKind.u32 ↑snap, Value.int IntKind.u32 ↑link] := ⟨_, rfl⟩
    obtain ⟨u5, hu5⟩ : ∃ u5, u5 = Value.bool true := ⟨_, rfl⟩
    rw [← hu0, ← hu5]
    clear hu0 hu5
    have s3111 : ∀ (W : World) (g3 g7 g15 : Nat) (v10 v14 v22 : Value), Ph w W T ob big x snap link (some g3) (some g7) (some g15) (some v10) (some v14) (some v22) → wpAnyH Try.prog .any l.toArray Q (fun W => W.heap[T]? = some ob) 3 #[true, true, true, true, true, true, true, true, true, true, true, true, true, true, true, true, true, false, false, false] { tmps := #[u0, .pointer (some ⟨T, 0, none⟩), .slice none 0 0, .int .u32 (x : Int), .pointer (some ⟨T, 1, none⟩), u5, .pointer (some ⟨T, 0, none⟩), .bool big, .int .u32 (x : Int), .slice (some ⟨g3, 0, none⟩) 1 1, v10, .pointer (some ⟨T, 0, none⟩), .bool big, .slice (some ⟨g7, 0, none⟩) 2 2, v14, .pointer (some ⟨T, 0, none⟩), .bool big, .pointer (some ⟨T, 2, none⟩), .int .u32 (snap : Int), .pointer (some ⟨T, 3, none⟩), .int .u32 (link : Int), .slice (some ⟨g15, 0, none⟩) 4 4, v22, undef, undef], defers := [] } W := by
      intro W g3 g7 g15 v10 v14 v22 h
      subst hl
      obtain ⟨p10, c10, rfl⟩ := own_slice (h.c10 _ rfl)
      obtain ⟨p14, c14, rfl⟩ := own_slice (h.c14 _ rfl)
      obtain ⟨p22, c22, rfl⟩ := own_slice (h.c22 _ rfl)
      have hps := h.parts rfl rfl rfl
      have hps2 := Ph.bel h
      refine held_makes 17 (v := .slice (some ⟨W.heap.size, 0, none⟩) 3 3) (w' := W.alloc (.cells #[.slice p10 4 c10, .slice p14 4 c14, .slice p22 16 c22] 28)) rfl (by kernel_rfl) (by rfl) (by go_simp) (block_next h.box ((Below.refl _ _).alloc (Nat.le_refl _) _)) ?_
      simp only [Act.put, List.setIfInBounds_toArray, List.set_cons_zero, List.set_cons_succ]
      refine held_call 18 (f := 22) (args := #[.slice (some ⟨W.heap.size, 0, none⟩) 3 3]) rfl (by kernel_rfl) (by rfl) (by go_simp) ?_
      refine (join_at _ 3 3 _ F _ (by rfl) HF.out (by simp) (by omega) hps).mono ?_
      rintro e W2 ⟨v, rfl, o2, b2⟩
      refine ⟨_, rfl, block_next (block_next h.box ((Below.refl _ _).alloc (Nat.le_refl _) _)) b2, ?_⟩
      simp only [Act.put, List.setIfInBounds_toArray, List.set_cons_zero, List.set_cons_succ]
      subst hQ
      have hS2 : W2.heap[T]? = some ob := block_next (block_next h.box ((Below.refl _ _).alloc (Nat.le_refl _) _)) b2
      refine held_take 19 (v := ?_) rfl (by kernel_rfl) (by kernel_rfl) (by kernel_rfl) (fun _ _ _ h => h) (by assumption) (by rfl) ?_ ?_
      rotate_left
      · (intro W hW; go_simp; try with_reducible rfl)
      simp only [Act.put, List.setIfInBounds_toArray, List.set_cons_zero, List.set_cons_succ]
      refine held_done (by kernel_rfl) ?_
      have O2 := Lib.hid (ownsRow_lower (base' := w.heap.size) o2 (by have := hps2.size; simp; omega))
      have B2 := Lib.hid (Below.trans (hps2.alloc hps2.size _) (b2.mono (by have := hps2.size; simp; omega)))
      clear hps hps2 o2 b2 h hS2
      go_wp2
      go_ret
      exact ⟨_, rfl, by rw [Hl.out] at O2; exact O2.out, B2.out⟩
    have s2111 : ∀ (W : World) (g3 g7 g15 : Nat) (v10 v14 : Value), Ph w W T ob big x snap link (some g3) (some g7) (some g15) (some v10) (some v14) none → wpAnyH Try.prog .any l.toArray Q (fun W => W.heap[T]? = some ob) 4 #[true, true, true, true, true, true, true, true, true, true, true, true, true, true, true, true, false, false, false, false] { tmps := #[u0, .pointer (some ⟨T, 0, none⟩), .slice none 0 0, .int .u32 (x : Int), .pointer (some ⟨T, 1, none⟩), u5, .pointer (some ⟨T, 0, none⟩), .bool big, .int .u32 (x : Int), .slice (some ⟨g3, 0, none⟩) 1 1, v10, .pointer (some ⟨T, 0, none⟩), .bool big, .slice (some ⟨g7, 0, none⟩) 2 2, v14, .pointer (some ⟨T, 0, none⟩), .bool big, .pointer (some ⟨T, 2, none⟩), .int .u32 (snap : Int), .pointer (some ⟨T, 3, none⟩), .int .u32 (link : Int), .slice (some ⟨g15, 0, none⟩) 4 4, undef, undef, undef], defers := [] } W := by
      intro W g3 g7 g15 v10 v14 h
      subst hl
      refine held_one 16 rfl (by kernel_rfl) (by rfl) ?_
      · refine wp_enter (f := 21) (args := #[.bool big, .int .i64 4, .slice (some ⟨g15, 0, none⟩) 4 4]) (by go_simp) ((numbers_put [0, 0, snap, link] 4 4 big g15 W rfl (by omega) (by omega) (by omega) N15 (h.b15 _ rfl)).mono ?_)
        rintro e W2 ⟨v, rfl, o2, b2⟩
        refine ⟨_, rfl, block_next h.box b2, ?_⟩
        simp only [Act.put, List.setIfInBounds_toArray, List.set_cons_zero, List.set_cons_succ]
        exact s3111 _ g3 g7 g15 v10 v14 _ (h.call22 o2 b2)
    have s1111 : ∀ (W : World) (g3 g7 g15 : Nat) (v10 : Value), Ph w W T ob big x snap link (some g3) (some g7) (some g15) (some v10) none none → wpAnyH Try.prog .any l.toArray Q (fun W => W.heap[T]? = some ob) 5 #[true, true, true, true, true, true, true, true, false, true, true, true, true, true, true, true, false, false, false, false] { tmps := #[u0, .pointer (some ⟨T, 0, none⟩), .slice none 0 0, .int .u32 (x : Int), .pointer (some ⟨T, 1, none⟩), u5, .pointer (some ⟨T, 0, none⟩), .bool big, .int .u32 (x : Int), .slice (some ⟨g3, 0, none⟩) 1 1, v10, .pointer (some ⟨T, 0, none⟩), .bool big, .slice (some ⟨g7, 0, none⟩) 2 2, undef, .pointer (some ⟨T, 0, none⟩), .bool big, .pointer (some ⟨T, 2, none⟩), .int .u32 (snap : Int), .pointer (some ⟨T, 3, none⟩), .int .u32 (link : Int), .slice (some ⟨g15, 0, none⟩) 4 4, undef, undef, undef], defers := [] } W := by
      intro W g3 g7 g15 v10 h
      subst hl
      refine held_one 8 rfl (by kernel_rfl) (by rfl) ?_
      · refine wp_enter (f := 21) (args := #[.bool big, .int .i64 2, .slice (some ⟨g7, 0, none⟩) 2 2]) (by go_simp) ((numbers_put [2, 4] 2 2 big g7 W rfl (by omega) (by omega) (by omega) N7 (h.b7 _ rfl)).mono ?_)
        rintro e W2 ⟨v, rfl, o2, b2⟩
        refine ⟨_, rfl, block_next h.box b2, ?_⟩
        simp only [Act.put, List.setIfInBounds_toArray, List.set_cons_zero, List.set_cons_succ]
        exact s2111 _ g3 g7 g15 v10 _ (h.call14 o2 b2)
    have s2110 : ∀ (W : World) (g3 g7 : Nat) (v10 v14 : Value), Ph w W T ob big x snap link (some g3) (some g7) none (some v10) (some v14) none → wpAnyH Try.prog .any l.toArray Q (fun W => W.heap[T]? = some ob) 5 #[true, true, true, true, true, true, true, true, true, true, true, true, true, true, true, false, false, false, false, false] { tmps := #[u0, .pointer (some ⟨T, 0, none⟩), .slice none 0 0, .int .u32 (x : Int), .pointer (some ⟨T, 1, none⟩), u5, .pointer (some ⟨T, 0, none⟩), .bool big, .int .u32 (x : Int), .slice (some ⟨g3, 0, none⟩) 1 1, v10, .pointer (some ⟨T, 0, none⟩), .bool big, .slice (some ⟨g7, 0, none⟩) 2 2, v14, .pointer (some ⟨T, 0, none⟩), .bool big, .pointer (some ⟨T, 2, none⟩), .int .u32 (snap : Int), .pointer (some ⟨T, 3, none⟩), .int .u32 (link : Int), undef, undef, undef, undef], defers := [] } W := by
      intro W g3 g7 v10 v14 h
      subst hl
      refine held_one 15 rfl (by kernel_rfl) (by rfl) ?_
      · refine wp_value (v := .slice (some ⟨W.heap.size, 0, none⟩) 4 4) (w' := W.alloc (.cells #[.int .u32 0, .int .u32 0, .int .u32 (snap : Int), .int .u32 (link : Int)] 22)) (by go_simp) ⟨block_next h.box ((Below.refl _ _).alloc (Nat.le_refl _) _), ?_⟩
        simp only [Act.put, List.setIfInBounds_toArray, List.set_cons_zero, List.set_cons_succ]
        exact s2111 _ g3 g7 _ v10 v14 h.mk15
    have s0111 : ∀ (W : World) (g3 g7 g15 : Nat), Ph w W T ob big x snap link (some g3) (some g7) (some g15) none none none → wpAnyH Try.prog .any l.toArray Q (fun W => W.heap[T]? = some ob) 6 #[true, true, true, true, false, true, true, true, false, true, true, true, true, true, true, true, false, false, false, false] { tmps := #[u0, .pointer (some ⟨T, 0, none⟩), .slice none 0 0, .int .u32 (x : Int), .pointer (some ⟨T, 1, none⟩), u5, .pointer (some ⟨T, 0, none⟩), .bool big, .int .u32 (x : Int), .slice (some ⟨g3, 0, none⟩) 1 1, undef, .pointer (some ⟨T, 0, none⟩), .bool big, .slice (some ⟨g7, 0, none⟩) 2 2, undef, .pointer (some ⟨T, 0, none⟩), .bool big, .pointer (some ⟨T, 2, none⟩), .int .u32 (snap : Int), .pointer (some ⟨T, 3, none⟩), .int .u32 (link : Int), .slice (some ⟨g15, 0, none⟩) 4 4, undef, undef, undef], defers := [] } W := by
      intro W g3 g7 g15 h
      subst hl
      refine held_one 4 rfl (by kernel_rfl) (by rfl) ?_
      · refine wp_enter (f := 21) (args := #[.bool big, .int .i64 4, .slice (some ⟨g3, 0, none⟩) 1 1]) (by go_simp) ((numbers_put [x] 1 4 big g3 W rfl (by omega) (by omega) (by omega) N3 (h.b3 _ rfl)).mono ?_)
        rintro e W2 ⟨v, rfl, o2, b2⟩
        refine ⟨_, rfl, block_next h.box b2, ?_⟩
        simp only [Act.put, List.setIfInBounds_toArray, List.set_cons_zero, List.set_cons_succ]
        exact s1111 _ g3 g7 g15 _ (h.call10 o2 b2)
    have s1110 : ∀ (W : World) (g3 g7 : Nat) (v10 : Value), Ph w W T ob big x snap link (some g3) (some g7) none (some v10) none none → wpAnyH Try.prog .any l.toArray Q (fun W => W.heap[T]? = some ob) 6 #[true, true, true, true, true, true, true, true, false, true, true, true, true, true, true, false, false, false, false, false] { tmps := #[u0, .pointer (some ⟨T, 0, none⟩), .slice none 0 0, .int .u32 (x : Int), .pointer (some ⟨T, 1, none⟩), u5, .pointer (some ⟨T, 0, none⟩), .bool big, .int .u32 (x : Int), .slice (some ⟨g3, 0, none⟩) 1 1, v10, .pointer (some ⟨T, 0, none⟩), .bool big, .slice (some ⟨g7, 0, none⟩) 2 2, undef, .pointer (some ⟨T, 0, none⟩), .bool big, .pointer (some ⟨T, 2, none⟩), .int .u32 (snap : Int), .pointer (some ⟨T, 3, none⟩), .int .u32 (link : Int), undef, undef, undef, undef], defers := [] } W := by
      intro W g3 g7 v10 h
      subst hl
      refine held_pair 8 15 rfl rfl (by kernel_rfl) (by rfl) (by rfl) ?_ ?_
      · refine wp_enter (f := 21) (args := #[.bool big, .int .i64 2, .slice (some ⟨g7, 0, none⟩) 2 2]) (by go_simp) ((numbers_put [2, 4] 2 2 big g7 W rfl (by omega) (by omega) (by omega) N7 (h.b7 _ rfl)).mono ?_)
        rintro e W2 ⟨v, rfl, o2, b2⟩
        refine ⟨_, rfl, block_next h.box b2, ?_⟩
        simp only [Act.put, List.setIfInBounds_toArray, List.set_cons_zero, List.set_cons_succ]
        exact s2110 _ g3 g7 v10 _ (h.call14 o2 b2)
      · refine wp_value (v := .slice (some ⟨W.heap.size, 0, none⟩) 4 4) (w' := W.alloc (.cells #[.int .u32 0, .int .u32 0, .int .u32 (snap : Int), .int .u32 (link : Int)] 22)) (by go_simp) ⟨block_next h.box ((Below.refl _ _).alloc (Nat.le_refl _) _), ?_⟩
        simp only [Act.put, List.setIfInBounds_toArray, List.set_cons_zero, List.set_cons_succ]
        exact s1111 _ g3 g7 _ v10 h.mk15
    have s1101 : ∀ (W : World) (g3 g15 : Nat) (v10 : Value), Ph w W T ob big x snap link (some g3) none (some g15) (some v10) none none → wpAnyH Try.prog .any l.toArray Q (fun W => W.heap[T]? = some ob) 6 #[true, true, true, true, true, true, true, false, false, true, true, true, true, true, true, true, false, false, false, false] { tmps := #[u0, .pointer (some ⟨T, 0, none⟩), .slice none 0 0, .int .u32 (x : Int), .pointer (some ⟨T, 1, none⟩), u5, .pointer (some ⟨T, 0, none⟩), .bool big, .int .u32 (x : Int), .slice (some ⟨g3, 0, none⟩) 1 1, v10, .pointer (some ⟨T, 0, none⟩), .bool big, undef, undef, .pointer (some ⟨T, 0, none⟩), .bool big, .pointer (some ⟨T, 2, none⟩), .int .u32 (snap : Int), .pointer (some ⟨T, 3, none⟩), .int .u32 (link : Int), .slice (some ⟨g15, 0, none⟩) 4 4, undef, undef, undef], defers := [] } W := by
      intro W g3 g15 v10 h
      subst hl
      refine held_one 7 rfl (by kernel_rfl) (by rfl) ?_
      · refine wp_value (v := .slice (some ⟨W.heap.size, 0, none⟩) 2 2) (w' := W.alloc (.cells #[.int .u32 2, .int .u32 4] 22)) (by go_simp) ⟨block_next h.box ((Below.refl _ _).alloc (Nat.le_refl _) _), ?_⟩
        simp only [Act.put, List.setIfInBounds_toArray, List.set_cons_zero, List.set_cons_succ]
        exact s1111 _ g3 _ g15 v10 h.mk7
    have s0110 : ∀ (W : World) (g3 g7 : Nat), Ph w W T ob big x snap link (some g3) (some g7) none none none none → wpAnyH Try.prog .any l.toArray Q (fun W => W.heap[T]? = some ob) 7 #[true, true, true, true, false, true, true, true, false, true, true, true, true, true, true, false, false, false, false, false] { tmps := #[u0, .pointer (some ⟨T, 0, none⟩), .slice none 0 0, .int .u32 (x : Int), .pointer (some ⟨T, 1, none⟩), u5, .pointer (some ⟨T, 0, none⟩), .bool big, .int .u32 (x : Int), .slice (some ⟨g3, 0, none⟩) 1 1, undef, .pointer (some ⟨T, 0, none⟩), .bool big, .slice (some ⟨g7, 0, none⟩) 2 2, undef, .pointer (some ⟨T, 0, none⟩), .bool big, .pointer (some ⟨T, 2, none⟩), .int .u32 (snap : Int), .pointer (some ⟨T, 3, none⟩), .int .u32 (link : Int), undef, undef, undef, undef], defers := [] } W := by
      intro W g3 g7 h
      subst hl
      refine held_pair 4 15 rfl rfl (by kernel_rfl) (by rfl) (by rfl) ?_ ?_
      · refine wp_enter (f := 21) (args := #[.bool big, .int .i64 4, .slice (some ⟨g3, 0, none⟩) 1 1]) (by go_simp) ((numbers_put [x] 1 4 big g3 W rfl (by omega) (by omega) (by omega) N3 (h.b3 _ rfl)).mono ?_)
        rintro e W2 ⟨v, rfl, o2, b2⟩
        refine ⟨_, rfl, block_next h.box b2, ?_⟩
        simp only [Act.put, List.setIfInBounds_toArray, List.set_cons_zero, List.set_cons_succ]
        exact s1110 _ g3 g7 _ (h.call10 o2 b2)
      · refine wp_value (v := .slice (some ⟨W.heap.size, 0, none⟩) 4 4) (w' := W.alloc (.cells #[.int .u32 0, .int .u32 0, .int .u32 (snap : Int), .int .u32 (link : Int)] 22)) (by go_simp) ⟨block_next h.box ((Below.refl _ _).alloc (Nat.le_refl _) _), ?_⟩
        simp only [Act.put, List.setIfInBounds_toArray, List.set_cons_zero, List.set_cons_succ]
        exact s0111 _ g3 g7 _ h.mk15
    have s0101 : ∀ (W : World) (g3 g15 : Nat), Ph w W T ob big x snap link (some g3) none (some g15) none none none → wpAnyH Try.prog .any l.toArray Q (fun W => W.heap[T]? = some ob) 7 #[true, true, true, true, false, true, true, false, false, true, true, true, true, true, true, true, false, false, false, false] { tmps := #[u0, .pointer (some ⟨T, 0, none⟩), .slice none 0 0, .int .u32 (x : Int), .pointer (some ⟨T, 1, none⟩), u5, .pointer (some ⟨T, 0, none⟩), .bool big, .int .u32 (x : Int), .slice (some ⟨g3, 0, none⟩) 1 1, undef, .pointer (some ⟨T, 0, none⟩), .bool big, undef, undef, .pointer (some ⟨T, 0, none⟩), .bool big, .pointer (some ⟨T, 2, none⟩), .int .u32 (snap : Int), .pointer (some ⟨T, 3, none⟩), .int .u32 (link : Int), .slice (some ⟨g15, 0, none⟩) 4 4, undef, undef, undef], defers := [] } W := by
      intro W g3 g15 h
      subst hl
      refine held_pair 4 7 rfl rfl (by kernel_rfl) (by rfl) (by rfl) ?_ ?_
      · refine wp_enter (f := 21) (args := #[.bool big, .int .i64 4, .slice (some ⟨g3, 0, none⟩) 1 1]) (by go_simp) ((numbers_put [x] 1 4 big g3 W rfl (by omega) (by omega) (by omega) N3 (h.b3 _ rfl)).mono ?_)
        rintro e W2 ⟨v, rfl, o2, b2⟩
        refine ⟨_, rfl, block_next h.box b2, ?_⟩
        simp only [Act.put, List.setIfInBounds_toArray, List.set_cons_zero, List.set_cons_succ]
        exact s1101 _ g3 g15 _ (h.call10 o2 b2)
      · refine wp_value (v := .slice (some ⟨W.heap.size, 0, none⟩) 2 2) (w' := W.alloc (.cells #[.int .u32 2, .int .u32 4] 22)) (by go_simp) ⟨block_next h.box ((Below.refl _ _).alloc (Nat.le_refl _) _), ?_⟩
        simp only [Act.put, List.setIfInBounds_toArray, List.set_cons_zero, List.set_cons_succ]
        exact s0111 _ g3 _ g15 h.mk7
    have s0011 : ∀ (W : World) (g7 g15 : Nat), Ph w W T ob big x snap link none (some g7) (some g15) none none none → wpAnyH Try.prog .any l.toArray Q (fun W => W.heap[T]? = some ob) 7 #[true, true, true, false, false, true, true, true, false, true, true, true, true, true, true, true, false, false, false, false] { tmps := #[u0, .pointer (some ⟨T, 0, none⟩), .slice none 0 0, .int .u32 (x : Int), .pointer (some ⟨T, 1, none⟩), u5, .pointer (some ⟨T, 0, none⟩), .bool big, .int .u32 (x : Int), undef, undef, .pointer (some ⟨T, 0, none⟩), .bool big, .slice (some ⟨g7, 0, none⟩) 2 2, undef, .pointer (some ⟨T, 0, none⟩), .bool big, .pointer (some ⟨T, 2, none⟩), .int .u32 (snap : Int), .pointer (some ⟨T, 3, none⟩), .int .u32 (link : Int), .slice (some ⟨g15, 0, none⟩) 4 4, undef, undef, undef], defers := [] } W := by
      intro W g7 g15 h
      subst hl
      refine held_one 3 rfl (by kernel_rfl) (by rfl) ?_
      · refine wp_value (v := .slice (some ⟨W.heap.size, 0, none⟩) 1 1) (w' := W.alloc (.cells #[.int .u32 (x : Int)] 22)) (by go_simp) ⟨block_next h.box ((Below.refl _ _).alloc (Nat.le_refl _) _), ?_⟩
        simp only [Act.put, List.setIfInBounds_toArray, List.set_cons_zero, List.set_cons_succ]
        exact s0111 _ _ g7 g15 h.mk3
    have s1100 : ∀ (W : World) (g3 : Nat) (v10 : Value), Ph w W T ob big x snap link (some g3) none none (some v10) none none → wpAnyH Try.prog .any l.toArray Q (fun W => W.heap[T]? = some ob) 7 #[true, true, true, true, true, true, true, false, false, true, true, true, true, true, true, false, false, false, false, false] { tmps := #[u0, .pointer (some ⟨T, 0, none⟩), .slice none 0 0, .int .u32 (x : Int), .pointer (some ⟨T, 1, none⟩), u5, .pointer (some ⟨T, 0, none⟩), .bool big, .int .u32 (x : Int), .slice (some ⟨g3, 0, none⟩) 1 1, v10, .pointer (some ⟨T, 0, none⟩), .bool big, undef, undef, .pointer (some ⟨T, 0, none⟩), .bool big, .pointer (some ⟨T, 2, none⟩), .int .u32 (snap : Int), .pointer (some ⟨T, 3, none⟩), .int .u32 (link : Int), undef, undef, undef, undef], defers := [] } W := by
      intro W g3 v10 h
      subst hl
      refine held_pair 7 15 rfl rfl (by kernel_rfl) (by rfl) (by rfl) ?_ ?_
      · refine wp_value (v := .slice (some ⟨W.heap.size, 0, none⟩) 2 2) (w' := W.alloc (.cells #[.int .u32 2, .int .u32 4] 22)) (by go_simp) ⟨block_next h.box ((Below.refl _ _).alloc (Nat.le_refl _) _), ?_⟩
        simp only [Act.put, List.setIfInBounds_toArray, List.set_cons_zero, List.set_cons_succ]
        exact s1110 _ g3 _ v10 h.mk7
      · refine wp_value (v := .slice (some ⟨W.heap.size, 0, none⟩) 4 4) (w' := W.alloc (.cells #[.int .u32 0, .int .u32 0, .int .u32 (snap : Int), .int .u32 (link : Int)] 22)) (by go_simp) ⟨block_next h.box ((Below.refl _ _).alloc (Nat.le_refl _) _), ?_⟩
        simp only [Act.put, List.setIfInBounds_toArray, List.set_cons_zero, List.set_cons_succ]
        exact s1101 _ g3 _ v10 h.mk15
    have s0100 : ∀ (W : World) (g3 : Nat), Ph w W T ob big x snap link (some g3) none none none none none → wpAnyH Try.prog .any l.toArray Q (fun W => W.heap[T]? = some ob) 8 #[true, true, true, true, false, true, true, false, false, true, true, true, true, true, true, false, false, false, false, false] { tmps := #[u0, .pointer (some ⟨T, 0, none⟩), .slice none 0 0, .int .u32 (x : Int), .pointer (some ⟨T, 1, none⟩), u5, .pointer (some ⟨T, 0, none⟩), .bool big, .int .u32 (x : Int), .slice (some ⟨g3, 0, none⟩) 1 1, undef, .pointer (some ⟨T, 0, none⟩), .bool big, undef, undef, .pointer (some ⟨T, 0, none⟩), .bool big, .pointer (some ⟨T, 2, none⟩), .int .u32 (snap : Int), .pointer (some ⟨T, 3, none⟩), .int .u32 (link : Int), undef, undef, undef, undef], defers := [] } W := by
      intro W g3 h
      subst hl
      refine held_three 4 7 15 rfl rfl rfl (by kernel_rfl) (by rfl) (by rfl) (by rfl) ?_ ?_ ?_
      · refine wp_enter (f := 21) (args := #[.bool big, .int .i64 4, .slice (some ⟨g3, 0, none⟩) 1 1]) (by go_simp) ((numbers_put [x] 1 4 big g3 W rfl (by omega) (by omega) (by omega) N3 (h.b3 _ rfl)).mono ?_)
        rintro e W2 ⟨v, rfl, o2, b2⟩
        refine ⟨_, rfl, block_next h.box b2, ?_⟩
        simp only [Act.put, List.setIfInBounds_toArray, List.set_cons_zero, List.set_cons_succ]
        exact s1100 _ g3 _ (h.call10 o2 b2)
      · refine wp_value (v := .slice (some ⟨W.heap.size, 0, none⟩) 2 2) (w' := W.alloc (.cells #[.int .u32 2, .int .u32 4] 22)) (by go_simp) ⟨block_next h.box ((Below.refl _ _).alloc (Nat.le_refl _) _), ?_⟩
        simp only [Act.put, List.setIfInBounds_toArray, List.set_cons_zero, List.set_cons_succ]
        exact s0110 _ g3 _ h.mk7
      · refine wp_value (v := .slice (some ⟨W.heap.size, 0, none⟩) 4 4) (w' := W.alloc (.cells #[.int .u32 0, .int .u32 0, .int .u32 (snap : Int), .int .u32 (link : Int)] 22)) (by go_simp) ⟨block_next h.box ((Below.refl _ _).alloc (Nat.le_refl _) _), ?_⟩
        simp only [Act.put, List.setIfInBounds_toArray, List.set_cons_zero, List.set_cons_succ]
        exact s0101 _ g3 _ h.mk15
    have s0010 : ∀ (W : World) (g7 : Nat), Ph w W T ob big x snap link none (some g7) none none none none → wpAnyH Try.prog .any l.toArray Q (fun W => W.heap[T]? = some ob) 8 #[true, true, true, false, false, true, true, true, false, true, true, true, true, true, true, false, false, false, false, false] { tmps := #[u0, .pointer (some ⟨T, 0, none⟩), .slice none 0 0, .int .u32 (x : Int), .pointer (some ⟨T, 1, none⟩), u5, .pointer (some ⟨T, 0, none⟩), .bool big, .int .u32 (x : Int), undef, undef, .pointer (some ⟨T, 0, none⟩), .bool big, .slice (some ⟨g7, 0, none⟩) 2 2, undef, .pointer (some ⟨T, 0, none⟩), .bool big, .pointer (some ⟨T, 2, none⟩), .int .u32 (snap : Int), .pointer (some ⟨T, 3, none⟩), .int .u32 (link : Int), undef, undef, undef, undef], defers := [] } W := by
      intro W g7 h
      subst hl
      refine held_pair 3 15 rfl rfl (by kernel_rfl) (by rfl) (by rfl) ?_ ?_
      · refine wp_value (v := .slice (some ⟨W.heap.size, 0, none⟩) 1 1) (w' := W.alloc (.cells #[.int .u32 (x : Int)] 22)) (by go_simp) ⟨block_next h.box ((Below.refl _ _).alloc (Nat.le_refl _) _), ?_⟩
        simp only [Act.put, List.setIfInBounds_toArray, List.set_cons_zero, List.set_cons_succ]
        exact s0110 _ _ g7 h.mk3
      · refine wp_value (v := .slice (some ⟨W.heap.size, 0, none⟩) 4 4) (w' := W.alloc (.cells #[.int .u32 0, .int .u32 0, .int .u32 (snap : Int), .int .u32 (link : Int)] 22)) (by go_simp) ⟨block_next h.box ((Below.refl _ _).alloc (Nat.le_refl _) _), ?_⟩
        simp only [Act.put, List.setIfInBounds_toArray, List.set_cons_zero, List.set_cons_succ]
        exact s0011 _ g7 _ h.mk15
    have s0001 : ∀ (W : World) (g15 : Nat), Ph w W T ob big x snap link none none (some g15) none none none → wpAnyH Try.prog .any l.toArray Q (fun W => W.heap[T]? = some ob) 8 #[true, true, true, false, false, true, true, false, false, true, true, true, true, true, true, true, false, false, false, false] { tmps := #[u0, .pointer (some ⟨T, 0, none⟩), .slice none 0 0, .int .u32 (x : Int), .pointer (some ⟨T, 1, none⟩), u5, .pointer (some ⟨T, 0, none⟩), .bool big, .int .u32 (x : Int), undef, undef, .pointer (some ⟨T, 0, none⟩), .bool big, undef, undef, .pointer (some ⟨T, 0, none⟩), .bool big, .pointer (some ⟨T, 2, none⟩), .int .u32 (snap : Int), .pointer (some ⟨T, 3, none⟩), .int .u32 (link : Int), .slice (some ⟨g15, 0, none⟩) 4 4, undef, undef, undef], defers := [] } W := by
      intro W g15 h
      subst hl
      refine held_pair 3 7 rfl rfl (by kernel_rfl) (by rfl) (by rfl) ?_ ?_
      · refine wp_value (v := .slice (some ⟨W.heap.size, 0, none⟩) 1 1) (w' := W.alloc (.cells #[.int .u32 (x : Int)] 22)) (by go_simp) ⟨block_next h.box ((Below.refl _ _).alloc (Nat.le_refl _) _), ?_⟩
        simp only [Act.put, List.setIfInBounds_toArray, List.set_cons_zero, List.set_cons_succ]
        exact s0101 _ _ g15 h.mk3
      · refine wp_value (v := .slice (some ⟨W.heap.size, 0, none⟩) 2 2) (w' := W.alloc (.cells #[.int .u32 2, .int .u32 4] 22)) (by go_simp) ⟨block_next h.box ((Below.refl _ _).alloc (Nat.le_refl _) _), ?_⟩
        simp only [Act.put, List.setIfInBounds_toArray, List.set_cons_zero, List.set_cons_succ]
        exact s0011 _ _ g15 h.mk7
    have s0000 : ∀ (W : World), Ph w W T ob big x snap link none none none none none none → wpAnyH Try.prog .any l.toArray Q (fun W => W.heap[T]? = some ob) 9 #[true, true, true, false, false, true, true, false, false, true, true, true, true, true, true, false, false, false, false, false] { tmps := #[u0, .pointer (some ⟨T, 0, none⟩), .slice none 0 0, .int .u32 (x : Int), .pointer (some ⟨T, 1, none⟩), u5, .pointer (some ⟨T, 0, none⟩), .bool big, .int .u32 (x : Int), undef, undef, .pointer (some ⟨T, 0, none⟩), .bool big, undef, undef, .pointer (some ⟨T, 0, none⟩), .bool big, .pointer (some ⟨T, 2, none⟩), .int .u32 (snap : Int), .pointer (some ⟨T, 3, none⟩), .int .u32 (link : Int), undef, undef, undef, undef], defers := [] } W := by
      intro W h
      subst hl
      refine held_three 3 7 15 rfl rfl rfl (by kernel_rfl) (by rfl) (by rfl) (by rfl) ?_ ?_ ?_
      · refine wp_value (v := .slice (some ⟨W.heap.size, 0, none⟩) 1 1) (w' := W.alloc (.cells #[.int .u32 (x : Int)] 22)) (by go_simp) ⟨block_next h.box ((Below.refl _ _).alloc (Nat.le_refl _) _), ?_⟩
        simp only [Act.put, List.setIfInBounds_toArray, List.set_cons_zero, List.set_cons_succ]
        exact s0100 _ _ h.mk3
      · refine wp_value (v := .slice (some ⟨W.heap.size, 0, none⟩) 2 2) (w' := W.alloc (.cells #[.int .u32 2, .int .u32 4] 22)) (by go_simp) ⟨block_next h.box ((Below.refl _ _).alloc (Nat.le_refl _) _), ?_⟩
        simp only [Act.put, List.setIfInBounds_toArray, List.set_cons_zero, List.set_cons_succ]
        exact s0010 _ _ h.mk7
      · refine wp_value (v := .slice (some ⟨W.heap.size, 0, none⟩) 4 4) (w' := W.alloc (.cells #[.int .u32 0, .int .u32 0, .int .u32 (snap : Int), .int .u32 (link : Int)] 22)) (by go_simp) ⟨block_next h.box ((Below.refl _ _).alloc (Nat.le_refl _) _), ?_⟩
        simp only [Act.put, List.setIfInBounds_toArray, List.set_cons_zero, List.set_cons_succ]
        exact s0001 _ _ h.mk15
    subst hl
    subst hQ
    refine held_take 0 (v := ?_) rfl (by kernel_rfl) (by kernel_rfl) (by kernel_rfl) (fun _ _ _ h => h) (by assumption) (by rfl) ?_ ?_
    rotate_left
    · (intro W hW; go_simp; try with_reducible rfl)
    simp only [Act.put, List.setIfInBounds_toArray, List.set_cons_zero, List.set_cons_succ]
    refine held_take 1 (v := ?_) rfl (by kernel_rfl) (by kernel_rfl) (by kernel_rfl) (fun _ _ _ h => h) (by assumption) (by rfl) ?_ ?_
    rotate_left
    · (intro W hW; (have t0 : W.cell? ⟨T, 0, none⟩ = some (.bool big) := by subst hob; exact cell_of_row _ _ _ _ _ _ hW); clear hW; go_simp; try with_reducible rfl)
    simp only [Act.put, List.setIfInBounds_toArray, List.set_cons_zero, List.set_cons_succ]
    refine held_take 2 (v := ?_) rfl (by kernel_rfl) (by kernel_rfl) (by kernel_rfl) (fun _ _ _ h => h) (by assumption) (by rfl) ?_ ?_
    rotate_left
    · (intro W hW; go_simp; try with_reducible rfl)
    simp only [Act.put, List.setIfInBounds_toArray, List.set_cons_zero, List.set_cons_succ]
    refine held_take 5 (v := ?_) rfl (by kernel_rfl) (by kernel_rfl) (by kernel_rfl) (fun _ _ _ h => h) (by assumption) (by rfl) ?_ ?_
    rotate_left
    · (intro W hW; go_simp; try with_reducible rfl)
    simp only [Act.put, List.setIfInBounds_toArray, List.set_cons_zero, List.set_cons_succ]
    refine held_take 6 (v := ?_) rfl (by kernel_rfl) (by kernel_rfl) (by kernel_rfl) (fun _ _ _ h => h) (by assumption) (by rfl) ?_ ?_
    rotate_left
    · (intro W hW; (have t0 : W.cell? ⟨T, 0, none⟩ = some (.bool big) := by subst hob; exact cell_of_row _ _ _ _ _ _ hW); clear hW; go_simp; try with_reducible rfl)
    simp only [Act.put, List.setIfInBounds_toArray, List.set_cons_zero, List.set_cons_succ]
    refine held_take 9 (v := ?_) rfl (by kernel_rfl) (by kernel_rfl) (by kernel_rfl) (fun _ _ _ h => h) (by assumption) (by rfl) ?_ ?_
    rotate_left
    · (intro W hW; go_simp; try with_reducible rfl)
    simp only [Act.put, List.setIfInBounds_toArray, List.set_cons_zero, List.set_cons_succ]
    refine held_take 10 (v := ?_) rfl (by kernel_rfl) (by kernel_rfl) (by kernel_rfl) (fun _ _ _ h => h) (by assumption) (by rfl) ?_ ?_
    rotate_left
    · (intro W hW; (have t0 : W.cell? ⟨T, 0, none⟩ = some (.bool big) := by subst hob; exact cell_of_row _ _ _ _ _ _ hW); clear hW; go_simp; try with_reducible rfl)
    simp only [Act.put, List.setIfInBounds_toArray, List.set_cons_zero, List.set_cons_succ]
    refine held_take 11 (v := ?_) rfl (by kernel_rfl) (by kernel_rfl) (by kernel_rfl) (fun _ _ _ h => h) (by assumption) (by rfl) ?_ ?_
    rotate_left
    · (intro W hW; go_simp; try with_reducible rfl)
    simp only [Act.put, List.setIfInBounds_toArray, List.set_cons_zero, List.set_cons_succ]
    refine held_take 12 (v := ?_) rfl (by kernel_rfl) (by kernel_rfl) (by kernel_rfl) (fun _ _ _ h => h) (by assumption) (by rfl) ?_ ?_
    rotate_left
    · (intro W hW; (have t0 : W.cell? ⟨T, 2, none⟩ = some (.int .u32 (snap : Int)) := by subst hob; exact cell_of_row _ _ _ _ _ _ hW); clear hW; go_simp; try with_reducible rfl)
    simp only [Act.put, List.setIfInBounds_toArray, List.set_cons_zero, List.set_cons_succ]
    refine held_take 13 (v := ?_) rfl (by kernel_rfl) (by kernel_rfl) (by kernel_rfl) (fun _ _ _ h => h) (by assumption) (by rfl) ?_ ?_
    rotate_left
    · (intro W hW; go_simp; try with_reducible rfl)
    simp only [Act.put, List.setIfInBounds_toArray, List.set_cons_zero, List.set_cons_succ]
    refine held_take 14 (v := ?_) rfl (by kernel_rfl) (by kernel_rfl) (by kernel_rfl) (fun _ _ _ h => h) (by assumption) (by rfl) ?_ ?_
    rotate_left
    · (intro W hW; (have t0 : W.cell? ⟨T, 3, none⟩ = some (.int .u32 (link : Int)) := by subst hob; exact cell_of_row _ _ _ _ _ _ hW); clear hW; go_simp; try with_reducible rfl)
    simp only [Act.put, List.setIfInBounds_toArray, List.set_cons_zero, List.set_cons_succ]
    exact s0000 _ ⟨hS, hW, (fun _ e => by cases e), (fun _ e => by cases e), (fun _ e => by cases e), (fun _ e => by cases e), (fun _ e => by cases e), (fun _ e => by cases e)⟩
end Go.Proofs.Ytfkjjolohphaoaa
