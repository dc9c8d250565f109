/- Contract of Head. -/
import Derived.Test.YtfkjjolohphaoaaPb
namespace Go.Proofs.Ytfkjjolohphaoaa
open Go.RowKit

/-- What stands in memory while numbers are read: the result's cells, what is built, and how far one is. -/
structure St (w0 w : World) (g R T : Nat) (oR : Obj) (cs : Array Value) (ty : TypeId) (a : Option Addr) (n cap : Nat) (big : Bool) (k : Nat) : Prop where
  num : NumAt w g a n cap big k
  bel : Below w0.heap.size w0 w
  r : w.heap[R]? = some oR
  t : w.heap[T]? = some (.cells cs ty (0, 0))
/-- Where the blocks lie. -/
structure Lies (w0 : World) (g R T : Nat) : Prop where
  gg : w0.heap.size ≤ g
  tt : w0.heap.size ≤ T
  rg : R < g
  rt : R ≠ T
  tg : T < g ∨ g + 2 < T
theorem number_st (a : Option Addr) (n cap : Nat) (xs : List UInt8) (big : Bool) (w0 : World) (hn : xs.length = n) (hm : n ≤ 300000) (H : RowAt w0 a cap xs) (g R T : Nat) (L : Lies w0 g R T)
    (k s : Nat) (h1 : 1 ≤ s) (h4 : s ≤ 4) (hk : k + s ≤ n) (w : World) (oR : Obj) (cs : Array Value) (ty : TypeId) (h : St w0 w g R T oR cs ty a n cap big k) :
    Calls Try.prog 33 #[.int .i64 (s : Int), .pointer (some ⟨g, 0, none⟩), .pointer (some ⟨g + 2, 0, none⟩), .pointer (some ⟨g + 1, 0, none⟩)] w fun e w' =>
      e = .returned (.int .u32 (Oc.get ((xs.drop k).take s) big : Nat)) ∧ St w0 w' g R T oR cs ty a n cap big (k + s) := by
  refine (number_any a n cap xs big k s g w0 w hn hm h1 h4 hk H h.bel L.gg h.num).mono ?_
  rintro e w' ⟨rfl, h2, h3, h4⟩
  have := L.rg
  have := L.tg
  exact ⟨rfl, h2, h3, grown_kept h4 h.r (by omega), grown_kept h4 h.t (by omega)⟩
theorem St.set {w0 w : World} {g R T : Nat} {oR : Obj} {cs : Array Value} {ty : TypeId} {a : Option Addr} {n cap : Nat} {big : Bool} {k : Nat} (h : St w0 w g R T oR cs ty a n cap big k) (L : Lies w0 g R T) (i : Nat) (v : Value) :
    St w0 (w.setCell ⟨T, i, none⟩ v) g R T oR (cs.setIfInBounds i v) ty a n cap big k := by
  have := L.rt
  have := L.tg
  have e : ∀ j, j ≠ T → (w.setCell ⟨T, i, none⟩ v).heap[j]? = w.heap[j]? := fun j hj => heap_setCell_other w _ j v hj
  exact ⟨⟨by rw [e _ (by omega)]; exact h.num.src, by rw [e _ (by omega)]; exact h.num.ord, by rw [e _ (by omega)]; exact h.num.place⟩, h.bel.setCell L.tt v, by rw [e _ (by omega)]; exact h.r, heap_setCell_same w T i cs ty v h.t⟩

set_option maxHeartbeats 2000000 in
theorem head_any (a : Option Addr) (n cap : Nat) (xs : List UInt8) (w : World) (hn : xs.length = n) (hm : n ≤ 300000) (h : RowAt w a cap xs) :
    Calls Try.prog 15 #[.slice a n cap] w fun e w' => HeadRes w w' e (Pc.head xs).1 (Pc.head xs).2 := by
  have c25 := fun W h => mark_any a n cap xs W hn hm h
  have hcase : ((Pc.rmark xs).2 ≠ 0 ∧ Pc.head xs = (Pc.hz, (Pc.rmark xs).2)) ∨ (¬ xs.length < 4 ∧ ∃ big nano, Pc.who xs = some (big, nano) ∧ Pc.rmark xs = (⟨big, nano, 0, 0⟩, 0)) := by
    unfold Pc.rmark
    by_cases h4 : xs.length < 4
    · left; rw [if_pos h4, Pc.head_end xs h4]; exact ⟨by simp, rfl⟩
    · rw [if_neg h4]
      cases hw : Pc.who xs with
      | none => left; rw [Pc.head_form xs h4 hw]; exact ⟨by simp, rfl⟩
      | some p => right; exact ⟨h4, p.1, p.2, rfl, rfl⟩
  have H := Lib.hid h
  clear h
  rcases hcase with ⟨h0, h1⟩ | ⟨h4, big, nano, hw, hr⟩
  · rw [h1]
    clear h1
    have hr3 : (Pc.rmark xs).2 ≤ 3 := by unfold Pc.rmark; split; simp; split <;> simp
    generalize Pc.rmark xs = A at *
    obtain ⟨m, r⟩ := A
    simp only at h0 hr3 c25 ⊢
    have i1 : ((r : Int) != 0) = true := by simp; omega
    have C25 := Lib.hid c25
    clear c25 hn hm
    go_enter Try.func15, Try.ntmps15
    go_wp2_with fail
    refine (C25.out _ (rowAt_alloc H.out _)).mono ?_
    rintro e w1 ⟨rfl, b1⟩
    have hR := first_kept b1
    have hRo : ∀ o, (w1.alloc o).heap[w.heap.size]? = _ := fun o => block_next hR ((Below.refl _ _).alloc (Nat.le_refl _) o)
    have HRo := Lib.hid hRo
    have hB := below_alloc b1
    have HB := Lib.hid (fun o => hB.alloc hB.size o)
    simp only [hcells]
    clear C25 H b1 hR hRo hB h0
    go_wp2_with (refine wpList_store_head rfl (.tmp 2) (.tmp 15) rfl w.heap.size Pc.hz _ rfl rfl (HRo.out _) rfl ?_)
    exact bodyPost_ret (head_ret Try.results15 rfl rfl (HRo.out _)) rfl ⟨rfl, below_setRow (HB.out _) (Nat.le_refl _) _⟩
  · rw [hr] at c25
    have q1 := Pc.head_short xs h4 hw
    have q2 := Pc.head_two xs h4 hw
    have q3 := Pc.head_good xs h4 hw
    have C25 := Lib.hid c25
    by_cases h24 : n < 24
    · rw [q1 (by omega)]
      have i1 : (n : Int) < 24 := by omega
      clear c25 hn hm q1 q2 q3
      go_enter Try.func15, Try.ntmps15
      go_wp2_with fail
      refine (C25.out _ (rowAt_alloc H.out _)).mono ?_
      rintro e w1 ⟨rfl, b1⟩
      have hR := first_kept b1
      have hRo : ∀ o, (w1.alloc o).heap[w.heap.size]? = _ := fun o => block_next hR ((Below.refl _ _).alloc (Nat.le_refl _) o)
      have HRo := Lib.hid hRo
      have hB := below_alloc b1
      have HB := Lib.hid (fun o => hB.alloc hB.size o)
      simp only [hcells]
      clear C25 H b1 hR hRo hB
      go_wp2_with (refine wpList_store_head rfl (.tmp 2) (.tmp 21) rfl w.heap.size Pc.hz _ rfl rfl (HRo.out _) rfl ?_)
      exact bodyPost_ret (head_ret Try.results15 rfl rfl (HRo.out _)) rfl ⟨rfl, below_setRow (HB.out _) (Nat.le_refl _) _⟩
    · have i1 : ¬ (n : Int) < 24 := by omega
      have c33 := fun g R T L => number_st a n cap xs big w hn hm H.out g R T L
      have C33 := Lib.hid c33
      obtain ⟨A, hA⟩ : ∃ A, Pc.head xs = A := ⟨_, rfl⟩
      rw [hA] at q2 q3 ⊢
      have q2' := q2 (by omega)
      have q3' := q3 (by omega)
      have l16 := Pc.num_lt xs 16 big
      have l20 := Pc.num_lt xs 20 big
      obtain ⟨v16, h16⟩ : ∃ v, Pc.num xs 16 big = v := ⟨_, rfl⟩
      obtain ⟨v20, h20⟩ : ∃ v, Pc.num xs 20 big = v := ⟨_, rfl⟩
      rw [h16] at q3' l16
      rw [h20] at q3' l20
      have H16 := Lib.hid h16
      have H20 := Lib.hid h20
      clear h16 h20
      clear c25 c33 hn q1 q2 q3 hA hr hw
      go_enter Try.func15, Try.ntmps15
      go_wp2_with fail
      refine (C25.out _ (rowAt_alloc H.out _)).mono ?_
      rintro e w1 ⟨rfl, b1⟩
      have hR := first_kept b1
      have hB := below_alloc b1
      have hRl := lt_of_block hR
      simp only [hcells]
      go_wp2_with fail
      have hT : (w1.alloc (.cells #[.bool big, .bool nano, .int .u32 0, .int .u32 0] 24)).heap[w1.heap.size]? = _ := heap_alloc_new w1 _
      have hR1 : (w1.alloc (.cells #[.bool big, .bool nano, .int .u32 0, .int .u32 0] 24)).heap[w.heap.size]? = _ := block_next hR ((Below.refl _ _).alloc (Nat.le_refl _) _)
      have hB1 : Below w.heap.size w (w1.alloc (.cells #[.bool big, .bool nano, .int .u32 0, .int .u32 0] 24)) := hB.alloc hB.size _
      have hs1 : (w1.alloc (.cells #[.bool big, .bool nano, .int .u32 0, .int .u32 0] 24)).heap.size = w1.heap.size + 1 := by simp
      refine (numbers_any a n cap big _).mono ?_
      rintro e w2 ⟨rfl, n2, b2, _⟩
      unfold numV
      have L : Lies w (w1.alloc (.cells #[.bool big, .bool nano, .int .u32 0, .int .u32 0] 24)).heap.size w.heap.size w1.heap.size := ⟨by have := hB.size; omega, hB.size, by omega, by omega, .inl (by omega)⟩
      have st0 := (⟨n2, Below.trans hB1 (b2.mono (by have := hB.size; omega)), block_next hR1 b2, block_next hT b2⟩ : St w w2 _ w.heap.size w1.heap.size _ _ _ a n cap big 0)
      generalize (w1.alloc (.cells #[.bool big, .bool nano, .int .u32 0, .int .u32 0] 24)).heap.size = G at L st0 ⊢
      have C := Lib.hid (C33.out _ _ _ L)
      have HL := Lib.hid L
      have S0 := Lib.hid st0
      clear hT hR1 hB1 hs1 b2 n2 hR hB hRl b1 C33 C25 H st0 L
      generalize w1.heap.size = T at C HL S0 ⊢
      go_wp2_with fail
      refine (C.out 0 4 (by omega) (by omega) (by omega) _ _ _ _ S0.out).mono ?_
      rintro e w3 ⟨rfl, st3⟩
      have S3 := Lib.hid st3
      clear st3 S0
      go_wp2_with fail
      refine (C.out 4 2 (by omega) (by omega) (by omega) _ _ _ _ S3.out).mono ?_
      rintro e w4 ⟨rfl, st4⟩
      have S4 := Lib.hid st4
      clear st4 S3
      by_cases t2 : Oc.get ((xs.drop 4).take 2) big = 2
      · obtain rfl := q3' t2
        clear q2' q3'
        have u2 : (((Oc.get ((xs.drop 4).take 2) big : Nat) : Int) != 2) = false := by rw [t2]; rfl
        clear t2
        generalize Oc.get ((xs.drop 4).take 2) big = v2 at *
        go_wp2_with fail
        refine (C.out 6 2 (by omega) (by omega) (by omega) _ _ _ _ S4.out).mono ?_
        rintro e w5 ⟨rfl, st5⟩
        have S5 := Lib.hid st5
        clear st5 S4 u2
        go_wp2_with fail
        refine (C.out 8 4 (by omega) (by omega) (by omega) _ _ _ _ S5.out).mono ?_
        rintro e w6 ⟨rfl, st6⟩
        have S6 := Lib.hid st6
        clear st6 S5
        go_wp2_with fail
        refine (C.out 12 4 (by omega) (by omega) (by omega) _ _ _ _ S6.out).mono ?_
        rintro e w7 ⟨rfl, st7⟩
        have S7 := Lib.hid st7
        clear st7 S6
        go_wp2_with fail
        refine (C.out 16 4 (by omega) (by omega) (by omega) _ _ _ _ S7.out).mono ?_
        rintro e w8 ⟨rfl, st8⟩
        have d8 : w8.cell? ⟨T, 2, none⟩ = some (.int .u32 0) := cell_of_row _ _ _ _ _ _ st8.t
        have f8 := frozen_of_row _ _ 2 _ _ st8.t
        have S8 := Lib.hid (st8.set HL.out 2 (.int .u32 (v16 : Nat)))
        clear st8 S7
        rw [show Oc.get ((xs.drop 16).take 4) big = v16 from H16.out]
        go_wp2_with fail
        refine (C.out 20 4 (by omega) (by omega) (by omega) _ _ _ _ S8.out).mono ?_
        rintro e w9 ⟨rfl, st9⟩
        have d9 : w9.cell? ⟨T, 3, none⟩ = some (.int .u32 0) := cell_of_row _ _ _ _ _ _ st9.t
        have f9 := frozen_of_row _ _ 3 _ _ st9.t
        rw [show Oc.get ((xs.drop 20).take 4) big = v20 from H20.out]
        have S9 := Lib.hid (st9.set HL.out 3 (.int .u32 (v20 : Nat)))
        clear st9 S8 d8 f8 C
        go_wp2_with (first | (refine wpList_load_row rfl 24 (.tmp 4) rfl T rfl 24 (hcells ⟨big, nano, v16, v20⟩).toArray (0, 0) _ S9.out.t Try.underlying24 rfl info24 ?_) | (refine wpList_store_head rfl (.tmp 2) (.tmp 44) rfl w.heap.size ⟨big, nano, v16, v20⟩ _ rfl rfl S9.out.r rfl ?_))
        exact bodyPost_ret (head_ret Try.results15 rfl rfl S9.out.r) rfl ⟨rfl, below_setRow S9.out.bel (Nat.le_refl _) _⟩
      · obtain rfl := q2' t2
        clear q2' q3'
        have u2 : (((Oc.get ((xs.drop 4).take 2) big : Nat) : Int) != 2) = true := by simp; omega
        clear t2
        generalize Oc.get ((xs.drop 4).take 2) big = v2 at *
        go_wp2_with (refine wpList_store_head rfl (.tmp 2) (.tmp 31) rfl w.heap.size Pc.hz _ rfl rfl S4.out.r rfl ?_)
        exact bodyPost_ret (head_ret Try.results15 rfl rfl S4.out.r) rfl ⟨rfl, below_setRow S4.out.bel (Nat.le_refl _) _⟩
end Go.Proofs.Ytfkjjolohphaoaa
