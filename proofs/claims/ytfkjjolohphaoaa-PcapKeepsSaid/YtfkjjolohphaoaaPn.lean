/- Contract of Next. -/
import Derived.Test.YtfkjjolohphaoaaPh
namespace Go.Proofs.Ytfkjjolohphaoaa
open Go.RowKit

/-- A record's cells. -/
def rcells (r : Pc.Rcd) (v : Value) : List Value := [.int .u32 (r.sec : Int), .int .u32 (r.frac : Int), .int .u32 (r.len : Int), v]
theorem info46 : (Try.prog.info? 46).map (·.size) = some 4 := by kernel_rfl
theorem rcells_one (r : Pc.Rcd) (p : Option Addr) (n c : Nat) : (rcells r (.slice p n c)).toArray.all (·.oneCell') = true := by rw [List.all_toArray]; simp [rcells, Value.oneCell']

/-- Three results, the first one in a cell. -/
theorem results_cell_tmps_row {P : Program} {fn : Func} {q q2 p : Tmp} {ty : TypeId} (h : fn.results = #[.cell p ty, .tmp q, .tmp q2]) (tmps : Array Value) (w : World) (g : Nat) (t : TypeId) (cs : Array Value) (fr : Nat × Nat) (d : TypeDesc)
    (hp : tmps.getD p undef = .pointer (some ⟨g, 0, none⟩)) (hg : w.heap[g]? = some (.cells cs t fr))
    (hu : P.underlying ty = some d) (hd : (match d with | .struct _ | .array _ _ => true | _ => false) = true) (hi : (P.info? ty).map (·.size) = some cs.size) :
    (results fn tmps).run P w = .ok (.tuple #[.agg cs, tmps.getD q undef, tmps.getD q2 undef]) w := by
  have hp' : tmps[p]?.getD undef = .pointer (some ⟨g, 0, none⟩) := by simpa using hp
  simp [results, h, hp', asAddr, run_loadVar_row w g t ty cs fr d hg hu hd hi]

theorem wpList_store_rec {w : World} {ops : Array Oper} {rest : List Oper} {o : Oper} {a : Act} {Q : Exit → Act → World → Prop} (hgd : o.guard = none) (x y : Operand) (ho : o.op = .store 46 x y) (R : Nat) (r : Pc.Rcd) (p : Option Addr) (n c : Nat) (cur : Array Value)
    (hx : a.eval x = .pointer (some ⟨R, 0, none⟩)) (hy : a.eval y = .agg (rcells r (.slice p n c)).toArray) (hR : w.heap[R]? = some (.cells cur 46 (0, 0))) (hcur : cur.size = 4)
    (h : wpList Try.prog ops Q rest (a.put o.dst undef) (w.setRow R (rcells r (.slice p n c)).toArray)) : wpList Try.prog ops Q (o :: rest) a w :=
  wpList_store_row hgd 46 x y ho R _ hx hy 46 cur hR info46 hcur (rcells_one r p n c) h

/-- A record that is answered, its size and the error. -/
def NextRes (w w' : World) (e : Ending) (A : Pc.Rcd × Nat × Nat) : Prop :=
  ∃ v, e = .returned (.tuple #[.agg (rcells A.1 v).toArray, .int .i64 (A.2.1 : Int), .int .i64 (A.2.2 : Int)]) ∧ w'.ownsRow w.heap.size 5 1 v A.1.data.length (Lib.byteCells A.1.data) ∧ Below w.heap.size w w'
theorem rec_ret {w' : World} {fn : Func} {q q2 p : Tmp} {R : Nat} {r : Pc.Rcd} {k e : Nat} {v : Value} {tmps : Array Value} {cs : Array Value} (h : fn.results = #[.cell p 46, .tmp q, .tmp q2]) (hp : tmps.getD p undef = .pointer (some ⟨R, 0, none⟩)) (hq : tmps.getD q undef = .int .i64 (k : Int)) (hq2 : tmps.getD q2 undef = .int .i64 (e : Int)) (hR : w'.heap[R]? = some (.cells cs 46 (0, 0))) :
    (results fn tmps).run Try.prog (w'.setRow R (rcells r v).toArray) = .ok (.tuple #[.agg (rcells r v).toArray, .int .i64 (k : Int), .int .i64 (e : Int)]) (w'.setRow R (rcells r v).toArray) := by
  have := results_cell_tmps_row (P := Try.prog) h tmps (w'.setRow R (rcells r v).toArray) R 46 _ _ _ hp (setRow_heap _ _ _ _ _ _ hR) Try.underlying46 rfl info46
  rw [hq, hq2] at this
  exact this
theorem rec_ret0 {w : World} {fn : Func} {q q2 p : Tmp} {r : Pc.Rcd} {k e : Nat} {v : Value} {tmps : Array Value} (h : fn.results = #[.cell p 46, .tmp q, .tmp q2]) (hp : tmps.getD p undef = .pointer (some ⟨w.heap.size, 0, none⟩)) (hq : tmps.getD q undef = .int .i64 (k : Int)) (hq2 : tmps.getD q2 undef = .int .i64 (e : Int)) :
    (results fn tmps).run Try.prog (w.alloc (.cells (rcells r v).toArray 46)) = .ok (.tuple #[.agg (rcells r v).toArray, .int .i64 (k : Int), .int .i64 (e : Int)]) (w.alloc (.cells (rcells r v).toArray 46)) := by
  have := results_cell_tmps_row (P := Try.prog) h tmps (w.alloc (.cells (rcells r v).toArray 46)) w.heap.size 46 _ _ _ hp (heap_alloc_new w _) Try.underlying46 rfl info46
  rw [hq, hq2] at this
  exact this
theorem next_none {w w' : World} {k e : Nat} (b : Below w.heap.size w w') : NextRes w w' (.returned (.tuple #[.agg (rcells Pc.rz (.slice none 0 0)).toArray, .int .i64 (k : Int), .int .i64 (e : Int)])) (Pc.rz, k, e) := ⟨_, rfl, World.ownsRow_nil _ _ _ _, b⟩
theorem ownsRow_setRow {w : World} {B n g : Nat} {v : Value} {xs : List Value} (h : w.ownsRow B 5 1 v n xs) (hg : g < B) (cs : Array Value) : (w.setRow g cs).ownsRow B 5 1 v n xs := by
  refine ⟨h.1, ?_⟩
  rcases h.2 with h2 | ⟨q, cap, cur, e, hB, hq, hr⟩
  · exact .inl h2
  · exact .inr ⟨q, cap, cur, e, hB, by rw [setRow_other _ _ _ _ (by omega)]; exact hq, hr⟩
theorem ownsRow_set {w : World} {B n g i : Nat} {v u : Value} {xs : List Value} (h : w.ownsRow B 5 1 v n xs) (hg : g < B) : (w.setCell ⟨g, i, none⟩ u).ownsRow B 5 1 v n xs := by
  refine ⟨h.1, ?_⟩
  rcases h.2 with h2 | ⟨q, cap, cur, e, hB, hq, hr⟩
  · exact .inl h2
  · exact .inr ⟨q, cap, cur, e, hB, by rw [heap_setCell_other _ _ _ _ (by simp; omega)]; exact hq, hr⟩

set_option maxHeartbeats 2000000 in
theorem next_any (a : Option Addr) (n cap : Nat) (xs : List UInt8) (big : Bool) (w : World) (hn : xs.length = n) (hm : n ≤ 300000) (h : RowAt w a cap xs) :
    Calls Try.prog 18 #[.slice a n cap, .bool big] w fun e w' => NextRes w w' e (Pc.next xs big) := by
  by_cases h16 : n < 16
  · rw [Pc.next_end xs big (by omega)]
    have i1 : (n : Int) < 16 := by omega
    go_enter Try.func18, Try.ntmps18
    go_wp2
    exact bodyPost_ret (rec_ret0 (r := Pc.rz) (v := .slice none 0 0) Try.results18 rfl rfl rfl) rfl (next_none ((Below.refl _ _).alloc (Nat.le_refl _) _))
  · have i1 : ¬ (n : Int) < 16 := by omega
    have q1 := Pc.next_long xs big (by omega)
    have q2 := Pc.next_short xs big (by omega)
    have q3 := Pc.next_good xs big (by omega)
    have l0 := Pc.num_lt xs 0 big
    have l4 := Pc.num_lt xs 4 big
    have l8 := Pc.num_lt xs 8 big
    have l12 := Pc.num_lt xs 12 big
    obtain ⟨A, hA⟩ : ∃ A, Pc.next xs big = A := ⟨_, rfl⟩
    obtain ⟨v0, h0⟩ : ∃ v, Pc.num xs 0 big = v := ⟨_, rfl⟩
    obtain ⟨v4, h4⟩ : ∃ v, Pc.num xs 4 big = v := ⟨_, rfl⟩
    obtain ⟨v8, h8⟩ : ∃ v, Pc.num xs 8 big = v := ⟨_, rfl⟩
    obtain ⟨v12, h12⟩ : ∃ v, Pc.num xs 12 big = v := ⟨_, rfl⟩
    rw [hA] at q1 q2 q3 ⊢
    rw [h8] at q1 q2
    rw [h0, h4, h8, h12] at q3
    rw [h0] at l0
    rw [h4] at l4
    rw [h8] at l8
    rw [h12] at l12
    rw [hn] at q2 q3
    have E0 := Lib.hid h0
    have E4 := Lib.hid h4
    have E8 := Lib.hid h8
    have E12 := Lib.hid h12
    have H := Lib.hid h
    have C33 := Lib.hid (fun g R T L => number_st a n cap xs big w hn hm H.out g R T L)
    have c29 : ¬ n < 16 + v8 → ∀ W, RowAt W a cap xs → _ := fun hle W h => cut_good a cap xs 16 v8 W (by omega) (by omega) h
    have c29b : n < 16 + v8 → ∀ W, _ := fun hle W => cut_bad a n cap 16 (v8 : Int) W (by omega) (by omega) (by omega) (.inr (.inr (by omega)))
    have hys : ¬ n < 16 + v8 → ((xs.drop 16).take v8).length = v8 := fun hle => by simp; omega
    rw [hn] at c29
    generalize (xs.drop 16).take v8 = ys at *
    have Q1 := Lib.hid q1
    have Q2 := Lib.hid q2
    have Q3 := Lib.hid q3
    have C29 := Lib.hid c29
    have C29b := Lib.hid c29b
    have Hys := Lib.hid hys
    clear h0 h4 h8 h12 h hA hn q1 q2 q3 c29 c29b hys
    go_enter Try.func18, Try.ntmps18
    go_wp2_with fail
    refine (numbers_any a n cap big _).mono ?_
    rintro e w2 ⟨rfl, n2, b2, s2⟩
    unfold numV
    have hR2 := first_kept b2
    have hB2 := below_alloc b2
    have hs1 : (w.alloc (.cells #[.int .u32 0, .int .u32 0, .int .u32 0, .slice none 0 0] 46)).heap.size = w.heap.size + 1 := by simp
    rw [hs1] at n2 s2 ⊢
    have hT : (w2.alloc (.cells #[.int .u32 0, .int .u32 0, .int .u32 0, .slice none 0 0] 46)).heap[w2.heap.size]? = _ := heap_alloc_new w2 _
    have b3 : Below w2.heap.size w2 (w2.alloc (.cells #[.int .u32 0, .int .u32 0, .int .u32 0, .slice none 0 0] 46)) := (Below.refl _ _).alloc (Nat.le_refl _) _
    have L : Lies w (w.heap.size + 1) w.heap.size w2.heap.size := ⟨by omega, hB2.size, by omega, by omega, .inr (by omega)⟩
    have st0 := (⟨⟨block_next n2.src b3, block_next n2.ord b3, block_next n2.place b3⟩, Below.chain hB2 b3, block_next hR2 b3, hT⟩ : St w _ (w.heap.size + 1) w.heap.size w2.heap.size _ _ _ a n cap big 0)
    have C := Lib.hid (C33.out _ _ _ L)
    have HL := Lib.hid L
    have S0 := Lib.hid st0
    clear hT b3 L st0 hB2 hR2 n2 b2 s2 hs1 C33
    go_wp2_with fail
    generalize w2.alloc (.cells #[.int .u32 0, .int .u32 0, .int .u32 0, .slice none 0 0] 46) = W at S0 ⊢
    generalize w2.heap.size = T at C HL S0 ⊢
    refine (C.out 0 4 (by omega) (by omega) (by omega) _ _ _ _ S0.out).mono ?_
    rintro e w3 ⟨rfl, st3⟩
    rw [show Oc.get ((xs.drop 0).take 4) big = v0 from E0.out]
    have d3 : w3.cell? ⟨T, 0, none⟩ = some (.int .u32 0) := cell_of_row _ _ _ _ _ _ st3.t
    have f3 := frozen_of_row _ _ 0 _ _ st3.t
    have S3 := Lib.hid (st3.set HL.out 0 (.int .u32 (v0 : Nat)))
    clear st3 S0
    go_wp2_with fail
    refine (C.out 4 4 (by omega) (by omega) (by omega) _ _ _ _ S3.out).mono ?_
    rintro e w4 ⟨rfl, st4⟩
    rw [show Oc.get ((xs.drop 4).take 4) big = v4 from E4.out]
    have d4 : w4.cell? ⟨T, 1, none⟩ = some (.int .u32 0) := cell_of_row _ _ _ _ _ _ st4.t
    have f4 := frozen_of_row _ _ 1 _ _ st4.t
    have S4 := Lib.hid (st4.set HL.out 1 (.int .u32 (v4 : Nat)))
    clear st4 S3 d3 f3
    go_wp2_with fail
    refine (C.out 8 4 (by omega) (by omega) (by omega) _ _ _ _ S4.out).mono ?_
    rintro e w5 ⟨rfl, st5⟩
    rw [show Oc.get ((xs.drop 8).take 4) big = v8 from E8.out]
    have S5 := Lib.hid st5
    clear st5 S4 d4 f4
    go_wp2_with fail
    refine (C.out 12 4 (by omega) (by omega) (by omega) _ _ _ _ S5.out).mono ?_
    rintro e w6 ⟨rfl, st6⟩
    rw [show Oc.get ((xs.drop 12).take 4) big = v12 from E12.out]
    have d6 : w6.cell? ⟨T, 2, none⟩ = some (.int .u32 0) := cell_of_row _ _ _ _ _ _ st6.t
    have f6 := frozen_of_row _ _ 2 _ _ st6.t
    have S6 := Lib.hid (st6.set HL.out 2 (.int .u32 (v12 : Nat)))
    clear st6 S5 C
    by_cases u1 : 131072 < v8
    · obtain rfl := Q1.out u1
      clear Q1 Q2 Q3 C29 C29b Hys
      have j1 : 131072 < (v8 : Int) := by omega
      go_wp2_with (refine wpList_store_rec rfl (.tmp 4) (.tmp 33) rfl w.heap.size Pc.rz none 0 0 _ rfl rfl S6.out.r rfl ?_)
      exact bodyPost_ret (rec_ret (r := Pc.rz) (v := .slice none 0 0) Try.results18 rfl rfl rfl S6.out.r) rfl (next_none (below_setRow S6.out.bel (Nat.le_refl _) _))
    · have j1 : ¬ 131072 < (v8 : Int) := by omega
      have hw8 : IntKind.i64.wrap (v8 : Int) = (v8 : Int) := by rw [IntKind.wrap_i64]; omega
      by_cases u2 : n < 16 + v8
      · obtain rfl := Q2.out u1 u2
        clear Q1 Q2 Q3 C29 Hys
        go_wp2_with fail
        refine (C29b.out u2 _).mono ?_
        rintro e w7 ⟨rfl, h7⟩
        rw [h7]
        clear h7 C29b
        go_wp2_with (refine wpList_store_rec rfl (.tmp 4) (.tmp 43) rfl w.heap.size Pc.rz none 0 0 _ rfl rfl S6.out.r rfl ?_)
        exact bodyPost_ret (rec_ret (r := Pc.rz) (v := .slice none 0 0) Try.results18 rfl rfl rfl S6.out.r) rfl (next_none (below_setRow S6.out.bel (Nat.le_refl _) _))
      · obtain rfl := Q3.out u1 u2
        have hy := Hys.out u2
        clear Q1 Q2 Q3 C29b Hys
        go_wp2_with fail
        refine (C29.out u2 _ (H.out.next S6.out.bel)).mono ?_
        rintro e w7 ⟨v, rfl, o7, b7⟩
        have st7 := S6.out
        have hlt := lt_of_block st7.t
        have hge := st7.bel.size
        have hT7 := block_next st7.t b7
        have hR7 := block_next st7.r b7
        have B7 := Lib.hid (Below.chain st7.bel b7)
        have hrl := lt_of_block st7.r
        have o8 := ownsRow_set (i := 3) (u := v) o7 hlt
        have d7 : w7.cell? ⟨T, 3, none⟩ = some (.slice none 0 0) := cell_of_row _ _ _ _ _ _ hT7
        have f7 := frozen_of_row _ _ 3 _ _ hT7
        have hT8 := heap_setCell_same w7 T 3 _ _ v hT7
        have hR8 : (w7.setCell ⟨T, 3, none⟩ v).heap[w.heap.size]? = _ := (heap_setCell_other w7 _ _ v HL.out.rt).trans hR7
        have B8 := Lib.hid (B7.out.setCell (p := ⟨T, 3, none⟩) HL.out.tt v)
        have HT8 := Lib.hid hT8
        have HR8 := Lib.hid hR8
        have O8 := Lib.hid (ownsRow_lower (ownsRow_setRow o8 hrl (rcells ⟨v0, v4, v12, ys⟩ v).toArray) hge)
        obtain ⟨p, c, rfl, _⟩ := rowAt_own hy o7
        clear st7 hT7 hR7 o7 o8 b7 S6 B7 hT8 hR8 C29
        go_wp2_with (first | (refine wpList_load_row rfl 46 (.tmp 8) rfl T rfl 46 (rcells ⟨v0, v4, v12, ys⟩ (.slice p v8 c)).toArray (0, 0) _ HT8.out Try.underlying46 rfl info46 ?_) | (refine wpList_store_rec rfl (.tmp 4) (.tmp 46) rfl w.heap.size ⟨v0, v4, v12, ys⟩ p v8 c _ rfl rfl HR8.out rfl ?_))
        refine bodyPost_ret (rec_ret (k := 16 + v8) (e := 0) (r := ⟨v0, v4, v12, ys⟩) (v := .slice p v8 c) Try.results18 rfl ?_ rfl HR8.out) rfl ⟨_, rfl, by rw [← hy] at O8 ⊢; exact O8.out, below_setRow B8.out (Nat.le_refl _) _⟩
        show Value.int .i64 _ = _
        first | rfl | (congr 1; omega)
end Go.Proofs.Ytfkjjolohphaoaa
