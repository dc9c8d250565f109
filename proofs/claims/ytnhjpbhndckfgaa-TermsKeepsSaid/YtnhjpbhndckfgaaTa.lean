/- Terms in memory; number, asked. -/
import Derived.Test.YtnhjpbhndckfgaaBb
import Derived.Test.YtnhjpbhndckfgaaOct
import Derived.Test.YtnhjpbhndckfgaaOb
import Derived.Test.YtnhjpbhndckfgaaPlaint
namespace Go.Proofs.Ytnhjpbhndckfgaa
open Go.RowKit S2 S12

/-- The cells of terms. -/
def tcells (t : Tm.T) : List Value := [.bool t.hasMru, .int .i64 t.mru, .bool t.hasAccm, .int .u32 (t.accm : Int), .int .i64 t.login, .bool t.quality, .bool t.hasMagic, .int .u32 (t.magic : Int), .bool t.pfc, .bool t.acfc]
theorem infoTm : (Try.prog.info? 32).map (·.size) = some 10 := by kernel_rfl
theorem tcells_one (t : Tm.T) : (tcells t).toArray.all (·.oneCell') = true := by rw [List.all_toArray]; simp [tcells, Value.oneCell']
theorem tcells_size (t : Tm.T) : (tcells t).toArray.size = 10 := rfl
theorem wpList_store_tm {w : World} {ops : Array Oper} {rest : List Oper} {o : Oper} {a : Act} {Q : Exit → Act → World → Prop} (hgd : o.guard = none) (x y : Operand) (ho : o.op = .store 32 x y) (R : Nat) (t : Tm.T) (cur : Array Value)
    (hx : a.eval x = .pointer (some ⟨R, 0, none⟩)) (hy : a.eval y = .agg (tcells t).toArray) (hR : w.heap[R]? = some (.cells cur 32 (0, 0))) (hcur : cur.size = 10)
    (h : wpList Try.prog ops Q rest (a.put o.dst undef) (w.setRow R (tcells t).toArray)) : wpList Try.prog ops Q (o :: rest) a w :=
  wpList_store_row hgd 32 x y ho R _ hx hy 32 cur hR infoTm hcur (tcells_one t) h
/-- Terms in a block of their own. -/
def TmAt (w : World) (g : Nat) (t : Tm.T) : Prop := w.heap[g]? = some (.cells (tcells t).toArray 32 (0, 0))
theorem TmAt.cell {w : World} {g : Nat} {t : Tm.T} (h : TmAt w g t) (i : Nat) : w.cell? ⟨g, i, none⟩ = (tcells t).toArray[i]? := cell_of_row _ _ _ _ _ _ h
theorem TmAt.frozen {w : World} {g : Nat} {t : Tm.T} (h : TmAt w g t) (i : Nat) : w.frozen? ⟨g, i, none⟩ = false := frozen_of_row _ _ _ _ _ h
theorem TmAt.set {w : World} {g : Nat} {t : Tm.T} (h : TmAt w g t) (i : Nat) (v : Value) (s : Tm.T) (e : (tcells t).toArray.setIfInBounds i v = (tcells s).toArray) : TmAt (w.setCell ⟨g, i, none⟩ v) g s := by
  have := heap_setCell_same w g i _ _ v h
  rw [e] at this
  exact this
theorem TmAt.lt {w : World} {g : Nat} {t : Tm.T} (h : TmAt w g t) : g < w.heap.size := lt_of_block h
theorem TmAt.next {w w' : World} {g : Nat} {t : Tm.T} (h : TmAt w g t) (hb : Below w.heap.size w w') : TmAt w' g t := (hb.block g h.lt).trans h
theorem TmAt.kept {w w' : World} {g q : Nat} {t : Tm.T} (h : TmAt w g t) (hg : w.grownBy w' (some q)) (hq : g ≠ q) : TmAt w' g t := (hg.block g h.lt (fun e => hq (Option.some.inj e))).trans h

theorem number_any (a : Option Addr) (n cap s : Nat) (xs : List UInt8) (w : World) (hn : xs.length = n) (h1 : 1 ≤ s) (h8 : s ≤ 8) (h : RowAt w a cap xs) :
    Calls Try.prog 43 #[.slice a n cap, .int .i64 (s : Int)] w fun e w' => e = .returned (.tuple #[.int .u64 ((if n = s then Oc.get xs true else 0 : Nat) : Int), .bool (decide (n = s))]) ∧ w' = w := by
  by_cases e : n = s
  · subst e
    have h22 := S2.get_at a cap xs true w (by omega) (by omega) h.bytes
    rw [hn] at h22
    rw [if_pos rfl, decide_eq_true rfl]
    generalize Oc.get xs true = g at h22 ⊢
    clear hn h
    go_enter Try.func43, Try.ntmps43
    go_wp2_with fail
    refine h22.mono ?_
    rintro e w1 ⟨rfl, h1⟩; rw [h1]; clear h1 h22
    go_wp2
    go_ret2
    exact ⟨rfl, rfl⟩
  · rw [if_neg e, decide_eq_false e]
    have i1 : ¬ (n : Int) = (s : Int) := by omega
    clear hn h e
    go_enter Try.func43, Try.ntmps43
    go_wp2
    go_ret2
    exact ⟨rfl, rfl⟩

theorem built_five (w : World) : RowAt (w.alloc (.cells #[.int .u8 5] 5 (0, 0))) (some ⟨w.heap.size, 0, none⟩) 1 [5] := rowAt_built w [5] 1 _ rfl rfl (by omega) (0, 0)
set_option maxHeartbeats 1000000 in
theorem asked_any (a : Option Addr) (n cap : Nat) (xs : List UInt8) (w : World) (hn : xs.length = n) (hm : n ≤ 300000) (h : RowAt w a cap xs) :
    Calls Try.prog 30 #[.slice a n cap] w fun e w' => e = .returned (.int .i64 (Tm.asked xs : Nat)) ∧ Below w.heap.size w w' := by
  unfold Tm.asked
  rw [hn]
  by_cases h2 : n < 2
  · rw [if_pos h2]
    have i1 : (n : Int) < 2 := by omega
    clear hn h h2
    go_enter Try.func30, Try.ntmps30
    go_wp2
    go_ret
    exact ⟨rfl, Below.refl _ _⟩
  · rw [if_neg h2]
    obtain ⟨b, off, rfl⟩ := h.some (by omega)
    have hl : (xs.take 2).length = 2 := by rw [List.length_take]; omega
    have c1 := number_any (some ⟨b, off, none⟩) 2 cap 2 (xs.take 2) w hl (by omega) (by omega) (h.head 2 (by omega))
    rw [if_pos rfl, decide_eq_true rfl] at c1
    have hc := h.cut 2 n (by omega) (by omega)
    rw [List.take_of_length_le (by omega)] at hc
    have h0 := h.le
    have hmx := h.max
    obtain ⟨m, rfl⟩ : ∃ m, n = m + 2 := ⟨n - 2, by omega⟩
    have hdl : (xs.drop 2).length = m := by rw [List.length_drop]; omega
    have i1 : ¬ ((m : Int) + 2) < 2 := by omega
    generalize Oc.get (xs.take 2) true = P at c1 ⊢
    generalize xs.drop 2 = D at hc hdl ⊢
    have C1 := Lib.hid c1
    have HDL := Lib.hid hdl
    rw [hn] at h0
    clear c1 hdl hl hn h h2
    by_cases hc2 : cap = 2
    · subst hc2
      rw [if_pos rfl] at hc
      have hm0 : m = 0 := by omega
      subst hm0
      have hD0 : D = [] := List.eq_nil_of_length_eq_zero HDL.out
      subst hD0
      have HC := Lib.hid hc
      clear hc HDL i1 h0 hmx
      by_cases p1 : P = 49187
      · subst p1
        rw [if_pos rfl, if_pos rfl]
        clear HC
        go_enter Try.func30, Try.ntmps30
        go_wp2_with fail
        refine C1.out.mono ?_
        rintro e w1 ⟨rfl, h1⟩; rw [h1]; clear h1 C1
        go_wp2
        go_ret
        exact ⟨rfl, Below.refl _ _⟩
      · rw [if_neg p1]
        have i3 : ¬ (P : Int) = 49187 := by omega
        by_cases p2 : P = 49699
        · subst p2
          rw [if_pos rfl, if_neg (by simp)]
          have C2 := Lib.hid (equal_any (some ⟨b, off, none⟩) (some ⟨w.heap.size, 0, none⟩) 0 1 0 1 [] [5] (w.alloc (.cells #[.int .u8 5] 5 (0, 0))) rfl rfl (rowAt_alloc HC.out _) (built_five w))
          rw [decide_eq_false (by simp)] at C2
          have BB := Lib.hid (below_one w (.cells #[.int .u8 5] 5))
          clear HC
          go_enter Try.func30, Try.ntmps30
          go_wp2_with fail
          refine C1.out.mono ?_
          rintro e w1 ⟨rfl, h1⟩; rw [h1]; clear h1 C1
          go_wp2_with fail
          refine C2.out.mono ?_
          rintro e w2 ⟨rfl, h2⟩; rw [h2]; clear h2 C2
          go_wp2
          go_ret
          exact ⟨rfl, BB.out⟩
        · rw [if_neg p2]
          have i4 : ¬ (P : Int) = 49699 := by omega
          clear HC
          go_enter Try.func30, Try.ntmps30
          go_wp2_with fail
          refine C1.out.mono ?_
          rintro e w1 ⟨rfl, h1⟩; rw [h1]; clear h1 C1
          go_wp2
          go_ret
          exact ⟨rfl, Below.refl _ _⟩
    · rw [if_neg hc2, Option.map_some, Go.WideShapes.add_plain] at hc
      have HC := Lib.hid hc
      clear hc
      by_cases p1 : P = 49187
      · subst p1
        rw [if_pos rfl]
        clear HC
        by_cases hm0 : m = 0
        · subst hm0
          rw [if_pos rfl]
          clear HDL
          go_enter Try.func30, Try.ntmps30
          go_wp2_with fail
          refine C1.out.mono ?_
          rintro e w1 ⟨rfl, h1⟩; rw [h1]; clear h1 C1
          go_wp2
          go_ret
          exact ⟨rfl, Below.refl _ _⟩
        · have i2 : ¬ (m : Int) = 0 := by omega
          rw [if_neg (by omega)]
          clear HDL
          go_enter Try.func30, Try.ntmps30
          go_wp2_with fail
          refine C1.out.mono ?_
          rintro e w1 ⟨rfl, h1⟩; rw [h1]; clear h1 C1
          go_wp2
          go_ret
          exact ⟨rfl, Below.refl _ _⟩
      · rw [if_neg p1]
        have i3 : ¬ (P : Int) = 49187 := by omega
        by_cases p2 : P = 49699
        · subst p2
          rw [if_pos rfl]
          have C2 := Lib.hid (equal_any (some ⟨b, off + 2, none⟩) (some ⟨w.heap.size, 0, none⟩) m 1 (cap - 2) 1 D [5] (w.alloc (.cells #[.int .u8 5] 5 (0, 0))) HDL.out rfl (rowAt_alloc HC.out _) (built_five w))
          have BB := Lib.hid (below_one w (.cells #[.int .u8 5] 5))
          clear HC HDL
          by_cases hD : D = [5]
          · rw [if_pos hD]
            rw [decide_eq_true hD] at C2
            clear hD
            go_enter Try.func30, Try.ntmps30
            go_wp2_with fail
            refine C1.out.mono ?_
            rintro e w1 ⟨rfl, h1⟩; rw [h1]; clear h1 C1
            go_wp2_with fail
            refine C2.out.mono ?_
            rintro e w2 ⟨rfl, h2⟩; rw [h2]; clear h2 C2
            go_wp2
            go_ret
            exact ⟨rfl, BB.out⟩
          · rw [if_neg hD]
            rw [decide_eq_false hD] at C2
            clear hD
            go_enter Try.func30, Try.ntmps30
            go_wp2_with fail
            refine C1.out.mono ?_
            rintro e w1 ⟨rfl, h1⟩; rw [h1]; clear h1 C1
            go_wp2_with fail
            refine C2.out.mono ?_
            rintro e w2 ⟨rfl, h2⟩; rw [h2]; clear h2 C2
            go_wp2
            go_ret
            exact ⟨rfl, BB.out⟩
        · rw [if_neg p2]
          have i4 : ¬ (P : Int) = 49699 := by omega
          clear HC HDL
          go_enter Try.func30, Try.ntmps30
          go_wp2_with fail
          refine C1.out.mono ?_
          rintro e w1 ⟨rfl, h1⟩; rw [h1]; clear h1 C1
          go_wp2
          go_ret
          exact ⟨rfl, Below.refl _ _⟩
end Go.Proofs.Ytnhjpbhndckfgaa
