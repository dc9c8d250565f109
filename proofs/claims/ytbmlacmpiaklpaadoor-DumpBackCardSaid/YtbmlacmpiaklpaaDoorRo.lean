/- Contract of the document's One; bytes that are one's own. -/
import Derived.Test.YtbmlacmpiaklpaaDoorDp
namespace Go.Proofs.YtbmlacmpiaklpaaDoor
open Go.RowKit

theorem step_len {a b : List UInt8} {n k : Nat} (h1 : a.length = n) (h2 : b.length = k) : (a ++ b).length = n + k := by rw [List.length_append, h1, h2]
/-- Bytes that were made since W0, and nothing else changed. -/
structure Own (W0 W : World) (p : Option Addr) (n c : Nat) (xs : List UInt8) : Prop where
  len : xs.length = n
  own : W.ownsRow W0.heap.size 5 1 (.slice p n c) n (Lib.byteCells xs)
  bel : Below W0.heap.size W0 W
theorem Own.next {W0 W W' : World} {p : Option Addr} {n c : Nat} {xs : List UInt8} (h : Own W0 W p n c xs) (b : Below W.heap.size W W') : Own W0 W' p n c xs := ⟨h.len, ownsRow_next h.own b, Below.chain h.bel b⟩
theorem own_nil (W0 : World) : Own W0 W0 none 0 0 [] := ⟨rfl, World.ownsRow_nil _ _ _ _, Below.refl _ _⟩
theorem Own.row {W0 W : World} {p : Option Addr} {n c : Nat} {xs : List UInt8} (h : Own W0 W p n c xs) : RowAt W p c xs := by
  obtain ⟨p', c', e, hr⟩ := rowAt_own h.len h.own
  simp only [Value.slice.injEq, true_and] at e
  obtain ⟨rfl, rfl⟩ := e
  exact hr
theorem wpList_append_mine {W0 w : World} {ops : Array Oper} {rest : List Oper} {o : Oper} {a : Act} {Q : Exit → Act → World → Prop} (hgd : o.guard = none) (s x : Operand)
    (ho : o.op = .call { callee := .builtin .append, args := #[s, x], argTypes := #[25, 25] })
    (p : Option Addr) (n c k : Nat) (xs : List UInt8) (hs : a.eval s = .slice p n c) (hO : Own W0 w p n c xs)
    (q : Option Addr) (m d : Nat) (ys : List UInt8) (hx : a.eval x = .slice q m d) (hm : ys.length = m) (hrow : RowAt w q d ys) (hk : n + m = k) (h63 : k ≤ 1000000)
    (h : ∀ p' c' w', Own W0 w' p' k c' (xs ++ ys) → wpList Tryd.prog ops Q rest (a.put o.dst (.slice p' k c')) w') : wpList Tryd.prog ops Q (o :: rest) a w := by
  subst hk
  refine wpList_append_row hgd s x ho W0.heap.size (.slice p n c) n _ hs hO.own q m d ys hx hm hrow h63 hO.bel.size ?_
  intro v' w' o2 g2
  obtain ⟨p', c', rfl⟩ := own_slice o2
  exact h p' c' w' ⟨step_len hO.len hm, by rw [Lib.byteCells_append]; exact o2, Below.grown hO.bel g2 hO.bel.size (fun k hk => (hO.own.lt k hk).1)⟩
theorem own_built (w0 w : World) (y : UInt8) (v : Value) (hv : v = .int .u8 (y.toNat : Int)) (b : Below w0.heap.size w0 w) : Own w0 (w.alloc (.cells #[v] 5)) (some ⟨w.heap.size, 0, none⟩) 1 1 [y] := by
  subst hv
  exact ⟨rfl, owns_built w w0.heap.size 5 _ b.size, Below.chain b (below_one _ _)⟩
theorem two_built (w : World) (y z : UInt8) (i j : Int) (hi : i = (y.toNat : Int)) (hj : j = (z.toNat : Int)) : RowAt (w.alloc (.cells #[.int .u8 i, .int .u8 j] 5)) (some ⟨w.heap.size, 0, none⟩) 2 [y, z] := by
  subst hi
  subst hj
  exact rowAt_built w [y, z] 2 _ rfl (by simp [Lib.byteCells]) (by omega) _
theorem one_built (w : World) (y : UInt8) (i : Int) (hi : i = (y.toNat : Int)) : RowAt (w.alloc (.cells #[.int .u8 i] 5)) (some ⟨w.heap.size, 0, none⟩) 1 [y] := by
  subst hi
  exact rowAt_built w [y] 1 _ rfl (by simp [Lib.byteCells]) (by omega) _

/-- A note that was copied, and the byte of its kind. -/
structure Began (w W0 W1 : World) (k n : Nat) (u : Value) : Prop where
  size : W0.heap.size = w.heap.size + 1
  size1 : W1.heap.size = w.heap.size + 1 + 1
  bel : Below w.heap.size w W0
  note : W0.heap[w.heap.size]? = some (.cells #[.int .i64 (k : Int), .int .u32 (n : Int), u] 37 (0, 0))
  own : Own W0 W1 (some ⟨w.heap.size + 1, 0, none⟩) 1 1 [k.toUInt8]
theorem began (w : World) (k n : Nat) (u : Value) (hk : k ≤ 7) : Began w (w.alloc (.cells #[.int .i64 (k : Int), .int .u32 (n : Int), u] 37)) ((w.alloc (.cells #[.int .i64 (k : Int), .int .u32 (n : Int), u] 37)).alloc (.cells #[.int .u8 (k : Int)] 5)) k n u := by
  have hs : (w.alloc (.cells #[.int .i64 (k : Int), .int .u32 (n : Int), u] 37)).heap.size = w.heap.size + 1 := by simp
  have h := own_built (w.alloc (.cells #[.int .i64 (k : Int), .int .u32 (n : Int), u] 37)) _ k.toUInt8 (.int .u8 (k : Int)) (by simp; omega) (Below.refl _ _)
  rw [hs] at h
  exact ⟨hs, by simp, below_one _ _, heap_alloc_new _ _, h⟩

set_option maxHeartbeats 1000000 in
theorem one_data (k : Nat) (n : Nat) (d : List UInt8) (p : Option Addr) (c : Nat) (w : World) (h1 : 1 ≤ k) (h2 : k ≤ 2) (hd : d.length ≤ 65535) (hrow : RowAt w p c d) :
    Calls Tryd.prog 24 #[.agg (ncells ⟨(k : Int), n, d⟩ (.slice p d.length c)).toArray] w fun e w' => ∃ v, e = .returned v ∧ w'.ownsRow w.heap.size 5 1 v (3 + d.length) (Lib.byteCells (([k.toUInt8] ++ Oc.put d.length 2 true) ++ d)) ∧ Below w.heap.size w w' := by
  simp only [ncells]
  have hput : Oc.put d.length 2 true = [Oc.dg d.length 1, Oc.dg d.length 0] := by rw [Oc.put_big, Oc.put_big, Oc.put_zero]; rfl
  rw [hput]
  generalize hm : d.length = m at *
  have hb := began w k n (.slice p m c) (by omega)
  have hwk : IntKind.u8.wrap (k : Int) = (k : Int) := by rw [IntKind.wrap_u8]; omega
  have i1 : ((k : Nat) : Int) ≤ 2 := by omega
  have hy : (m : Int) / 256 = ((Oc.dg m 1).toNat : Int) := by rw [Oc.dg_nat]; omega
  have hz : (m : Int) % 256 = ((Oc.dg m 0).toNat : Int) := by rw [Oc.dg_nat]; omega
  have HY := Lib.hid hy
  have HZ := Lib.hid hz
  have HR := Lib.hid hrow
  have Hm := Lib.hid hm
  have HB := Lib.hid hb
  clear hrow hm hb hy hz hput
  generalize Oc.dg m 1 = y at *
  generalize Oc.dg m 0 = z at *
  go_enter Tryd.func24, Tryd.ntmps24
  go_wp2_with (first | (generalize (w.alloc (.cells #[.int .i64 (k : Int), .int .u32 (n : Int), .slice p m c] 37)).alloc (.cells #[.int .u8 (k : Int)] 5) = W1 at *; generalize w.alloc (.cells #[.int .i64 (k : Int), .int .u32 (n : Int), .slice p m c] 37) = W0 at *; have r2 := two_built W1 y z ((m : Int) / 256) ((m : Int) % 256) HY.out HZ.out; rw [HB.out.size1] at r2; at_builtin; refine wpList_append_mine rfl (.tmp 11) (.tmp 22) rfl (some ⟨w.heap.size + 1, 0, none⟩) 1 1 3 [k.toUInt8] rfl (HB.out.own.next (below_one W1 _)) (some ⟨w.heap.size + 1 + 1, 0, none⟩) 2 2 [y, z] rfl rfl r2 rfl (by omega) ?_; intro p3 c3 w3 o3; clear r2; have O3 := Lib.hid o3; have t3 : w3.cell? ⟨w.heap.size, 2, none⟩ = some (.slice p m c) := cell_of_row _ _ _ _ _ _ (block_next HB.out.note o3.bel); have R3 := Lib.hid ((HR.out.next HB.out.bel).next o3.bel); clear o3) | (at_builtin; refine wpList_append_mine rfl (.tmp 24) (.tmp 26) rfl p3 3 c3 (3 + m) _ rfl O3.out p m c d rfl Hm.out R3.out rfl (by omega) ?_; intro p4 c4 w4 o4; have O4 := Lib.hid o4; clear o4))
  go_ret
  exact ⟨_, rfl, ownsRow_lower O4.out.own (by rw [HB.out.size]; omega), Below.chain HB.out.bel O4.out.bel⟩
theorem one_word (k : Nat) (n : Nat) (p : Option Addr) (c : Nat) (w : World) (hk : k = 5 ∨ k = 7) (hn : n < 4294967296) :
    Calls Tryd.prog 24 #[.agg (ncells ⟨(k : Int), n, []⟩ (.slice p 0 c)).toArray] w fun e w' => ∃ v, e = .returned v ∧ w'.ownsRow w.heap.size 5 1 v (1 + 4) (Lib.byteCells ([k.toUInt8] ++ Oc.put n 4 true)) ∧ Below w.heap.size w w' := by
  simp only [ncells]
  have hb := began w k n (.slice p 0 c) (by omega)
  have hwk : IntKind.u8.wrap (k : Int) = (k : Int) := by rw [IntKind.wrap_u8]; omega
  have hwn : IntKind.u64.wrap (n : Int) = (n : Int) := by rw [IntKind.wrap_u64]; omega
  have i1 : ¬ ((k : Nat) : Int) ≤ 2 := by omega
  have i6 : (((k : Nat) : Int) == 6) = false := by simp; omega
  have hL := Oc.put_length n 4 true
  have HB := Lib.hid hb
  clear hb
  rcases hk with rfl | rfl
  · go_enter Tryd.func24, Tryd.ntmps24
    go_wp2_with fail
    refine (refPut_any n 4 true _ (by omega) (by omega)).mono ?_
    rintro e w2 ⟨v2, rfl, o2, b2⟩
    obtain ⟨p2, c2, rfl, r2⟩ := rowAt_own hL o2
    have O2 := Lib.hid (HB.out.own.next b2)
    have R2 := Lib.hid r2
    clear o2 r2 b2
    go_wp2_with (at_builtin; refine wpList_append_mine rfl (.tmp 45) (.tmp 49) rfl (some ⟨w.heap.size + 1, 0, none⟩) 1 1 5 [Nat.toUInt8 5] rfl O2.out p2 4 c2 (Oc.put n 4 true) rfl hL R2.out rfl (by omega) ?_; intro p4 c4 w4 o4; have O4 := Lib.hid o4; clear o4)
    go_ret
    exact ⟨_, rfl, ownsRow_lower O4.out.own (by rw [HB.out.size]; omega), Below.chain HB.out.bel O4.out.bel⟩
  · go_enter Tryd.func24, Tryd.ntmps24
    go_wp2_with fail
    refine (refPut_any n 4 true _ (by omega) (by omega)).mono ?_
    rintro e w2 ⟨v2, rfl, o2, b2⟩
    obtain ⟨p2, c2, rfl, r2⟩ := rowAt_own hL o2
    have O2 := Lib.hid (HB.out.own.next b2)
    have R2 := Lib.hid r2
    clear o2 r2 b2
    go_wp2_with (at_builtin; refine wpList_append_mine rfl (.tmp 45) (.tmp 49) rfl (some ⟨w.heap.size + 1, 0, none⟩) 1 1 5 [Nat.toUInt8 7] rfl O2.out p2 4 c2 (Oc.put n 4 true) rfl hL R2.out rfl (by omega) ?_; intro p4 c4 w4 o4; have O4 := Lib.hid o4; clear o4)
    go_ret
    exact ⟨_, rfl, ownsRow_lower O4.out.own (by rw [HB.out.size]; omega), Below.chain HB.out.bel O4.out.bel⟩
theorem one_short (n : Nat) (p : Option Addr) (c : Nat) (w : World) (hn : n < 256) :
    Calls Tryd.prog 24 #[.agg (ncells ⟨6, n, []⟩ (.slice p 0 c)).toArray] w fun e w' => ∃ v, e = .returned v ∧ w'.ownsRow w.heap.size 5 1 v (1 + 1) (Lib.byteCells ([Nat.toUInt8 6] ++ [n.toUInt8])) ∧ Below w.heap.size w w' := by
  simp only [ncells]
  have hb : Began w (w.alloc (.cells #[.int .i64 6, .int .u32 (n : Int), .slice p 0 c] 37)) ((w.alloc (.cells #[.int .i64 6, .int .u32 (n : Int), .slice p 0 c] 37)).alloc (.cells #[.int .u8 6] 5)) 6 n (.slice p 0 c) := began w 6 n (.slice p 0 c) (by omega)
  have hwn : IntKind.u8.wrap (n : Int) = (n : Int) := by rw [IntKind.wrap_u8]; omega
  have hnn : (n : Int) = ((n.toUInt8).toNat : Int) := by simp; omega
  have HNN := Lib.hid hnn
  have HB := Lib.hid hb
  clear hb hnn
  go_enter Tryd.func24, Tryd.ntmps24
  go_wp2_with (generalize (w.alloc (.cells #[.int .i64 6, .int .u32 (n : Int), .slice p 0 c] 37)).alloc (.cells #[.int .u8 6] 5) = W1 at *; generalize w.alloc (.cells #[.int .i64 6, .int .u32 (n : Int), .slice p 0 c] 37) = W0 at *; have r2 := one_built W1 n.toUInt8 (n : Int) HNN.out; rw [HB.out.size1] at r2; at_builtin; refine wpList_append_mine rfl (.tmp 31) (.tmp 35) rfl (some ⟨w.heap.size + 1, 0, none⟩) 1 1 2 [Nat.toUInt8 6] rfl (HB.out.own.next (below_one W1 _)) (some ⟨w.heap.size + 1 + 1, 0, none⟩) 1 1 [n.toUInt8] rfl rfl r2 rfl (by omega) ?_; intro p3 c3 w3 o3; clear r2; have O3 := Lib.hid o3; clear o3)
  go_ret
  exact ⟨_, rfl, ownsRow_lower O3.out.own (by rw [HB.out.size]; omega), Below.chain HB.out.bel O3.out.bel⟩
theorem one_end (k : Nat) (n : Nat) (p : Option Addr) (c : Nat) (w : World) (hk : k = 3 ∨ k = 4) :
    Calls Tryd.prog 24 #[.agg (ncells ⟨(k : Int), n, []⟩ (.slice p 0 c)).toArray] w fun e w' => ∃ v, e = .returned v ∧ w'.ownsRow w.heap.size 5 1 v 1 (Lib.byteCells [k.toUInt8]) ∧ Below w.heap.size w w' := by
  simp only [ncells]
  have hb := began w k n (.slice p 0 c) (by omega)
  have hwk : IntKind.u8.wrap (k : Int) = (k : Int) := by rw [IntKind.wrap_u8]; omega
  have i1 : ¬ ((k : Nat) : Int) ≤ 2 := by omega
  have i6 : (((k : Nat) : Int) == 6) = false := by simp; omega
  have i5 : (((k : Nat) : Int) == 5) = false := by simp; omega
  have i7 : (((k : Nat) : Int) == 7) = false := by simp; omega
  have HB := Lib.hid hb
  clear hb
  go_enter Tryd.func24, Tryd.ntmps24
  go_wp2
  go_ret
  exact ⟨_, rfl, ownsRow_lower HB.out.own.own (by rw [HB.out.size]; omega), Below.chain HB.out.bel HB.out.own.bel⟩
theorem put_one (n : Nat) : Oc.put n 1 true = [n.toUInt8] := by rw [Oc.put_big, Oc.put_zero]; simp [Oc.dg]
theorem refOne_any (x : Dm.Nt) (p : Option Addr) (c : Nat) (w : World) (hg : Dm.Good x) (hn : x.n < 4294967296) (hrow : RowAt w p c x.data) :
    Calls Tryd.prog 24 #[.agg (ncells x (.slice p x.data.length c)).toArray] w fun e w' => ∃ v, e = .returned v ∧ w'.ownsRow w.heap.size 5 1 v (Dm.one x).length (Lib.byteCells (Dm.one x)) ∧ Below w.heap.size w w' := by
  have h1 := hg.lo
  have h2 := hg.hi
  have hdd := hg.data
  have hww := hg.word
  have hmm := hg.most
  obtain ⟨k0, n, d⟩ := x
  simp only at *
  obtain ⟨k, rfl⟩ := Int.eq_ofNat_of_zero_le (show 0 ≤ k0 by omega)
  have hone : Dm.one ⟨(k : Int), n, d⟩ = k.toUInt8 :: (Oc.put (Dm.num ⟨(k : Int), n, d⟩ (Dm.form (k : Int))) (Dm.form (k : Int)).size true ++ d) := rfl
  by_cases k2 : k ≤ 2
  · have hf : Dm.form (k : Int) = ⟨true, 2, true, 0⟩ := by unfold Dm.form; rw [if_pos (by omega)]
    rw [hf] at hdd hone
    have e : Dm.one ⟨(k : Int), n, d⟩ = ([k.toUInt8] ++ Oc.put d.length 2 true) ++ d := by rw [hone]; simp [Dm.num]
    have el : (Dm.one ⟨(k : Int), n, d⟩).length = 3 + d.length := by rw [e, List.length_append, List.length_append, Oc.put_length]; simp
    rw [el, e]
    exact one_data k n d p c w (by omega) k2 (hdd rfl).2 hrow
  · have hd0 : d = [] := hww (by
      cases hc : (Dm.form (k : Int)).data
      · rfl
      · have := (Dm.form_data (k : Int)).1 hc; omega)
    subst hd0
    by_cases k4 : k = 3 ∨ k = 4
    · have hf : Dm.form (k : Int) = ⟨true, 0, false, 0⟩ := by unfold Dm.form; rw [if_neg (by omega), if_pos (by omega)]
      rw [hf] at hone
      have e : Dm.one ⟨(k : Int), n, []⟩ = [k.toUInt8] := by rw [hone, Oc.put_zero]; rfl
      rw [e]
      exact one_end k n p c w k4
    · by_cases k5 : k = 5 ∨ k = 7
      · have hf : Dm.form (k : Int) = ⟨true, 4, false, 4294967295⟩ := by unfold Dm.form; rw [if_neg (by omega), if_neg (by omega), if_pos (by omega)]
        rw [hf] at hone
        have e : Dm.one ⟨(k : Int), n, []⟩ = [k.toUInt8] ++ Oc.put n 4 true := by rw [hone]; simp [Dm.num]
        have el : (Dm.one ⟨(k : Int), n, []⟩).length = 1 + 4 := by rw [e, List.length_append, Oc.put_length]; simp
        rw [el, e]
        exact one_word k n p c w k5 hn
      · obtain rfl : k = 6 := by omega
        have hf : Dm.form ((6 : Nat) : Int) = ⟨true, 1, false, 255⟩ := rfl
        rw [hf] at hone hmm
        simp only at hmm
        have e : Dm.one ⟨((6 : Nat) : Int), n, []⟩ = [Nat.toUInt8 6] ++ [n.toUInt8] := by rw [hone]; simp [Dm.num, put_one]
        have el : (Dm.one ⟨((6 : Nat) : Int), n, []⟩).length = 1 + 1 := by rw [e]; rfl
        rw [el, e]
        exact one_short n p c w (by omega)
end Go.Proofs.YtbmlacmpiaklpaaDoor
