/- Contracts of Put and of the document's. -/
import Derived.Test.YtbpkhjjabnboaaaPa
namespace Go.Proofs.Ytbpkhjjabnboaaa
open Go.RowKit S2 S12

theorem put_lost {w w' : World} {x : Pk.P} {e : Nat} (h : Pk.err x = e) (h0 : e ≠ 0) (b : Below w.heap.size w w') : PutRes w w' (.returned (.tuple #[.slice none 0 0, .int .i64 (e : Int)])) x := by
  subst h
  exact ⟨b, .inr ⟨h0, rfl⟩⟩

set_option maxRecDepth 100000 in
set_option maxHeartbeats 1000000 in
theorem put_any (x : Pk.P) (p : Option Addr) (n c : Nat) (w : World) (hn : x.data.length = n) (hm : n ≤ 200000) (h : RowAt w p c x.data) :
    Calls Try.prog 9 #[.agg (pcells x (.slice p n c)).toArray] w fun e w' => PutRes w w' e x := by
  by_cases m1 : x.code < 0
  · clear h hn hm
    have B0 := Lib.hid (one_pkt w (pcells x (.slice p n c)).toArray).1
    simp only [pcells] at B0 ⊢
    go_enter Try.func9, Try.ntmps9
    go_wp2
    go_ret2
    exact put_lost (e := 1) (Pk.err_not x (Pk.may_not (by omega))) (by omega) B0.out
  by_cases m2 : 255 < x.code
  · clear h hn hm
    have B0 := Lib.hid (one_pkt w (pcells x (.slice p n c)).toArray).1
    simp only [pcells] at B0 ⊢
    go_enter Try.func9, Try.ntmps9
    go_wp2
    go_ret2
    exact put_lost (e := 1) (Pk.err_not x (Pk.may_not (by omega))) (by omega) B0.out
  by_cases m3 : x.id < 0
  · clear h hn hm
    have B0 := Lib.hid (one_pkt w (pcells x (.slice p n c)).toArray).1
    simp only [pcells] at B0 ⊢
    go_enter Try.func9, Try.ntmps9
    go_wp2
    go_ret2
    exact put_lost (e := 1) (Pk.err_not x (Pk.may_not (by omega))) (by omega) B0.out
  by_cases m4 : 255 < x.id
  · clear h hn hm
    have B0 := Lib.hid (one_pkt w (pcells x (.slice p n c)).toArray).1
    simp only [pcells] at B0 ⊢
    go_enter Try.func9, Try.ntmps9
    go_wp2
    go_ret2
    exact put_lost (e := 1) (Pk.err_not x (Pk.may_not (by omega))) (by omega) B0.out
  have hmay := Pk.may_of m1 m2 m3 m4
  have hin := Pk.may_in hmay
  have B0 := one_pkt w (pcells x (.slice p n c)).toArray
  have H := Lib.hid (h.next B0.1)
  simp only [pcells] at B0 H ⊢
  clear h
  by_cases hl : n ≤ 65531
  · have i1 : ¬ (65531 : Int) < (n : Int) := by omega
    have hz : Pk.err x = 0 := Pk.err_none x hmay (by omega)
    have hfl := Pk.bytes_flat x
    have hbl : (Pk.bytes x).length = 4 + n := by rw [Pk.bytes_len, Pk.size, hn]
    have hsz : Pk.size x = 4 + n := by rw [Pk.size, hn]
    rw [hsz] at hfl
    obtain ⟨s, hs⟩ : ∃ s, 4 + n = s := ⟨_, rfl⟩
    have hws : IntKind.i64.wrap (4 + (n : Int)) = (s : Int) := by rw [IntKind.wrap_i64]; omega
    have hwu : IntKind.u64.wrap (s : Int) = (s : Int) := by rw [IntKind.wrap_u64]; omega
    have hwc := Pk.oct_wrap hin.1 hin.2.1
    have hwi := Pk.oct_wrap hin.2.2.1 hin.2.2.2
    rw [hs] at hfl hbl
    have C1 := Lib.hid (fun W => put_fits s 2 true W (by omega) (by omega) (by omega))
    have hpl := Oc.put_length s 2 true
    have HF := Lib.hid hfl
    have HB := Lib.hid hbl
    have HP := Lib.hid hpl
    have HZ := Lib.hid hz
    have HN := Lib.hid hn
    have B1 := Lib.hid B0.1
    have T1 := B0.2
    clear hfl hbl hpl hz hn B0 hmay hin hsz
    obtain ⟨Y, hY⟩ : ∃ Y, Pk.bytes x = Y := ⟨_, rfl⟩
    rw [hY] at HF HB
    have HY := Lib.hid hY
    clear hY
    go_enter Try.func9, Try.ntmps9
    go_wp2_with fail
    refine (C1.out _).mono ?_
    rintro e w2 ⟨v2, rfl, o2, b2⟩
    obtain ⟨a2, c2, rfl, r2⟩ := rowAt_own HP.out o2
    have T2 := block_next T1 b2
    have B2 := Lib.hid (Below.chain B1.out b2)
    have H2 := Lib.hid (H.out.next b2)
    have R2 := Lib.hid r2
    have d0 : w2.cell? ⟨w.heap.size, 0, none⟩ = some (.int .i64 x.code) := cell_of_row _ _ _ _ _ _ T2
    have d1 : w2.cell? ⟨w.heap.size, 1, none⟩ = some (.int .i64 x.id) := cell_of_row _ _ _ _ _ _ T2
    have d2 : w2.cell? ⟨w.heap.size, 2, none⟩ = some (.slice p n c) := cell_of_row _ _ _ _ _ _ T2
    clear b2 o2 r2 B1 H C1 T1 T2
    have b3 := below_one w2 (.cells #[.int .u8 ((Pk.oct x.code).toNat : Int), .int .u8 ((Pk.oct x.id).toNat : Int)] 5)
    have r3 := two_built w2 (Pk.oct x.code) (Pk.oct x.id) _ _ rfl rfl
    have hs3 : (w2.alloc (.cells #[.int .u8 ((Pk.oct x.code).toNat : Int), .int .u8 ((Pk.oct x.id).toNat : Int)] 5)).heap.size = w2.heap.size + 1 := by simp
    have d3 : (w2.alloc (.cells #[.int .u8 ((Pk.oct x.code).toNat : Int), .int .u8 ((Pk.oct x.id).toNat : Int)] 5)).cell? ⟨w.heap.size, 2, none⟩ = some (.slice p n c) := by rw [b3.cell (p := ⟨w.heap.size, 2, none⟩) (World.block_lt_of_cell? w2 _ d2)]; exact d2
    have q3 := parts_three (n := 2) rfl HP.out HN.out r3 (R2.out.next b3) (H2.out.next b3)
    rw [hs3] at q3
    have J := Lib.hid (join_at (some ⟨w2.heap.size + 1, 0, none⟩) 3 3 [[Pk.oct x.code, Pk.oct x.id], Oc.put s 2 true, x.data] Y _ rfl HF.out (by simp) (by rw [HB.out]; omega) q3)
    have BB := Lib.hid (Below.chain B2.out (Below.chain b3 (below_one _ (.cells #[.slice (some ⟨w2.heap.size, 0, none⟩) 2 2, .slice a2 2 c2, .slice p n c] 22))))
    clear b3 r3 hs3 q3 HF R2 H2 B2 HP HN hs
    go_wp2_with fail
    refine J.out.mono ?_
    rintro e w5 ⟨v5, rfl, o5, b5⟩
    obtain ⟨a5, c5, rfl⟩ := own_slice o5
    have BO := Lib.hid (Below.chain BB.out b5)
    have OO := Lib.hid (ownsRow_lower o5 BB.out.size)
    clear o5 b5 J BB
    go_wp2
    go_ret2
    exact ⟨BO.out, .inl ⟨HZ.out, _, rfl, by rw [HY.out]; exact OO.out⟩⟩
  · have i1 : (65531 : Int) < (n : Int) := by omega
    have hz := Lib.hid (Pk.err_long x hmay (by omega))
    have B1 := Lib.hid B0.1
    clear hn hmay hin hl B0 H
    go_enter Try.func9, Try.ntmps9
    go_wp2
    go_ret2
    exact put_lost (e := 4) hz.out (by omega) B1.out

set_option maxRecDepth 100000 in
set_option maxHeartbeats 1000000 in
theorem refPut_any (x : Pk.P) (p : Option Addr) (n c : Nat) (w : World) (hn : x.data.length = n) (hm : n ≤ 200000) (h : RowAt w p c x.data) :
    Calls Try.prog 10 #[.agg (pcells x (.slice p n c)).toArray] w fun e w' => PutRes w w' e x := by
  by_cases m1 : x.code < 0
  · clear h hn hm
    have B0 := Lib.hid (one_pkt w (pcells x (.slice p n c)).toArray).1
    simp only [pcells] at B0 ⊢
    go_enter Try.func10, Try.ntmps10
    go_wp2
    go_ret2
    exact put_lost (e := 1) (Pk.err_not x (Pk.may_not (by omega))) (by omega) B0.out
  by_cases m2 : 255 < x.code
  · clear h hn hm
    have B0 := Lib.hid (one_pkt w (pcells x (.slice p n c)).toArray).1
    simp only [pcells] at B0 ⊢
    go_enter Try.func10, Try.ntmps10
    go_wp2
    go_ret2
    exact put_lost (e := 1) (Pk.err_not x (Pk.may_not (by omega))) (by omega) B0.out
  by_cases m3 : x.id < 0
  · clear h hn hm
    have B0 := Lib.hid (one_pkt w (pcells x (.slice p n c)).toArray).1
    simp only [pcells] at B0 ⊢
    go_enter Try.func10, Try.ntmps10
    go_wp2
    go_ret2
    exact put_lost (e := 1) (Pk.err_not x (Pk.may_not (by omega))) (by omega) B0.out
  by_cases m4 : 255 < x.id
  · clear h hn hm
    have B0 := Lib.hid (one_pkt w (pcells x (.slice p n c)).toArray).1
    simp only [pcells] at B0 ⊢
    go_enter Try.func10, Try.ntmps10
    go_wp2
    go_ret2
    exact put_lost (e := 1) (Pk.err_not x (Pk.may_not (by omega))) (by omega) B0.out
  have hmay := Pk.may_of m1 m2 m3 m4
  have hin := Pk.may_in hmay
  have B0 := one_pkt w (pcells x (.slice p n c)).toArray
  have H := Lib.hid (h.next B0.1)
  simp only [pcells] at B0 H ⊢
  clear h
  by_cases hl : n ≤ 65531
  · have i1 : ¬ (65531 : Int) < (n : Int) := by omega
    have hz : Pk.err x = 0 := Pk.err_none x hmay (by omega)
    have hfl := Pk.bytes_ref x
    have hbl : (Pk.bytes x).length = 4 + n := by rw [Pk.bytes_len, Pk.size, hn]
    have hsz : Pk.size x = 4 + n := by rw [Pk.size, hn]
    rw [hsz] at hfl
    obtain ⟨s, hs⟩ : ∃ s, 4 + n = s := ⟨_, rfl⟩
    have hws : IntKind.i64.wrap (4 + (n : Int)) = (s : Int) := by rw [IntKind.wrap_i64]; omega
    have hwc := Pk.oct_wrap hin.1 hin.2.1
    have hwi := Pk.oct_wrap hin.2.2.1 hin.2.2.2
    rw [hs] at hfl hbl
    have hq := Pk.quo_two s (by omega)
    have hr := Pk.rem_two s
    have hx2 := Pk.wrap_oct (Oc.dg s 1)
    have hx3 := Pk.wrap_oct (Oc.dg s 0)
    have HF := Lib.hid hfl
    have HB := Lib.hid hbl
    have HZ := Lib.hid hz
    have HN := Lib.hid hn
    have B1 := Lib.hid B0.1
    have T1 := B0.2
    clear hfl hbl hz hn B0 hmay hin hsz
    obtain ⟨Y, hY⟩ : ∃ Y, Pk.bytes x = Y := ⟨_, rfl⟩
    rw [hY] at HF HB
    have HY := Lib.hid hY
    clear hY
    generalize Pk.oct x.code = y0 at *
    generalize Pk.oct x.id = y1 at *
    generalize Oc.dg s 1 = y2 at *
    generalize Oc.dg s 0 = y3 at *
    have W1 : ∀ V, Below w.heap.size w V → Below w.heap.size w (V.alloc (.cells #[.int .u8 (y0.toNat : Int), .int .u8 (y1.toNat : Int), .int .u8 (y2.toNat : Int), .int .u8 (y3.toNat : Int)] 5)) := fun V b => Below.chain b (below_one _ _)
    have W2 : ∀ V, Below w.heap.size w V → (V.alloc (.cells #[.int .u8 (y0.toNat : Int), .int .u8 (y1.toNat : Int), .int .u8 (y2.toNat : Int), .int .u8 (y3.toNat : Int)] 5)).ownsRow w.heap.size 5 1 (.slice (some ⟨V.heap.size, 0, none⟩) 4 4) 4 (Lib.byteCells [y0, y1, y2, y3]) := fun V b => own_built_row V w.heap.size [y0, y1, y2, y3] 4 _ rfl (by simp [Lib.byteCells]) b.size (by omega)
    have W3 : ∀ V, RowAt V p c x.data → RowAt (V.alloc (.cells #[.int .u8 (y0.toNat : Int), .int .u8 (y1.toNat : Int), .int .u8 (y2.toNat : Int), .int .u8 (y3.toNat : Int)] 5)) p c x.data := fun V r => r.next (below_one _ _)
    have o3 := W2 _ B1.out
    rw [show (w.alloc (.cells #[.int .i64 x.code, .int .i64 x.id, .slice p n c] 24)).heap.size = w.heap.size + 1 by simp] at o3
    have O3 := Lib.hid o3
    clear o3
    have B3 := Lib.hid (W1 _ B1.out)
    have R3 := Lib.hid (W3 _ H.out)
    clear W1 W2 W3 H
    go_enter Try.func10, Try.ntmps10
    go_wp2_with (at_builtin; refine wpList_append_row rfl (.tmp 45) (.tmp 47) rfl w.heap.size _ 4 (Lib.byteCells [y0, y1, y2, y3]) rfl O3.out p n c x.data rfl HN.out R3.out (by omega) B3.out.size ?_; intro v5 w5 o5 g5)
    obtain ⟨a5, c5, rfl⟩ := own_slice o5
    have BO := Lib.hid (Below.grown B3.out g5 B3.out.size (fun k hk => (O3.out.lt k hk).1))
    rw [← Lib.byteCells_append, HF.out] at o5
    have OO := Lib.hid o5
    clear o5 g5 O3 B3 R3
    go_ret2
    exact ⟨BO.out, .inl ⟨HZ.out, _, rfl, by rw [HY.out, HB.out, ← hs]; exact OO.out⟩⟩
  · have i1 : (65531 : Int) < (n : Int) := by omega
    have hz := Lib.hid (Pk.err_long x hmay (by omega))
    have B1 := Lib.hid B0.1
    clear hn hmay hin hl B0 H
    go_enter Try.func10, Try.ntmps10
    go_wp2
    go_ret2
    exact put_lost (e := 4) hz.out (by omega) B1.out
end Go.Proofs.Ytbpkhjjabnboaaa
