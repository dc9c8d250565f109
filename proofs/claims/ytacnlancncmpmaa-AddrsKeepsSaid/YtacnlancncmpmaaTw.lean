/- Contract of awake. -/
import Derived.Test.YtacnlancncmpmaaTr
import Derived.Test.YtacnlancncmpmaaOg
namespace Go.Proofs.Ytacnlancncmpmaa
open Go.RowKit Go.Maps S2 S12

theorem list_one {w : World} {p : Option Addr} {c m : Nat} {x : Ot.O} (hm : x.data.length = m) (h : RowAt w p c x.data) : OptsAt (w.alloc (.cells #[.int .i64 x.ty, .slice p m c] 24)) (some ⟨w.heap.size, 0, none⟩) [x] := by
  refine .inr ⟨w.heap.size, 0, rfl, by simp, fun j hj => ?_⟩
  have hj0 : j = 0 := by simp at hj; omega
  subst hj0
  have hg := heap_alloc_new w (.cells #[.int .i64 x.ty, .slice p m c] 24)
  exact ⟨p, c, cell_of_row _ _ _ _ _ _ hg, by rw [show ([x] : List Ot.O)[0] = x from rfl, hm]; exact cell_of_row _ _ _ _ _ _ hg, rowAt_alloc h _⟩
theorem two_optsAt {w : World} {x y : Ot.O} {p q : Option Addr} {n m c d : Nat} (hn : x.data.length = n) (hm : y.data.length = m) (h : RowAt w p c x.data) (k : RowAt w q d y.data) :
    OptsAt (w.alloc (.cells #[.int .i64 x.ty, .slice p n c, .int .i64 y.ty, .slice q m d] 24)) (some ⟨w.heap.size, 0, none⟩) [x, y] := by
  subst hn; subst hm
  have hg := heap_alloc_new w (.cells #[.int .i64 x.ty, .slice p x.data.length c, .int .i64 y.ty, .slice q y.data.length d] 24)
  refine .inr ⟨w.heap.size, 0, rfl, by simp, fun j hj => ?_⟩
  have hj2 : j = 0 ∨ j = 1 := by simp at hj; omega
  rcases hj2 with rfl | rfl
  · exact ⟨p, c, cell_of_row _ _ _ _ _ _ hg, cell_of_row _ _ _ _ _ _ hg, rowAt_alloc h _⟩
  · exact ⟨q, d, cell_of_row _ _ _ _ _ _ hg, cell_of_row _ _ _ _ _ _ hg, rowAt_alloc k _⟩
namespace Aw
def L : List Ot.O := [⟨3, [10, 0, 0, 9]⟩]
def T : Ad.T := ⟨true, ⟨10, 0, 0, 9⟩, false, 0, false, false, false, false, false, Ad.o4, Ad.o4, Ad.o4, Ad.o4, false, Ad.o8⟩
def M : List Ot.O := [⟨1, []⟩, ⟨3, []⟩]
theorem readL : Ad.read 32801 L = (T, true) := by decide
theorem putT : Ad.put 32801 T = (L, true) := by decide
theorem awayM : Ad.away 32801 M = [⟨1, []⟩] := by decide
theorem changedM : Ad.changed 32801 M = [⟨3, [10, 0, 0, 1]⟩] := by decide
theorem putF : Ad.put 49185 Ad.z = ([], false) := by decide
theorem smallM : ∀ x ∈ M, x.data.length ≤ 300000 := by decide
theorem wf : ∀ x ∈ L, (Lit.int .i64 x.ty).wf = true := by intro x hx; simp only [L, List.mem_cons, List.not_mem_nil, or_false] at hx; subst hx; rfl
theorem wfM : ∀ x ∈ M, (Lit.int .i64 x.ty).wf = true := by intro x hx; simp only [M, List.mem_cons, List.not_mem_nil, or_false] at hx; rcases hx with rfl | rfl <;> rfl
theorem right1 : Ad.right 32801 ⟨3, [10, 0, 0, 9]⟩ = true := by decide
theorem right2 : Ad.right 32855 ⟨3, [10, 0, 0, 9]⟩ = false := by decide
theorem known1 : Ad.known 32855 1 = true := by decide
theorem known2 : Ad.known 32801 1 = false := by decide
end Aw
theorem built_T : Try.prog.built 35 [(0, .bool true), (1, .agg #[.int .u8 10, .int .u8 0, .int .u8 0, .int .u8 9])] = some (acells Aw.T).toArray := by kernel_rfl
theorem built_9 : Try.prog.built 30 [(0, .int .u8 10), (1, .int .u8 0), (2, .int .u8 0), (3, .int .u8 9)] = some #[.int .u8 10, .int .u8 0, .int .u8 0, .int .u8 9] := by kernel_rfl
theorem run_build_9 {o : Oper} {a : Act} (ho : o.op = .build 30 #[(0, .const (.int .u8 10)), (1, .const (.int .u8 0)), (2, .const (.int .u8 0)), (3, .const (.int .u8 9))]) (W : World) : (execOp a.eval o).run Try.prog W = .ok (.value (.agg #[.int .u8 10, .int .u8 0, .int .u8 0, .int .u8 9])) W := by
  unfold execOp
  simp only [ho, Sem.run_bind, List.map_toArray, List.map_cons, List.map_nil]
  rw [show a.eval (.const (.int .u8 10)) = .int .u8 10 from rfl, show a.eval (.const (.int .u8 0)) = .int .u8 0 from rfl, show a.eval (.const (.int .u8 9)) = .int .u8 9 from rfl, run_build W 30 #[(0, .int .u8 10), (1, .int .u8 0), (2, .int .u8 0), (3, .int .u8 9)] _ built_9]
  rfl
theorem run_build_T {o : Oper} {a : Act} (ho : o.op = .build 35 #[(0, .const (.bool true)), (1, .tmp 38)]) (h : a.eval (.tmp 38) = .agg #[.int .u8 10, .int .u8 0, .int .u8 0, .int .u8 9]) (W : World) : (execOp a.eval o).run Try.prog W = .ok (.value (.agg (acells Aw.T).toArray)) W := by
  unfold execOp
  simp only [ho, Sem.run_bind, List.map_toArray, List.map_cons, List.map_nil, h]
  rw [show a.eval (.const (.bool true)) = .bool true from rfl, run_build W 35 #[(0, .bool true), (1, .agg #[.int .u8 10, .int .u8 0, .int .u8 0, .int .u8 9])] _ built_T]
  rfl
theorem run_eql_T {o : Oper} {a : Act} (ho : o.op = .binOp .eql 35 (.tmp 37) (.tmp 39) 35) (hx : a.eval (.tmp 37) = .agg (acells Aw.T).toArray) (hy : a.eval (.tmp 39) = .agg (acells Aw.T).toArray) (W : World) :
    (execOp a.eval o).run Try.prog W = .ok (.value (.bool true)) W := by
  rw [run_eql_ad (.tmp 37) (.tmp 39) ho Aw.T Aw.T hx hy W, decide_eq_true rfl]
set_option maxRecDepth 100000 in
set_option maxHeartbeats 2000000 in
theorem awake_any (w : World) : Calls Try.prog 9 #[] w fun e w' => e = .returned (.bool true) ∧ Below w.heap.size w w' := by
  have r1 := rowAt_built w [10, 0, 0, 9] 4 #[.int .u8 10, .int .u8 0, .int .u8 0, .int .u8 9] rfl rfl (by omega) (0, 0)
  have b1 := below_one w (.cells #[.int .u8 10, .int .u8 0, .int .u8 0, .int .u8 9] 5)
  have hL := list_one (x := ⟨3, [10, 0, 0, 9]⟩) (m := 4) rfl r1
  have b2 := below_one (w.alloc (.cells #[.int .u8 10, .int .u8 0, .int .u8 0, .int .u8 9] 5)) (.cells #[.int .i64 3, .slice (some ⟨w.heap.size, 0, none⟩) 4 4] 24)
  have BL := Lib.hid (Below.chain b1 b2)
  rw [show (w.alloc (.cells #[.int .u8 10, .int .u8 0, .int .u8 0, .int .u8 9] 5)).heap.size = w.heap.size + 1 by simp] at hL
  have C1 := Lib.hid (read_any 32801 _ 1 1 Aw.L _ rfl (by omega) Aw.wf hL)
  rw [Aw.readL] at C1
  have OL : Hid (OptsAt _ _ Aw.L) := hL
  clear r1 b1 b2 hL
  go_enter Try.func9, Try.ntmps9
  go_wp2_with fail
  refine C1.out.mono ?_
  rintro e w1 ⟨rfl, b4⟩
  have B1 := Lib.hid (Below.chain BL.out b4)
  have O1 := Lib.hid (OL.out.next b4)
  clear b4 C1 OL BL
  have bz := below_one w1 (.cells (acells Ad.z).toArray 35)
  have GZ := Lib.hid (heap_alloc_new w1 (.cells (acells Ad.z).toArray 35))
  have T2 : Hid (TmAt ((w1.alloc (.cells (acells Ad.z).toArray 35)).setRow w1.heap.size (acells Aw.T).toArray) w1.heap.size Aw.T) := setRow_heap _ _ _ _ _ _ GZ.out
  have hs1 := B1.out.size
  have B2 := Lib.hid (below_setRow (Below.chain B1.out bz) hs1 (acells Aw.T).toArray)
  have O2 := Lib.hid (O1.out.next (below_setRow bz (Nat.le_refl _) (acells Aw.T).toArray))
  clear bz B1 O1
  go_wp2_with (first
    | (refine wpList_store_ad rfl _ _ rfl w1.heap.size Aw.T _ rfl rfl GZ.out rfl ?_; show wpList _ _ _ _ _ ((w1.alloc (.cells (acells Ad.z).toArray 35)).setRow w1.heap.size (acells Aw.T).toArray); generalize (w1.alloc (.cells (acells Ad.z).toArray 35)).setRow w1.heap.size (acells Aw.T).toArray = W2 at T2 B2 O2 ⊢)
    | (refine wpList_load_row rfl 35 (.tmp 2) rfl w1.heap.size rfl 35 (acells Aw.T).toArray (0, 0) _ T2.out Try.underlying35 rfl infoAd ?_))
  generalize w1.heap.size = g at *
  clear GZ hs1
  have C2 := Lib.hid (put_any 32801 Aw.T W2)
  rw [Aw.putT] at C2
  refine C2.out.mono ?_
  rintro e w3 ⟨vk, rfl, ok, b3⟩
  obtain ⟨ak, ck, e, hk⟩ := ok.at
  have e' : vk = .slice ak 1 ck := e
  subst e'
  have K3 := Lib.hid hk
  have T3 := Lib.hid (T2.out.next b3)
  have O3 := Lib.hid (O2.out.next b3)
  have B3 := Lib.hid (Below.chain B2.out b3)
  clear ok e hk b3 C2 T2 O2 B2
  have hM := two_optsAt (w := w3) (x := ⟨1, []⟩) (y := ⟨3, []⟩) (n := 0) (m := 0) rfl rfl (rowAt_nil _) (rowAt_nil _)
  have b5 := below_one w3 (.cells #[.int .i64 1, .slice none 0 0, .int .i64 3, .slice none 0 0] 24)
  have C3 := Lib.hid (bad_any 32801 _ 2 2 Aw.M _ rfl (by omega) Aw.smallM Aw.wfM hM)
  rw [Aw.awayM, Aw.changedM] at C3
  have K4 := Lib.hid (K3.out.next b5)
  have T4 := Lib.hid (T3.out.next b5)
  have O4 := Lib.hid (O3.out.next b5)
  have B4 := Lib.hid (Below.chain B3.out b5)
  clear hM b5 K3 T3 O3 B3
  go_wp2_with fail
  refine C3.out.mono ?_
  rintro e w5 ⟨u, v, rfl, oa, ob, b5⟩
  obtain ⟨aa, ca, e, ha⟩ := oa.at
  have e' : u = .slice aa 1 ca := e
  subst e'
  obtain ⟨ab, cb, e2, hb⟩ := ob.at
  have e2' : v = .slice ab 1 cb := e2
  subst e2'
  have C5 := Lib.hid hb
  have K5 := Lib.hid (K4.out.next b5)
  have T5 := Lib.hid (T4.out.next b5)
  have O5 := Lib.hid (O4.out.next b5)
  have B5 := Lib.hid (Below.chain B4.out b5)
  clear oa ob e e2 ha hb b5 K4 T4 O4 B4 C3
  have C4 := Lib.hid (put_any 49185 Ad.z w5)
  rw [Aw.putF] at C4
  go_wp2_with (refine wpList_value (by rfl) (run_build_arr rfl _ built_ad _) ?_)
  refine C4.out.mono ?_
  rintro e w6 ⟨vf, rfl, of, b6⟩
  obtain ⟨af, cf, e⟩ := opts_slice of
  have e' : vf = .slice af 0 cf := e
  subst e'
  have C6 := C5.out.next b6
  have K6 := K5.out.next b6
  have T6 := Lib.hid (T5.out.next b6)
  have O6 := O5.out.next b6
  have B6 := Lib.hid (Below.chain B5.out b6)
  clear of e b6 C4 C5 K5 T5 O5 B5
  obtain ⟨bb, fb, qb, db, rfl, atB, hbb⟩ := C6.at 0 (by simp)
  obtain ⟨bl, fl, ql, dl, el, atL, hbl⟩ := O6.at 0 (by decide)
  injection el with el
  injection el with el1 el2
  subst el1
  subst el2
  have S1 := Lib.hid (refSame_any ak (some ⟨w.heap.size + 1, 0, none⟩) 1 1 ck 1 Aw.L Aw.L w6 rfl rfl (by omega) K6 O6)
  rw [decide_eq_true rfl] at S1
  have ATB := Lib.hid (fun W (hB : Below w6.heap.size w6 W) => atB.next hbb hB)
  have ATL := Lib.hid (fun W (hB : Below w6.heap.size w6 W) => atL.next hbl hB)
  clear C6 K6 O6 atB hbb atL hbl
  go_wp2_with (first
    | (refine wpList_value (by rfl) (run_load_arr (.tmp 2) rfl g 0 rfl (acells Aw.T) _ Try.underlying35 rfl infoAd (range_block T6.out)) ?_)
    | (refine wpList_value (by rfl) (run_build_9 rfl _) ?_)
    | (refine wpList_value (by rfl) (run_build_T rfl (by rfl) _) ?_)
    | (refine wpList_value (by rfl) (run_eql_T rfl rfl rfl _) ?_))
  refine S1.out.mono ?_
  rintro e w7 ⟨rfl, b7⟩
  have bt7 := ATB.out w7 b7
  have x1 : w7.cell? ⟨bb, fb + 1, none⟩ = some (.slice qb 4 db) := bt7.data
  have x2 := conv_row (n := 4) rfl bt7.row
  have x3 : (convert 22 9 (.slice qb 4 db)).run Try.prog w7 = .ok (.string ⟨#[10, 0, 0, 1]⟩) w7 := x2
  have D7 := Lib.hid b7
  clear b7 S1 bt7 x2
  go_wp2_with fail
  refine (known_any 32855 1 w7).mono ?_
  rintro e w8 ⟨rfl, h8⟩
  rw [Aw.known1, h8]; clear h8
  go_wp2_with fail
  refine (known_any 32801 1 w7).mono ?_
  rintro e w9 ⟨rfl, h9⟩
  rw [Aw.known2, h9]; clear h9
  have lt9 := ATL.out w7 D7.out
  have y0 : w7.cell? ⟨w.heap.size + 1, 0, none⟩ = some (.int .i64 3) := lt9.ty
  have y1 : w7.cell? ⟨w.heap.size + 1, 1, none⟩ = some (.slice ql 4 dl) := lt9.data
  have R9 := Lib.hid (right_any 32801 ⟨3, [10, 0, 0, 9]⟩ ql 4 dl w7 rfl lt9.row)
  simp only [ocells] at R9
  rw [Aw.right1] at R9
  clear lt9 x1 x3
  go_wp2_with fail
  refine R9.out.mono ?_
  rintro e w10 ⟨rfl, b10⟩
  have D10 := Lib.hid (Below.chain D7.out b10)
  clear b10 R9 y0 y1
  have lt10 := ATL.out w10 D10.out
  have y0 : w10.cell? ⟨w.heap.size + 1, 0, none⟩ = some (.int .i64 3) := lt10.ty
  have y1 : w10.cell? ⟨w.heap.size + 1, 1, none⟩ = some (.slice ql 4 dl) := lt10.data
  have R10 := Lib.hid (right_any 32855 ⟨3, [10, 0, 0, 9]⟩ ql 4 dl w10 rfl lt10.row)
  simp only [ocells] at R10
  rw [Aw.right2] at R10
  clear lt10 D7
  go_wp2_with fail
  refine R10.out.mono ?_
  rintro e w11 ⟨rfl, b11⟩
  have D11 := Lib.hid (Below.chain B6.out (Below.chain D10.out b11 : Below w6.heap.size w6 w11))
  clear b11 D10 R10 y0 y1
  go_wp2
  go_ret
  exact ⟨rfl, D11.out⟩
end Go.Proofs.Ytacnlancncmpmaa
