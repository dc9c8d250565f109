/- Contract of awake. -/
import Derived.Test.YtnhjpbhndckfgaaTr
namespace Go.Proofs.Ytnhjpbhndckfgaa
open Go.RowKit Go.Maps S2 S12

theorem two_optsAt {w : World} {x y : Ot.O} {p q : Option Addr} {n m c d : Nat} (hn : x.data.length = n) (hm : y.data.length = m) (h : RowAt w p c x.data) (k : RowAt w q d y.data) :
    OptsAt (w.alloc (.cells #[.int .i64 x.ty, .slice p n c, .int .i64 y.ty, .slice q m d] 24)) (some ⟨w.heap.size, 0, none⟩) [x, y] := by
  subst hn; subst hm
  have hg := heap_alloc_new w (.cells #[.int .i64 x.ty, .slice p x.data.length c, .int .i64 y.ty, .slice q y.data.length d] 24)
  refine .inr ⟨w.heap.size, 0, rfl, by simp, fun j hj => ?_⟩
  have hj2 : j = 0 ∨ j = 1 := by simp at hj; omega
  rcases hj2 with rfl | rfl
  · exact ⟨p, c, cell_of_row _ _ _ _ _ _ hg, cell_of_row _ _ _ _ _ _ hg, rowAt_alloc h _⟩
  · exact ⟨q, d, cell_of_row _ _ _ _ _ _ hg, cell_of_row _ _ _ _ _ _ hg, rowAt_alloc k _⟩
namespace Aw
def L : List Ot.O := [⟨1, [5, 220]⟩, ⟨3, [194, 35, 5]⟩]
def T : Tm.T := ⟨true, 1500, false, 0, 49699, false, false, 0, false, false⟩
def M : List Ot.O := [⟨9, []⟩, ⟨1, [7]⟩]
def F : Tm.T := ⟨false, 5, false, 0, 0, false, false, 0, false, false⟩
theorem readL : Tm.read L = (T, true) := by decide
theorem putT : Tm.put T = (L, true) := by decide
theorem awayM : Tm.away M = [⟨9, []⟩] := by decide
theorem changedM : Tm.changed M = [⟨1, [5, 220]⟩] := by decide
theorem putF : Tm.put F = ([], false) := by decide
theorem loginL : Tm.login L = 49699 := by decide
theorem small : ∀ x ∈ L, x.data.length ≤ 300000 := by decide
theorem smallM : ∀ x ∈ M, x.data.length ≤ 300000 := by decide
theorem wf : ∀ x ∈ L, (Lit.int .i64 x.ty).wf = true := by intro x hx; simp only [L, List.mem_cons, List.not_mem_nil, or_false] at hx; rcases hx with rfl | rfl <;> rfl
theorem wfM : ∀ x ∈ M, (Lit.int .i64 x.ty).wf = true := by intro x hx; simp only [M, List.mem_cons, List.not_mem_nil, or_false] at hx; rcases hx with rfl | rfl <;> rfl
end Aw
set_option maxRecDepth 100000 in
set_option maxHeartbeats 2000000 in
theorem awake_any (w : World) : Calls Try.prog 9 #[] w fun e w' => e = .returned (.bool true) ∧ Below w.heap.size w w' := by
  have r1 := two_built w 5 220 5 220 rfl rfl
  have b1 := below_one w (.cells #[.int .u8 5, .int .u8 220] 5)
  have r2 := rowAt_built (w.alloc (.cells #[.int .u8 5, .int .u8 220] 5)) [194, 35, 5] 3 #[.int .u8 194, .int .u8 35, .int .u8 5] rfl rfl (by omega) (0, 0)
  have b2 := below_one (w.alloc (.cells #[.int .u8 5, .int .u8 220] 5)) (.cells #[.int .u8 194, .int .u8 35, .int .u8 5] 5)
  have hL := two_optsAt (x := ⟨1, [5, 220]⟩) (y := ⟨3, [194, 35, 5]⟩) (n := 2) (m := 3) rfl rfl (r1.next b2) r2
  have b3 := below_one ((w.alloc (.cells #[.int .u8 5, .int .u8 220] 5)).alloc (.cells #[.int .u8 194, .int .u8 35, .int .u8 5] 5)) (.cells #[.int .i64 1, .slice (some ⟨w.heap.size, 0, none⟩) 2 2, .int .i64 3, .slice (some ⟨(w.alloc (.cells #[.int .u8 5, .int .u8 220] 5)).heap.size, 0, none⟩) 3 3] 24)
  have BL := Lib.hid (Below.chain (Below.chain b1 b2) b3)
  rw [show (w.alloc (.cells #[.int .u8 5, .int .u8 220] 5)).heap.size = w.heap.size + 1 by simp] at hL BL
  rw [show ((w.alloc (.cells #[.int .u8 5, .int .u8 220] 5)).alloc (.cells #[.int .u8 194, .int .u8 35, .int .u8 5] 5)).heap.size = w.heap.size + 2 by simp] at hL
  have C1 := Lib.hid (read_any _ 2 2 Aw.L _ rfl (by omega) Aw.small Aw.wf hL)
  rw [Aw.readL] at C1
  have OL : Hid (OptsAt _ _ Aw.L) := hL
  clear r1 b1 r2 b2 b3 hL
  go_enter Try.func9, Try.ntmps9
  go_wp2_with fail
  refine C1.out.mono ?_
  rintro e w1 ⟨rfl, b4⟩
  have B1 := Lib.hid (Below.chain BL.out b4)
  have O1 := Lib.hid (OL.out.next b4)
  clear b4 C1 OL BL
  have bz := below_one w1 (.cells (tcells Tm.z).toArray 32)
  have GZ := Lib.hid (heap_alloc_new w1 (.cells (tcells Tm.z).toArray 32))
  have T2 : Hid (TmAt ((w1.alloc (.cells (tcells Tm.z).toArray 32)).setRow w1.heap.size (tcells Aw.T).toArray) w1.heap.size Aw.T) := setRow_heap _ _ _ _ _ _ GZ.out
  have hs1 := B1.out.size
  have B2 := Lib.hid (below_setRow (Below.chain B1.out bz) hs1 (tcells Aw.T).toArray)
  have O2 := Lib.hid (O1.out.next (below_setRow bz (Nat.le_refl _) (tcells Aw.T).toArray))
  clear bz B1 O1
  go_wp2_with (first
    | (refine wpList_store_tm rfl _ _ rfl w1.heap.size Aw.T _ rfl rfl GZ.out rfl ?_; show wpList _ _ _ _ _ ((w1.alloc (.cells (tcells Tm.z).toArray 32)).setRow w1.heap.size (tcells Aw.T).toArray); generalize (w1.alloc (.cells (tcells Tm.z).toArray 32)).setRow w1.heap.size (tcells Aw.T).toArray = W2 at T2 B2 O2 ⊢)
    | (refine wpList_load_row rfl 32 (.tmp 2) rfl w1.heap.size rfl 32 (tcells Aw.T).toArray (0, 0) _ T2.out Try.underlying32 rfl infoTm ?_))
  generalize w1.heap.size = g at *
  clear GZ hs1
  have C2 := Lib.hid (put_any Aw.T W2 ⟨by decide, by decide⟩ (by decide) (by decide) (by decide) (by decide))
  rw [Aw.putT] at C2
  refine C2.out.mono ?_
  rintro e w3 ⟨vk, rfl, ok, b3⟩
  obtain ⟨ak, ck, e, hk⟩ := ok.at
  have e' : vk = .slice ak 2 ck := e
  subst e'
  have K3 := Lib.hid hk
  have T3 := Lib.hid (T2.out.next b3)
  have O3 := Lib.hid (O2.out.next b3)
  have B3 := Lib.hid (Below.chain B2.out b3)
  clear ok e hk b3 C2 T2 O2 B2
  have b4 := below_one w3 (.cells #[.int .u8 7] 5)
  have hM := two_optsAt (x := ⟨9, []⟩) (y := ⟨1, [7]⟩) (n := 0) (m := 1) rfl rfl (rowAt_nil _) (one_built w3 7 7 rfl)
  have b5 := below_one (w3.alloc (.cells #[.int .u8 7] 5)) (.cells #[.int .i64 9, .slice none 0 0, .int .i64 1, .slice (some ⟨w3.heap.size, 0, none⟩) 1 1] 24)
  rw [show (w3.alloc (.cells #[.int .u8 7] 5)).heap.size = w3.heap.size + 1 by simp] at hM
  have C3 := Lib.hid (bad_any _ 2 2 Aw.M _ rfl (by omega) Aw.smallM Aw.wfM hM)
  rw [Aw.awayM, Aw.changedM] at C3
  have K4 := Lib.hid ((K3.out.next b4).next b5)
  have T4 := Lib.hid ((T3.out.next b4).next b5)
  have O4 := Lib.hid ((O3.out.next b4).next b5)
  have B4 := Lib.hid (Below.chain (Below.chain B3.out b4) b5)
  clear b4 hM b5 K3 T3 O3 B3
  go_wp2_with fail
  refine C3.out.mono ?_
  rintro e w5 ⟨u, v, rfl, oa, ob, b5⟩
  obtain ⟨aa, ca, e, ha⟩ := oa.at
  have e' : u = .slice aa 1 ca := e
  subst e'
  obtain ⟨ab, cb, e2, hb⟩ := ob.at
  have e2' : v = .slice ab 1 cb := e2
  subst e2'
  have A5 := Lib.hid ha
  have C5 := Lib.hid hb
  have K5 := Lib.hid (K4.out.next b5)
  have T5 := Lib.hid (T4.out.next b5)
  have O5 := Lib.hid (O4.out.next b5)
  have B5 := Lib.hid (Below.chain B4.out b5)
  clear oa ob e e2 ha hb b5 K4 T4 O4 B4 C3
  have C4 := Lib.hid (put_any Aw.F w5 ⟨by decide, by decide⟩ (by decide) (by decide) (by decide) (by decide))
  rw [Aw.putF] at C4
  go_wp2_with fail
  refine C4.out.mono ?_
  rintro e w6 ⟨vf, rfl, of, b6⟩
  obtain ⟨af, cf, e⟩ := opts_slice of
  have e' : vf = .slice af 0 cf := e
  subst e'
  have A6 := A5.out.next b6
  have C6 := C5.out.next b6
  have K6 := K5.out.next b6
  have T6 := T5.out.next b6
  have O6 := O5.out.next b6
  have B6 := Lib.hid (Below.chain B5.out b6)
  clear of e b6 C4 A5 C5 K5 T5 O5 B5
  obtain ⟨ba, fa, qa, da, rfl, atA, hba⟩ := A6.at 0 (by simp)
  obtain ⟨bb, fb, qb, db, rfl, atB, hbb⟩ := C6.at 0 (by simp)
  obtain ⟨bl, fl, ql, dl, el, atL, hbl⟩ := O6.at 0 (by decide)
  injection el with el
  injection el with el1 el2
  subst el1
  subst el2
  have c0 : w6.cell? ⟨g, 0, none⟩ = some (.bool true) := T6.cell 0
  have c1 : w6.cell? ⟨g, 1, none⟩ = some (.int .i64 1500) := T6.cell 1
  have c2 : w6.cell? ⟨g, 2, none⟩ = some (.bool false) := T6.cell 2
  have c3 : w6.cell? ⟨g, 3, none⟩ = some (.int .u32 0) := T6.cell 3
  have c4 : w6.cell? ⟨g, 4, none⟩ = some (.int .i64 49699) := T6.cell 4
  have c5 : w6.cell? ⟨g, 5, none⟩ = some (.bool false) := T6.cell 5
  have c6 : w6.cell? ⟨g, 6, none⟩ = some (.bool false) := T6.cell 6
  have c7 : w6.cell? ⟨g, 7, none⟩ = some (.int .u32 0) := T6.cell 7
  have c8 : w6.cell? ⟨g, 8, none⟩ = some (.bool false) := T6.cell 8
  have c9 : w6.cell? ⟨g, 9, none⟩ = some (.bool false) := T6.cell 9
  have S1 := Lib.hid (refSame_any ak (some ⟨w.heap.size + 1 + 1, 0, none⟩) 2 2 ck 2 Aw.L Aw.L w6 rfl rfl (by omega) K6 O6)
  rw [decide_eq_true rfl] at S1
  have ATA := Lib.hid (fun W (hB : Below w6.heap.size w6 W) => atA.next hba hB)
  have ATB := Lib.hid (fun W (hB : Below w6.heap.size w6 W) => atB.next hbb hB)
  have ATL := Lib.hid (fun W (hB : Below w6.heap.size w6 W) => atL.next hbl hB)
  have OLL := Lib.hid (fun W (hB : Below w6.heap.size w6 W) => O6.next hB)
  clear A6 C6 K6 T6 O6 atA hba atB hbb atL hbl
  go_wp2_with fail
  refine S1.out.mono ?_
  rintro e w7 ⟨rfl, b7⟩
  have at7 := ATA.out w7 b7
  have x0 : w7.cell? ⟨ba, fa, none⟩ = some (.int .i64 9) := at7.ty
  have bt7 := ATB.out w7 b7
  have x1 : w7.cell? ⟨bb, fb + 1, none⟩ = some (.slice qb 2 db) := bt7.data
  have x2 := conv_row (n := 2) rfl bt7.row
  have x3 : (convert 22 9 (.slice qb 2 db)).run Try.prog w7 = .ok (.string ⟨#[5, 220]⟩) w7 := x2
  have D7 := Lib.hid b7
  clear b7 S1 at7 bt7 x2 c0 c1 c2 c3 c4 c5 c6 c7 c8 c9
  go_wp2_with fail
  refine (known_any 8 w7 (by decide)).mono ?_
  rintro e w8 ⟨rfl, b8⟩
  have D8 := Lib.hid (Below.chain D7.out b8)
  clear b8 D7 x0 x1 x3
  go_wp2_with fail
  refine (known_any 6 w8 (by decide)).mono ?_
  rintro e w9 ⟨rfl, b9⟩
  have D9 := Lib.hid (Below.chain D8.out b9)
  clear b9 D8
  have lt9 := ATL.out w9 D9.out
  have y0 : w9.cell? ⟨w.heap.size + 1 + 1, 0, none⟩ = some (.int .i64 1) := lt9.ty
  have y1 : w9.cell? ⟨w.heap.size + 1 + 1, 1, none⟩ = some (.slice ql 2 dl) := lt9.data
  have R9 := Lib.hid (right_any ⟨1, [5, 220]⟩ ql 2 dl w9 rfl (by omega) rfl lt9.row)
  simp only [ocells] at R9
  rw [show Tm.right ⟨1, [5, 220]⟩ = true by decide] at R9
  clear lt9
  go_wp2_with fail
  refine R9.out.mono ?_
  rintro e w10 ⟨rfl, b10⟩
  have D10 := Lib.hid (Below.chain D9.out b10)
  clear b10 D9 R9 y0 y1
  have at10 := ATA.out w10 D10.out
  have z0 : w10.cell? ⟨ba, fa, none⟩ = some (.int .i64 9) := at10.ty
  have z1 : w10.cell? ⟨ba, fa + 1, none⟩ = some (.slice qa 0 da) := at10.data
  have R10 := Lib.hid (right_any ⟨9, []⟩ qa 0 da w10 rfl (by omega) rfl at10.row)
  simp only [ocells] at R10
  rw [show Tm.right ⟨9, []⟩ = false by decide] at R10
  clear at10
  go_wp2_with fail
  refine R10.out.mono ?_
  rintro e w11 ⟨rfl, b11⟩
  have D11 := Lib.hid (Below.chain D10.out b11)
  clear b11 D10 R10 z0 z1
  have G11 := Lib.hid (login_any (some ⟨w.heap.size + 1 + 1, 0, none⟩) 2 2 Aw.L w11 rfl (by omega) Aw.small (OLL.out w11 D11.out))
  rw [Aw.loginL] at G11
  go_wp2_with fail
  refine G11.out.mono ?_
  rintro e w12 ⟨rfl, b12⟩
  have D12 := Lib.hid (Below.chain D11.out b12)
  clear b12 D11 G11
  go_wp2_with fail
  refine (login_any none 0 0 [] w12 rfl (by omega) (by simp) (.inl rfl)).mono ?_
  rintro e w13 ⟨rfl, b13⟩
  have D13 := Lib.hid (Below.chain B6.out (Below.chain D12.out b13 : Below w6.heap.size w6 w13))
  clear b13 D12
  rw [show Tm.login [] = 0 from rfl]
  go_wp2
  go_ret
  exact ⟨rfl, D13.out⟩
end Go.Proofs.Ytnhjpbhndckfgaa
