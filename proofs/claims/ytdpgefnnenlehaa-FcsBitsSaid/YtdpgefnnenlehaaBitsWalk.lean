/- FcsBits: the walk. -/
import Derived.Test.YtdpgefnnenlehaaWh
namespace Go.Proofs.Ytdpgefnnenlehaa
open Go.RowKit

set_option maxRecDepth 100000 in
set_option maxHeartbeats 4000000 in
theorem bits_a (a b c : Option Addr) (ca cb cc n lb lc : Nat) (xs ys zs : List UInt8) (wide : Bool) (w : World) (ha : RowAt w a ca xs) (hb : RowAt w b cb ys) (hc : RowAt w c cc zs) (la1 : xs.length = n) (lb1 : ys.length = lb) (lc1 : zs.length = lc) (na : n ≤ n) (nb : n ≤ lb) (nc : n ≤ lc) (h1 : ¬ (lb : Int) < (n : Int)) (h2 : ¬ (lc : Int) < (n : Int)) (hg : ¬ (2000 : Int) < (n : Int)) :
    Calls Try.prog 7 #[.slice a n ca, .slice b lb cb, .slice c lc cc, .bool wide] w fun e w' => e = .returned (.bool true) ∧ Below w.heap.size w w' := by
  have hkeep := And.intro na (And.intro nb (And.intro nc (And.intro h1 h2)))
  clear hkeep
  obtain ⟨i0, hi, hz0, hz1, hz2⟩ := info_parts info5
  have la2 := ha.le
  have lb2 := hb.le
  have lc2 := hc.le
  rw [la1] at la2
  rw [lb1] at lb2
  rw [lc1] at lc2
  have ja : (n : Int) ≤ (ca : Int) := by omega
  have jb : (n : Int) ≤ (cb : Int) := by omega
  have jc : (n : Int) ≤ (cc : Int) := by omega
  have ka : n ≤ ca := by omega
  have kb : n ≤ cb := by omega
  have kc : n ≤ cc := by omega
  have ea : (xs.take n).length = n := by rw [List.length_take]; omega
  have eb : (ys.take n).length = n := by rw [List.length_take]; omega
  have ec : (zs.take n).length = n := by rw [List.length_take]; omega
  have hof := Fc.of_xor3 (xs.take n) (ys.take n) (zs.take n) wide (by omega) (by omega)
  have eD := Fc.xor3_length (xs.take n) (ys.take n) (zs.take n) (by omega) (by omega)
  rw [ea] at eD
  have A1 := Lib.hid ha
  have B1 := Lib.hid hb
  have C1 := Lib.hid hc
  have EA := Lib.hid ea
  have EB := Lib.hid eb
  have EC := Lib.hid ec
  have ED := Lib.hid eD
  have Hof := Lib.hid hof
  have La1 := Lib.hid la1
  have Lb1 := Lib.hid lb1
  have Lc1 := Lib.hid lc1
  clear ha hb hc ea eb ec eD hof la1 lb1 lc1
  go_enter Try.func7, Try.ntmps7
  go_wp2_with fail
  refine (awake_any _).mono ?_
  rintro e w1 ⟨rfl, b1⟩
  go_wp2_with fail
  go_loopw [10, 11] (fun v i wr => ∃ k : Nat, k ≤ n ∧ i = .int .i64 (k : Int) ∧ wr.ownsRow w.heap.size 5 1 v k (Lib.byteCells (Fc.xor3 (xs.take k) (ys.take k) (zs.take k))) ∧ Below w.heap.size w wr) (fun _ i _ => n - (intOf i).toNat)
  case atStart => exact ⟨0, Nat.zero_le _, rfl, World.ownsRow_nil _ _ _ _, b1⟩
  case round =>
    obtain ⟨k, hk, rfl, hown, hbw⟩ := hrel
    clear b1
    by_cases hlt : (k : Int) < (n : Int)
    · have hka : k < xs.length := by rw [La1.out]; omega
      have hkb : k < ys.length := by rw [Lb1.out]; omega
      have hkc : k < zs.length := by rw [Lc1.out]; omega
      have hsn : Fc.xor3 (xs.take (k + 1)) (ys.take (k + 1)) (zs.take (k + 1)) = Fc.xor3 (xs.take k) (ys.take k) (zs.take k) ++ [xs[k] ^^^ ys[k] ^^^ zs[k]] := by
        rw [List.take_succ_eq_append_getElem hka, List.take_succ_eq_append_getElem hkb, List.take_succ_eq_append_getElem hkc]
        exact Fc.xor3_snoc _ _ _ (by rw [List.length_take, List.length_take]; omega) (by rw [List.length_take, List.length_take]; omega) _ _ _
      have hrr : (xs[k] ^^^ ys[k] ^^^ zs[k]).toNat = xs[k].toNat ^^^ ys[k].toNat ^^^ zs[k].toNat := by rw [UInt8.toNat_xor, UInt8.toNat_xor]
      obtain ⟨ba, oa, rfl, qa, fa⟩ : ∃ b off, a = some ⟨b, off, none⟩ ∧ b < w.heap.size ∧ ∀ j (h : j < xs.length), w.cell? ⟨b, off + j, none⟩ = some (.int .u8 (xs[j].toNat : Int)) := by
        rcases A1.out.bytes with h | h
        · rw [h] at hka; simp at hka
        · exact h
      obtain ⟨bb, ob, rfl, qb, fb⟩ : ∃ g off, b = some ⟨g, off, none⟩ ∧ g < w.heap.size ∧ ∀ j (h : j < ys.length), w.cell? ⟨g, off + j, none⟩ = some (.int .u8 (ys[j].toNat : Int)) := by
        rcases B1.out.bytes with h | h
        · rw [h] at hkb; simp at hkb
        · exact h
      obtain ⟨bc, oc, rfl, qc, fc⟩ : ∃ g off, c = some ⟨g, off, none⟩ ∧ g < w.heap.size ∧ ∀ j (h : j < zs.length), w.cell? ⟨g, off + j, none⟩ = some (.int .u8 (zs[j].toNat : Int)) := by
        rcases C1.out.bytes with h | h
        · rw [h] at hkc; simp at hkc
        · exact h
      have ga := fa k hka
      have gb := fb k hkb
      have gc := fc k hkc
      have xa := xs[k].toNat_lt
      have xb := ys[k].toNat_lt
      have xc := zs[k].toNat_lt
      clear fa fb fc
      generalize xs[k] ^^^ ys[k] ^^^ zs[k] = R at hsn hrr
      generalize xs[k].toNat = x at ga xa hrr
      generalize ys[k].toNat = y at gb xb hrr
      generalize zs[k].toNat = z at gc xc hrr
      have x1 := Fc.xor8 x y xa xb
      have p1 : x ^^^ y < 256 := Nat.xor_lt_two_pow (n := 8) xa xb
      generalize x ^^^ y = p at x1 p1 hrr
      have x2 := Fc.xor8 p z p1 xc
      rw [← hrr] at x2
      generalize Fc.xor3 (xs.take k) (ys.take k) (zs.take k) = D at hown hsn
      have hcells : ∀ W : World, Below w.heap.size w W → W.cell? ⟨ba, oa + k, none⟩ = some (.int .u8 (x : Int)) ∧ W.cell? ⟨bb, ob + k, none⟩ = some (.int .u8 (y : Int)) ∧ W.cell? ⟨bc, oc + k, none⟩ = some (.int .u8 (z : Int)) := fun W hW => ⟨by rw [hW.cell (p := ⟨ba, oa + k, none⟩) qa]; exact ga, by rw [hW.cell (p := ⟨bb, ob + k, none⟩) qb]; exact gb, by rw [hW.cell (p := ⟨bc, oc + k, none⟩) qc]; exact gc⟩
      have Hcells := Lib.hid hcells
      have Hsn := Lib.hid hsn
      have ia : (k : Int) < (n : Int) := by omega
      have ib : (k : Int) < (lb : Int) := by omega
      have ic : (k : Int) < (lc : Int) := by omega
      have hbd := Below.chain hbw ((Below.refl wr.heap.size wr).drew)
      have hS := Hcells.out _ hbd
      have Hown := Lib.hid hown
      have hsz := hbw.size
      clear hcells hsn hrr ga gb gc hka hkb hkc hown
      go_wp2_with fail
      refine held_start (S := fun W => W.cell? ⟨ba, oa + k, none⟩ = some (.int .u8 (x : Int)) ∧ W.cell? ⟨bb, ob + k, none⟩ = some (.int .u8 (y : Int)) ∧ W.cell? ⟨bc, oc + k, none⟩ = some (.int .u8 (z : Int))) 18 (by kernel_rfl) rfl ?_
      refine held_take 0 (v := ?_) rfl (by kernel_rfl) (by kernel_rfl) (by kernel_rfl) (fun _ _ _ h => h) (by assumption) (by rfl) ?_ ?_
      rotate_left
      · (intro W hW; go_simp; try with_reducible rfl)
      simp only [Act.put, List.setIfInBounds_toArray, List.set_cons_zero, List.set_cons_succ]
      refine held_take 1 (v := ?_) rfl (by kernel_rfl) (by kernel_rfl) (by kernel_rfl) (fun _ _ _ h => h) (by assumption) (by rfl) ?_ ?_
      rotate_left
      · (intro W hW; go_simp; try with_reducible rfl)
      simp only [Act.put, List.setIfInBounds_toArray, List.set_cons_zero, List.set_cons_succ]
      refine held_take 2 (v := ?_) rfl (by kernel_rfl) (by kernel_rfl) (by kernel_rfl) (fun _ _ _ h => h) (by assumption) (by rfl) ?_ ?_
      rotate_left
      · (intro W hW; go_simp; try with_reducible rfl)
      simp only [Act.put, List.setIfInBounds_toArray, List.set_cons_zero, List.set_cons_succ]
      refine held_take 3 (v := ?_) rfl (by kernel_rfl) (by kernel_rfl) (by kernel_rfl) (fun _ _ _ h => h) (by assumption) (by rfl) ?_ ?_
      rotate_left
      · (intro W hW; go_simp; try with_reducible rfl)
      simp only [Act.put, List.setIfInBounds_toArray, List.set_cons_zero, List.set_cons_succ]
      refine held_take 4 (v := ?_) rfl (by kernel_rfl) (by kernel_rfl) (by kernel_rfl) (fun _ _ _ h => h) (by assumption) (by rfl) ?_ ?_
      rotate_left
      · (intro W hW; have hw1 := hW.1; have hw2 := hW.2.1; have hw3 := hW.2.2; go_simp; try with_reducible rfl)
      simp only [Act.put, List.setIfInBounds_toArray, List.set_cons_zero, List.set_cons_succ]
      refine held_take 5 (v := ?_) rfl (by kernel_rfl) (by kernel_rfl) (by kernel_rfl) (fun _ _ _ h => h) (by assumption) (by rfl) ?_ ?_
      rotate_left
      · (intro W hW; go_simp; try with_reducible rfl)
      simp only [Act.put, List.setIfInBounds_toArray, List.set_cons_zero, List.set_cons_succ]
      refine held_take 6 (v := ?_) rfl (by kernel_rfl) (by kernel_rfl) (by kernel_rfl) (fun _ _ _ h => h) (by assumption) (by rfl) ?_ ?_
      rotate_left
      · (intro W hW; go_simp; try with_reducible rfl)
      simp only [Act.put, List.setIfInBounds_toArray, List.set_cons_zero, List.set_cons_succ]
      refine held_take 7 (v := ?_) rfl (by kernel_rfl) (by kernel_rfl) (by kernel_rfl) (fun _ _ _ h => h) (by assumption) (by rfl) ?_ ?_
      rotate_left
      · (intro W hW; go_simp; try with_reducible rfl)
      simp only [Act.put, List.setIfInBounds_toArray, List.set_cons_zero, List.set_cons_succ]
      refine held_take 8 (v := ?_) rfl (by kernel_rfl) (by kernel_rfl) (by kernel_rfl) (fun _ _ _ h => h) (by assumption) (by rfl) ?_ ?_
      rotate_left
      · (intro W hW; have hw1 := hW.1; have hw2 := hW.2.1; have hw3 := hW.2.2; go_simp; try with_reducible rfl)
      simp only [Act.put, List.setIfInBounds_toArray, List.set_cons_zero, List.set_cons_succ]
      refine held_take 9 (v := ?_) rfl (by kernel_rfl) (by kernel_rfl) (by kernel_rfl) (fun _ _ _ h => h) (by assumption) (by rfl) ?_ ?_
      rotate_left
      · (intro W hW; go_simp; try with_reducible rfl)
      simp only [Act.put, List.setIfInBounds_toArray, List.set_cons_zero, List.set_cons_succ]
      refine held_take 10 (v := ?_) rfl (by kernel_rfl) (by kernel_rfl) (by kernel_rfl) (fun _ _ _ h => h) (by assumption) (by rfl) ?_ ?_
      rotate_left
      · (intro W hW; go_simp; try with_reducible rfl)
      simp only [Act.put, List.setIfInBounds_toArray, List.set_cons_zero, List.set_cons_succ]
      refine held_take 11 (v := ?_) rfl (by kernel_rfl) (by kernel_rfl) (by kernel_rfl) (fun _ _ _ h => h) (by assumption) (by rfl) ?_ ?_
      rotate_left
      · (intro W hW; go_simp; try with_reducible rfl)
      simp only [Act.put, List.setIfInBounds_toArray, List.set_cons_zero, List.set_cons_succ]
      refine held_take 12 (v := ?_) rfl (by kernel_rfl) (by kernel_rfl) (by kernel_rfl) (fun _ _ _ h => h) (by assumption) (by rfl) ?_ ?_
      rotate_left
      · (intro W hW; go_simp; try with_reducible rfl)
      simp only [Act.put, List.setIfInBounds_toArray, List.set_cons_zero, List.set_cons_succ]
      refine held_take 13 (v := ?_) rfl (by kernel_rfl) (by kernel_rfl) (by kernel_rfl) (fun _ _ _ h => h) (by assumption) (by rfl) ?_ ?_
      rotate_left
      · (intro W hW; have hw1 := hW.1; have hw2 := hW.2.1; have hw3 := hW.2.2; go_simp; try with_reducible rfl)
      simp only [Act.put, List.setIfInBounds_toArray, List.set_cons_zero, List.set_cons_succ]
      refine held_take 14 (v := ?_) rfl (by kernel_rfl) (by kernel_rfl) (by kernel_rfl) (fun _ _ _ h => h) (by assumption) (by rfl) ?_ ?_
      rotate_left
      · (intro W hW; go_simp; try with_reducible rfl)
      simp only [Act.put, List.setIfInBounds_toArray, List.set_cons_zero, List.set_cons_succ]
      have hbe := hbd.alloc hbd.size (.cells #[.int .u8 (R.toNat : Int)] 5)
      have hS2 := Hcells.out _ hbe
      refine held_makes 15 (v := .slice (some ⟨wr.drew.heap.size, 0, none⟩) 1 1) (w' := wr.drew.alloc (.cells #[.int .u8 (R.toNat : Int)] 5)) rfl (by kernel_rfl) (by rfl) (by go_simp) hS2 ?_
      simp only [Act.put, List.setIfInBounds_toArray, List.set_cons_zero, List.set_cons_succ]
      obtain ⟨v', w', hrun, r1, r2, _⟩ := run_append_own (P := Try.prog) (wr.drew.alloc (.cells #[.int .u8 (R.toNat : Int)] 5)) w.heap.size 23 23 5 i0 (.int .u8 0) 1 1 Try.underlying23 hi hz0 hz1 hz2 rfl (by decide) _ _ _ (Hown.out.drew.alloc _) ⟨wr.drew.heap.size, 0, none⟩ 1 1 [.int .u8 (R.toNat : Int)] rfl (cell_one_new _ _ _) (fun u hu => by simp at hu; subst hu; rfl) (by unfold maxLen; omega) (by omega) (by simp; omega)
      rw [show wr.drew.heap.size = wr.heap.size from rfl] at hrun
      have hbf : Below w.heap.size w w' := Below.grown hbe r2 hbe.size (fun j hj => (Hown.out.lt j hj).1)
      have hS3 := Hcells.out _ hbf
      refine held_makes 16 (v := v') (w' := w') rfl (by kernel_rfl) (by rfl) (by simp [execOp, resolve, invoke, builtin, Act.eval, hrun, Result.andThen]) hS3 ?_
      simp only [Act.put, List.setIfInBounds_toArray, List.set_cons_zero, List.set_cons_succ]
      refine held_take 17 (v := ?_) rfl (by kernel_rfl) (by kernel_rfl) (by kernel_rfl) (fun _ _ _ h => h) (by assumption) (by rfl) ?_ ?_
      rotate_left
      · (intro W hW; go_simp; try with_reducible rfl)
      simp only [Act.put, List.setIfInBounds_toArray, List.set_cons_zero, List.set_cons_succ]
      refine held_done (by kernel_rfl) ?_
      have R1 := Lib.hid r1
      clear hrun r1 r2
      go_wp2
      go_roundw
      case rel => exact ⟨k + 1, by omega, by go_num, by rw [Hsn.out, Lib.byteCells_append]; exact R1.out, hbf⟩
      case measure => simp [intOf]; omega
    · have hkl : k = n := by omega
      rw [hkl] at hown
      clear hlt
      rw [hkl]
      obtain ⟨a5, c5, rfl, r5⟩ := rowAt_own ED.out hown
      have hS : RowAt wr.drew a5 c5 (Fc.xor3 (xs.take n) (ys.take n) (zs.take n)) ∧ RowAt wr.drew a ca (xs.take n) ∧ RowAt wr.drew b cb (ys.take n) ∧ RowAt wr.drew c cc (zs.take n) := ⟨r5.drawn, ((A1.out.next hbw).head n).drawn, ((B1.out.next hbw).head n).drawn, ((C1.out.next hbw).head n).drawn⟩
      replace hbw := Below.chain hbw ((Below.refl wr.heap.size wr).drew)
      have l1 := Fc.of_lt32 (xs.take n) wide
      have l2 := Fc.of_lt32 (ys.take n) wide
      have l3 := Fc.of_lt32 (zs.take n) wide
      have hof := Hof.out
      have c0 : ∀ W : World, RowAt W a5 c5 (Fc.xor3 (xs.take n) (ys.take n) (zs.take n)) → _ := fun W h => of_any a5 n c5 _ wide W ED.out (by omega) h
      have c1 : ∀ W : World, RowAt W a ca (xs.take n) → _ := fun W h => of_any a n ca _ wide W EA.out (by omega) h
      have c2 : ∀ W : World, RowAt W b cb (ys.take n) → _ := fun W h => of_any b n cb _ wide W EB.out (by omega) h
      have c3 : ∀ W : World, RowAt W c cc (zs.take n) → _ := fun W h => of_any c n cc _ wide W EC.out (by omega) h
      clear EA EB EC ED Hof hown r5
      generalize Fc.of (Fc.xor3 (xs.take n) (ys.take n) (zs.take n)) wide = o0 at c0 hof
      generalize Fc.of (xs.take n) wide = o1 at c1 hof l1
      generalize Fc.of (ys.take n) wide = o2 at c2 hof l2
      generalize Fc.of (zs.take n) wide = o3 at c3 hof l3
      generalize Fc.xor3 (xs.take n) (ys.take n) (zs.take n) = D at c0 hS
      generalize xs.take n = X at c1 hS
      generalize ys.take n = Y at c2 hS
      generalize zs.take n = Z at c3 hS
      have x1 := Fc.xor32 o1 o2 l1 l2
      have l12 := Fc.xor_lt o1 o2 l1 l2
      generalize o1 ^^^ o2 = o12 at x1 l12 hof
      have x2 := Fc.xor32 o12 o3 l12 l3
      rw [← hof] at x2
      have D0 := Lib.hid c0
      have D1 := Lib.hid c1
      have D2 := Lib.hid c2
      have D3 := Lib.hid c3
      clear c0 c1 c2 c3 hof
      go_wp2_with fail
      refine held_start (S := fun W => RowAt W a5 c5 D ∧ RowAt W a ca X ∧ RowAt W b cb Y ∧ RowAt W c cc Z) 22 (by kernel_rfl) rfl ?_
      refine held_take 0 (v := ?_) rfl (by kernel_rfl) (by kernel_rfl) (by kernel_rfl) (fun _ _ _ h => h) (by assumption) (by rfl) ?_ ?_
      rotate_left
      · (intro W hW; go_simp; try with_reducible rfl)
      simp only [Act.put, List.setIfInBounds_toArray, List.set_cons_zero, List.set_cons_succ]
      refine held_take 1 (v := ?_) rfl (by kernel_rfl) (by kernel_rfl) (by kernel_rfl) (fun _ _ _ h => h) (by assumption) (by rfl) ?_ ?_
      rotate_left
      · (intro W hW; go_simp; try with_reducible rfl)
      simp only [Act.put, List.setIfInBounds_toArray, List.set_cons_zero, List.set_cons_succ]
      refine held_take 3 (v := ?_) rfl (by kernel_rfl) (by kernel_rfl) (by kernel_rfl) (fun _ _ _ h => h) (by assumption) (by rfl) ?_ ?_
      rotate_left
      · (intro W hW; go_simp; try with_reducible rfl)
      simp only [Act.put, List.setIfInBounds_toArray, List.set_cons_zero, List.set_cons_succ]
      refine held_take 4 (v := ?_) rfl (by kernel_rfl) (by kernel_rfl) (by kernel_rfl) (fun _ _ _ h => h) (by assumption) (by rfl) ?_ ?_
      rotate_left
      · (intro W hW; go_simp; try with_reducible rfl)
      simp only [Act.put, List.setIfInBounds_toArray, List.set_cons_zero, List.set_cons_succ]
      refine held_take 5 (v := ?_) rfl (by kernel_rfl) (by kernel_rfl) (by kernel_rfl) (fun _ _ _ h => h) (by assumption) (by rfl) ?_ ?_
      rotate_left
      · (intro W hW; go_simp; try with_reducible rfl)
      simp only [Act.put, List.setIfInBounds_toArray, List.set_cons_zero, List.set_cons_succ]
      refine held_take 6 (v := ?_) rfl (by kernel_rfl) (by kernel_rfl) (by kernel_rfl) (fun _ _ _ h => h) (by assumption) (by rfl) ?_ ?_
      rotate_left
      · (intro W hW; go_simp; try with_reducible rfl)
      simp only [Act.put, List.setIfInBounds_toArray, List.set_cons_zero, List.set_cons_succ]
      refine held_take 8 (v := ?_) rfl (by kernel_rfl) (by kernel_rfl) (by kernel_rfl) (fun _ _ _ h => h) (by assumption) (by rfl) ?_ ?_
      rotate_left
      · (intro W hW; go_simp; try with_reducible rfl)
      simp only [Act.put, List.setIfInBounds_toArray, List.set_cons_zero, List.set_cons_succ]
      refine held_take 9 (v := ?_) rfl (by kernel_rfl) (by kernel_rfl) (by kernel_rfl) (fun _ _ _ h => h) (by assumption) (by rfl) ?_ ?_
      rotate_left
      · (intro W hW; go_simp; try with_reducible rfl)
      simp only [Act.put, List.setIfInBounds_toArray, List.set_cons_zero, List.set_cons_succ]
      refine held_take 10 (v := ?_) rfl (by kernel_rfl) (by kernel_rfl) (by kernel_rfl) (fun _ _ _ h => h) (by assumption) (by rfl) ?_ ?_
      rotate_left
      · (intro W hW; go_simp; try with_reducible rfl)
      simp only [Act.put, List.setIfInBounds_toArray, List.set_cons_zero, List.set_cons_succ]
      refine held_take 11 (v := ?_) rfl (by kernel_rfl) (by kernel_rfl) (by kernel_rfl) (fun _ _ _ h => h) (by assumption) (by rfl) ?_ ?_
      rotate_left
      · (intro W hW; go_simp; try with_reducible rfl)
      simp only [Act.put, List.setIfInBounds_toArray, List.set_cons_zero, List.set_cons_succ]
      refine held_take 14 (v := ?_) rfl (by kernel_rfl) (by kernel_rfl) (by kernel_rfl) (fun _ _ _ h => h) (by assumption) (by rfl) ?_ ?_
      rotate_left
      · (intro W hW; go_simp; try with_reducible rfl)
      simp only [Act.put, List.setIfInBounds_toArray, List.set_cons_zero, List.set_cons_succ]
      refine held_take 15 (v := ?_) rfl (by kernel_rfl) (by kernel_rfl) (by kernel_rfl) (fun _ _ _ h => h) (by assumption) (by rfl) ?_ ?_
      rotate_left
      · (intro W hW; go_simp; try with_reducible rfl)
      simp only [Act.put, List.setIfInBounds_toArray, List.set_cons_zero, List.set_cons_succ]
      refine held_take 16 (v := ?_) rfl (by kernel_rfl) (by kernel_rfl) (by kernel_rfl) (fun _ _ _ h => h) (by assumption) (by rfl) ?_ ?_
      rotate_left
      · (intro W hW; go_simp; try with_reducible rfl)
      simp only [Act.put, List.setIfInBounds_toArray, List.set_cons_zero, List.set_cons_succ]
      refine held_take 17 (v := ?_) rfl (by kernel_rfl) (by kernel_rfl) (by kernel_rfl) (fun _ _ _ h => h) (by assumption) (by rfl) ?_ ?_
      rotate_left
      · (intro W hW; go_simp; try with_reducible rfl)
      simp only [Act.put, List.setIfInBounds_toArray, List.set_cons_zero, List.set_cons_succ]
      refine held_call 2 (f := 12) (args := #[.slice a5 n c5, .bool wide]) rfl (by kernel_rfl) (by rfl) (by go_simp) ?_
      refine (D0.out _ hS.1).mono ?_
      rintro e w2 ⟨rfl, bb⟩
      replace hS : RowAt w2 a5 c5 D ∧ RowAt w2 a ca X ∧ RowAt w2 b cb Y ∧ RowAt w2 c cc Z := ⟨hS.1.next bb, hS.2.1.next bb, hS.2.2.1.next bb, hS.2.2.2.next bb⟩
      replace hbw := Below.chain hbw bb
      clear bb
      refine ⟨_, rfl, hS, ?_⟩
      simp only [Act.put, List.setIfInBounds_toArray, List.set_cons_zero, List.set_cons_succ]
      refine held_call 7 (f := 12) (args := #[.slice a n ca, .bool wide]) rfl (by kernel_rfl) (by rfl) (by go_simp) ?_
      refine (D1.out _ hS.2.1).mono ?_
      rintro e w3 ⟨rfl, bb⟩
      replace hS : RowAt w3 a5 c5 D ∧ RowAt w3 a ca X ∧ RowAt w3 b cb Y ∧ RowAt w3 c cc Z := ⟨hS.1.next bb, hS.2.1.next bb, hS.2.2.1.next bb, hS.2.2.2.next bb⟩
      replace hbw := Below.chain hbw bb
      clear bb
      refine ⟨_, rfl, hS, ?_⟩
      simp only [Act.put, List.setIfInBounds_toArray, List.set_cons_zero, List.set_cons_succ]
      refine held_call 12 (f := 12) (args := #[.slice b n cb, .bool wide]) rfl (by kernel_rfl) (by rfl) (by go_simp) ?_
      refine (D2.out _ hS.2.2.1).mono ?_
      rintro e w4 ⟨rfl, bb⟩
      replace hS : RowAt w4 a5 c5 D ∧ RowAt w4 a ca X ∧ RowAt w4 b cb Y ∧ RowAt w4 c cc Z := ⟨hS.1.next bb, hS.2.1.next bb, hS.2.2.1.next bb, hS.2.2.2.next bb⟩
      replace hbw := Below.chain hbw bb
      clear bb
      refine ⟨_, rfl, hS, ?_⟩
      simp only [Act.put, List.setIfInBounds_toArray, List.set_cons_zero, List.set_cons_succ]
      refine held_take 13 (v := ?_) rfl (by kernel_rfl) (by kernel_rfl) (by kernel_rfl) (fun _ _ _ h => h) (by assumption) (by rfl) ?_ ?_
      rotate_left
      · (intro W hW; go_simp; try with_reducible rfl)
      simp only [Act.put, List.setIfInBounds_toArray, List.set_cons_zero, List.set_cons_succ]
      refine held_call 18 (f := 12) (args := #[.slice c n cc, .bool wide]) rfl (by kernel_rfl) (by rfl) (by go_simp) ?_
      refine (D3.out _ hS.2.2.2).mono ?_
      rintro e w5 ⟨rfl, bb⟩
      replace hS : RowAt w5 a5 c5 D ∧ RowAt w5 a ca X ∧ RowAt w5 b cb Y ∧ RowAt w5 c cc Z := ⟨hS.1.next bb, hS.2.1.next bb, hS.2.2.1.next bb, hS.2.2.2.next bb⟩
      replace hbw := Below.chain hbw bb
      clear bb
      refine ⟨_, rfl, hS, ?_⟩
      simp only [Act.put, List.setIfInBounds_toArray, List.set_cons_zero, List.set_cons_succ]
      refine held_take 19 (v := ?_) rfl (by kernel_rfl) (by kernel_rfl) (by kernel_rfl) (fun _ _ _ h => h) (by assumption) (by rfl) ?_ ?_
      rotate_left
      · (intro W hW; go_simp; try with_reducible rfl)
      simp only [Act.put, List.setIfInBounds_toArray, List.set_cons_zero, List.set_cons_succ]
      refine held_take 20 (v := ?_) rfl (by kernel_rfl) (by kernel_rfl) (by kernel_rfl) (fun _ _ _ h => h) (by assumption) (by rfl) ?_ ?_
      rotate_left
      · (intro W hW; go_simp; try with_reducible rfl)
      simp only [Act.put, List.setIfInBounds_toArray, List.set_cons_zero, List.set_cons_succ]
      refine held_take 21 (v := ?_) rfl (by kernel_rfl) (by kernel_rfl) (by kernel_rfl) (fun _ _ _ h => h) (by assumption) (by rfl) ?_ ?_
      rotate_left
      · (intro W hW; go_simp; try with_reducible rfl)
      simp only [Act.put, List.setIfInBounds_toArray, List.set_cons_zero, List.set_cons_succ]
      refine held_done (by kernel_rfl) ?_
      go_wp2
      go_ret
      exact ⟨rfl, hbw⟩
set_option maxRecDepth 100000 in
set_option maxHeartbeats 4000000 in
theorem bits_b (a b c : Option Addr) (ca cb cc n la lc : Nat) (xs ys zs : List UInt8) (wide : Bool) (w : World) (ha : RowAt w a ca xs) (hb : RowAt w b cb ys) (hc : RowAt w c cc zs) (la1 : xs.length = la) (lb1 : ys.length = n) (lc1 : zs.length = lc) (na : n ≤ la) (nb : n ≤ n) (nc : n ≤ lc) (h1 : (n : Int) < (la : Int)) (h2 : ¬ (lc : Int) < (n : Int)) (hg : ¬ (2000 : Int) < (n : Int)) :
    Calls Try.prog 7 #[.slice a la ca, .slice b n cb, .slice c lc cc, .bool wide] w fun e w' => e = .returned (.bool true) ∧ Below w.heap.size w w' := by
  have hkeep := And.intro na (And.intro nb (And.intro nc (And.intro h1 h2)))
  clear hkeep
  obtain ⟨i0, hi, hz0, hz1, hz2⟩ := info_parts info5
  have la2 := ha.le
  have lb2 := hb.le
  have lc2 := hc.le
  rw [la1] at la2
  rw [lb1] at lb2
  rw [lc1] at lc2
  have ja : (n : Int) ≤ (ca : Int) := by omega
  have jb : (n : Int) ≤ (cb : Int) := by omega
  have jc : (n : Int) ≤ (cc : Int) := by omega
  have ka : n ≤ ca := by omega
  have kb : n ≤ cb := by omega
  have kc : n ≤ cc := by omega
  have ea : (xs.take n).length = n := by rw [List.length_take]; omega
  have eb : (ys.take n).length = n := by rw [List.length_take]; omega
  have ec : (zs.take n).length = n := by rw [List.length_take]; omega
  have hof := Fc.of_xor3 (xs.take n) (ys.take n) (zs.take n) wide (by omega) (by omega)
  have eD := Fc.xor3_length (xs.take n) (ys.take n) (zs.take n) (by omega) (by omega)
  rw [ea] at eD
  have A1 := Lib.hid ha
  have B1 := Lib.hid hb
  have C1 := Lib.hid hc
  have EA := Lib.hid ea
  have EB := Lib.hid eb
  have EC := Lib.hid ec
  have ED := Lib.hid eD
  have Hof := Lib.hid hof
  have La1 := Lib.hid la1
  have Lb1 := Lib.hid lb1
  have Lc1 := Lib.hid lc1
  clear ha hb hc ea eb ec eD hof la1 lb1 lc1
  go_enter Try.func7, Try.ntmps7
  go_wp2_with fail
  refine (awake_any _).mono ?_
  rintro e w1 ⟨rfl, b1⟩
  go_wp2_with fail
  go_loopw [10, 11] (fun v i wr => ∃ k : Nat, k ≤ n ∧ i = .int .i64 (k : Int) ∧ wr.ownsRow w.heap.size 5 1 v k (Lib.byteCells (Fc.xor3 (xs.take k) (ys.take k) (zs.take k))) ∧ Below w.heap.size w wr) (fun _ i _ => n - (intOf i).toNat)
  case atStart => exact ⟨0, Nat.zero_le _, rfl, World.ownsRow_nil _ _ _ _, b1⟩
  case round =>
    obtain ⟨k, hk, rfl, hown, hbw⟩ := hrel
    clear b1
    by_cases hlt : (k : Int) < (n : Int)
    · have hka : k < xs.length := by rw [La1.out]; omega
      have hkb : k < ys.length := by rw [Lb1.out]; omega
      have hkc : k < zs.length := by rw [Lc1.out]; omega
      have hsn : Fc.xor3 (xs.take (k + 1)) (ys.take (k + 1)) (zs.take (k + 1)) = Fc.xor3 (xs.take k) (ys.take k) (zs.take k) ++ [xs[k] ^^^ ys[k] ^^^ zs[k]] := by
        rw [List.take_succ_eq_append_getElem hka, List.take_succ_eq_append_getElem hkb, List.take_succ_eq_append_getElem hkc]
        exact Fc.xor3_snoc _ _ _ (by rw [List.length_take, List.length_take]; omega) (by rw [List.length_take, List.length_take]; omega) _ _ _
      have hrr : (xs[k] ^^^ ys[k] ^^^ zs[k]).toNat = xs[k].toNat ^^^ ys[k].toNat ^^^ zs[k].toNat := by rw [UInt8.toNat_xor, UInt8.toNat_xor]
      obtain ⟨ba, oa, rfl, qa, fa⟩ : ∃ b off, a = some ⟨b, off, none⟩ ∧ b < w.heap.size ∧ ∀ j (h : j < xs.length), w.cell? ⟨b, off + j, none⟩ = some (.int .u8 (xs[j].toNat : Int)) := by
        rcases A1.out.bytes with h | h
        · rw [h] at hka; simp at hka
        · exact h
      obtain ⟨bb, ob, rfl, qb, fb⟩ : ∃ g off, b = some ⟨g, off, none⟩ ∧ g < w.heap.size ∧ ∀ j (h : j < ys.length), w.cell? ⟨g, off + j, none⟩ = some (.int .u8 (ys[j].toNat : Int)) := by
        rcases B1.out.bytes with h | h
        · rw [h] at hkb; simp at hkb
        · exact h
      obtain ⟨bc, oc, rfl, qc, fc⟩ : ∃ g off, c = some ⟨g, off, none⟩ ∧ g < w.heap.size ∧ ∀ j (h : j < zs.length), w.cell? ⟨g, off + j, none⟩ = some (.int .u8 (zs[j].toNat : Int)) := by
        rcases C1.out.bytes with h | h
        · rw [h] at hkc; simp at hkc
        · exact h
      have ga := fa k hka
      have gb := fb k hkb
      have gc := fc k hkc
      have xa := xs[k].toNat_lt
      have xb := ys[k].toNat_lt
      have xc := zs[k].toNat_lt
      clear fa fb fc
      generalize xs[k] ^^^ ys[k] ^^^ zs[k] = R at hsn hrr
      generalize xs[k].toNat = x at ga xa hrr
      generalize ys[k].toNat = y at gb xb hrr
      generalize zs[k].toNat = z at gc xc hrr
      have x1 := Fc.xor8 x y xa xb
      have p1 : x ^^^ y < 256 := Nat.xor_lt_two_pow (n := 8) xa xb
      generalize x ^^^ y = p at x1 p1 hrr
      have x2 := Fc.xor8 p z p1 xc
      rw [← hrr] at x2
      generalize Fc.xor3 (xs.take k) (ys.take k) (zs.take k) = D at hown hsn
      have hcells : ∀ W : World, Below w.heap.size w W → W.cell? ⟨ba, oa + k, none⟩ = some (.int .u8 (x : Int)) ∧ W.cell? ⟨bb, ob + k, none⟩ = some (.int .u8 (y : Int)) ∧ W.cell? ⟨bc, oc + k, none⟩ = some (.int .u8 (z : Int)) := fun W hW => ⟨by rw [hW.cell (p := ⟨ba, oa + k, none⟩) qa]; exact ga, by rw [hW.cell (p := ⟨bb, ob + k, none⟩) qb]; exact gb, by rw [hW.cell (p := ⟨bc, oc + k, none⟩) qc]; exact gc⟩
      have Hcells := Lib.hid hcells
      have Hsn := Lib.hid hsn
      have ia : (k : Int) < (la : Int) := by omega
      have ib : (k : Int) < (n : Int) := by omega
      have ic : (k : Int) < (lc : Int) := by omega
      have hbd := Below.chain hbw ((Below.refl wr.heap.size wr).drew)
      have hS := Hcells.out _ hbd
      have Hown := Lib.hid hown
      have hsz := hbw.size
      clear hcells hsn hrr ga gb gc hka hkb hkc hown
      go_wp2_with fail
      refine held_start (S := fun W => W.cell? ⟨ba, oa + k, none⟩ = some (.int .u8 (x : Int)) ∧ W.cell? ⟨bb, ob + k, none⟩ = some (.int .u8 (y : Int)) ∧ W.cell? ⟨bc, oc + k, none⟩ = some (.int .u8 (z : Int))) 18 (by kernel_rfl) rfl ?_
      refine held_take 0 (v := ?_) rfl (by kernel_rfl) (by kernel_rfl) (by kernel_rfl) (fun _ _ _ h => h) (by assumption) (by rfl) ?_ ?_
      rotate_left
      · (intro W hW; go_simp; try with_reducible rfl)
      simp only [Act.put, List.setIfInBounds_toArray, List.set_cons_zero, List.set_cons_succ]
      refine held_take 1 (v := ?_) rfl (by kernel_rfl) (by kernel_rfl) (by kernel_rfl) (fun _ _ _ h => h) (by assumption) (by rfl) ?_ ?_
      rotate_left
      · (intro W hW; go_simp; try with_reducible rfl)
      simp only [Act.put, List.setIfInBounds_toArray, List.set_cons_zero, List.set_cons_succ]
      refine held_take 2 (v := ?_) rfl (by kernel_rfl) (by kernel_rfl) (by kernel_rfl) (fun _ _ _ h => h) (by assumption) (by rfl) ?_ ?_
      rotate_left
      · (intro W hW; go_simp; try with_reducible rfl)
      simp only [Act.put, List.setIfInBounds_toArray, List.set_cons_zero, List.set_cons_succ]
      refine held_take 3 (v := ?_) rfl (by kernel_rfl) (by kernel_rfl) (by kernel_rfl) (fun _ _ _ h => h) (by assumption) (by rfl) ?_ ?_
      rotate_left
      · (intro W hW; go_simp; try with_reducible rfl)
      simp only [Act.put, List.setIfInBounds_toArray, List.set_cons_zero, List.set_cons_succ]
      refine held_take 4 (v := ?_) rfl (by kernel_rfl) (by kernel_rfl) (by kernel_rfl) (fun _ _ _ h => h) (by assumption) (by rfl) ?_ ?_
      rotate_left
      · (intro W hW; have hw1 := hW.1; have hw2 := hW.2.1; have hw3 := hW.2.2; go_simp; try with_reducible rfl)
      simp only [Act.put, List.setIfInBounds_toArray, List.set_cons_zero, List.set_cons_succ]
      refine held_take 5 (v := ?_) rfl (by kernel_rfl) (by kernel_rfl) (by kernel_rfl) (fun _ _ _ h => h) (by assumption) (by rfl) ?_ ?_
      rotate_left
      · (intro W hW; go_simp; try with_reducible rfl)
      simp only [Act.put, List.setIfInBounds_toArray, List.set_cons_zero, List.set_cons_succ]
      refine held_take 6 (v := ?_) rfl (by kernel_rfl) (by kernel_rfl) (by kernel_rfl) (fun _ _ _ h => h) (by assumption) (by rfl) ?_ ?_
      rotate_left
      · (intro W hW; go_simp; try with_reducible rfl)
      simp only [Act.put, List.setIfInBounds_toArray, List.set_cons_zero, List.set_cons_succ]
      refine held_take 7 (v := ?_) rfl (by kernel_rfl) (by kernel_rfl) (by kernel_rfl) (fun _ _ _ h => h) (by assumption) (by rfl) ?_ ?_
      rotate_left
      · (intro W hW; go_simp; try with_reducible rfl)
      simp only [Act.put, List.setIfInBounds_toArray, List.set_cons_zero, List.set_cons_succ]
      refine held_take 8 (v := ?_) rfl (by kernel_rfl) (by kernel_rfl) (by kernel_rfl) (fun _ _ _ h => h) (by assumption) (by rfl) ?_ ?_
      rotate_left
      · (intro W hW; have hw1 := hW.1; have hw2 := hW.2.1; have hw3 := hW.2.2; go_simp; try with_reducible rfl)
      simp only [Act.put, List.setIfInBounds_toArray, List.set_cons_zero, List.set_cons_succ]
      refine held_take 9 (v := ?_) rfl (by kernel_rfl) (by kernel_rfl) (by kernel_rfl) (fun _ _ _ h => h) (by assumption) (by rfl) ?_ ?_
      rotate_left
      · (intro W hW; go_simp; try with_reducible rfl)
      simp only [Act.put, List.setIfInBounds_toArray, List.set_cons_zero, List.set_cons_succ]
      refine held_take 10 (v := ?_) rfl (by kernel_rfl) (by kernel_rfl) (by kernel_rfl) (fun _ _ _ h => h) (by assumption) (by rfl) ?_ ?_
      rotate_left
      · (intro W hW; go_simp; try with_reducible rfl)
      simp only [Act.put, List.setIfInBounds_toArray, List.set_cons_zero, List.set_cons_succ]
      refine held_take 11 (v := ?_) rfl (by kernel_rfl) (by kernel_rfl) (by kernel_rfl) (fun _ _ _ h => h) (by assumption) (by rfl) ?_ ?_
      rotate_left
      · (intro W hW; go_simp; try with_reducible rfl)
      simp only [Act.put, List.setIfInBounds_toArray, List.set_cons_zero, List.set_cons_succ]
      refine held_take 12 (v := ?_) rfl (by kernel_rfl) (by kernel_rfl) (by kernel_rfl) (fun _ _ _ h => h) (by assumption) (by rfl) ?_ ?_
      rotate_left
      · (intro W hW; go_simp; try with_reducible rfl)
      simp only [Act.put, List.setIfInBounds_toArray, List.set_cons_zero, List.set_cons_succ]
      refine held_take 13 (v := ?_) rfl (by kernel_rfl) (by kernel_rfl) (by kernel_rfl) (fun _ _ _ h => h) (by assumption) (by rfl) ?_ ?_
      rotate_left
      · (intro W hW; have hw1 := hW.1; have hw2 := hW.2.1; have hw3 := hW.2.2; go_simp; try with_reducible rfl)
      simp only [Act.put, List.setIfInBounds_toArray, List.set_cons_zero, List.set_cons_succ]
      refine held_take 14 (v := ?_) rfl (by kernel_rfl) (by kernel_rfl) (by kernel_rfl) (fun _ _ _ h => h) (by assumption) (by rfl) ?_ ?_
      rotate_left
      · (intro W hW; go_simp; try with_reducible rfl)
      simp only [Act.put, List.setIfInBounds_toArray, List.set_cons_zero, List.set_cons_succ]
      have hbe := hbd.alloc hbd.size (.cells #[.int .u8 (R.toNat : Int)] 5)
      have hS2 := Hcells.out _ hbe
      refine held_makes 15 (v := .slice (some ⟨wr.drew.heap.size, 0, none⟩) 1 1) (w' := wr.drew.alloc (.cells #[.int .u8 (R.toNat : Int)] 5)) rfl (by kernel_rfl) (by rfl) (by go_simp) hS2 ?_
      simp only [Act.put, List.setIfInBounds_toArray, List.set_cons_zero, List.set_cons_succ]
      obtain ⟨v', w', hrun, r1, r2, _⟩ := run_append_own (P := Try.prog) (wr.drew.alloc (.cells #[.int .u8 (R.toNat : Int)] 5)) w.heap.size 23 23 5 i0 (.int .u8 0) 1 1 Try.underlying23 hi hz0 hz1 hz2 rfl (by decide) _ _ _ (Hown.out.drew.alloc _) ⟨wr.drew.heap.size, 0, none⟩ 1 1 [.int .u8 (R.toNat : Int)] rfl (cell_one_new _ _ _) (fun u hu => by simp at hu; subst hu; rfl) (by unfold maxLen; omega) (by omega) (by simp; omega)
      rw [show wr.drew.heap.size = wr.heap.size from rfl] at hrun
      have hbf : Below w.heap.size w w' := Below.grown hbe r2 hbe.size (fun j hj => (Hown.out.lt j hj).1)
      have hS3 := Hcells.out _ hbf
      refine held_makes 16 (v := v') (w' := w') rfl (by kernel_rfl) (by rfl) (by simp [execOp, resolve, invoke, builtin, Act.eval, hrun, Result.andThen]) hS3 ?_
      simp only [Act.put, List.setIfInBounds_toArray, List.set_cons_zero, List.set_cons_succ]
      refine held_take 17 (v := ?_) rfl (by kernel_rfl) (by kernel_rfl) (by kernel_rfl) (fun _ _ _ h => h) (by assumption) (by rfl) ?_ ?_
      rotate_left
      · (intro W hW; go_simp; try with_reducible rfl)
      simp only [Act.put, List.setIfInBounds_toArray, List.set_cons_zero, List.set_cons_succ]
      refine held_done (by kernel_rfl) ?_
      have R1 := Lib.hid r1
      clear hrun r1 r2
      go_wp2
      go_roundw
      case rel => exact ⟨k + 1, by omega, by go_num, by rw [Hsn.out, Lib.byteCells_append]; exact R1.out, hbf⟩
      case measure => simp [intOf]; omega
    · have hkl : k = n := by omega
      rw [hkl] at hown
      clear hlt
      rw [hkl]
      obtain ⟨a5, c5, rfl, r5⟩ := rowAt_own ED.out hown
      have hS : RowAt wr.drew a5 c5 (Fc.xor3 (xs.take n) (ys.take n) (zs.take n)) ∧ RowAt wr.drew a ca (xs.take n) ∧ RowAt wr.drew b cb (ys.take n) ∧ RowAt wr.drew c cc (zs.take n) := ⟨r5.drawn, ((A1.out.next hbw).head n).drawn, ((B1.out.next hbw).head n).drawn, ((C1.out.next hbw).head n).drawn⟩
      replace hbw := Below.chain hbw ((Below.refl wr.heap.size wr).drew)
      have l1 := Fc.of_lt32 (xs.take n) wide
      have l2 := Fc.of_lt32 (ys.take n) wide
      have l3 := Fc.of_lt32 (zs.take n) wide
      have hof := Hof.out
      have c0 : ∀ W : World, RowAt W a5 c5 (Fc.xor3 (xs.take n) (ys.take n) (zs.take n)) → _ := fun W h => of_any a5 n c5 _ wide W ED.out (by omega) h
      have c1 : ∀ W : World, RowAt W a ca (xs.take n) → _ := fun W h => of_any a n ca _ wide W EA.out (by omega) h
      have c2 : ∀ W : World, RowAt W b cb (ys.take n) → _ := fun W h => of_any b n cb _ wide W EB.out (by omega) h
      have c3 : ∀ W : World, RowAt W c cc (zs.take n) → _ := fun W h => of_any c n cc _ wide W EC.out (by omega) h
      clear EA EB EC ED Hof hown r5
      generalize Fc.of (Fc.xor3 (xs.take n) (ys.take n) (zs.take n)) wide = o0 at c0 hof
      generalize Fc.of (xs.take n) wide = o1 at c1 hof l1
      generalize Fc.of (ys.take n) wide = o2 at c2 hof l2
      generalize Fc.of (zs.take n) wide = o3 at c3 hof l3
      generalize Fc.xor3 (xs.take n) (ys.take n) (zs.take n) = D at c0 hS
      generalize xs.take n = X at c1 hS
      generalize ys.take n = Y at c2 hS
      generalize zs.take n = Z at c3 hS
      have x1 := Fc.xor32 o1 o2 l1 l2
      have l12 := Fc.xor_lt o1 o2 l1 l2
      generalize o1 ^^^ o2 = o12 at x1 l12 hof
      have x2 := Fc.xor32 o12 o3 l12 l3
      rw [← hof] at x2
      have D0 := Lib.hid c0
      have D1 := Lib.hid c1
      have D2 := Lib.hid c2
      have D3 := Lib.hid c3
      clear c0 c1 c2 c3 hof
      go_wp2_with fail
      refine held_start (S := fun W => RowAt W a5 c5 D ∧ RowAt W a ca X ∧ RowAt W b cb Y ∧ RowAt W c cc Z) 22 (by kernel_rfl) rfl ?_
      refine held_take 0 (v := ?_) rfl (by kernel_rfl) (by kernel_rfl) (by kernel_rfl) (fun _ _ _ h => h) (by assumption) (by rfl) ?_ ?_
      rotate_left
      · (intro W hW; go_simp; try with_reducible rfl)
      simp only [Act.put, List.setIfInBounds_toArray, List.set_cons_zero, List.set_cons_succ]
      refine held_take 1 (v := ?_) rfl (by kernel_rfl) (by kernel_rfl) (by kernel_rfl) (fun _ _ _ h => h) (by assumption) (by rfl) ?_ ?_
      rotate_left
      · (intro W hW; go_simp; try with_reducible rfl)
      simp only [Act.put, List.setIfInBounds_toArray, List.set_cons_zero, List.set_cons_succ]
      refine held_take 3 (v := ?_) rfl (by kernel_rfl) (by kernel_rfl) (by kernel_rfl) (fun _ _ _ h => h) (by assumption) (by rfl) ?_ ?_
      rotate_left
      · (intro W hW; go_simp; try with_reducible rfl)
      simp only [Act.put, List.setIfInBounds_toArray, List.set_cons_zero, List.set_cons_succ]
      refine held_take 4 (v := ?_) rfl (by kernel_rfl) (by kernel_rfl) (by kernel_rfl) (fun _ _ _ h => h) (by assumption) (by rfl) ?_ ?_
      rotate_left
      · (intro W hW; go_simp; try with_reducible rfl)
      simp only [Act.put, List.setIfInBounds_toArray, List.set_cons_zero, List.set_cons_succ]
      refine held_take 5 (v := ?_) rfl (by kernel_rfl) (by kernel_rfl) (by kernel_rfl) (fun _ _ _ h => h) (by assumption) (by rfl) ?_ ?_
      rotate_left
      · (intro W hW; go_simp; try with_reducible rfl)
      simp only [Act.put, List.setIfInBounds_toArray, List.set_cons_zero, List.set_cons_succ]
      refine held_take 6 (v := ?_) rfl (by kernel_rfl) (by kernel_rfl) (by kernel_rfl) (fun _ _ _ h => h) (by assumption) (by rfl) ?_ ?_
      rotate_left
      · (intro W hW; go_simp; try with_reducible rfl)
      simp only [Act.put, List.setIfInBounds_toArray, List.set_cons_zero, List.set_cons_succ]
      refine held_take 8 (v := ?_) rfl (by kernel_rfl) (by kernel_rfl) (by kernel_rfl) (fun _ _ _ h => h) (by assumption) (by rfl) ?_ ?_
      rotate_left
      · (intro W hW; go_simp; try with_reducible rfl)
      simp only [Act.put, List.setIfInBounds_toArray, List.set_cons_zero, List.set_cons_succ]
      refine held_take 9 (v := ?_) rfl (by kernel_rfl) (by kernel_rfl) (by kernel_rfl) (fun _ _ _ h => h) (by assumption) (by rfl) ?_ ?_
      rotate_left
      · (intro W hW; go_simp; try with_reducible rfl)
      simp only [Act.put, List.setIfInBounds_toArray, List.set_cons_zero, List.set_cons_succ]
      refine held_take 10 (v := ?_) rfl (by kernel_rfl) (by kernel_rfl) (by kernel_rfl) (fun _ _ _ h => h) (by assumption) (by rfl) ?_ ?_
      rotate_left
      · (intro W hW; go_simp; try with_reducible rfl)
      simp only [Act.put, List.setIfInBounds_toArray, List.set_cons_zero, List.set_cons_succ]
      refine held_take 11 (v := ?_) rfl (by kernel_rfl) (by kernel_rfl) (by kernel_rfl) (fun _ _ _ h => h) (by assumption) (by rfl) ?_ ?_
      rotate_left
      · (intro W hW; go_simp; try with_reducible rfl)
      simp only [Act.put, List.setIfInBounds_toArray, List.set_cons_zero, List.set_cons_succ]
      refine held_take 14 (v := ?_) rfl (by kernel_rfl) (by kernel_rfl) (by kernel_rfl) (fun _ _ _ h => h) (by assumption) (by rfl) ?_ ?_
      rotate_left
      · (intro W hW; go_simp; try with_reducible rfl)
      simp only [Act.put, List.setIfInBounds_toArray, List.set_cons_zero, List.set_cons_succ]
      refine held_take 15 (v := ?_) rfl (by kernel_rfl) (by kernel_rfl) (by kernel_rfl) (fun _ _ _ h => h) (by assumption) (by rfl) ?_ ?_
      rotate_left
      · (intro W hW; go_simp; try with_reducible rfl)
      simp only [Act.put, List.setIfInBounds_toArray, List.set_cons_zero, List.set_cons_succ]
      refine held_take 16 (v := ?_) rfl (by kernel_rfl) (by kernel_rfl) (by kernel_rfl) (fun _ _ _ h => h) (by assumption) (by rfl) ?_ ?_
      rotate_left
      · (intro W hW; go_simp; try with_reducible rfl)
      simp only [Act.put, List.setIfInBounds_toArray, List.set_cons_zero, List.set_cons_succ]
      refine held_take 17 (v := ?_) rfl (by kernel_rfl) (by kernel_rfl) (by kernel_rfl) (fun _ _ _ h => h) (by assumption) (by rfl) ?_ ?_
      rotate_left
      · (intro W hW; go_simp; try with_reducible rfl)
      simp only [Act.put, List.setIfInBounds_toArray, List.set_cons_zero, List.set_cons_succ]
      refine held_call 2 (f := 12) (args := #[.slice a5 n c5, .bool wide]) rfl (by kernel_rfl) (by rfl) (by go_simp) ?_
      refine (D0.out _ hS.1).mono ?_
      rintro e w2 ⟨rfl, bb⟩
      replace hS : RowAt w2 a5 c5 D ∧ RowAt w2 a ca X ∧ RowAt w2 b cb Y ∧ RowAt w2 c cc Z := ⟨hS.1.next bb, hS.2.1.next bb, hS.2.2.1.next bb, hS.2.2.2.next bb⟩
      replace hbw := Below.chain hbw bb
      clear bb
      refine ⟨_, rfl, hS, ?_⟩
      simp only [Act.put, List.setIfInBounds_toArray, List.set_cons_zero, List.set_cons_succ]
      refine held_call 7 (f := 12) (args := #[.slice a n ca, .bool wide]) rfl (by kernel_rfl) (by rfl) (by go_simp) ?_
      refine (D1.out _ hS.2.1).mono ?_
      rintro e w3 ⟨rfl, bb⟩
      replace hS : RowAt w3 a5 c5 D ∧ RowAt w3 a ca X ∧ RowAt w3 b cb Y ∧ RowAt w3 c cc Z := ⟨hS.1.next bb, hS.2.1.next bb, hS.2.2.1.next bb, hS.2.2.2.next bb⟩
      replace hbw := Below.chain hbw bb
      clear bb
      refine ⟨_, rfl, hS, ?_⟩
      simp only [Act.put, List.setIfInBounds_toArray, List.set_cons_zero, List.set_cons_succ]
      refine held_call 12 (f := 12) (args := #[.slice b n cb, .bool wide]) rfl (by kernel_rfl) (by rfl) (by go_simp) ?_
      refine (D2.out _ hS.2.2.1).mono ?_
      rintro e w4 ⟨rfl, bb⟩
      replace hS : RowAt w4 a5 c5 D ∧ RowAt w4 a ca X ∧ RowAt w4 b cb Y ∧ RowAt w4 c cc Z := ⟨hS.1.next bb, hS.2.1.next bb, hS.2.2.1.next bb, hS.2.2.2.next bb⟩
      replace hbw := Below.chain hbw bb
      clear bb
      refine ⟨_, rfl, hS, ?_⟩
      simp only [Act.put, List.setIfInBounds_toArray, List.set_cons_zero, List.set_cons_succ]
      refine held_take 13 (v := ?_) rfl (by kernel_rfl) (by kernel_rfl) (by kernel_rfl) (fun _ _ _ h => h) (by assumption) (by rfl) ?_ ?_
      rotate_left
      · (intro W hW; go_simp; try with_reducible rfl)
      simp only [Act.put, List.setIfInBounds_toArray, List.set_cons_zero, List.set_cons_succ]
      refine held_call 18 (f := 12) (args := #[.slice c n cc, .bool wide]) rfl (by kernel_rfl) (by rfl) (by go_simp) ?_
      refine (D3.out _ hS.2.2.2).mono ?_
      rintro e w5 ⟨rfl, bb⟩
      replace hS : RowAt w5 a5 c5 D ∧ RowAt w5 a ca X ∧ RowAt w5 b cb Y ∧ RowAt w5 c cc Z := ⟨hS.1.next bb, hS.2.1.next bb, hS.2.2.1.next bb, hS.2.2.2.next bb⟩
      replace hbw := Below.chain hbw bb
      clear bb
      refine ⟨_, rfl, hS, ?_⟩
      simp only [Act.put, List.setIfInBounds_toArray, List.set_cons_zero, List.set_cons_succ]
      refine held_take 19 (v := ?_) rfl (by kernel_rfl) (by kernel_rfl) (by kernel_rfl) (fun _ _ _ h => h) (by assumption) (by rfl) ?_ ?_
      rotate_left
      · (intro W hW; go_simp; try with_reducible rfl)
      simp only [Act.put, List.setIfInBounds_toArray, List.set_cons_zero, List.set_cons_succ]
      refine held_take 20 (v := ?_) rfl (by kernel_rfl) (by kernel_rfl) (by kernel_rfl) (fun _ _ _ h => h) (by assumption) (by rfl) ?_ ?_
      rotate_left
      · (intro W hW; go_simp; try with_reducible rfl)
      simp only [Act.put, List.setIfInBounds_toArray, List.set_cons_zero, List.set_cons_succ]
      refine held_take 21 (v := ?_) rfl (by kernel_rfl) (by kernel_rfl) (by kernel_rfl) (fun _ _ _ h => h) (by assumption) (by rfl) ?_ ?_
      rotate_left
      · (intro W hW; go_simp; try with_reducible rfl)
      simp only [Act.put, List.setIfInBounds_toArray, List.set_cons_zero, List.set_cons_succ]
      refine held_done (by kernel_rfl) ?_
      go_wp2
      go_ret
      exact ⟨rfl, hbw⟩
set_option maxRecDepth 100000 in
set_option maxHeartbeats 4000000 in
theorem bits_c (a b c : Option Addr) (ca cb cc n la lb : Nat) (xs ys zs : List UInt8) (wide : Bool) (w : World) (ha : RowAt w a ca xs) (hb : RowAt w b cb ys) (hc : RowAt w c cc zs) (la1 : xs.length = la) (lb1 : ys.length = lb) (lc1 : zs.length = n) (na : n ≤ la) (nb : n ≤ lb) (nc : n ≤ n) (h1 : (lb : Int) < (la : Int)) (h2 : (n : Int) < (lb : Int)) (hg : ¬ (2000 : Int) < (n : Int)) :
    Calls Try.prog 7 #[.slice a la ca, .slice b lb cb, .slice c n cc, .bool wide] w fun e w' => e = .returned (.bool true) ∧ Below w.heap.size w w' := by
  have hkeep := And.intro na (And.intro nb (And.intro nc (And.intro h1 h2)))
  clear hkeep
  obtain ⟨i0, hi, hz0, hz1, hz2⟩ := info_parts info5
  have la2 := ha.le
  have lb2 := hb.le
  have lc2 := hc.le
  rw [la1] at la2
  rw [lb1] at lb2
  rw [lc1] at lc2
  have ja : (n : Int) ≤ (ca : Int) := by omega
  have jb : (n : Int) ≤ (cb : Int) := by omega
  have jc : (n : Int) ≤ (cc : Int) := by omega
  have ka : n ≤ ca := by omega
  have kb : n ≤ cb := by omega
  have kc : n ≤ cc := by omega
  have ea : (xs.take n).length = n := by rw [List.length_take]; omega
  have eb : (ys.take n).length = n := by rw [List.length_take]; omega
  have ec : (zs.take n).length = n := by rw [List.length_take]; omega
  have hof := Fc.of_xor3 (xs.take n) (ys.take n) (zs.take n) wide (by omega) (by omega)
  have eD := Fc.xor3_length (xs.take n) (ys.take n) (zs.take n) (by omega) (by omega)
  rw [ea] at eD
  have A1 := Lib.hid ha
  have B1 := Lib.hid hb
  have C1 := Lib.hid hc
  have EA := Lib.hid ea
  have EB := Lib.hid eb
  have EC := Lib.hid ec
  have ED := Lib.hid eD
  have Hof := Lib.hid hof
  have La1 := Lib.hid la1
  have Lb1 := Lib.hid lb1
  have Lc1 := Lib.hid lc1
  clear ha hb hc ea eb ec eD hof la1 lb1 lc1
  go_enter Try.func7, Try.ntmps7
  go_wp2_with fail
  refine (awake_any _).mono ?_
  rintro e w1 ⟨rfl, b1⟩
  go_wp2_with fail
  go_loopw [10, 11] (fun v i wr => ∃ k : Nat, k ≤ n ∧ i = .int .i64 (k : Int) ∧ wr.ownsRow w.heap.size 5 1 v k (Lib.byteCells (Fc.xor3 (xs.take k) (ys.take k) (zs.take k))) ∧ Below w.heap.size w wr) (fun _ i _ => n - (intOf i).toNat)
  case atStart => exact ⟨0, Nat.zero_le _, rfl, World.ownsRow_nil _ _ _ _, b1⟩
  case round =>
    obtain ⟨k, hk, rfl, hown, hbw⟩ := hrel
    clear b1
    by_cases hlt : (k : Int) < (n : Int)
    · have hka : k < xs.length := by rw [La1.out]; omega
      have hkb : k < ys.length := by rw [Lb1.out]; omega
      have hkc : k < zs.length := by rw [Lc1.out]; omega
      have hsn : Fc.xor3 (xs.take (k + 1)) (ys.take (k + 1)) (zs.take (k + 1)) = Fc.xor3 (xs.take k) (ys.take k) (zs.take k) ++ [xs[k] ^^^ ys[k] ^^^ zs[k]] := by
        rw [List.take_succ_eq_append_getElem hka, List.take_succ_eq_append_getElem hkb, List.take_succ_eq_append_getElem hkc]
        exact Fc.xor3_snoc _ _ _ (by rw [List.length_take, List.length_take]; omega) (by rw [List.length_take, List.length_take]; omega) _ _ _
      have hrr : (xs[k] ^^^ ys[k] ^^^ zs[k]).toNat = xs[k].toNat ^^^ ys[k].toNat ^^^ zs[k].toNat := by rw [UInt8.toNat_xor, UInt8.toNat_xor]
      obtain ⟨ba, oa, rfl, qa, fa⟩ : ∃ b off, a = some ⟨b, off, none⟩ ∧ b < w.heap.size ∧ ∀ j (h : j < xs.length), w.cell? ⟨b, off + j, none⟩ = some (.int .u8 (xs[j].toNat : Int)) := by
        rcases A1.out.bytes with h | h
        · rw [h] at hka; simp at hka
        · exact h
      obtain ⟨bb, ob, rfl, qb, fb⟩ : ∃ g off, b = some ⟨g, off, none⟩ ∧ g < w.heap.size ∧ ∀ j (h : j < ys.length), w.cell? ⟨g, off + j, none⟩ = some (.int .u8 (ys[j].toNat : Int)) := by
        rcases B1.out.bytes with h | h
        · rw [h] at hkb; simp at hkb
        · exact h
      obtain ⟨bc, oc, rfl, qc, fc⟩ : ∃ g off, c = some ⟨g, off, none⟩ ∧ g < w.heap.size ∧ ∀ j (h : j < zs.length), w.cell? ⟨g, off + j, none⟩ = some (.int .u8 (zs[j].toNat : Int)) := by
        rcases C1.out.bytes with h | h
        · rw [h] at hkc; simp at hkc
        · exact h
      have ga := fa k hka
      have gb := fb k hkb
      have gc := fc k hkc
      have xa := xs[k].toNat_lt
      have xb := ys[k].toNat_lt
      have xc := zs[k].toNat_lt
      clear fa fb fc
      generalize xs[k] ^^^ ys[k] ^^^ zs[k] = R at hsn hrr
      generalize xs[k].toNat = x at ga xa hrr
      generalize ys[k].toNat = y at gb xb hrr
      generalize zs[k].toNat = z at gc xc hrr
      have x1 := Fc.xor8 x y xa xb
      have p1 : x ^^^ y < 256 := Nat.xor_lt_two_pow (n := 8) xa xb
      generalize x ^^^ y = p at x1 p1 hrr
      have x2 := Fc.xor8 p z p1 xc
      rw [← hrr] at x2
      generalize Fc.xor3 (xs.take k) (ys.take k) (zs.take k) = D at hown hsn
      have hcells : ∀ W : World, Below w.heap.size w W → W.cell? ⟨ba, oa + k, none⟩ = some (.int .u8 (x : Int)) ∧ W.cell? ⟨bb, ob + k, none⟩ = some (.int .u8 (y : Int)) ∧ W.cell? ⟨bc, oc + k, none⟩ = some (.int .u8 (z : Int)) := fun W hW => ⟨by rw [hW.cell (p := ⟨ba, oa + k, none⟩) qa]; exact ga, by rw [hW.cell (p := ⟨bb, ob + k, none⟩) qb]; exact gb, by rw [hW.cell (p := ⟨bc, oc + k, none⟩) qc]; exact gc⟩
      have Hcells := Lib.hid hcells
      have Hsn := Lib.hid hsn
      have ia : (k : Int) < (la : Int) := by omega
      have ib : (k : Int) < (lb : Int) := by omega
      have ic : (k : Int) < (n : Int) := by omega
      have hbd := Below.chain hbw ((Below.refl wr.heap.size wr).drew)
      have hS := Hcells.out _ hbd
      have Hown := Lib.hid hown
      have hsz := hbw.size
      clear hcells hsn hrr ga gb gc hka hkb hkc hown
      go_wp2_with fail
      refine held_start (S := fun W => W.cell? ⟨ba, oa + k, none⟩ = some (.int .u8 (x : Int)) ∧ W.cell? ⟨bb, ob + k, none⟩ = some (.int .u8 (y : Int)) ∧ W.cell? ⟨bc, oc + k, none⟩ = some (.int .u8 (z : Int))) 18 (by kernel_rfl) rfl ?_
      refine held_take 0 (v := ?_) rfl (by kernel_rfl) (by kernel_rfl) (by kernel_rfl) (fun _ _ _ h => h) (by assumption) (by rfl) ?_ ?_
      rotate_left
      · (intro W hW; go_simp; try with_reducible rfl)
      simp only [Act.put, List.setIfInBounds_toArray, List.set_cons_zero, List.set_cons_succ]
      refine held_take 1 (v := ?_) rfl (by kernel_rfl) (by kernel_rfl) (by kernel_rfl) (fun _ _ _ h => h) (by assumption) (by rfl) ?_ ?_
      rotate_left
      · (intro W hW; go_simp; try with_reducible rfl)
      simp only [Act.put, List.setIfInBounds_toArray, List.set_cons_zero, List.set_cons_succ]
      refine held_take 2 (v := ?_) rfl (by kernel_rfl) (by kernel_rfl) (by kernel_rfl) (fun _ _ _ h => h) (by assumption) (by rfl) ?_ ?_
      rotate_left
      · (intro W hW; go_simp; try with_reducible rfl)
      simp only [Act.put, List.setIfInBounds_toArray, List.set_cons_zero, List.set_cons_succ]
      refine held_take 3 (v := ?_) rfl (by kernel_rfl) (by kernel_rfl) (by kernel_rfl) (fun _ _ _ h => h) (by assumption) (by rfl) ?_ ?_
      rotate_left
      · (intro W hW; go_simp; try with_reducible rfl)
      simp only [Act.put, List.setIfInBounds_toArray, List.set_cons_zero, List.set_cons_succ]
      refine held_take 4 (v := ?_) rfl (by kernel_rfl) (by kernel_rfl) (by kernel_rfl) (fun _ _ _ h => h) (by assumption) (by rfl) ?_ ?_
      rotate_left
      · (intro W hW; have hw1 := hW.1; have hw2 := hW.2.1; have hw3 := hW.2.2; go_simp; try with_reducible rfl)
      simp only [Act.put, List.setIfInBounds_toArray, List.set_cons_zero, List.set_cons_succ]
      refine held_take 5 (v := ?_) rfl (by kernel_rfl) (by kernel_rfl) (by kernel_rfl) (fun _ _ _ h => h) (by assumption) (by rfl) ?_ ?_
      rotate_left
      · (intro W hW; go_simp; try with_reducible rfl)
      simp only [Act.put, List.setIfInBounds_toArray, List.set_cons_zero, List.set_cons_succ]
      refine held_take 6 (v := ?_) rfl (by kernel_rfl) (by kernel_rfl) (by kernel_rfl) (fun _ _ _ h => h) (by assumption) (by rfl) ?_ ?_
      rotate_left
      · (intro W hW; go_simp; try with_reducible rfl)
      simp only [Act.put, List.setIfInBounds_toArray, List.set_cons_zero, List.set_cons_succ]
      refine held_take 7 (v := ?_) rfl (by kernel_rfl) (by kernel_rfl) (by kernel_rfl) (fun _ _ _ h => h) (by assumption) (by rfl) ?_ ?_
      rotate_left
      · (intro W hW; go_simp; try with_reducible rfl)
      simp only [Act.put, List.setIfInBounds_toArray, List.set_cons_zero, List.set_cons_succ]
      refine held_take 8 (v := ?_) rfl (by kernel_rfl) (by kernel_rfl) (by kernel_rfl) (fun _ _ _ h => h) (by assumption) (by rfl) ?_ ?_
      rotate_left
      · (intro W hW; have hw1 := hW.1; have hw2 := hW.2.1; have hw3 := hW.2.2; go_simp; try with_reducible rfl)
      simp only [Act.put, List.setIfInBounds_toArray, List.set_cons_zero, List.set_cons_succ]
      refine held_take 9 (v := ?_) rfl (by kernel_rfl) (by kernel_rfl) (by kernel_rfl) (fun _ _ _ h => h) (by assumption) (by rfl) ?_ ?_
      rotate_left
      · (intro W hW; go_simp; try with_reducible rfl)
      simp only [Act.put, List.setIfInBounds_toArray, List.set_cons_zero, List.set_cons_succ]
      refine held_take 10 (v := ?_) rfl (by kernel_rfl) (by kernel_rfl) (by kernel_rfl) (fun _ _ _ h => h) (by assumption) (by rfl) ?_ ?_
      rotate_left
      · (intro W hW; go_simp; try with_reducible rfl)
      simp only [Act.put, List.setIfInBounds_toArray, List.set_cons_zero, List.set_cons_succ]
      refine held_take 11 (v := ?_) rfl (by kernel_rfl) (by kernel_rfl) (by kernel_rfl) (fun _ _ _ h => h) (by assumption) (by rfl) ?_ ?_
      rotate_left
      · (intro W hW; go_simp; try with_reducible rfl)
      simp only [Act.put, List.setIfInBounds_toArray, List.set_cons_zero, List.set_cons_succ]
      refine held_take 12 (v := ?_) rfl (by kernel_rfl) (by kernel_rfl) (by kernel_rfl) (fun _ _ _ h => h) (by assumption) (by rfl) ?_ ?_
      rotate_left
      · (intro W hW; go_simp; try with_reducible rfl)
      simp only [Act.put, List.setIfInBounds_toArray, List.set_cons_zero, List.set_cons_succ]
      refine held_take 13 (v := ?_) rfl (by kernel_rfl) (by kernel_rfl) (by kernel_rfl) (fun _ _ _ h => h) (by assumption) (by rfl) ?_ ?_
      rotate_left
      · (intro W hW; have hw1 := hW.1; have hw2 := hW.2.1; have hw3 := hW.2.2; go_simp; try with_reducible rfl)
      simp only [Act.put, List.setIfInBounds_toArray, List.set_cons_zero, List.set_cons_succ]
      refine held_take 14 (v := ?_) rfl (by kernel_rfl) (by kernel_rfl) (by kernel_rfl) (fun _ _ _ h => h) (by assumption) (by rfl) ?_ ?_
      rotate_left
      · (intro W hW; go_simp; try with_reducible rfl)
      simp only [Act.put, List.setIfInBounds_toArray, List.set_cons_zero, List.set_cons_succ]
      have hbe := hbd.alloc hbd.size (.cells #[.int .u8 (R.toNat : Int)] 5)
      have hS2 := Hcells.out _ hbe
      refine held_makes 15 (v := .slice (some ⟨wr.drew.heap.size, 0, none⟩) 1 1) (w' := wr.drew.alloc (.cells #[.int .u8 (R.toNat : Int)] 5)) rfl (by kernel_rfl) (by rfl) (by go_simp) hS2 ?_
      simp only [Act.put, List.setIfInBounds_toArray, List.set_cons_zero, List.set_cons_succ]
      obtain ⟨v', w', hrun, r1, r2, _⟩ := run_append_own (P := Try.prog) (wr.drew.alloc (.cells #[.int .u8 (R.toNat : Int)] 5)) w.heap.size 23 23 5 i0 (.int .u8 0) 1 1 Try.underlying23 hi hz0 hz1 hz2 rfl (by decide) _ _ _ (Hown.out.drew.alloc _) ⟨wr.drew.heap.size, 0, none⟩ 1 1 [.int .u8 (R.toNat : Int)] rfl (cell_one_new _ _ _) (fun u hu => by simp at hu; subst hu; rfl) (by unfold maxLen; omega) (by omega) (by simp; omega)
      rw [show wr.drew.heap.size = wr.heap.size from rfl] at hrun
      have hbf : Below w.heap.size w w' := Below.grown hbe r2 hbe.size (fun j hj => (Hown.out.lt j hj).1)
      have hS3 := Hcells.out _ hbf
      refine held_makes 16 (v := v') (w' := w') rfl (by kernel_rfl) (by rfl) (by simp [execOp, resolve, invoke, builtin, Act.eval, hrun, Result.andThen]) hS3 ?_
      simp only [Act.put, List.setIfInBounds_toArray, List.set_cons_zero, List.set_cons_succ]
      refine held_take 17 (v := ?_) rfl (by kernel_rfl) (by kernel_rfl) (by kernel_rfl) (fun _ _ _ h => h) (by assumption) (by rfl) ?_ ?_
      rotate_left
      · (intro W hW; go_simp; try with_reducible rfl)
      simp only [Act.put, List.setIfInBounds_toArray, List.set_cons_zero, List.set_cons_succ]
      refine held_done (by kernel_rfl) ?_
      have R1 := Lib.hid r1
      clear hrun r1 r2
      go_wp2
      go_roundw
      case rel => exact ⟨k + 1, by omega, by go_num, by rw [Hsn.out, Lib.byteCells_append]; exact R1.out, hbf⟩
      case measure => simp [intOf]; omega
    · have hkl : k = n := by omega
      rw [hkl] at hown
      clear hlt
      rw [hkl]
      obtain ⟨a5, c5, rfl, r5⟩ := rowAt_own ED.out hown
      have hS : RowAt wr.drew a5 c5 (Fc.xor3 (xs.take n) (ys.take n) (zs.take n)) ∧ RowAt wr.drew a ca (xs.take n) ∧ RowAt wr.drew b cb (ys.take n) ∧ RowAt wr.drew c cc (zs.take n) := ⟨r5.drawn, ((A1.out.next hbw).head n).drawn, ((B1.out.next hbw).head n).drawn, ((C1.out.next hbw).head n).drawn⟩
      replace hbw := Below.chain hbw ((Below.refl wr.heap.size wr).drew)
      have l1 := Fc.of_lt32 (xs.take n) wide
      have l2 := Fc.of_lt32 (ys.take n) wide
      have l3 := Fc.of_lt32 (zs.take n) wide
      have hof := Hof.out
      have c0 : ∀ W : World, RowAt W a5 c5 (Fc.xor3 (xs.take n) (ys.take n) (zs.take n)) → _ := fun W h => of_any a5 n c5 _ wide W ED.out (by omega) h
      have c1 : ∀ W : World, RowAt W a ca (xs.take n) → _ := fun W h => of_any a n ca _ wide W EA.out (by omega) h
      have c2 : ∀ W : World, RowAt W b cb (ys.take n) → _ := fun W h => of_any b n cb _ wide W EB.out (by omega) h
      have c3 : ∀ W : World, RowAt W c cc (zs.take n) → _ := fun W h => of_any c n cc _ wide W EC.out (by omega) h
      clear EA EB EC ED Hof hown r5
      generalize Fc.of (Fc.xor3 (xs.take n) (ys.take n) (zs.take n)) wide = o0 at c0 hof
      generalize Fc.of (xs.take n) wide = o1 at c1 hof l1
      generalize Fc.of (ys.take n) wide = o2 at c2 hof l2
      generalize Fc.of (zs.take n) wide = o3 at c3 hof l3
      generalize Fc.xor3 (xs.take n) (ys.take n) (zs.take n) = D at c0 hS
      generalize xs.take n = X at c1 hS
      generalize ys.take n = Y at c2 hS
      generalize zs.take n = Z at c3 hS
      have x1 := Fc.xor32 o1 o2 l1 l2
      have l12 := Fc.xor_lt o1 o2 l1 l2
      generalize o1 ^^^ o2 = o12 at x1 l12 hof
      have x2 := Fc.xor32 o12 o3 l12 l3
      rw [← hof] at x2
      have D0 := Lib.hid c0
      have D1 := Lib.hid c1
      have D2 := Lib.hid c2
      have D3 := Lib.hid c3
      clear c0 c1 c2 c3 hof
      go_wp2_with fail
      refine held_start (S := fun W => RowAt W a5 c5 D ∧ RowAt W a ca X ∧ RowAt W b cb Y ∧ RowAt W c cc Z) 22 (by kernel_rfl) rfl ?_
      refine held_take 0 (v := ?_) rfl (by kernel_rfl) (by kernel_rfl) (by kernel_rfl) (fun _ _ _ h => h) (by assumption) (by rfl) ?_ ?_
      rotate_left
      · (intro W hW; go_simp; try with_reducible rfl)
      simp only [Act.put, List.setIfInBounds_toArray, List.set_cons_zero, List.set_cons_succ]
      refine held_take 1 (v := ?_) rfl (by kernel_rfl) (by kernel_rfl) (by kernel_rfl) (fun _ _ _ h => h) (by assumption) (by rfl) ?_ ?_
      rotate_left
      · (intro W hW; go_simp; try with_reducible rfl)
      simp only [Act.put, List.setIfInBounds_toArray, List.set_cons_zero, List.set_cons_succ]
      refine held_take 3 (v := ?_) rfl (by kernel_rfl) (by kernel_rfl) (by kernel_rfl) (fun _ _ _ h => h) (by assumption) (by rfl) ?_ ?_
      rotate_left
      · (intro W hW; go_simp; try with_reducible rfl)
      simp only [Act.put, List.setIfInBounds_toArray, List.set_cons_zero, List.set_cons_succ]
      refine held_take 4 (v := ?_) rfl (by kernel_rfl) (by kernel_rfl) (by kernel_rfl) (fun _ _ _ h => h) (by assumption) (by rfl) ?_ ?_
      rotate_left
      · (intro W hW; go_simp; try with_reducible rfl)
      simp only [Act.put, List.setIfInBounds_toArray, List.set_cons_zero, List.set_cons_succ]
      refine held_take 5 (v := ?_) rfl (by kernel_rfl) (by kernel_rfl) (by kernel_rfl) (fun _ _ _ h => h) (by assumption) (by rfl) ?_ ?_
      rotate_left
      · (intro W hW; go_simp; try with_reducible rfl)
      simp only [Act.put, List.setIfInBounds_toArray, List.set_cons_zero, List.set_cons_succ]
      refine held_take 6 (v := ?_) rfl (by kernel_rfl) (by kernel_rfl) (by kernel_rfl) (fun _ _ _ h => h) (by assumption) (by rfl) ?_ ?_
      rotate_left
      · (intro W hW; go_simp; try with_reducible rfl)
      simp only [Act.put, List.setIfInBounds_toArray, List.set_cons_zero, List.set_cons_succ]
      refine held_take 8 (v := ?_) rfl (by kernel_rfl) (by kernel_rfl) (by kernel_rfl) (fun _ _ _ h => h) (by assumption) (by rfl) ?_ ?_
      rotate_left
      · (intro W hW; go_simp; try with_reducible rfl)
      simp only [Act.put, List.setIfInBounds_toArray, List.set_cons_zero, List.set_cons_succ]
      refine held_take 9 (v := ?_) rfl (by kernel_rfl) (by kernel_rfl) (by kernel_rfl) (fun _ _ _ h => h) (by assumption) (by rfl) ?_ ?_
      rotate_left
      · (intro W hW; go_simp; try with_reducible rfl)
      simp only [Act.put, List.setIfInBounds_toArray, List.set_cons_zero, List.set_cons_succ]
      refine held_take 10 (v := ?_) rfl (by kernel_rfl) (by kernel_rfl) (by kernel_rfl) (fun _ _ _ h => h) (by assumption) (by rfl) ?_ ?_
      rotate_left
      · (intro W hW; go_simp; try with_reducible rfl)
      simp only [Act.put, List.setIfInBounds_toArray, List.set_cons_zero, List.set_cons_succ]
      refine held_take 11 (v := ?_) rfl (by kernel_rfl) (by kernel_rfl) (by kernel_rfl) (fun _ _ _ h => h) (by assumption) (by rfl) ?_ ?_
      rotate_left
      · (intro W hW; go_simp; try with_reducible rfl)
      simp only [Act.put, List.setIfInBounds_toArray, List.set_cons_zero, List.set_cons_succ]
      refine held_take 14 (v := ?_) rfl (by kernel_rfl) (by kernel_rfl) (by kernel_rfl) (fun _ _ _ h => h) (by assumption) (by rfl) ?_ ?_
      rotate_left
      · (intro W hW; go_simp; try with_reducible rfl)
      simp only [Act.put, List.setIfInBounds_toArray, List.set_cons_zero, List.set_cons_succ]
      refine held_take 15 (v := ?_) rfl (by kernel_rfl) (by kernel_rfl) (by kernel_rfl) (fun _ _ _ h => h) (by assumption) (by rfl) ?_ ?_
      rotate_left
      · (intro W hW; go_simp; try with_reducible rfl)
      simp only [Act.put, List.setIfInBounds_toArray, List.set_cons_zero, List.set_cons_succ]
      refine held_take 16 (v := ?_) rfl (by kernel_rfl) (by kernel_rfl) (by kernel_rfl) (fun _ _ _ h => h) (by assumption) (by rfl) ?_ ?_
      rotate_left
      · (intro W hW; go_simp; try with_reducible rfl)
      simp only [Act.put, List.setIfInBounds_toArray, List.set_cons_zero, List.set_cons_succ]
      refine held_take 17 (v := ?_) rfl (by kernel_rfl) (by kernel_rfl) (by kernel_rfl) (fun _ _ _ h => h) (by assumption) (by rfl) ?_ ?_
      rotate_left
      · (intro W hW; go_simp; try with_reducible rfl)
      simp only [Act.put, List.setIfInBounds_toArray, List.set_cons_zero, List.set_cons_succ]
      refine held_call 2 (f := 12) (args := #[.slice a5 n c5, .bool wide]) rfl (by kernel_rfl) (by rfl) (by go_simp) ?_
      refine (D0.out _ hS.1).mono ?_
      rintro e w2 ⟨rfl, bb⟩
      replace hS : RowAt w2 a5 c5 D ∧ RowAt w2 a ca X ∧ RowAt w2 b cb Y ∧ RowAt w2 c cc Z := ⟨hS.1.next bb, hS.2.1.next bb, hS.2.2.1.next bb, hS.2.2.2.next bb⟩
      replace hbw := Below.chain hbw bb
      clear bb
      refine ⟨_, rfl, hS, ?_⟩
      simp only [Act.put, List.setIfInBounds_toArray, List.set_cons_zero, List.set_cons_succ]
      refine held_call 7 (f := 12) (args := #[.slice a n ca, .bool wide]) rfl (by kernel_rfl) (by rfl) (by go_simp) ?_
      refine (D1.out _ hS.2.1).mono ?_
      rintro e w3 ⟨rfl, bb⟩
      replace hS : RowAt w3 a5 c5 D ∧ RowAt w3 a ca X ∧ RowAt w3 b cb Y ∧ RowAt w3 c cc Z := ⟨hS.1.next bb, hS.2.1.next bb, hS.2.2.1.next bb, hS.2.2.2.next bb⟩
      replace hbw := Below.chain hbw bb
      clear bb
      refine ⟨_, rfl, hS, ?_⟩
      simp only [Act.put, List.setIfInBounds_toArray, List.set_cons_zero, List.set_cons_succ]
      refine held_call 12 (f := 12) (args := #[.slice b n cb, .bool wide]) rfl (by kernel_rfl) (by rfl) (by go_simp) ?_
      refine (D2.out _ hS.2.2.1).mono ?_
      rintro e w4 ⟨rfl, bb⟩
      replace hS : RowAt w4 a5 c5 D ∧ RowAt w4 a ca X ∧ RowAt w4 b cb Y ∧ RowAt w4 c cc Z := ⟨hS.1.next bb, hS.2.1.next bb, hS.2.2.1.next bb, hS.2.2.2.next bb⟩
      replace hbw := Below.chain hbw bb
      clear bb
      refine ⟨_, rfl, hS, ?_⟩
      simp only [Act.put, List.setIfInBounds_toArray, List.set_cons_zero, List.set_cons_succ]
      refine held_take 13 (v := ?_) rfl (by kernel_rfl) (by kernel_rfl) (by kernel_rfl) (fun _ _ _ h => h) (by assumption) (by rfl) ?_ ?_
      rotate_left
      · (intro W hW; go_simp; try with_reducible rfl)
      simp only [Act.put, List.setIfInBounds_toArray, List.set_cons_zero, List.set_cons_succ]
      refine held_call 18 (f := 12) (args := #[.slice c n cc, .bool wide]) rfl (by kernel_rfl) (by rfl) (by go_simp) ?_
      refine (D3.out _ hS.2.2.2).mono ?_
      rintro e w5 ⟨rfl, bb⟩
      replace hS : RowAt w5 a5 c5 D ∧ RowAt w5 a ca X ∧ RowAt w5 b cb Y ∧ RowAt w5 c cc Z := ⟨hS.1.next bb, hS.2.1.next bb, hS.2.2.1.next bb, hS.2.2.2.next bb⟩
      replace hbw := Below.chain hbw bb
      clear bb
      refine ⟨_, rfl, hS, ?_⟩
      simp only [Act.put, List.setIfInBounds_toArray, List.set_cons_zero, List.set_cons_succ]
      refine held_take 19 (v := ?_) rfl (by kernel_rfl) (by kernel_rfl) (by kernel_rfl) (fun _ _ _ h => h) (by assumption) (by rfl) ?_ ?_
      rotate_left
      · (intro W hW; go_simp; try with_reducible rfl)
      simp only [Act.put, List.setIfInBounds_toArray, List.set_cons_zero, List.set_cons_succ]
      refine held_take 20 (v := ?_) rfl (by kernel_rfl) (by kernel_rfl) (by kernel_rfl) (fun _ _ _ h => h) (by assumption) (by rfl) ?_ ?_
      rotate_left
      · (intro W hW; go_simp; try with_reducible rfl)
      simp only [Act.put, List.setIfInBounds_toArray, List.set_cons_zero, List.set_cons_succ]
      refine held_take 21 (v := ?_) rfl (by kernel_rfl) (by kernel_rfl) (by kernel_rfl) (fun _ _ _ h => h) (by assumption) (by rfl) ?_ ?_
      rotate_left
      · (intro W hW; go_simp; try with_reducible rfl)
      simp only [Act.put, List.setIfInBounds_toArray, List.set_cons_zero, List.set_cons_succ]
      refine held_done (by kernel_rfl) ?_
      go_wp2
      go_ret
      exact ⟨rfl, hbw⟩
set_option maxRecDepth 100000 in
set_option maxHeartbeats 4000000 in
theorem bits_d (a b c : Option Addr) (ca cb cc n la lb : Nat) (xs ys zs : List UInt8) (wide : Bool) (w : World) (ha : RowAt w a ca xs) (hb : RowAt w b cb ys) (hc : RowAt w c cc zs) (la1 : xs.length = la) (lb1 : ys.length = lb) (lc1 : zs.length = n) (na : n ≤ la) (nb : n ≤ lb) (nc : n ≤ n) (h1 : ¬ (lb : Int) < (la : Int)) (h2 : (n : Int) < (la : Int)) (hg : ¬ (2000 : Int) < (n : Int)) :
    Calls Try.prog 7 #[.slice a la ca, .slice b lb cb, .slice c n cc, .bool wide] w fun e w' => e = .returned (.bool true) ∧ Below w.heap.size w w' := by
  have hkeep := And.intro na (And.intro nb (And.intro nc (And.intro h1 h2)))
  clear hkeep
  obtain ⟨i0, hi, hz0, hz1, hz2⟩ := info_parts info5
  have la2 := ha.le
  have lb2 := hb.le
  have lc2 := hc.le
  rw [la1] at la2
  rw [lb1] at lb2
  rw [lc1] at lc2
  have ja : (n : Int) ≤ (ca : Int) := by omega
  have jb : (n : Int) ≤ (cb : Int) := by omega
  have jc : (n : Int) ≤ (cc : Int) := by omega
  have ka : n ≤ ca := by omega
  have kb : n ≤ cb := by omega
  have kc : n ≤ cc := by omega
  have ea : (xs.take n).length = n := by rw [List.length_take]; omega
  have eb : (ys.take n).length = n := by rw [List.length_take]; omega
  have ec : (zs.take n).length = n := by rw [List.length_take]; omega
  have hof := Fc.of_xor3 (xs.take n) (ys.take n) (zs.take n) wide (by omega) (by omega)
  have eD := Fc.xor3_length (xs.take n) (ys.take n) (zs.take n) (by omega) (by omega)
  rw [ea] at eD
  have A1 := Lib.hid ha
  have B1 := Lib.hid hb
  have C1 := Lib.hid hc
  have EA := Lib.hid ea
  have EB := Lib.hid eb
  have EC := Lib.hid ec
  have ED := Lib.hid eD
  have Hof := Lib.hid hof
  have La1 := Lib.hid la1
  have Lb1 := Lib.hid lb1
  have Lc1 := Lib.hid lc1
  clear ha hb hc ea eb ec eD hof la1 lb1 lc1
  go_enter Try.func7, Try.ntmps7
  go_wp2_with fail
  refine (awake_any _).mono ?_
  rintro e w1 ⟨rfl, b1⟩
  go_wp2_with fail
  go_loopw [10, 11] (fun v i wr => ∃ k : Nat, k ≤ n ∧ i = .int .i64 (k : Int) ∧ wr.ownsRow w.heap.size 5 1 v k (Lib.byteCells (Fc.xor3 (xs.take k) (ys.take k) (zs.take k))) ∧ Below w.heap.size w wr) (fun _ i _ => n - (intOf i).toNat)
  case atStart => exact ⟨0, Nat.zero_le _, rfl, World.ownsRow_nil _ _ _ _, b1⟩
  case round =>
    obtain ⟨k, hk, rfl, hown, hbw⟩ := hrel
    clear b1
    by_cases hlt : (k : Int) < (n : Int)
    · have hka : k < xs.length := by rw [La1.out]; omega
      have hkb : k < ys.length := by rw [Lb1.out]; omega
      have hkc : k < zs.length := by rw [Lc1.out]; omega
      have hsn : Fc.xor3 (xs.take (k + 1)) (ys.take (k + 1)) (zs.take (k + 1)) = Fc.xor3 (xs.take k) (ys.take k) (zs.take k) ++ [xs[k] ^^^ ys[k] ^^^ zs[k]] := by
        rw [List.take_succ_eq_append_getElem hka, List.take_succ_eq_append_getElem hkb, List.take_succ_eq_append_getElem hkc]
        exact Fc.xor3_snoc _ _ _ (by rw [List.length_take, List.length_take]; omega) (by rw [List.length_take, List.length_take]; omega) _ _ _
      have hrr : (xs[k] ^^^ ys[k] ^^^ zs[k]).toNat = xs[k].toNat ^^^ ys[k].toNat ^^^ zs[k].toNat := by rw [UInt8.toNat_xor, UInt8.toNat_xor]
      obtain ⟨ba, oa, rfl, qa, fa⟩ : ∃ b off, a = some ⟨b, off, none⟩ ∧ b < w.heap.size ∧ ∀ j (h : j < xs.length), w.cell? ⟨b, off + j, none⟩ = some (.int .u8 (xs[j].toNat : Int)) := by
        rcases A1.out.bytes with h | h
        · rw [h] at hka; simp at hka
        · exact h
      obtain ⟨bb, ob, rfl, qb, fb⟩ : ∃ g off, b = some ⟨g, off, none⟩ ∧ g < w.heap.size ∧ ∀ j (h : j < ys.length), w.cell? ⟨g, off + j, none⟩ = some (.int .u8 (ys[j].toNat : Int)) := by
        rcases B1.out.bytes with h | h
        · rw [h] at hkb; simp at hkb
        · exact h
      obtain ⟨bc, oc, rfl, qc, fc⟩ : ∃ g off, c = some ⟨g, off, none⟩ ∧ g < w.heap.size ∧ ∀ j (h : j < zs.length), w.cell? ⟨g, off + j, none⟩ = some (.int .u8 (zs[j].toNat : Int)) := by
        rcases C1.out.bytes with h | h
        · rw [h] at hkc; simp at hkc
        · exact h
      have ga := fa k hka
      have gb := fb k hkb
      have gc := fc k hkc
      have xa := xs[k].toNat_lt
      have xb := ys[k].toNat_lt
      have xc := zs[k].toNat_lt
      clear fa fb fc
      generalize xs[k] ^^^ ys[k] ^^^ zs[k] = R at hsn hrr
      generalize xs[k].toNat = x at ga xa hrr
      generalize ys[k].toNat = y at gb xb hrr
      generalize zs[k].toNat = z at gc xc hrr
      have x1 := Fc.xor8 x y xa xb
      have p1 : x ^^^ y < 256 := Nat.xor_lt_two_pow (n := 8) xa xb
      generalize x ^^^ y = p at x1 p1 hrr
      have x2 := Fc.xor8 p z p1 xc
      rw [← hrr] at x2
      generalize Fc.xor3 (xs.take k) (ys.take k) (zs.take k) = D at hown hsn
      have hcells : ∀ W : World, Below w.heap.size w W → W.cell? ⟨ba, oa + k, none⟩ = some (.int .u8 (x : Int)) ∧ W.cell? ⟨bb, ob + k, none⟩ = some (.int .u8 (y : Int)) ∧ W.cell? ⟨bc, oc + k, none⟩ = some (.int .u8 (z : Int)) := fun W hW => ⟨by rw [hW.cell (p := ⟨ba, oa + k, none⟩) qa]; exact ga, by rw [hW.cell (p := ⟨bb, ob + k, none⟩) qb]; exact gb, by rw [hW.cell (p := ⟨bc, oc + k, none⟩) qc]; exact gc⟩
      have Hcells := Lib.hid hcells
      have Hsn := Lib.hid hsn
      have ia : (k : Int) < (la : Int) := by omega
      have ib : (k : Int) < (lb : Int) := by omega
      have ic : (k : Int) < (n : Int) := by omega
      have hbd := Below.chain hbw ((Below.refl wr.heap.size wr).drew)
      have hS := Hcells.out _ hbd
      have Hown := Lib.hid hown
      have hsz := hbw.size
      clear hcells hsn hrr ga gb gc hka hkb hkc hown
      go_wp2_with fail
      refine held_start (S := fun W => W.cell? ⟨ba, oa + k, none⟩ = some (.int .u8 (x : Int)) ∧ W.cell? ⟨bb, ob + k, none⟩ = some (.int .u8 (y : Int)) ∧ W.cell? ⟨bc, oc + k, none⟩ = some (.int .u8 (z : Int))) 18 (by kernel_rfl) rfl ?_
      refine held_take 0 (v := ?_) rfl (by kernel_rfl) (by kernel_rfl) (by kernel_rfl) (fun _ _ _ h => h) (by assumption) (by rfl) ?_ ?_
      rotate_left
      · (intro W hW; go_simp; try with_reducible rfl)
      simp only [Act.put, List.setIfInBounds_toArray, List.set_cons_zero, List.set_cons_succ]
      refine held_take 1 (v := ?_) rfl (by kernel_rfl) (by kernel_rfl) (by kernel_rfl) (fun _ _ _ h => h) (by assumption) (by rfl) ?_ ?_
      rotate_left
      · (intro W hW; go_simp; try with_reducible rfl)
      simp only [Act.put, List.setIfInBounds_toArray, List.set_cons_zero, List.set_cons_succ]
      refine held_take 2 (v := ?_) rfl (by kernel_rfl) (by kernel_rfl) (by kernel_rfl) (fun _ _ _ h => h) (by assumption) (by rfl) ?_ ?_
      rotate_left
      · (intro W hW; go_simp; try with_reducible rfl)
      simp only [Act.put, List.setIfInBounds_toArray, List.set_cons_zero, List.set_cons_succ]
      refine held_take 3 (v := ?_) rfl (by kernel_rfl) (by kernel_rfl) (by kernel_rfl) (fun _ _ _ h => h) (by assumption) (by rfl) ?_ ?_
      rotate_left
      · (intro W hW; go_simp; try with_reducible rfl)
      simp only [Act.put, List.setIfInBounds_toArray, List.set_cons_zero, List.set_cons_succ]
      refine held_take 4 (v := ?_) rfl (by kernel_rfl) (by kernel_rfl) (by kernel_rfl) (fun _ _ _ h => h) (by assumption) (by rfl) ?_ ?_
      rotate_left
      · (intro W hW; have hw1 := hW.1; have hw2 := hW.2.1; have hw3 := hW.2.2; go_simp; try with_reducible rfl)
      simp only [Act.put, List.setIfInBounds_toArray, List.set_cons_zero, List.set_cons_succ]
      refine held_take 5 (v := ?_) rfl (by kernel_rfl) (by kernel_rfl) (by kernel_rfl) (fun _ _ _ h => h) (by assumption) (by rfl) ?_ ?_
      rotate_left
      · (intro W hW; go_simp; try with_reducible rfl)
      simp only [Act.put, List.setIfInBounds_toArray, List.set_cons_zero, List.set_cons_succ]
      refine held_take 6 (v := ?_) rfl (by kernel_rfl) (by kernel_rfl) (by kernel_rfl) (fun _ _ _ h => h) (by assumption) (by rfl) ?_ ?_
      rotate_left
      · (intro W hW; go_simp; try with_reducible rfl)
      simp only [Act.put, List.setIfInBounds_toArray, List.set_cons_zero, List.set_cons_succ]
      refine held_take 7 (v := ?_) rfl (by kernel_rfl) (by kernel_rfl) (by kernel_rfl) (fun _ _ _ h => h) (by assumption) (by rfl) ?_ ?_
      rotate_left
      · (intro W hW; go_simp; try with_reducible rfl)
      simp only [Act.put, List.setIfInBounds_toArray, List.set_cons_zero, List.set_cons_succ]
      refine held_take 8 (v := ?_) rfl (by kernel_rfl) (by kernel_rfl) (by kernel_rfl) (fun _ _ _ h => h) (by assumption) (by rfl) ?_ ?_
      rotate_left
      · (intro W hW; have hw1 := hW.1; have hw2 := hW.2.1; have hw3 := hW.2.2; go_simp; try with_reducible rfl)
      simp only [Act.put, List.setIfInBounds_toArray, List.set_cons_zero, List.set_cons_succ]
      refine held_take 9 (v := ?_) rfl (by kernel_rfl) (by kernel_rfl) (by kernel_rfl) (fun _ _ _ h => h) (by assumption) (by rfl) ?_ ?_
      rotate_left
      · (intro W hW; go_simp; try with_reducible rfl)
      simp only [Act.put, List.setIfInBounds_toArray, List.set_cons_zero, List.set_cons_succ]
      refine held_take 10 (v := ?_) rfl (by kernel_rfl) (by kernel_rfl) (by kernel_rfl) (fun _ _ _ h => h) (by assumption) (by rfl) ?_ ?_
      rotate_left
      · (intro W hW; go_simp; try with_reducible rfl)
      simp only [Act.put, List.setIfInBounds_toArray, List.set_cons_zero, List.set_cons_succ]
      refine held_take 11 (v := ?_) rfl (by kernel_rfl) (by kernel_rfl) (by kernel_rfl) (fun _ _ _ h => h) (by assumption) (by rfl) ?_ ?_
      rotate_left
      · (intro W hW; go_simp; try with_reducible rfl)
      simp only [Act.put, List.setIfInBounds_toArray, List.set_cons_zero, List.set_cons_succ]
      refine held_take 12 (v := ?_) rfl (by kernel_rfl) (by kernel_rfl) (by kernel_rfl) (fun _ _ _ h => h) (by assumption) (by rfl) ?_ ?_
      rotate_left
      · (intro W hW; go_simp; try with_reducible rfl)
      simp only [Act.put, List.setIfInBounds_toArray, List.set_cons_zero, List.set_cons_succ]
      refine held_take 13 (v := ?_) rfl (by kernel_rfl) (by kernel_rfl) (by kernel_rfl) (fun _ _ _ h => h) (by assumption) (by rfl) ?_ ?_
      rotate_left
      · (intro W hW; have hw1 := hW.1; have hw2 := hW.2.1; have hw3 := hW.2.2; go_simp; try with_reducible rfl)
      simp only [Act.put, List.setIfInBounds_toArray, List.set_cons_zero, List.set_cons_succ]
      refine held_take 14 (v := ?_) rfl (by kernel_rfl) (by kernel_rfl) (by kernel_rfl) (fun _ _ _ h => h) (by assumption) (by rfl) ?_ ?_
      rotate_left
      · (intro W hW; go_simp; try with_reducible rfl)
      simp only [Act.put, List.setIfInBounds_toArray, List.set_cons_zero, List.set_cons_succ]
      have hbe := hbd.alloc hbd.size (.cells #[.int .u8 (R.toNat : Int)] 5)
      have hS2 := Hcells.out _ hbe
      refine held_makes 15 (v := .slice (some ⟨wr.drew.heap.size, 0, none⟩) 1 1) (w' := wr.drew.alloc (.cells #[.int .u8 (R.toNat : Int)] 5)) rfl (by kernel_rfl) (by rfl) (by go_simp) hS2 ?_
      simp only [Act.put, List.setIfInBounds_toArray, List.set_cons_zero, List.set_cons_succ]
      obtain ⟨v', w', hrun, r1, r2, _⟩ := run_append_own (P := Try.prog) (wr.drew.alloc (.cells #[.int .u8 (R.toNat : Int)] 5)) w.heap.size 23 23 5 i0 (.int .u8 0) 1 1 Try.underlying23 hi hz0 hz1 hz2 rfl (by decide) _ _ _ (Hown.out.drew.alloc _) ⟨wr.drew.heap.size, 0, none⟩ 1 1 [.int .u8 (R.toNat : Int)] rfl (cell_one_new _ _ _) (fun u hu => by simp at hu; subst hu; rfl) (by unfold maxLen; omega) (by omega) (by simp; omega)
      rw [show wr.drew.heap.size = wr.heap.size from rfl] at hrun
      have hbf : Below w.heap.size w w' := Below.grown hbe r2 hbe.size (fun j hj => (Hown.out.lt j hj).1)
      have hS3 := Hcells.out _ hbf
      refine held_makes 16 (v := v') (w' := w') rfl (by kernel_rfl) (by rfl) (by simp [execOp, resolve, invoke, builtin, Act.eval, hrun, Result.andThen]) hS3 ?_
      simp only [Act.put, List.setIfInBounds_toArray, List.set_cons_zero, List.set_cons_succ]
      refine held_take 17 (v := ?_) rfl (by kernel_rfl) (by kernel_rfl) (by kernel_rfl) (fun _ _ _ h => h) (by assumption) (by rfl) ?_ ?_
      rotate_left
      · (intro W hW; go_simp; try with_reducible rfl)
      simp only [Act.put, List.setIfInBounds_toArray, List.set_cons_zero, List.set_cons_succ]
      refine held_done (by kernel_rfl) ?_
      have R1 := Lib.hid r1
      clear hrun r1 r2
      go_wp2
      go_roundw
      case rel => exact ⟨k + 1, by omega, by go_num, by rw [Hsn.out, Lib.byteCells_append]; exact R1.out, hbf⟩
      case measure => simp [intOf]; omega
    · have hkl : k = n := by omega
      rw [hkl] at hown
      clear hlt
      rw [hkl]
      obtain ⟨a5, c5, rfl, r5⟩ := rowAt_own ED.out hown
      have hS : RowAt wr.drew a5 c5 (Fc.xor3 (xs.take n) (ys.take n) (zs.take n)) ∧ RowAt wr.drew a ca (xs.take n) ∧ RowAt wr.drew b cb (ys.take n) ∧ RowAt wr.drew c cc (zs.take n) := ⟨r5.drawn, ((A1.out.next hbw).head n).drawn, ((B1.out.next hbw).head n).drawn, ((C1.out.next hbw).head n).drawn⟩
      replace hbw := Below.chain hbw ((Below.refl wr.heap.size wr).drew)
      have l1 := Fc.of_lt32 (xs.take n) wide
      have l2 := Fc.of_lt32 (ys.take n) wide
      have l3 := Fc.of_lt32 (zs.take n) wide
      have hof := Hof.out
      have c0 : ∀ W : World, RowAt W a5 c5 (Fc.xor3 (xs.take n) (ys.take n) (zs.take n)) → _ := fun W h => of_any a5 n c5 _ wide W ED.out (by omega) h
      have c1 : ∀ W : World, RowAt W a ca (xs.take n) → _ := fun W h => of_any a n ca _ wide W EA.out (by omega) h
      have c2 : ∀ W : World, RowAt W b cb (ys.take n) → _ := fun W h => of_any b n cb _ wide W EB.out (by omega) h
      have c3 : ∀ W : World, RowAt W c cc (zs.take n) → _ := fun W h => of_any c n cc _ wide W EC.out (by omega) h
      clear EA EB EC ED Hof hown r5
      generalize Fc.of (Fc.xor3 (xs.take n) (ys.take n) (zs.take n)) wide = o0 at c0 hof
      generalize Fc.of (xs.take n) wide = o1 at c1 hof l1
      generalize Fc.of (ys.take n) wide = o2 at c2 hof l2
      generalize Fc.of (zs.take n) wide = o3 at c3 hof l3
      generalize Fc.xor3 (xs.take n) (ys.take n) (zs.take n) = D at c0 hS
      generalize xs.take n = X at c1 hS
      generalize ys.take n = Y at c2 hS
      generalize zs.take n = Z at c3 hS
      have x1 := Fc.xor32 o1 o2 l1 l2
      have l12 := Fc.xor_lt o1 o2 l1 l2
      generalize o1 ^^^ o2 = o12 at x1 l12 hof
      have x2 := Fc.xor32 o12 o3 l12 l3
      rw [← hof] at x2
      have D0 := Lib.hid c0
      have D1 := Lib.hid c1
      have D2 := Lib.hid c2
      have D3 := Lib.hid c3
      clear c0 c1 c2 c3 hof
      go_wp2_with fail
      refine held_start (S := fun W => RowAt W a5 c5 D ∧ RowAt W a ca X ∧ RowAt W b cb Y ∧ RowAt W c cc Z) 22 (by kernel_rfl) rfl ?_
      refine held_take 0 (v := ?_) rfl (by kernel_rfl) (by kernel_rfl) (by kernel_rfl) (fun _ _ _ h => h) (by assumption) (by rfl) ?_ ?_
      rotate_left
      · (intro W hW; go_simp; try with_reducible rfl)
      simp only [Act.put, List.setIfInBounds_toArray, List.set_cons_zero, List.set_cons_succ]
      refine held_take 1 (v := ?_) rfl (by kernel_rfl) (by kernel_rfl) (by kernel_rfl) (fun _ _ _ h => h) (by assumption) (by rfl) ?_ ?_
      rotate_left
      · (intro W hW; go_simp; try with_reducible rfl)
      simp only [Act.put, List.setIfInBounds_toArray, List.set_cons_zero, List.set_cons_succ]
      refine held_take 3 (v := ?_) rfl (by kernel_rfl) (by kernel_rfl) (by kernel_rfl) (fun _ _ _ h => h) (by assumption) (by rfl) ?_ ?_
      rotate_left
      · (intro W hW; go_simp; try with_reducible rfl)
      simp only [Act.put, List.setIfInBounds_toArray, List.set_cons_zero, List.set_cons_succ]
      refine held_take 4 (v := ?_) rfl (by kernel_rfl) (by kernel_rfl) (by kernel_rfl) (fun _ _ _ h => h) (by assumption) (by rfl) ?_ ?_
      rotate_left
      · (intro W hW; go_simp; try with_reducible rfl)
      simp only [Act.put, List.setIfInBounds_toArray, List.set_cons_zero, List.set_cons_succ]
      refine held_take 5 (v := ?_) rfl (by kernel_rfl) (by kernel_rfl) (by kernel_rfl) (fun _ _ _ h => h) (by assumption) (by rfl) ?_ ?_
      rotate_left
      · (intro W hW; go_simp; try with_reducible rfl)
      simp only [Act.put, List.setIfInBounds_toArray, List.set_cons_zero, List.set_cons_succ]
      refine held_take 6 (v := ?_) rfl (by kernel_rfl) (by kernel_rfl) (by kernel_rfl) (fun _ _ _ h => h) (by assumption) (by rfl) ?_ ?_
      rotate_left
      · (intro W hW; go_simp; try with_reducible rfl)
      simp only [Act.put, List.setIfInBounds_toArray, List.set_cons_zero, List.set_cons_succ]
      refine held_take 8 (v := ?_) rfl (by kernel_rfl) (by kernel_rfl) (by kernel_rfl) (fun _ _ _ h => h) (by assumption) (by rfl) ?_ ?_
      rotate_left
      · (intro W hW; go_simp; try with_reducible rfl)
      simp only [Act.put, List.setIfInBounds_toArray, List.set_cons_zero, List.set_cons_succ]
      refine held_take 9 (v := ?_) rfl (by kernel_rfl) (by kernel_rfl) (by kernel_rfl) (fun _ _ _ h => h) (by assumption) (by rfl) ?_ ?_
      rotate_left
      · (intro W hW; go_simp; try with_reducible rfl)
      simp only [Act.put, List.setIfInBounds_toArray, List.set_cons_zero, List.set_cons_succ]
      refine held_take 10 (v := ?_) rfl (by kernel_rfl) (by kernel_rfl) (by kernel_rfl) (fun _ _ _ h => h) (by assumption) (by rfl) ?_ ?_
      rotate_left
      · (intro W hW; go_simp; try with_reducible rfl)
      simp only [Act.put, List.setIfInBounds_toArray, List.set_cons_zero, List.set_cons_succ]
      refine held_take 11 (v := ?_) rfl (by kernel_rfl) (by kernel_rfl) (by kernel_rfl) (fun _ _ _ h => h) (by assumption) (by rfl) ?_ ?_
      rotate_left
      · (intro W hW; go_simp; try with_reducible rfl)
      simp only [Act.put, List.setIfInBounds_toArray, List.set_cons_zero, List.set_cons_succ]
      refine held_take 14 (v := ?_) rfl (by kernel_rfl) (by kernel_rfl) (by kernel_rfl) (fun _ _ _ h => h) (by assumption) (by rfl) ?_ ?_
      rotate_left
      · (intro W hW; go_simp; try with_reducible rfl)
      simp only [Act.put, List.setIfInBounds_toArray, List.set_cons_zero, List.set_cons_succ]
      refine held_take 15 (v := ?_) rfl (by kernel_rfl) (by kernel_rfl) (by kernel_rfl) (fun _ _ _ h => h) (by assumption) (by rfl) ?_ ?_
      rotate_left
      · (intro W hW; go_simp; try with_reducible rfl)
      simp only [Act.put, List.setIfInBounds_toArray, List.set_cons_zero, List.set_cons_succ]
      refine held_take 16 (v := ?_) rfl (by kernel_rfl) (by kernel_rfl) (by kernel_rfl) (fun _ _ _ h => h) (by assumption) (by rfl) ?_ ?_
      rotate_left
      · (intro W hW; go_simp; try with_reducible rfl)
      simp only [Act.put, List.setIfInBounds_toArray, List.set_cons_zero, List.set_cons_succ]
      refine held_take 17 (v := ?_) rfl (by kernel_rfl) (by kernel_rfl) (by kernel_rfl) (fun _ _ _ h => h) (by assumption) (by rfl) ?_ ?_
      rotate_left
      · (intro W hW; go_simp; try with_reducible rfl)
      simp only [Act.put, List.setIfInBounds_toArray, List.set_cons_zero, List.set_cons_succ]
      refine held_call 2 (f := 12) (args := #[.slice a5 n c5, .bool wide]) rfl (by kernel_rfl) (by rfl) (by go_simp) ?_
      refine (D0.out _ hS.1).mono ?_
      rintro e w2 ⟨rfl, bb⟩
      replace hS : RowAt w2 a5 c5 D ∧ RowAt w2 a ca X ∧ RowAt w2 b cb Y ∧ RowAt w2 c cc Z := ⟨hS.1.next bb, hS.2.1.next bb, hS.2.2.1.next bb, hS.2.2.2.next bb⟩
      replace hbw := Below.chain hbw bb
      clear bb
      refine ⟨_, rfl, hS, ?_⟩
      simp only [Act.put, List.setIfInBounds_toArray, List.set_cons_zero, List.set_cons_succ]
      refine held_call 7 (f := 12) (args := #[.slice a n ca, .bool wide]) rfl (by kernel_rfl) (by rfl) (by go_simp) ?_
      refine (D1.out _ hS.2.1).mono ?_
      rintro e w3 ⟨rfl, bb⟩
      replace hS : RowAt w3 a5 c5 D ∧ RowAt w3 a ca X ∧ RowAt w3 b cb Y ∧ RowAt w3 c cc Z := ⟨hS.1.next bb, hS.2.1.next bb, hS.2.2.1.next bb, hS.2.2.2.next bb⟩
      replace hbw := Below.chain hbw bb
      clear bb
      refine ⟨_, rfl, hS, ?_⟩
      simp only [Act.put, List.setIfInBounds_toArray, List.set_cons_zero, List.set_cons_succ]
      refine held_call 12 (f := 12) (args := #[.slice b n cb, .bool wide]) rfl (by kernel_rfl) (by rfl) (by go_simp) ?_
      refine (D2.out _ hS.2.2.1).mono ?_
      rintro e w4 ⟨rfl, bb⟩
      replace hS : RowAt w4 a5 c5 D ∧ RowAt w4 a ca X ∧ RowAt w4 b cb Y ∧ RowAt w4 c cc Z := ⟨hS.1.next bb, hS.2.1.next bb, hS.2.2.1.next bb, hS.2.2.2.next bb⟩
      replace hbw := Below.chain hbw bb
      clear bb
      refine ⟨_, rfl, hS, ?_⟩
      simp only [Act.put, List.setIfInBounds_toArray, List.set_cons_zero, List.set_cons_succ]
      refine held_take 13 (v := ?_) rfl (by kernel_rfl) (by kernel_rfl) (by kernel_rfl) (fun _ _ _ h => h) (by assumption) (by rfl) ?_ ?_
      rotate_left
      · (intro W hW; go_simp; try with_reducible rfl)
      simp only [Act.put, List.setIfInBounds_toArray, List.set_cons_zero, List.set_cons_succ]
      refine held_call 18 (f := 12) (args := #[.slice c n cc, .bool wide]) rfl (by kernel_rfl) (by rfl) (by go_simp) ?_
      refine (D3.out _ hS.2.2.2).mono ?_
      rintro e w5 ⟨rfl, bb⟩
      replace hS : RowAt w5 a5 c5 D ∧ RowAt w5 a ca X ∧ RowAt w5 b cb Y ∧ RowAt w5 c cc Z := ⟨hS.1.next bb, hS.2.1.next bb, hS.2.2.1.next bb, hS.2.2.2.next bb⟩
      replace hbw := Below.chain hbw bb
      clear bb
      refine ⟨_, rfl, hS, ?_⟩
      simp only [Act.put, List.setIfInBounds_toArray, List.set_cons_zero, List.set_cons_succ]
      refine held_take 19 (v := ?_) rfl (by kernel_rfl) (by kernel_rfl) (by kernel_rfl) (fun _ _ _ h => h) (by assumption) (by rfl) ?_ ?_
      rotate_left
      · (intro W hW; go_simp; try with_reducible rfl)
      simp only [Act.put, List.setIfInBounds_toArray, List.set_cons_zero, List.set_cons_succ]
      refine held_take 20 (v := ?_) rfl (by kernel_rfl) (by kernel_rfl) (by kernel_rfl) (fun _ _ _ h => h) (by assumption) (by rfl) ?_ ?_
      rotate_left
      · (intro W hW; go_simp; try with_reducible rfl)
      simp only [Act.put, List.setIfInBounds_toArray, List.set_cons_zero, List.set_cons_succ]
      refine held_take 21 (v := ?_) rfl (by kernel_rfl) (by kernel_rfl) (by kernel_rfl) (fun _ _ _ h => h) (by assumption) (by rfl) ?_ ?_
      rotate_left
      · (intro W hW; go_simp; try with_reducible rfl)
      simp only [Act.put, List.setIfInBounds_toArray, List.set_cons_zero, List.set_cons_succ]
      refine held_done (by kernel_rfl) ?_
      go_wp2
      go_ret
      exact ⟨rfl, hbw⟩
set_option maxRecDepth 100000 in
set_option maxHeartbeats 1000000 in
theorem bits_long (a b c : Option Addr) (ca cb cc la lb lc : Nat) (wide : Bool) (w : World) (ha : (2000 : Int) < (la : Int)) (hb : (2000 : Int) < (lb : Int)) (hc : (2000 : Int) < (lc : Int)) :
    Calls Try.prog 7 #[.slice a la ca, .slice b lb cb, .slice c lc cc, .bool wide] w fun e w' => e = .returned (.bool true) ∧ Below w.heap.size w w' := by
  go_enter Try.func7, Try.ntmps7
  go_wp2_with fail
  refine (awake_any _).mono ?_
  rintro e w1 ⟨rfl, b1⟩
  go_wp2
  all_goals
    go_ret
    exact ⟨rfl, b1⟩

theorem bits_walk (a b c : Option Addr) (ca cb cc : Nat) (xs ys zs : List UInt8) (wide : Bool) (w : World) (ha : RowAt w a ca xs) (hb : RowAt w b cb ys) (hc : RowAt w c cc zs) :
    Calls Try.prog 7 #[.slice a xs.length ca, .slice b ys.length cb, .slice c zs.length cc, .bool wide] w fun e w' => e = .returned (.bool true) ∧ Below w.heap.size w w' := by
  by_cases hg : 2000 < xs.length ∧ 2000 < ys.length ∧ 2000 < zs.length
  · exact bits_long a b c ca cb cc _ _ _ wide w (by omega) (by omega) (by omega)
  · by_cases h1 : ys.length < xs.length
    · by_cases h2 : zs.length < ys.length
      · exact bits_c a b c ca cb cc zs.length xs.length ys.length xs ys zs wide w ha hb hc rfl rfl rfl (by omega) (by omega) (by omega) (by omega) (by omega) (by omega)
      · exact bits_b a b c ca cb cc ys.length xs.length zs.length xs ys zs wide w ha hb hc rfl rfl rfl (by omega) (by omega) (by omega) (by omega) (by omega) (by omega)
    · by_cases h2 : zs.length < xs.length
      · exact bits_d a b c ca cb cc zs.length xs.length ys.length xs ys zs wide w ha hb hc rfl rfl rfl (by omega) (by omega) (by omega) (by omega) (by omega) (by omega)
      · exact bits_a a b c ca cb cc xs.length ys.length zs.length xs ys zs wide w ha hb hc rfl rfl rfl (by omega) (by omega) (by omega) (by omega) (by omega) (by omega)
end Go.Proofs.Ytdpgefnnenlehaa
