/- Contract of Put. -/
import Derived.Test.YtbmlacmpiaklpaaDoorDb
import Derived.Test.YtbmlacmpiaklpaaDoorDp
namespace Go.Proofs.YtbmlacmpiaklpaaDoor
open Go.RowKit

theorem run_load_note {o : Oper} {a : Act} {w : World} (x : Operand) (ho : o.op = .load 37 x) (g : Nat) (hx : a.eval x = .pointer (some ⟨g, 0, none⟩)) (r : Dm.Nt) (v : Value) (hg : w.heap[g]? = some (.cells (ncells r v).toArray 37 (0, 0))) : (execOp a.eval o).run Tryd.prog w = .ok (.value (.agg (ncells r v).toArray)) w := by
  unfold execOp
  simp only [ho, hx, Instr.loadAt, Instr.sureAddr, Sem.run_bind, Sem.run_pure, Result.andThen_ok, run_loadVar_row w g 37 37 _ _ _ hg Tryd.underlying37 rfl info37]
theorem run_load_form {o : Oper} {a : Act} {w : World} (x : Operand) (ho : o.op = .load 49 x) (g : Nat) (hx : a.eval x = .pointer (some ⟨g, 0, none⟩)) (f : Dm.Fm) (hg : w.heap[g]? = some (.cells (fcells f).toArray 49 (0, 0))) : (execOp a.eval o).run Tryd.prog w = .ok (.value (.agg (fcells f).toArray)) w := by
  unfold execOp
  simp only [ho, hx, Instr.loadAt, Instr.sureAddr, Sem.run_bind, Sem.run_pure, Result.andThen_ok, run_loadVar_row w g 49 49 _ _ _ hg Tryd.underlying49 rfl info49]
theorem prts_kept {w0 w w' : World} {B R : Nat} {v : Value} {L : List (List UInt8)} {cs : Array Value} {t : TypeId} (ht : t ≠ 25) (h : Prts w0 w B v L) (g : w.grownBy w' v.ownBlock) (hR : w.heap[R]? = some (.cells cs t (0, 0))) : w'.heap[R]? = some (.cells cs t (0, 0)) := by
  obtain ⟨vs, ho, _⟩ := h
  rw [g.block R (lt_of_block hR) ?_]
  · exact hR
  · intro e
    rcases ho.2 with ⟨rfl, _⟩ | ⟨q, cap, cur, rfl, _, hq, _⟩
    · simp [Value.ownBlock] at e
    · simp [Value.ownBlock] at e
      subst e
      rw [hR] at hq
      simp at hq
      exact ht hq.2
theorem byte_own (w : World) (B : Nat) (x : Dm.Nt) (hg : Dm.Good x) (hB : B ≤ w.heap.size) : (w.alloc (.cells #[.int .u8 x.kind] 5)).ownsRow B 5 1 (.slice (some ⟨w.heap.size, 0, none⟩) 1 1) 1 (Lib.byteCells [Dm.byt0 x]) := by
  have h := owns_built w B 5 (.int .u8 x.kind) hB
  have e : Lib.byteCells [Dm.byt0 x] = [.int .u8 x.kind] := by
    have h1 := hg.lo
    have h2 := hg.hi
    simp [Lib.byteCells, Dm.byt0]
    omega
  rw [e]
  exact h

set_option maxRecDepth 100000 in
set_option maxHeartbeats 4000000 in
theorem put_any (a : Option Addr) (n cap : Nat) (L : List Dm.Nt) (w : World) (hn : L.length = n) (hFl : (Dm.bytes L).length ≤ 300000) (hb : n ≤ 100000) (h : NtsAt w a L) (ht : Tab w) :
    Calls Tryd.prog 11 #[.slice a n cap] w fun e w' => PutRes w w' e L := by
  have H := Lib.hid h
  have HT := Lib.hid ht
  have Hn := Lib.hid hn
  clear h hn ht
  have hF := Dm.parts_flat L
  have hge := Dm.bytes_ge L
  rw [Hn.out] at hge
  have hsl : Dm.size L ≤ 300000 := by omega
  clear hge
  have HPost : ∀ W v, Below w.heap.size w W → Dm.err L = 0 → W.ownsRow w.heap.size 5 1 v (Dm.bytes L).length (Lib.byteCells (Dm.bytes L)) → PutRes w W (.returned (.tuple #[v, .int .i64 0])) L := fun W v h1 h2 h3 => ⟨h1, .inl ⟨h2, v, rfl, h3⟩⟩
  have HPost2 : ∀ W (q : Nat), Below w.heap.size w W → q ≠ 0 → Dm.err L = q → PutRes w W (.returned (.tuple #[.slice none 0 0, .int .i64 (q : Int)])) L := fun W q h1 h2 h3 => ⟨h1, .inr ⟨by omega, by rw [h3]⟩⟩
  obtain ⟨F, hFF⟩ : ∃ F, Dm.bytes L = F := ⟨_, rfl⟩
  rw [hFF] at hF hFl HPost
  have HF := Lib.hid hF
  have P1 := Lib.hid HPost
  have P2 := Lib.hid HPost2
  clear hF HPost HPost2 hFF
  go_enter Tryd.func11, Tryd.ntmps11
  go_wp2
  go_loopw [4, 10] (fun v i wr => ∃ k : Nat, i = .int .i64 (k : Int) ∧ k ≤ n ∧ Dm.fine (L.take k) ∧ Prts w wr w.heap.size v (Dm.parts (L.take k)) ∧ Below w.heap.size w wr) (fun _ i _ => n - (intOf i).toNat)
  case atStart => exact ⟨0, rfl, Nat.zero_le _, by rw [List.take_zero]; exact Dm.fine_nil, by rw [List.take_zero]; exact prts_none _ _ _, Below.refl _ _⟩
  case round =>
    obtain ⟨k, rfl, hk, hsm, hp, hbw⟩ := hrel
    obtain ⟨av, cv, rfl⟩ := prts_slice hp
    have hpl : (Dm.parts (L.take k)).length = 3 * k := by rw [Dm.parts_length, List.length_take]; have := Hn.out; omega
    by_cases hlt : (k : Int) < (n : Int)
    · have hkn : k < L.length := by rw [Hn.out]; omega
      obtain ⟨b, off, p, c, rfl, hra0, hbl⟩ := H.out.at k hkn
      have hra := hra0.next hbl hbw
      have hrow0 := hra0.row
      have hps := Dm.parts_snoc (L.take k) L[k]
      rw [← List.take_succ_eq_append_getElem hkn] at hps
      have hst := Dm.fine_take hkn hsm
      have her := Dm.err_at L k hkn hsm
      have hsz := Dm.size_mem k hkn
      have hok := hra0.ok
      have hrange := hra.range
      rw [hpl]
      generalize Dm.parts (L.take k) = PL at *
      generalize L[k] = x at *
      have hdl : x.data.length ≤ 300000 := by omega
      have HP := Lib.hid hp
      have HPL := Lib.hid hpl
      have HBW := Lib.hid hbw
      have HPS := Lib.hid hps
      have HER := Lib.hid her
      have HRG := Lib.hid hrange
      have HR0 := Lib.hid hrow0
      have hws := hbw.size
      have HTW := Lib.hid (HT.out.next hbw)
      clear hp hpl hbw hps her hrange hra hra0 hrow0 hsm hsz
      have hRn := heap_alloc_new wr (.cells (ncells x (.slice p x.data.length c)).toArray 37)
      have bR : Below wr.heap.size wr (wr.alloc (.cells (ncells x (.slice p x.data.length c)).toArray 37)) := below_one _ _
      have HRn : Hid ((wr.alloc (.cells #[.int .i64 x.kind, .int .u32 (x.n : Int), .slice p x.data.length c] 37)).heap[wr.heap.size]? = some (.cells (ncells x (.slice p x.data.length c)).toArray 37 (0, 0))) := hRn
      have HBm : Hid (Below wr.heap.size wr (wr.alloc (.cells #[.int .i64 x.kind, .int .u32 (x.n : Int), .slice p x.data.length c] 37))) := bR
      clear hRn bR
      have c18 := fun W h => formOf_any x.kind W h
      have hfo := Dm.form_ok x.kind
      go_wp2_with (refine wpList_load_mid rfl 37 (.tmp 12) rfl b (off + k * 3) rfl (ncells x (.slice p x.data.length c)) _ HRG.out Tryd.underlying37 rfl (info37n _ _) ?_; simp only [ncells])
      refine (c18 _ (HTW.out.next HBm.out)).mono ?_
      rintro e w2 ⟨rfl, b2⟩
      have hR2 := block_next HRn.out b2
      have hB2 := Below.chain HBm.out b2
      clear HRn HBm b2 c18
      generalize hFm : Dm.form x.kind = f at *
      have hF3 := heap_alloc_new w2 (.cells (fcells f).toArray 49)
      have bF : Below w2.heap.size w2 (w2.alloc (.cells (fcells f).toArray 49)) := below_one _ _
      have HF3 : Hid ((w2.alloc (.cells #[.bool f.known, .int .i64 (f.size : Int), .bool f.data, .int .u32 (f.most : Int)] 49)).heap[w2.heap.size]? = some (.cells (fcells f).toArray 49 (0, 0))) := hF3
      have HR3 : Hid ((w2.alloc (.cells #[.bool f.known, .int .i64 (f.size : Int), .bool f.data, .int .u32 (f.most : Int)] 49)).heap[wr.heap.size]? = some (.cells (ncells x (.slice p x.data.length c)).toArray 37 (0, 0))) := block_next hR2 bF
      have HB3 : Hid (Below wr.heap.size wr (w2.alloc (.cells #[.bool f.known, .int .i64 (f.size : Int), .bool f.data, .int .u32 (f.most : Int)] 49))) := Below.chain hB2 bF
      clear hF3 bF hR2 hB2
      simp only [fcells]
      go_wp2_with (first | (generalize w2.alloc (.cells #[.bool f.known, .int .i64 (f.size : Int), .bool f.data, .int .u32 (f.most : Int)] 49) = W3 at *; generalize w2.heap.size = Fb at *; generalize hRb : wr.heap.size = Rb at *; refine wpList_load_row rfl 37 (.tmp 6) rfl Rb rfl 37 (ncells x (.slice p x.data.length c)).toArray (0, 0) _ HR3.out Tryd.underlying37 rfl info37 ?_) | (refine wpList_load_row rfl 49 (.tmp 7) rfl Fb rfl 49 (fcells f).toArray (0, 0) _ HF3.out Tryd.underlying49 rfl info49 ?_))
      have HRF : Hid (W3.heap[Rb]? = some (.cells (ncells x (.slice p x.data.length c)).toArray 37 (0, 0)) ∧ W3.heap[Fb]? = some (.cells (fcells f).toArray 49 (0, 0))) := ⟨HR3.out, HF3.out⟩
      have HBw3 := Lib.hid (Below.chain HBW.out (show Below wr.heap.size wr W3 from by rw [hRb]; exact HB3.out))
      have HP3 := Lib.hid (HP.out.next (show Below wr.heap.size wr W3 from by rw [hRb]; exact HB3.out))
      clear HR3 HF3 HB3 HBW HP HTW HRG
      refine (may_any x f p c W3).mono ?_
      rintro e w4 ⟨rfl, b4⟩
      have hRF4 := And.intro (block_next HRF.out.1 b4) (block_next HRF.out.2 b4)
      have HRF4 := Lib.hid hRF4
      have HB4 := Lib.hid (Below.chain HBw3.out b4)
      have HP4 := Lib.hid (HP3.out.next b4)
      clear hRF4 HRF HBw3 HP3 b4
      cases hmay : Dm.may x f
      · have hbad := Dm.bad_may x (by rw [hFm]; exact hmay)
        have herr := HER.out (by rw [hbad]; omega)
        rw [hbad] at herr
        clear hst
        go_wp2
        go_ret2
        exact P2.out _ 1 HB4.out (by omega) herr
      · go_wp2_with (first | (refine wpList_load_row rfl 37 (.tmp 6) rfl Rb rfl 37 (ncells x (.slice p x.data.length c)).toArray (0, 0) _ HRF4.out.1 Tryd.underlying37 rfl info37 ?_) | (refine wpList_load_row rfl 49 (.tmp 7) rfl Fb rfl 49 (fcells f).toArray (0, 0) _ HRF4.out.2 Tryd.underlying49 rfl info49 ?_))
        refine (tooLong_any x f p c w4 hfo hdl).mono ?_
        rintro e w5 ⟨rfl, b5⟩
        have hRF5 := And.intro (block_next HRF4.out.1 b5) (block_next HRF4.out.2 b5)
        have HRF5 := Lib.hid hRF5
        have HB5 := Lib.hid (Below.chain HB4.out b5)
        have HP5 := Lib.hid (HP4.out.next b5)
        clear hRF5 HRF4 HB4 HP4 b5
        cases hlong : Dm.long x f
        · have hbad := Dm.bad_good x (by rw [hFm]; exact hmay) (by rw [hFm]; exact hlong)
          have HST := Lib.hid (hst hbad)
          have hgood := Dm.good_of x hbad
          have hg1 := hgood.lo
          have hg2 := hgood.hi
          have hwk : IntKind.u8.wrap x.kind = x.kind := by rw [IntKind.wrap_u8]; omega
          have c21 := fun W => putNumber_any x p c W hdl hok.n hgood
          rw [hFm] at c21
          clear hst HER hbad
          go_wp2_with fail
          have hS : w5.drew.heap[Rb]? = some (.cells (ncells x (.slice p x.data.length c)).toArray 37 (0, 0)) ∧ w5.drew.heap[Fb]? = some (.cells (fcells f).toArray 49 (0, 0)) := HRF5.out
          have bd : Below w5.heap.size w5 w5.drew := (Below.refl _ _).drew
          have hPd := HP5.out.next bd
          have hBd := Below.chain HB5.out bd
          clear HP5 HB5 HRF5
          refine held_start (S := fun W => W.heap[Rb]? = some (.cells (ncells x (.slice p x.data.length c)).toArray 37 (0, 0)) ∧ W.heap[Fb]? = some (.cells (fcells f).toArray 49 (0, 0))) 13 (by kernel_rfl) rfl ?_
          generalize w5.drew = W5 at *
          refine held_take 0 (v := ?_) rfl (by kernel_rfl) (by kernel_rfl) (by kernel_rfl) (fun _ _ _ h => h) (by assumption) (by rfl) ?_ ?_
          rotate_left
          · (intro W hW; go_simp; try with_reducible rfl)
          simp only [Act.put, List.setIfInBounds_toArray, List.set_cons_zero, List.set_cons_succ]
          refine held_take 1 (v := ?_) rfl (by kernel_rfl) (by kernel_rfl) (by kernel_rfl) (fun _ _ _ h => h) (by assumption) (by rfl) ?_ ?_
          rotate_left
          · (intro W hW; go_simp; try with_reducible rfl)
          simp only [Act.put, List.setIfInBounds_toArray, List.set_cons_zero, List.set_cons_succ]
          refine held_take 2 (v := ?_) rfl (by kernel_rfl) (by kernel_rfl) (by kernel_rfl) (fun _ _ _ h => h) (by assumption) (by rfl) ?_ ?_
          rotate_left
          · (intro W hW; (have t0 : W.cell? ⟨Rb, 0, none⟩ = some (.int .i64 x.kind) := cell_of_row _ _ _ _ _ _ hW.1); clear hW; go_simp; try with_reducible rfl)
          simp only [Act.put, List.setIfInBounds_toArray, List.set_cons_zero, List.set_cons_succ]
          refine held_take 3 (v := ?_) rfl (by kernel_rfl) (by kernel_rfl) (by kernel_rfl) (fun _ _ _ h => h) (by assumption) (by rfl) ?_ ?_
          rotate_left
          · (intro W hW; skip; go_simp; try with_reducible rfl)
          simp only [Act.put, List.setIfInBounds_toArray, List.set_cons_zero, List.set_cons_succ]
          refine held_take 5 (v := .agg (ncells x (.slice p x.data.length c)).toArray) rfl (by kernel_rfl) (by kernel_rfl) (by kernel_rfl) (fun _ _ _ h => h) (by assumption) (by rfl) (fun W hW => run_load_note _ rfl Rb rfl x _ hW.1) ?_
          simp only [Act.put, List.setIfInBounds_toArray, List.set_cons_zero, List.set_cons_succ]
          refine held_take 6 (v := .agg (fcells f).toArray) rfl (by kernel_rfl) (by kernel_rfl) (by kernel_rfl) (fun _ _ _ h => h) (by assumption) (by rfl) (fun W hW => run_load_form _ rfl Fb rfl f hW.2) ?_
          simp only [Act.put, List.setIfInBounds_toArray, List.set_cons_zero, List.set_cons_succ]
          refine held_take 8 (v := ?_) rfl (by kernel_rfl) (by kernel_rfl) (by kernel_rfl) (fun _ _ _ h => h) (by assumption) (by rfl) ?_ ?_
          rotate_left
          · (intro W hW; go_simp; try with_reducible rfl)
          simp only [Act.put, List.setIfInBounds_toArray, List.set_cons_zero, List.set_cons_succ]
          refine held_take 9 (v := ?_) rfl (by kernel_rfl) (by kernel_rfl) (by kernel_rfl) (fun _ _ _ h => h) (by assumption) (by rfl) ?_ ?_
          rotate_left
          · (intro W hW; (have t0 : W.cell? ⟨Rb, 2, none⟩ = some (.slice p x.data.length c) := cell_of_row _ _ _ _ _ _ hW.1); clear hW; go_simp; try with_reducible rfl)
          simp only [Act.put, List.setIfInBounds_toArray, List.set_cons_zero, List.set_cons_succ]
          have bA : Below W5.heap.size W5 (W5.alloc (.cells #[.int .u8 x.kind] 5)) := below_one _ _
          refine held_pair 4 7 rfl rfl (by kernel_rfl) (by rfl) (by rfl) ?_ ?_
          · refine wp_value (v := .slice (some ⟨W5.heap.size, 0, none⟩) 1 1) (w' := W5.alloc (.cells #[.int .u8 x.kind] 5)) (by go_simp) ⟨⟨block_next hS.1 bA, block_next hS.2 bA⟩, ?_⟩
            simp only [Act.put, List.setIfInBounds_toArray, List.set_cons_zero, List.set_cons_succ]
            have hSa := And.intro (block_next hS.1 bA) (block_next hS.2 bA)
            have hPa := hPd.next bA
            have hBa := Below.chain hBd bA
            have hOa := byte_own W5 w.heap.size x hgood hBd.size
            clear hS hPd hBd bA
            generalize W5.alloc (.cells #[.int .u8 x.kind] 5) = Wa at *
            generalize W5.heap.size = ga at *
            refine held_call 7 (f := 21) (args := #[.agg (ncells x (.slice p x.data.length c)).toArray, .agg (fcells f).toArray]) rfl (by kernel_rfl) (by rfl) (by go_simp) ?_
            refine (c21 Wa).mono ?_
            rintro e Wb ⟨v5, rfl, o5, b5⟩
            have hSb := And.intro (block_next hSa.1 b5) (block_next hSa.2 b5)
            refine ⟨_, rfl, hSb, ?_⟩
            simp only [Act.put, List.setIfInBounds_toArray, List.set_cons_zero, List.set_cons_succ]
            have hPb := hPa.next b5
            have hBb := Below.chain hBa b5
            have hOb := ownsRow_next hOa b5
            have hO2 := ownsRow_lower (base' := w.heap.size) o5 hBa.size
            clear hSa hPa hBa hOa o5 b5
            have hpt1 : PartIs w Wb w.heap.size (.slice (some ⟨ga, 0, none⟩) 1 1) [Dm.byt0 x] := part_own rfl hOb
            have hpt2 : PartIs w Wb w.heap.size v5 (Dm.nbytes x) := part_own rfl hO2
            have hpt3 : PartIs w Wb w.heap.size (.slice p x.data.length c) x.data := ⟨p, c, rfl, .inl HR0.out⟩
            have hnew := news_three hpt1 hpt2 hpt3
            obtain ⟨p5, c5, rfl⟩ := own_slice hO2
            have bC : Below Wb.heap.size Wb (Wb.alloc (.cells #[.slice (some ⟨ga, 0, none⟩) 1 1, .slice p5 (Dm.nbytes x).length c5, .slice p x.data.length c] 25)) := below_one _ _
            refine held_makes 10 (v := .slice (some ⟨Wb.heap.size, 0, none⟩) 3 3) (w' := Wb.alloc (.cells #[.slice (some ⟨ga, 0, none⟩) 1 1, .slice p5 (Dm.nbytes x).length c5, .slice p x.data.length c] 25)) rfl (by kernel_rfl) (by rfl) (by go_simp) ⟨block_next hSb.1 bC, block_next hSb.2 bC⟩ ?_
            simp only [Act.put, List.setIfInBounds_toArray, List.set_cons_zero, List.set_cons_succ]
            have hS6 := And.intro (block_next hSb.1 bC) (block_next hSb.2 bC)
            have hP6 := Prts.next hPb bC
            have hB6 := Below.chain hBb bC
            clear hpt1 hpt2 hpt3 bC
            generalize Wb.alloc (.cells #[.slice (some ⟨ga, 0, none⟩) 1 1, .slice p5 (Dm.nbytes x).length c5, .slice p x.data.length c] 25) = W6 at *
            generalize Wb.heap.size = g6 at *
            refine held_one 11 rfl (by kernel_rfl) (by rfl) ?_
            refine wp_append_prts (.tmp 26) (.tmp 36) rfl w.heap.size g6 (.slice av (3 * k) cv) PL [[Dm.byt0 x], Dm.nbytes x, x.data] rfl rfl (by have := hP6; rw [HPL.out] at this; exact this) hnew hB6.size (by rw [HPL.out]; simp; omega) ?_
            intro v7 W7 p7 g7 blk7
            have b7 : Below w.heap.size w W7 := Below.grown hB6 g7 hB6.size blk7
            have hS7 := And.intro (prts_kept (by decide) (by have := hP6; rw [HPL.out] at this; exact this) g7 hS6.1) (prts_kept (by decide) (by have := hP6; rw [HPL.out] at this; exact this) g7 hS6.2)
            refine ⟨hS7, ?_⟩
            simp only [Act.put, List.setIfInBounds_toArray, List.set_cons_zero, List.set_cons_succ]
            refine held_take 12 (v := ?_) rfl (by kernel_rfl) (by kernel_rfl) (by kernel_rfl) (fun _ _ _ h => h) (by assumption) (by rfl) ?_ ?_
            rotate_left
            · (intro W hW; go_simp; try with_reducible rfl)
            simp only [Act.put, List.setIfInBounds_toArray, List.set_cons_zero, List.set_cons_succ]
            refine held_done (by kernel_rfl) ?_
            have HP7 := Lib.hid p7
            have HB7 := Lib.hid b7
            clear p7 b7 hS7 hS6 hP6 hB6 hnew g7 blk7
            go_wp2
            go_roundw
            case rel => exact ⟨k + 1, by simp, by omega, HST.out, by rw [HPS.out]; exact HP7.out, HB7.out⟩
            case measure => simp [intOf]; omega
          · refine wp_enter (f := 21) (args := #[.agg (ncells x (.slice p x.data.length c)).toArray, .agg (fcells f).toArray]) (by go_simp) ?_
            refine (c21 W5).mono ?_
            rintro e Wa ⟨v5, rfl, o5, b5⟩
            have hSa := And.intro (block_next hS.1 b5) (block_next hS.2 b5)
            refine ⟨_, rfl, hSa, ?_⟩
            simp only [Act.put, List.setIfInBounds_toArray, List.set_cons_zero, List.set_cons_succ]
            have hPa := hPd.next b5
            have hBa := Below.chain hBd b5
            have bB : Below Wa.heap.size Wa (Wa.alloc (.cells #[.int .u8 x.kind] 5)) := below_one _ _
            refine held_makes 4 (v := .slice (some ⟨Wa.heap.size, 0, none⟩) 1 1) (w' := Wa.alloc (.cells #[.int .u8 x.kind] 5)) rfl (by kernel_rfl) (by rfl) (by go_simp) ⟨block_next hSa.1 bB, block_next hSa.2 bB⟩ ?_
            simp only [Act.put, List.setIfInBounds_toArray, List.set_cons_zero, List.set_cons_succ]
            have hSb := And.intro (block_next hSa.1 bB) (block_next hSa.2 bB)
            have hPb := hPa.next bB
            have hBb := Below.chain hBa bB
            have hOb := byte_own Wa w.heap.size x hgood hBa.size
            have hO2 := ownsRow_next (ownsRow_lower (base' := w.heap.size) o5 hBd.size) bB
            clear hSa hPa hBa o5 b5 hS hPd hBd bB bA
            generalize Wa.alloc (.cells #[.int .u8 x.kind] 5) = Wb at *
            generalize Wa.heap.size = ga at *
            have hpt1 : PartIs w Wb w.heap.size (.slice (some ⟨ga, 0, none⟩) 1 1) [Dm.byt0 x] := part_own rfl hOb
            have hpt2 : PartIs w Wb w.heap.size v5 (Dm.nbytes x) := part_own rfl hO2
            have hpt3 : PartIs w Wb w.heap.size (.slice p x.data.length c) x.data := ⟨p, c, rfl, .inl HR0.out⟩
            have hnew := news_three hpt1 hpt2 hpt3
            obtain ⟨p5, c5, rfl⟩ := own_slice hO2
            have bC : Below Wb.heap.size Wb (Wb.alloc (.cells #[.slice (some ⟨ga, 0, none⟩) 1 1, .slice p5 (Dm.nbytes x).length c5, .slice p x.data.length c] 25)) := below_one _ _
            refine held_makes 10 (v := .slice (some ⟨Wb.heap.size, 0, none⟩) 3 3) (w' := Wb.alloc (.cells #[.slice (some ⟨ga, 0, none⟩) 1 1, .slice p5 (Dm.nbytes x).length c5, .slice p x.data.length c] 25)) rfl (by kernel_rfl) (by rfl) (by go_simp) ⟨block_next hSb.1 bC, block_next hSb.2 bC⟩ ?_
            simp only [Act.put, List.setIfInBounds_toArray, List.set_cons_zero, List.set_cons_succ]
            have hS6 := And.intro (block_next hSb.1 bC) (block_next hSb.2 bC)
            have hP6 := Prts.next hPb bC
            have hB6 := Below.chain hBb bC
            clear hpt1 hpt2 hpt3 bC
            generalize Wb.alloc (.cells #[.slice (some ⟨ga, 0, none⟩) 1 1, .slice p5 (Dm.nbytes x).length c5, .slice p x.data.length c] 25) = W6 at *
            generalize Wb.heap.size = g6 at *
            refine held_one 11 rfl (by kernel_rfl) (by rfl) ?_
            refine wp_append_prts (.tmp 26) (.tmp 36) rfl w.heap.size g6 (.slice av (3 * k) cv) PL [[Dm.byt0 x], Dm.nbytes x, x.data] rfl rfl (by have := hP6; rw [HPL.out] at this; exact this) hnew hB6.size (by rw [HPL.out]; simp; omega) ?_
            intro v7 W7 p7 g7 blk7
            have b7 : Below w.heap.size w W7 := Below.grown hB6 g7 hB6.size blk7
            have hS7 := And.intro (prts_kept (by decide) (by have := hP6; rw [HPL.out] at this; exact this) g7 hS6.1) (prts_kept (by decide) (by have := hP6; rw [HPL.out] at this; exact this) g7 hS6.2)
            refine ⟨hS7, ?_⟩
            simp only [Act.put, List.setIfInBounds_toArray, List.set_cons_zero, List.set_cons_succ]
            refine held_take 12 (v := ?_) rfl (by kernel_rfl) (by kernel_rfl) (by kernel_rfl) (fun _ _ _ h => h) (by assumption) (by rfl) ?_ ?_
            rotate_left
            · (intro W hW; go_simp; try with_reducible rfl)
            simp only [Act.put, List.setIfInBounds_toArray, List.set_cons_zero, List.set_cons_succ]
            refine held_done (by kernel_rfl) ?_
            have HP7 := Lib.hid p7
            have HB7 := Lib.hid b7
            clear p7 b7 hS7 hS6 hP6 hB6 hnew g7 blk7
            go_wp2
            go_roundw
            case rel => exact ⟨k + 1, by simp, by omega, HST.out, by rw [HPS.out]; exact HP7.out, HB7.out⟩
            case measure => simp [intOf]; omega
        · have hbad := Dm.bad_long x (by rw [hFm]; exact hmay) (by rw [hFm]; exact hlong)
          have herr := HER.out (by rw [hbad]; omega)
          rw [hbad] at herr
          clear hst
          go_wp2
          go_ret2
          exact P2.out _ 4 HB5.out (by omega) herr
    · have hkn : k = n := by omega
      subst hkn
      rw [List.take_of_length_le (by rw [Hn.out]; exact Nat.le_refl _)] at hp hpl hsm ⊢
      obtain ⟨a1, d1, e1, hpa⟩ := hp.parts hbw
      simp only [Value.slice.injEq, true_and] at e1
      obtain ⟨rfl, rfl⟩ := e1
      have c22 := join_at av _ cv _ F wr rfl HF.out (by rw [hpl]; omega) hFl hpa
      rw [hpl] at c22 ⊢
      have C := Lib.hid c22
      have HB := Lib.hid hbw
      have hws := hbw.size
      have herr := Dm.err_fine _ hsm
      clear c22 hpa hp hbw hpl hsm
      go_wp2_with fail
      refine C.out.mono ?_
      rintro e w2 ⟨v2, rfl, o2, b2⟩
      have O2 := Lib.hid (ownsRow_lower (base' := w.heap.size) o2 hws)
      have B3 := Lib.hid (Below.chain HB.out b2)
      clear o2 b2
      go_wp2
      go_ret2
      exact P1.out _ _ B3.out herr O2.out
end Go.Proofs.YtbmlacmpiaklpaaDoor
