/- Contracts of an earlier layer, brought to this seat by names (port.py): Pu, Rn, Rh, Ru, Rx, Rk, Rr, Rs, Plainq. -/
import Derived.Test.YtbbnkmhlgfoacaaDoorS9a

namespace Go.Proofs.YtbbnkmhlgfoacaaDoor.S9
open Go.RowKit

/-- No record is too long. -/
def Pc.small (L : List Pc.Rcd) : Prop := ∀ r ∈ L, r.data.length ≤ 131072
theorem Pc.small_take {L : List Pc.Rcd} {k : Nat} (h : k < L.length) (hs : Pc.small (L.take k)) (hr : L[k].data.length ≤ 131072) : Pc.small (L.take (k + 1)) := by
  intro r hm
  rw [List.take_succ_eq_append_getElem h] at hm
  simp only [List.mem_append, List.mem_cons, List.not_mem_nil, or_false] at hm
  rcases hm with hm | rfl
  · exact hs r hm
  · exact hr
theorem Pc.size_mem {L : List Pc.Rcd} (k : Nat) (h : k < L.length) : L[k].data.length ≤ Pc.size L := by
  have h1 := Pc.size_next L k h
  have h2 := Pc.size_take L (k + 1)
  omega
/-- A capture that is answered, or that a record is too long. -/
def PutRes (w w' : World) (e : Ending) (m : Pc.Hdr) (L : List Pc.Rcd) : Prop :=
  Below w.heap.size w w' ∧ ((Pc.small L ∧ ∃ v, e = .returned (.tuple #[v, .int .i64 0]) ∧ w'.ownsRow w.heap.size 5 1 v (Pc.put m L).length (Lib.byteCells (Pc.put m L))) ∨ (¬ Pc.small L ∧ e = .returned (.tuple #[.slice none 0 0, .int .i64 4])))
theorem RecAt.range {w : World} {b k : Nat} {r : Pc.Rcd} {p : Option Addr} {c : Nat} (h : RecAt w b k r p c) : w.rangeAt b k (rcells r (.slice p r.data.length c)) := by
  intro j v hv
  have hj : j = 0 ∨ j = 1 ∨ j = 2 ∨ j = 3 := by
    have := (List.getElem?_eq_some_iff.1 hv).1
    simp [rcells] at this; omega
  rcases hj with rfl | rfl | rfl | rfl <;> simp [rcells] at hv <;> subst hv
  · exact h.sec
  · exact h.frac
  · exact h.len
  · exact h.data
theorem prts_kept {w0 w w' : World} {B R : Nat} {v : Value} {L : List (List UInt8)} {cs : Array Value} (h : Prts w0 w B v L) (g : w.grownBy w' v.ownBlock) (hR : w.heap[R]? = some (.cells cs 44 (0, 0))) : w'.heap[R]? = some (.cells cs 44 (0, 0)) := by
  obtain ⟨vs, ho, _⟩ := h
  rw [g.block R (lt_of_block hR) ?_]
  · exact hR
  · intro e
    rcases ho.2 with ⟨rfl, _⟩ | ⟨q, cap, cur, rfl, _, hq, _⟩
    · simp [Value.ownBlock] at e
    · simp [Value.ownBlock] at e
      subst e
      rw [hR] at hq
      simp at hq
theorem info46r (r : Pc.Rcd) (v : Value) : (Tryd.prog.info? 44).map (·.size) = some (rcells r v).length := info46

set_option maxRecDepth 100000 in
set_option maxHeartbeats 4000000 in
theorem put_any (m : Pc.Hdr) (a : Option Addr) (n cap : Nat) (L : List Pc.Rcd) (w : World) (hm : m.Ok) (hn : L.length = n) (hb : 24 + 16 * n + Pc.size L ≤ 300000) (h : RecsAt w a L) :
    Calls Tryd.prog 32 #[.agg (hcells m).toArray, .slice a n cap] w fun e w' => PutRes w w' e m L := by
  have c20 := fun W => putHead_any m W hm
  have H := Lib.hid h
  have Hn := Lib.hid hn
  clear h hn
  obtain ⟨ob, hob⟩ : ∃ ob, ob = Obj.cells (hcells m).toArray 39 (0, 0) := ⟨_, rfl⟩
  have b0 : Below w.heap.size w (w.alloc (.cells #[.bool m.big, .bool m.nano, .int .u32 (m.snap : Int), .int .u32 (m.link : Int)] 39)) := (Below.refl _ _).alloc (Nat.le_refl _) _
  have hT0 : (w.alloc (.cells #[.bool m.big, .bool m.nano, .int .u32 (m.snap : Int), .int .u32 (m.link : Int)] 39)).heap[w.heap.size]? = some ob := by rw [hob]; exact heap_alloc_new w _
  have h0 := H.out.next b0
  have hs0 : (w.alloc (.cells #[.bool m.big, .bool m.nano, .int .u32 (m.snap : Int), .int .u32 (m.link : Int)] 39)).heap.size = w.heap.size + 1 := by simp
  go_enter Tryd.func32, Tryd.ntmps32
  simp only [hcells]
  go_wp2_with fail
  generalize w.alloc (.cells #[.bool m.big, .bool m.nano, .int .u32 (m.snap : Int), .int .u32 (m.link : Int)] 39) = W0 at *
  refine (c20 W0).mono ?_
  rintro e w1 ⟨v1, rfl, o1, b1⟩
  have hp1 : Prts W0 (w1.alloc (.cells #[v1] 28)) W0.heap.size (.slice (some ⟨w1.heap.size, 0, none⟩) 1 1) [Pc.hbytes m] := by
    refine ⟨[v1], owns_built w1 _ 28 v1 b1.size, fun j hj => ?_⟩
    have : j = 0 := by simpa using hj
    subst this
    exact ⟨v1, rfl, (part_own (Pc.hbytes_length m) o1).next ((Below.refl _ _).alloc (Nat.le_refl _) _)⟩
  have b2 : Below W0.heap.size W0 (w1.alloc (.cells #[v1] 28)) := b1.alloc b1.size _
  obtain ⟨p1, c1, rfl⟩ := own_slice o1
  have hF := Pc.parts_flat m L
  have hFl : (Pc.put m L).length ≤ 300000 := by rw [Pc.put_length, Hn.out]; omega
  obtain ⟨F, hFF⟩ : ∃ F, Pc.put m L = F := ⟨_, rfl⟩
  have HPost : ∀ W v, Below w.heap.size w W → Pc.small L → W.ownsRow w.heap.size 5 1 v F.length (Lib.byteCells F) → PutRes w W (.returned (.tuple #[v, .int .i64 0])) m L := fun W v h1 h2 h3 => ⟨h1, .inl ⟨h2, v, rfl, by rw [hFF]; exact h3⟩⟩
  have HPost2 : ∀ W, Below w.heap.size w W → ¬ Pc.small L → PutRes w W (.returned (.tuple #[.slice none 0 0, .int .i64 4])) m L := fun W h1 h2 => ⟨h1, .inr ⟨h2, rfl⟩⟩
  rw [hFF] at hF hFl
  have HF := Lib.hid hF
  have P1 := Lib.hid HPost
  have P2 := Lib.hid HPost2
  have HP1 := Lib.hid hp1
  have B2 := Lib.hid b2
  have B0 := Lib.hid b0
  have T0 := Lib.hid hT0
  have R0 := Lib.hid h0
  clear hF HPost HPost2 hp1 b2 b0 hT0 h0 o1 b1 c20 H hFF
  go_wp2_with fail
  generalize w1.alloc (.cells #[.slice p1 24 c1] 28) = W1 at *
  generalize w1.heap.size = g1 at *
  go_loopw [6, 14] (fun v i wr => ∃ k : Nat, i = .int .i64 (k : Int) ∧ k ≤ n ∧ Pc.small (L.take k) ∧ Prts W0 wr W0.heap.size v (Pc.parts m (L.take k)) ∧ Below W0.heap.size W0 wr) (fun _ i _ => n - (intOf i).toNat)
  case atStart => exact ⟨0, rfl, Nat.zero_le _, by intro r h; simp at h, by simpa [Pc.parts] using HP1.out, B2.out⟩
  case round =>
    obtain ⟨k, rfl, hk, hsm, hp, hbw⟩ := hrel
    obtain ⟨av, cv, rfl⟩ := prts_slice hp
    have hpl : (Pc.parts m (L.take k)).length = 1 + 2 * k := by rw [Pc.parts_length, List.length_take]; have := Hn.out; omega
    by_cases hlt : (k : Int) < (n : Int)
    · have hkn : k < L.length := by rw [Hn.out]; omega
      have hr := R0.out.next hbw
      rcases hr with hr | ⟨b, off, rfl, hbl, hr⟩
      · rw [hr] at hkn; simp at hkn
      obtain ⟨p, c, hra⟩ := hr k hkn
      have hrow0 : RowAt W0 p c L[k].data := by
        rcases R0.out with h1 | ⟨b', off', e1, _, h1⟩
        · rw [h1] at hkn; simp at hkn
        · obtain ⟨p', c', h2⟩ := h1 k hkn
          have e2 := (h2.next (by assumption) hbw).data
          cases e1
          rw [hra.data] at e2
          simp only [Option.some.injEq, Value.slice.injEq, true_and] at e2
          obtain ⟨rfl, rfl⟩ := e2
          exact h2.row
      have hps := Pc.parts_snoc m (L.take k) L[k]
      rw [← List.take_succ_eq_append_getElem hkn] at hps
      have hst := Pc.small_take hkn hsm
      have hns : 131072 < L[k].data.length → ¬ Pc.small L := fun h1 h2 => by have := h2 _ (List.getElem_mem hkn); omega
      have hsz := Pc.size_mem k hkn
      have hN : ∀ y ∈ [L[k].sec, L[k].frac, L[k].data.length, L[k].len], y < 256 ^ 4 := fun y h => by
        have h1 := hra.ok.sec
        have h2 := hra.ok.frac
        have h3 := hra.ok.len
        simp at h
        rcases h with rfl | rfl | rfl | rfl
        · exact h1
        · exact h2
        · show _ < 4294967296; omega
        · exact h3
      have hnum : Pc.nums m.big 4 [L[k].sec, L[k].frac, L[k].data.length, L[k].len] = Pc.rnums m.big L[k] := rfl
      have hnl := Pc.rnums_length m.big L[k]
      rw [hpl]
      generalize Pc.parts m (L.take k) = PL at *
      generalize Pc.rnums m.big L[k] = NB at *
      have hrange := hra.range
      generalize L[k] = r at *
      have HT1 := Lib.hid (block_next T0.out hbw)
      have HP := Lib.hid hp
      have HPL := Lib.hid hpl
      have HBW := Lib.hid hbw
      have HPS := Lib.hid hps
      have HST := Lib.hid hst
      have HNS := Lib.hid hns
      have HNU := Lib.hid hnum
      have HRG := Lib.hid hrange
      have HR0 := Lib.hid hrow0
      have HNN := Lib.hid hN
      have hws := hbw.size
      clear hp hpl hbw hps hst hns hnum hrange hra hr hrow0 hN hsm
      by_cases hlong : 131072 < r.data.length
      · have j1 : (131072 : Int) < (r.data.length : Int) := by omega
        go_wp2_with (refine wpList_load_mid rfl 44 (.tmp 16) rfl b (off + k * 4) rfl (rcells r (.slice p r.data.length c)) _ HRG.out Tryd.underlying44 rfl (info46r _ _) ?_; simp only [rcells])
        go_ret2
        exact P2.out _ (Below.trans B0.out ((HBW.out.alloc HBW.out.size _).mono (by omega))) (HNS.out hlong)
      · have j1 : ¬ (131072 : Int) < (r.data.length : Int) := by omega
        have hwu : IntKind.u32.wrap (r.data.length : Int) = (r.data.length : Int) := by rw [IntKind.wrap_u32]; omega
        have hRn := heap_alloc_new wr (.cells (rcells r (.slice p r.data.length c)).toArray 44)
        have bR : Below wr.heap.size wr (wr.alloc (.cells (rcells r (.slice p r.data.length c)).toArray 44)) := (Below.refl _ _).alloc (Nat.le_refl _) _
        have hTn := block_next HT1.out bR
        have HPn := Lib.hid (HP.out.next bR)
        have HBn := Lib.hid (Below.chain HBW.out bR)
        have hRW : w.heap.size ≠ wr.heap.size := by omega
        have HRn : Hid ((wr.alloc (.cells #[.int .u32 (r.sec : Int), .int .u32 (r.frac : Int), .int .u32 (r.len : Int), .slice p r.data.length c] 44)).heap[wr.heap.size]? = some (.cells (rcells r (.slice p r.data.length c)).toArray 44 (0, 0))) := hRn
        have HTn : Hid ((wr.alloc (.cells #[.int .u32 (r.sec : Int), .int .u32 (r.frac : Int), .int .u32 (r.len : Int), .slice p r.data.length c] 44)).heap[w.heap.size]? = some ob) := hTn
        have HPm : Hid (Prts W0 (wr.alloc (.cells #[.int .u32 (r.sec : Int), .int .u32 (r.frac : Int), .int .u32 (r.len : Int), .slice p r.data.length c] 44)) W0.heap.size (.slice av PL.length cv) PL) := HPn.out
        have HBm : Hid (Below W0.heap.size W0 (wr.alloc (.cells #[.int .u32 (r.sec : Int), .int .u32 (r.frac : Int), .int .u32 (r.len : Int), .slice p r.data.length c] 44))) := HBn.out
        clear hRn bR hTn HPn HBn HP HBW HT1
        go_wp2_with (refine wpList_load_mid rfl 44 (.tmp 16) rfl b (off + k * 4) rfl (rcells r (.slice p r.data.length c)) _ HRG.out Tryd.underlying44 rfl (info46r _ _) ?_; simp only [rcells])
        generalize wr.alloc (.cells #[.int .u32 (r.sec : Int), .int .u32 (r.frac : Int), .int .u32 (r.len : Int), .slice p r.data.length c] 44) = W2 at *
        generalize wr.heap.size = R at *
        have hS : W2.drew.heap[w.heap.size]? = some ob ∧ W2.drew.heap[R]? = some (.cells (rcells r (.slice p r.data.length c)).toArray 44 (0, 0)) := ⟨HTn.out, HRn.out⟩
        refine held_start (S := fun W => W.heap[w.heap.size]? = some ob ∧ W.heap[R]? = some (.cells (rcells r (.slice p r.data.length c)).toArray 44 (0, 0))) 20 (by kernel_rfl) rfl ?_
        refine held_take 0 (v := ?_) rfl (by kernel_rfl) (by kernel_rfl) (by kernel_rfl) (fun _ _ _ h => h) (by assumption) (by rfl) ?_ ?_
        rotate_left
        · (intro W hW; go_simp; try with_reducible rfl)
        simp only [Act.put, List.setIfInBounds_toArray, List.set_cons_zero, List.set_cons_succ]
        refine held_take 1 (v := ?_) rfl (by kernel_rfl) (by kernel_rfl) (by kernel_rfl) (fun _ _ _ h => h) (by assumption) (by rfl) ?_ ?_
        rotate_left
        · (intro W hW; go_simp; try with_reducible rfl)
        simp only [Act.put, List.setIfInBounds_toArray, List.set_cons_zero, List.set_cons_succ]
        refine held_take 2 (v := ?_) rfl (by kernel_rfl) (by kernel_rfl) (by kernel_rfl) (fun _ _ _ h => h) (by assumption) (by rfl) ?_ ?_
        rotate_left
        · (intro W hW; (have t0 : W.cell? ⟨w.heap.size, 0, none⟩ = some (.bool m.big) := by subst hob; exact cell_of_row _ _ _ _ _ _ hW.1); clear hW; go_simp; try with_reducible rfl)
        simp only [Act.put, List.setIfInBounds_toArray, List.set_cons_zero, List.set_cons_succ]
        refine held_take 3 (v := ?_) rfl (by kernel_rfl) (by kernel_rfl) (by kernel_rfl) (fun _ _ _ h => h) (by assumption) (by rfl) ?_ ?_
        rotate_left
        · (intro W hW; go_simp; try with_reducible rfl)
        simp only [Act.put, List.setIfInBounds_toArray, List.set_cons_zero, List.set_cons_succ]
        refine held_take 4 (v := ?_) rfl (by kernel_rfl) (by kernel_rfl) (by kernel_rfl) (fun _ _ _ h => h) (by assumption) (by rfl) ?_ ?_
        rotate_left
        · (intro W hW; (have t0 : W.cell? ⟨R, 0, none⟩ = some (.int .u32 (r.sec : Int)) := cell_of_row _ _ _ _ _ _ hW.2); clear hW; go_simp; try with_reducible rfl)
        simp only [Act.put, List.setIfInBounds_toArray, List.set_cons_zero, List.set_cons_succ]
        refine held_take 5 (v := ?_) rfl (by kernel_rfl) (by kernel_rfl) (by kernel_rfl) (fun _ _ _ h => h) (by assumption) (by rfl) ?_ ?_
        rotate_left
        · (intro W hW; go_simp; try with_reducible rfl)
        simp only [Act.put, List.setIfInBounds_toArray, List.set_cons_zero, List.set_cons_succ]
        refine held_take 6 (v := ?_) rfl (by kernel_rfl) (by kernel_rfl) (by kernel_rfl) (fun _ _ _ h => h) (by assumption) (by rfl) ?_ ?_
        rotate_left
        · (intro W hW; (have t0 : W.cell? ⟨R, 1, none⟩ = some (.int .u32 (r.frac : Int)) := cell_of_row _ _ _ _ _ _ hW.2); clear hW; go_simp; try with_reducible rfl)
        simp only [Act.put, List.setIfInBounds_toArray, List.set_cons_zero, List.set_cons_succ]
        refine held_take 7 (v := ?_) rfl (by kernel_rfl) (by kernel_rfl) (by kernel_rfl) (fun _ _ _ h => h) (by assumption) (by rfl) ?_ ?_
        rotate_left
        · (intro W hW; go_simp; try with_reducible rfl)
        simp only [Act.put, List.setIfInBounds_toArray, List.set_cons_zero, List.set_cons_succ]
        refine held_take 8 (v := ?_) rfl (by kernel_rfl) (by kernel_rfl) (by kernel_rfl) (fun _ _ _ h => h) (by assumption) (by rfl) ?_ ?_
        rotate_left
        · (intro W hW; (have t0 : W.cell? ⟨R, 3, none⟩ = some (.slice p r.data.length c) := cell_of_row _ _ _ _ _ _ hW.2); clear hW; go_simp; try with_reducible rfl)
        simp only [Act.put, List.setIfInBounds_toArray, List.set_cons_zero, List.set_cons_succ]
        refine held_take 9 (v := ?_) rfl (by kernel_rfl) (by kernel_rfl) (by kernel_rfl) (fun _ _ _ h => h) (by assumption) (by rfl) ?_ ?_
        rotate_left
        · (intro W hW; go_simp; try with_reducible rfl)
        simp only [Act.put, List.setIfInBounds_toArray, List.set_cons_zero, List.set_cons_succ]
        refine held_take 10 (v := ?_) rfl (by kernel_rfl) (by kernel_rfl) (by kernel_rfl) (fun _ _ _ h => h) (by assumption) (by rfl) ?_ ?_
        rotate_left
        · (intro W hW; go_simp; try with_reducible rfl)
        simp only [Act.put, List.setIfInBounds_toArray, List.set_cons_zero, List.set_cons_succ]
        refine held_take 11 (v := ?_) rfl (by kernel_rfl) (by kernel_rfl) (by kernel_rfl) (fun _ _ _ h => h) (by assumption) (by rfl) ?_ ?_
        rotate_left
        · (intro W hW; go_simp; try with_reducible rfl)
        simp only [Act.put, List.setIfInBounds_toArray, List.set_cons_zero, List.set_cons_succ]
        refine held_take 12 (v := ?_) rfl (by kernel_rfl) (by kernel_rfl) (by kernel_rfl) (fun _ _ _ h => h) (by assumption) (by rfl) ?_ ?_
        rotate_left
        · (intro W hW; (have t0 : W.cell? ⟨R, 2, none⟩ = some (.int .u32 (r.len : Int)) := cell_of_row _ _ _ _ _ _ hW.2); clear hW; go_simp; try with_reducible rfl)
        simp only [Act.put, List.setIfInBounds_toArray, List.set_cons_zero, List.set_cons_succ]
        refine held_take 15 (v := ?_) rfl (by kernel_rfl) (by kernel_rfl) (by kernel_rfl) (fun _ _ _ h => h) (by assumption) (by rfl) ?_ ?_
        rotate_left
        · (intro W hW; go_simp; try with_reducible rfl)
        simp only [Act.put, List.setIfInBounds_toArray, List.set_cons_zero, List.set_cons_succ]
        refine held_take 16 (v := ?_) rfl (by kernel_rfl) (by kernel_rfl) (by kernel_rfl) (fun _ _ _ h => h) (by assumption) (by rfl) ?_ ?_
        rotate_left
        · (intro W hW; (have t0 : W.cell? ⟨R, 3, none⟩ = some (.slice p r.data.length c) := cell_of_row _ _ _ _ _ _ hW.2); clear hW; go_simp; try with_reducible rfl)
        simp only [Act.put, List.setIfInBounds_toArray, List.set_cons_zero, List.set_cons_succ]
        have bd : Below W2.heap.size W2 W2.drew := (Below.refl _ _).drew
        have hPd := HPm.out.next bd
        have hBd := Below.chain HBm.out bd
        clear HPm HBm bd HTn HRn
        generalize W2.drew = W3 at *
        have bA : Below W3.heap.size W3 (W3.alloc (.cells #[.int .u32 (r.sec : Int), .int .u32 (r.frac : Int), .int .u32 (r.data.length : Int), .int .u32 (r.len : Int)] 23)) := (Below.refl _ _).alloc (Nat.le_refl _) _
        have hgA : (W3.alloc (.cells #[.int .u32 (r.sec : Int), .int .u32 (r.frac : Int), .int .u32 (r.data.length : Int), .int .u32 (r.len : Int)] 23)).heap[W3.heap.size]? = some (.cells (wcells [r.sec, r.frac, r.data.length, r.len]).toArray 23 (0, 0)) := heap_alloc_new W3 _
        refine held_makes 13 (v := .slice (some ⟨W3.heap.size, 0, none⟩) 4 4) (w' := W3.alloc (.cells #[.int .u32 (r.sec : Int), .int .u32 (r.frac : Int), .int .u32 (r.data.length : Int), .int .u32 (r.len : Int)] 23)) rfl (by kernel_rfl) (by rfl) (by go_simp) ⟨block_next hS.1 bA, block_next hS.2 bA⟩ ?_
        simp only [Act.put, List.setIfInBounds_toArray, List.set_cons_zero, List.set_cons_succ]
        have hS4 := And.intro (block_next hS.1 bA) (block_next hS.2 bA)
        have hP4 := hPd.next bA
        have hB4 := Below.chain hBd bA
        clear hS hPd hBd bA
        generalize W3.alloc (.cells #[.int .u32 (r.sec : Int), .int .u32 (r.frac : Int), .int .u32 (r.data.length : Int), .int .u32 (r.len : Int)] 23) = W4 at *
        generalize W3.heap.size = g4 at *
        refine held_call 14 (f := 52) (args := #[.bool m.big, .int .i64 4, .slice (some ⟨g4, 0, none⟩) 4 4]) rfl (by kernel_rfl) (by rfl) (by go_simp) ?_
        refine (numbers_put [r.sec, r.frac, r.data.length, r.len] 4 4 m.big g4 W4 rfl (by omega) (by omega) (by omega) HNN.out hgA).mono ?_
        rintro e W5 ⟨v5, rfl, o5, b5⟩
        rw [HNU.out, hnl] at o5
        have hS5 := And.intro (block_next hS4.1 b5) (block_next hS4.2 b5)
        refine ⟨_, rfl, hS5, ?_⟩
        simp only [Act.put, List.setIfInBounds_toArray, List.set_cons_zero, List.set_cons_succ]
        have hP5 := hP4.next b5
        have hB5 := Below.chain hB4 b5
        have hpt := part_own (w0 := W0) hnl (ownsRow_lower o5 hB4.size)
        obtain ⟨p5, c5, rfl⟩ := own_slice o5
        have hpt2 : PartIs W0 W5 W0.heap.size (.slice p r.data.length c) r.data := ⟨p, c, rfl, .inl HR0.out⟩
        have hnew := news_two hpt hpt2
        have bC : Below W5.heap.size W5 (W5.alloc (.cells #[.slice p5 16 c5, .slice p r.data.length c] 28)) := (Below.refl _ _).alloc (Nat.le_refl _) _
        refine held_makes 17 (v := .slice (some ⟨W5.heap.size, 0, none⟩) 2 2) (w' := W5.alloc (.cells #[.slice p5 16 c5, .slice p r.data.length c] 28)) rfl (by kernel_rfl) (by rfl) (by go_simp) ⟨block_next hS5.1 bC, block_next hS5.2 bC⟩ ?_
        simp only [Act.put, List.setIfInBounds_toArray, List.set_cons_zero, List.set_cons_succ]
        have hS6 := And.intro (block_next hS5.1 bC) (block_next hS5.2 bC)
        have hP6 := hP5.next bC
        have hB6 := Below.chain hB5 bC
        clear hP5 hB5 hS5 bC hpt hpt2 o5 b5 hP4 hB4 hS4 hgA
        generalize W5.alloc (.cells #[.slice p5 16 c5, .slice p r.data.length c] 28) = W6 at *
        generalize W5.heap.size = g6 at *
        rw [HPL.out] at hP6
        refine held_one 18 rfl (by kernel_rfl) (by rfl) ?_
        refine wp_append_prts (.tmp 22) (.tmp 39) rfl W0.heap.size g6 (.slice av (1 + 2 * k) cv) PL [NB, r.data] rfl rfl hP6 hnew hB6.size (by rw [HPL.out]; simp; omega) ?_
        intro v7 W7 p7 g7 blk7
        have b7 : Below W0.heap.size W0 W7 := Below.grown hB6 g7 hB6.size blk7
        have hT7 := block_next T0.out b7
        have hS7 := And.intro hT7 (prts_kept hP6 g7 hS6.2)
        refine ⟨hS7, ?_⟩
        simp only [Act.put, List.setIfInBounds_toArray, List.set_cons_zero, List.set_cons_succ]
        refine held_take 19 (v := ?_) rfl (by kernel_rfl) (by kernel_rfl) (by kernel_rfl) (fun _ _ _ h => h) (by assumption) (by rfl) ?_ ?_
        rotate_left
        · (intro W hW; go_simp; try with_reducible rfl)
        simp only [Act.put, List.setIfInBounds_toArray, List.set_cons_zero, List.set_cons_succ]
        refine held_done (by kernel_rfl) ?_
        have HP7 := Lib.hid p7
        have HB7 := Lib.hid b7
        clear p7 b7 hT7 hS7 hS6 hP6 hB6 hnew g7 blk7
        go_wp2
        go_roundw
        case rel => exact ⟨k + 1, by simp, by omega, HST.out (by omega), by rw [HPS.out]; exact HP7.out, HB7.out⟩
        case measure => simp [intOf]; omega
    · have hkn : k = n := by omega
      subst hkn
      rw [List.take_of_length_le (by rw [Hn.out]; exact Nat.le_refl _)] at hp hpl hsm ⊢
      obtain ⟨a1, d1, e1, hpa⟩ := hp.parts hbw
      simp only [Value.slice.injEq, true_and] at e1
      obtain ⟨rfl, rfl⟩ := e1
      have c22 := join_at av _ cv _ F wr rfl HF.out (by rw [hpl]; omega) hFl hpa
      rw [hpl] at c22 ⊢
      have C := Lib.hid c22
      have HB := Lib.hid hbw
      have hws := hbw.size
      have HSM := Lib.hid hsm
      clear c22 hpa hp hbw hpl hsm
      go_wp2_with fail
      refine C.out.mono ?_
      rintro e w2 ⟨v2, rfl, o2, b2⟩
      have O2 := Lib.hid (ownsRow_lower (base' := w.heap.size) o2 (by omega))
      have B3 := Lib.hid (Below.trans B0.out ((Below.chain HB.out b2).mono (by omega)))
      clear o2 b2
      go_wp2
      go_ret2
      exact P1.out _ _ B3.out HSM.out O2.out
end Go.Proofs.YtbbnkmhlgfoacaaDoor.S9

namespace Go.Proofs.YtbbnkmhlgfoacaaDoor.S9
open Go.RowKit

theorem refGet_at (a : Option Addr) (n cap : Nat) (xs : List UInt8) (big : Bool) (w : World) (hn : xs.length = n) (h1 : 1 ≤ n) (h8 : n ≤ 8) (h : BytesAt w a xs) :
    Calls Tryd.prog 46 #[.slice a n cap, .bool big] w fun e w' => e = .returned (.int .u64 (Oc.get xs big : Nat)) ∧ w' = w := by
  subst hn
  rcases h with rfl | ⟨b, off, rfl, hb, hc⟩
  · simp at h1
  · exact refGet_some b off cap xs big w h8 hc

theorem refNum_any (a : Option Addr) (n cap : Nat) (xs : List UInt8) (k : Nat) (big : Bool) (w : World) (hn : xs.length = n) (hm : n ≤ 300000) (hk : k + 4 ≤ n) (h : RowAt w a cap xs) :
    Calls Tryd.prog 47 #[.slice a n cap, .int .i64 (k : Int), .bool big] w fun e w' => e = .returned (.int .u32 (Pc.num xs k big : Nat)) ∧ w' = w := by
  have hle := h.le
  rw [hn] at hle
  have hcut := h.cut k (k + 4) (by omega) (by omega)
  rw [if_neg (by omega), List.drop_take, Nat.add_sub_cancel_left] at hcut
  have hl : ((xs.drop k).take 4).length = 4 := by simp; omega
  have hlt := Pc.num_lt xs k big
  have e1 : Pc.num xs k big = Oc.get ((xs.drop k).take 4) big := rfl
  rw [e1] at hlt ⊢
  generalize (xs.drop k).take 4 = ys at *
  have c27 := refGet_at _ 4 (cap - k) ys big w hl (by omega) (by omega) hcut.bytes
  have hw : IntKind.u32.wrap ((Oc.get ys big : Nat) : Int) = ((Oc.get ys big : Nat) : Int) := by rw [IntKind.wrap_u32]; omega
  generalize Oc.get ys big = v at *
  have C27 := Lib.hid c27
  have j1 : ¬ (cap : Int) = (k : Int) := by omega
  have j2 : ¬ cap = k := by omega
  have j3 : (k : Int) + 4 ≤ (cap : Int) := by omega
  have j4 : (k : Int) ≤ (k : Int) + 4 := by omega
  have j5 : (k : Int) ≤ 300000 := by omega
  clear c27 hcut h e1
  go_enter Tryd.func47, Tryd.ntmps47
  go_wp2_with fail
  refine C27.out.mono ?_
  rintro e w1 ⟨rfl, h1⟩
  rw [h1]
  clear h1
  go_wp2
  go_ret
  exact ⟨ret_u32 (by first | rfl | omega), rfl⟩

/-- A slice of one's own, its bytes, and nothing else changed from B on. -/
theorem four_any (B : Nat) (v : Value) (n : Nat) (xs : List UInt8) (x : Nat) (big : Bool) (w0 w : World) (hn : xs.length = n) (hm : n ≤ 300000) (hx : x < 4294967296) (ho : w.ownsRow B 5 1 v n (Lib.byteCells xs)) (hB : B ≤ w.heap.size) (hw : Below B w0 w) :
    Calls Tryd.prog 25 #[v, .int .u32 (x : Int), .bool big] w fun e w' => ∃ v', e = .returned v' ∧ w'.ownsRow B 5 1 v' (n + 4) (Lib.byteCells (xs ++ Oc.put x 4 big)) ∧ B ≤ w'.heap.size ∧ Below B w0 w' := by
  have c32 := refPut_any x 4 big w (by omega) (by omega)
  have hl := Oc.put_length x 4 big
  generalize Oc.put x 4 big = ys at *
  obtain ⟨p, c, rfl⟩ := own_slice ho
  have hu : IntKind.u64.wrap (x : Int) = (x : Int) := by rw [IntKind.wrap_u64]; omega
  have C32 := Lib.hid c32
  have O := Lib.hid ho
  have W := Lib.hid hw
  have Hl := Lib.hid hl
  clear c32 ho hw hl
  go_enter Tryd.func25, Tryd.ntmps25
  go_wp2_with fail
  refine C32.out.mono ?_
  rintro e w1 ⟨v1, rfl, o1, b1⟩
  obtain ⟨p1, c1, rfl, r1⟩ := rowAt_own Hl.out o1
  have O1 := Lib.hid (ownsRow_next O.out b1)
  have R1 := Lib.hid r1
  have W1 := Lib.hid (W.out.trans (b1.mono hB))
  have hB1 := Nat.le_trans hB b1.size
  clear o1 r1 b1 C32
  go_wp2_with (at_builtin; refine wpList_append_row rfl (.tmp 7) (.tmp 11) rfl B (.slice p n c) n _ rfl O1.out p1 4 c1 ys rfl Hl.out R1.out (by omega) hB1 ?_; intro v2 w2 o2 g2)
  go_ret
  refine ⟨v2, rfl, by rw [Lib.byteCells_append]; exact o2, Nat.le_trans hB1 g2.size, Below.grown W1.out g2 hB1 (fun k hk => (O1.out.lt k hk).1)⟩
end Go.Proofs.YtbbnkmhlgfoacaaDoor.S9

namespace Go.Proofs.YtbbnkmhlgfoacaaDoor.S9
open Go.RowKit

theorem Pc.put_zero (big : Bool) : Oc.put 0 4 big = [0, 0, 0, 0] := by cases big <;> decide +kernel
theorem Pc.hbytes_eq (m : Pc.Hdr) : ((((([] ++ Oc.put (Pc.mark m.nano) 4 m.big) ++ Oc.put 2 2 m.big) ++ Oc.put 4 2 m.big) ++ [0, 0, 0, 0, 0, 0, 0, 0]) ++ Oc.put m.snap 4 m.big) ++ Oc.put m.link 4 m.big = Pc.hbytes m := by
  simp [Pc.hbytes, Pc.hparts, Pc.nums, Pc.put_zero]
theorem step_len {a b : List UInt8} {n k : Nat} (h1 : a.length = n) (h2 : b.length = k) : (a ++ b).length = n + k := by rw [List.length_append, h1, h2]

/-- Bytes that were made since W0, and nothing else changed. -/
structure Own (W0 W : World) (p : Option Addr) (n c : Nat) (xs : List UInt8) : Prop where
  len : xs.length = n
  own : W.ownsRow W0.heap.size 5 1 (.slice p n c) n (Lib.byteCells xs)
  bel : Below W0.heap.size W0 W
theorem Own.next {W0 W W' : World} {p : Option Addr} {n c : Nat} {xs : List UInt8} (h : Own W0 W p n c xs) (b : Below W.heap.size W W') : Own W0 W' p n c xs := ⟨h.len, ownsRow_next h.own b, Below.chain h.bel b⟩
theorem own_nil (W0 : World) : Own W0 W0 none 0 0 [] := ⟨rfl, World.ownsRow_nil _ _ _ _, Below.refl _ _⟩
theorem Own.row {W0 W : World} {p : Option Addr} {n c : Nat} {xs : List UInt8} (h : Own W0 W p n c xs) : RowAt W p c xs := by
  obtain ⟨p', c', e, hr⟩ := rowAt_own h.len h.own
  simp only [Value.slice.injEq, true_and] at e
  obtain ⟨rfl, rfl⟩ := e
  exact hr
theorem four_own (p : Option Addr) (n c k : Nat) (xs : List UInt8) (x : Nat) (big : Bool) (W0 w : World) (hk : n + 4 = k) (hm : n ≤ 300000) (hx : x < 4294967296) (h : Own W0 w p n c xs) :
    Calls Tryd.prog 25 #[.slice p n c, .int .u32 (x : Int), .bool big] w fun e w' => ∃ p' c', e = .returned (.slice p' k c') ∧ Own W0 w' p' k c' (xs ++ Oc.put x 4 big) := by
  subst hk
  refine (four_any W0.heap.size (.slice p n c) n xs x big W0 w h.len hm hx h.own h.bel.size h.bel).mono ?_
  rintro e w1 ⟨v1, rfl, o1, s1, b1⟩
  obtain ⟨p1, d1, rfl⟩ := own_slice o1
  exact ⟨p1, d1, rfl, step_len h.len (Oc.put_length _ _ _), o1, b1⟩
theorem wpList_append_mine {W0 w : World} {ops : Array Oper} {rest : List Oper} {o : Oper} {a : Act} {Q : Exit → Act → World → Prop} (hgd : o.guard = none) (s x : Operand)
    (ho : o.op = .call { callee := .builtin .append, args := #[s, x], argTypes := #[28, 28] })
    (p : Option Addr) (n c k : Nat) (xs : List UInt8) (hs : a.eval s = .slice p n c) (hO : Own W0 w p n c xs)
    (q : Option Addr) (m d : Nat) (ys : List UInt8) (hx : a.eval x = .slice q m d) (hm : ys.length = m) (hrow : RowAt w q d ys) (hk : n + m = k) (h63 : k ≤ 1000000)
    (h : ∀ p' c' w', Own W0 w' p' k c' (xs ++ ys) → wpList Tryd.prog ops Q rest (a.put o.dst (.slice p' k c')) w') : wpList Tryd.prog ops Q (o :: rest) a w := by
  subst hk
  refine wpList_append_row hgd s x ho W0.heap.size (.slice p n c) n _ hs hO.own q m d ys hx hm hrow h63 hO.bel.size ?_
  intro v' w' o2 g2
  obtain ⟨p', c', rfl⟩ := own_slice o2
  exact h p' c' w' ⟨step_len hO.len hm, by rw [Lib.byteCells_append]; exact o2, Below.grown hO.bel g2 hO.bel.size (fun k hk => (hO.own.lt k hk).1)⟩
theorem rowAt_zeros (w : World) : RowAt (w.alloc (.cells #[.int .u8 0, .int .u8 0, .int .u8 0, .int .u8 0, .int .u8 0, .int .u8 0, .int .u8 0, .int .u8 0] 5)) (some ⟨w.heap.size, 0, none⟩) 8 [0, 0, 0, 0, 0, 0, 0, 0] := rowAt_built w [0, 0, 0, 0, 0, 0, 0, 0] 8 _ rfl (by simp [Lib.byteCells]) (by omega) _

set_option maxRecDepth 100000 in
set_option maxHeartbeats 2000000 in
theorem header_any (m : Pc.Hdr) (w : World) (hm : m.Ok) :
    Calls Tryd.prog 24 #[.agg (hcells m).toArray] w fun e w' => ∃ v, e = .returned v ∧ w'.ownsRow w.heap.size 5 1 v 24 (Lib.byteCells (Pc.hbytes m)) ∧ Below w.heap.size w w' := by
  obtain ⟨F, hF⟩ : ∃ F, Pc.hbytes m = F := ⟨_, rfl⟩
  have hE := Pc.hbytes_eq m
  rw [hF] at hE ⊢
  obtain ⟨x, hx⟩ : ∃ x, Pc.mark m.nano = x := ⟨_, rfl⟩
  have hx4 := Pc.mark_lt m.nano
  rw [hx] at hx4 hE
  have HX : Hid ((if m.nano then (2712812621 : Int) else 2712847316) = (x : Int)) := by show _ = _; rw [← hx]; cases m.nano <;> rfl
  have hsn := hm.snap
  have hln := hm.link
  obtain ⟨big, nano, snap, link⟩ := m
  simp only at hsn hln HX hE
  have HE := Lib.hid hE
  obtain ⟨ob, hob⟩ : ∃ ob, ob = Obj.cells (hcells ⟨big, nano, snap, link⟩).toArray 39 (0, 0) := ⟨_, rfl⟩
  have b0 : Below w.heap.size w (w.alloc (.cells #[.bool big, .bool nano, .int .u32 (snap : Int), .int .u32 (link : Int)] 39)) := (Below.refl _ _).alloc (Nat.le_refl _) _
  have hT0 : (w.alloc (.cells #[.bool big, .bool nano, .int .u32 (snap : Int), .int .u32 (link : Int)] 39)).heap[w.heap.size]? = some ob := by rw [hob]; exact heap_alloc_new w _
  have B0 := Lib.hid b0
  have T0 := Lib.hid hT0
  clear hF hx hm hE b0 hT0
  cases nano
  · skip
    have hxi : (2712847316 : Int) = (x : Int) := HX.out
    have HXI := Lib.hid hxi
    clear HX hxi
    go_enter Tryd.func24, Tryd.ntmps24
    simp only [hcells]
    go_wp2_with fail
    generalize w.alloc (.cells #[.bool big, .bool false, .int .u32 (snap : Int), .int .u32 (link : Int)] 39) = W0 at *
    rw [HXI.out]
    have TC : Hid (∀ W, Below W0.heap.size W0 W → W.cell? ⟨w.heap.size, 0, none⟩ = some (.bool big)) := fun W b => by have := block_next T0.out b; subst hob; exact cell_of_row _ _ _ _ _ _ this
    refine (four_own none 0 0 4 [] x big W0 W0 rfl (by omega) hx4 (own_nil W0)).mono ?_
    rintro e w1 ⟨p1, d1, rfl, o1⟩
    have t1 := TC.out _ o1.bel
    have O1 := Lib.hid o1
    clear o1
    go_wp2_with fail
    refine (refPut_any 2 2 big w1 (by omega) (by omega)).mono ?_
    rintro e w2 ⟨v2, rfl, o2, b2⟩
    have L2 := Oc.put_length 2 2 big
    obtain ⟨p2, d2, rfl, r2⟩ := rowAt_own L2 o2
    have O2 := Lib.hid (O1.out.next b2)
    have R2 := Lib.hid r2
    clear o2 r2 b2 O1 t1
    go_wp2_with (at_builtin; refine wpList_append_mine rfl (.tmp 11) (.tmp 14) rfl p1 4 d1 6 _ rfl O2.out p2 2 d2 (Oc.put 2 2 big) rfl L2 R2.out rfl (by omega) ?_; intro p3 d3 w3 o3; have t3 := TC.out _ o3.bel; have O3 := Lib.hid o3; clear o3)
    refine (refPut_any 4 2 big w3 (by omega) (by omega)).mono ?_
    rintro e w4 ⟨v4, rfl, o4, b4⟩
    have L4 := Oc.put_length 4 2 big
    obtain ⟨p4, d4, rfl, r4⟩ := rowAt_own L4 o4
    have O4 := Lib.hid (O3.out.next b4)
    have R4 := Lib.hid r4
    clear o4 r4 b4 O3 t3 O2 R2
    go_wp2_with (first | (at_builtin; refine wpList_append_mine rfl (.tmp 16) (.tmp 19) rfl p3 6 d3 8 _ rfl O4.out p4 2 d4 (Oc.put 4 2 big) rfl L4 R4.out rfl (by omega) ?_; intro p5 d5 w5 o5; have O5 := Lib.hid o5; clear o5) | (at_builtin; refine wpList_append_mine rfl (.tmp 21) (.tmp 22) rfl p5 8 d5 16 _ rfl (O5.out.next ((Below.refl _ _).alloc (Nat.le_refl _) _)) _ 8 8 [0, 0, 0, 0, 0, 0, 0, 0] rfl rfl (rowAt_zeros _) rfl (by omega) ?_; intro p6 d6 w6 o6; have O6 := Lib.hid o6; clear o6))
    have hS : w6.drew.heap[w.heap.size]? = some ob := block_next T0.out O6.out.bel.drew
    refine held_start (S := fun W => W.heap[w.heap.size]? = some ob) 12 (by kernel_rfl) rfl ?_
    refine held_take 0 (v := ?_) rfl (by kernel_rfl) (by kernel_rfl) (by kernel_rfl) (fun _ _ _ h => h) (by assumption) (by rfl) ?_ ?_
    rotate_left
    · (intro W hW; go_simp; try with_reducible rfl)
    simp only [Act.put, List.setIfInBounds_toArray, List.set_cons_zero, List.set_cons_succ]
    refine held_take 1 (v := ?_) rfl (by kernel_rfl) (by kernel_rfl) (by kernel_rfl) (fun _ _ _ h => h) (by assumption) (by rfl) ?_ ?_
    rotate_left
    · (intro W hW; go_simp; try with_reducible rfl)
    simp only [Act.put, List.setIfInBounds_toArray, List.set_cons_zero, List.set_cons_succ]
    refine held_take 2 (v := ?_) rfl (by kernel_rfl) (by kernel_rfl) (by kernel_rfl) (fun _ _ _ h => h) (by assumption) (by rfl) ?_ ?_
    rotate_left
    · (intro W hW; (have t0 : W.cell? ⟨w.heap.size, 2, none⟩ = some (.int .u32 (snap : Int)) := by subst hob; exact cell_of_row _ _ _ _ _ _ hW); clear hW; go_simp; try with_reducible rfl)
    simp only [Act.put, List.setIfInBounds_toArray, List.set_cons_zero, List.set_cons_succ]
    refine held_take 3 (v := ?_) rfl (by kernel_rfl) (by kernel_rfl) (by kernel_rfl) (fun _ _ _ h => h) (by assumption) (by rfl) ?_ ?_
    rotate_left
    · (intro W hW; go_simp; try with_reducible rfl)
    simp only [Act.put, List.setIfInBounds_toArray, List.set_cons_zero, List.set_cons_succ]
    refine held_take 4 (v := ?_) rfl (by kernel_rfl) (by kernel_rfl) (by kernel_rfl) (fun _ _ _ h => h) (by assumption) (by rfl) ?_ ?_
    rotate_left
    · (intro W hW; (have t0 : W.cell? ⟨w.heap.size, 0, none⟩ = some (.bool big) := by subst hob; exact cell_of_row _ _ _ _ _ _ hW); clear hW; go_simp; try with_reducible rfl)
    simp only [Act.put, List.setIfInBounds_toArray, List.set_cons_zero, List.set_cons_succ]
    refine held_take 6 (v := ?_) rfl (by kernel_rfl) (by kernel_rfl) (by kernel_rfl) (fun _ _ _ h => h) (by assumption) (by rfl) ?_ ?_
    rotate_left
    · (intro W hW; go_simp; try with_reducible rfl)
    simp only [Act.put, List.setIfInBounds_toArray, List.set_cons_zero, List.set_cons_succ]
    refine held_take 7 (v := ?_) rfl (by kernel_rfl) (by kernel_rfl) (by kernel_rfl) (fun _ _ _ h => h) (by assumption) (by rfl) ?_ ?_
    rotate_left
    · (intro W hW; (have t0 : W.cell? ⟨w.heap.size, 3, none⟩ = some (.int .u32 (link : Int)) := by subst hob; exact cell_of_row _ _ _ _ _ _ hW); clear hW; go_simp; try with_reducible rfl)
    simp only [Act.put, List.setIfInBounds_toArray, List.set_cons_zero, List.set_cons_succ]
    refine held_take 8 (v := ?_) rfl (by kernel_rfl) (by kernel_rfl) (by kernel_rfl) (fun _ _ _ h => h) (by assumption) (by rfl) ?_ ?_
    rotate_left
    · (intro W hW; go_simp; try with_reducible rfl)
    simp only [Act.put, List.setIfInBounds_toArray, List.set_cons_zero, List.set_cons_succ]
    refine held_take 9 (v := ?_) rfl (by kernel_rfl) (by kernel_rfl) (by kernel_rfl) (fun _ _ _ h => h) (by assumption) (by rfl) ?_ ?_
    rotate_left
    · (intro W hW; (have t0 : W.cell? ⟨w.heap.size, 0, none⟩ = some (.bool big) := by subst hob; exact cell_of_row _ _ _ _ _ _ hW); clear hW; go_simp; try with_reducible rfl)
    simp only [Act.put, List.setIfInBounds_toArray, List.set_cons_zero, List.set_cons_succ]
    refine held_call 5 (f := 25) (args := #[.slice p6 16 d6, .int .u32 (snap : Int), .bool big]) rfl (by kernel_rfl) (by rfl) (by go_simp) ?_
    refine (four_own p6 16 d6 20 _ snap big W0 _ rfl (by omega) hsn (O6.out.next ((Below.refl _ _).drew))).mono ?_
    rintro e w7 ⟨p7, d7, rfl, o7⟩
    have hS7 : w7.heap[w.heap.size]? = some ob := block_next T0.out o7.bel
    refine ⟨_, rfl, hS7, ?_⟩
    simp only [Act.put, List.setIfInBounds_toArray, List.set_cons_zero, List.set_cons_succ]
    refine held_call 10 (f := 25) (args := #[.slice p7 20 d7, .int .u32 (link : Int), .bool big]) rfl (by kernel_rfl) (by rfl) (by go_simp) ?_
    refine (four_own p7 20 d7 24 _ link big W0 _ rfl (by omega) hln o7).mono ?_
    rintro e w8 ⟨p8, d8, rfl, o8⟩
    have hS8 : w8.heap[w.heap.size]? = some ob := block_next T0.out o8.bel
    refine ⟨_, rfl, hS8, ?_⟩
    simp only [Act.put, List.setIfInBounds_toArray, List.set_cons_zero, List.set_cons_succ]
    refine held_take 11 (v := ?_) rfl (by kernel_rfl) (by kernel_rfl) (by kernel_rfl) (fun _ _ _ h => h) (by assumption) (by rfl) ?_ ?_
    rotate_left
    · (intro W hW; go_simp; try with_reducible rfl)
    simp only [Act.put, List.setIfInBounds_toArray, List.set_cons_zero, List.set_cons_succ]
    refine held_done (by kernel_rfl) ?_
    have hsz := B0.out.size
    have O8 := Lib.hid o8
    clear hS hS7 o7 o8 hS8
    go_wp2
    go_ret
    exact ⟨_, rfl, by have := O8.out.own; rw [HE.out] at this; exact ownsRow_lower this hsz, Below.trans B0.out (O8.out.bel.mono hsz)⟩
  · skip
    have hxi : (2712812621 : Int) = (x : Int) := HX.out
    have HXI := Lib.hid hxi
    clear HX hxi
    go_enter Tryd.func24, Tryd.ntmps24
    simp only [hcells]
    go_wp2_with fail
    generalize w.alloc (.cells #[.bool big, .bool true, .int .u32 (snap : Int), .int .u32 (link : Int)] 39) = W0 at *
    rw [HXI.out]
    have TC : Hid (∀ W, Below W0.heap.size W0 W → W.cell? ⟨w.heap.size, 0, none⟩ = some (.bool big)) := fun W b => by have := block_next T0.out b; subst hob; exact cell_of_row _ _ _ _ _ _ this
    refine (four_own none 0 0 4 [] x big W0 W0 rfl (by omega) hx4 (own_nil W0)).mono ?_
    rintro e w1 ⟨p1, d1, rfl, o1⟩
    have t1 := TC.out _ o1.bel
    have O1 := Lib.hid o1
    clear o1
    go_wp2_with fail
    refine (refPut_any 2 2 big w1 (by omega) (by omega)).mono ?_
    rintro e w2 ⟨v2, rfl, o2, b2⟩
    have L2 := Oc.put_length 2 2 big
    obtain ⟨p2, d2, rfl, r2⟩ := rowAt_own L2 o2
    have O2 := Lib.hid (O1.out.next b2)
    have R2 := Lib.hid r2
    clear o2 r2 b2 O1 t1
    go_wp2_with (at_builtin; refine wpList_append_mine rfl (.tmp 11) (.tmp 14) rfl p1 4 d1 6 _ rfl O2.out p2 2 d2 (Oc.put 2 2 big) rfl L2 R2.out rfl (by omega) ?_; intro p3 d3 w3 o3; have t3 := TC.out _ o3.bel; have O3 := Lib.hid o3; clear o3)
    refine (refPut_any 4 2 big w3 (by omega) (by omega)).mono ?_
    rintro e w4 ⟨v4, rfl, o4, b4⟩
    have L4 := Oc.put_length 4 2 big
    obtain ⟨p4, d4, rfl, r4⟩ := rowAt_own L4 o4
    have O4 := Lib.hid (O3.out.next b4)
    have R4 := Lib.hid r4
    clear o4 r4 b4 O3 t3 O2 R2
    go_wp2_with (first | (at_builtin; refine wpList_append_mine rfl (.tmp 16) (.tmp 19) rfl p3 6 d3 8 _ rfl O4.out p4 2 d4 (Oc.put 4 2 big) rfl L4 R4.out rfl (by omega) ?_; intro p5 d5 w5 o5; have O5 := Lib.hid o5; clear o5) | (at_builtin; refine wpList_append_mine rfl (.tmp 21) (.tmp 22) rfl p5 8 d5 16 _ rfl (O5.out.next ((Below.refl _ _).alloc (Nat.le_refl _) _)) _ 8 8 [0, 0, 0, 0, 0, 0, 0, 0] rfl rfl (rowAt_zeros _) rfl (by omega) ?_; intro p6 d6 w6 o6; have O6 := Lib.hid o6; clear o6))
    have hS : w6.drew.heap[w.heap.size]? = some ob := block_next T0.out O6.out.bel.drew
    refine held_start (S := fun W => W.heap[w.heap.size]? = some ob) 12 (by kernel_rfl) rfl ?_
    refine held_take 0 (v := ?_) rfl (by kernel_rfl) (by kernel_rfl) (by kernel_rfl) (fun _ _ _ h => h) (by assumption) (by rfl) ?_ ?_
    rotate_left
    · (intro W hW; go_simp; try with_reducible rfl)
    simp only [Act.put, List.setIfInBounds_toArray, List.set_cons_zero, List.set_cons_succ]
    refine held_take 1 (v := ?_) rfl (by kernel_rfl) (by kernel_rfl) (by kernel_rfl) (fun _ _ _ h => h) (by assumption) (by rfl) ?_ ?_
    rotate_left
    · (intro W hW; go_simp; try with_reducible rfl)
    simp only [Act.put, List.setIfInBounds_toArray, List.set_cons_zero, List.set_cons_succ]
    refine held_take 2 (v := ?_) rfl (by kernel_rfl) (by kernel_rfl) (by kernel_rfl) (fun _ _ _ h => h) (by assumption) (by rfl) ?_ ?_
    rotate_left
    · (intro W hW; (have t0 : W.cell? ⟨w.heap.size, 2, none⟩ = some (.int .u32 (snap : Int)) := by subst hob; exact cell_of_row _ _ _ _ _ _ hW); clear hW; go_simp; try with_reducible rfl)
    simp only [Act.put, List.setIfInBounds_toArray, List.set_cons_zero, List.set_cons_succ]
    refine held_take 3 (v := ?_) rfl (by kernel_rfl) (by kernel_rfl) (by kernel_rfl) (fun _ _ _ h => h) (by assumption) (by rfl) ?_ ?_
    rotate_left
    · (intro W hW; go_simp; try with_reducible rfl)
    simp only [Act.put, List.setIfInBounds_toArray, List.set_cons_zero, List.set_cons_succ]
    refine held_take 4 (v := ?_) rfl (by kernel_rfl) (by kernel_rfl) (by kernel_rfl) (fun _ _ _ h => h) (by assumption) (by rfl) ?_ ?_
    rotate_left
    · (intro W hW; (have t0 : W.cell? ⟨w.heap.size, 0, none⟩ = some (.bool big) := by subst hob; exact cell_of_row _ _ _ _ _ _ hW); clear hW; go_simp; try with_reducible rfl)
    simp only [Act.put, List.setIfInBounds_toArray, List.set_cons_zero, List.set_cons_succ]
    refine held_take 6 (v := ?_) rfl (by kernel_rfl) (by kernel_rfl) (by kernel_rfl) (fun _ _ _ h => h) (by assumption) (by rfl) ?_ ?_
    rotate_left
    · (intro W hW; go_simp; try with_reducible rfl)
    simp only [Act.put, List.setIfInBounds_toArray, List.set_cons_zero, List.set_cons_succ]
    refine held_take 7 (v := ?_) rfl (by kernel_rfl) (by kernel_rfl) (by kernel_rfl) (fun _ _ _ h => h) (by assumption) (by rfl) ?_ ?_
    rotate_left
    · (intro W hW; (have t0 : W.cell? ⟨w.heap.size, 3, none⟩ = some (.int .u32 (link : Int)) := by subst hob; exact cell_of_row _ _ _ _ _ _ hW); clear hW; go_simp; try with_reducible rfl)
    simp only [Act.put, List.setIfInBounds_toArray, List.set_cons_zero, List.set_cons_succ]
    refine held_take 8 (v := ?_) rfl (by kernel_rfl) (by kernel_rfl) (by kernel_rfl) (fun _ _ _ h => h) (by assumption) (by rfl) ?_ ?_
    rotate_left
    · (intro W hW; go_simp; try with_reducible rfl)
    simp only [Act.put, List.setIfInBounds_toArray, List.set_cons_zero, List.set_cons_succ]
    refine held_take 9 (v := ?_) rfl (by kernel_rfl) (by kernel_rfl) (by kernel_rfl) (fun _ _ _ h => h) (by assumption) (by rfl) ?_ ?_
    rotate_left
    · (intro W hW; (have t0 : W.cell? ⟨w.heap.size, 0, none⟩ = some (.bool big) := by subst hob; exact cell_of_row _ _ _ _ _ _ hW); clear hW; go_simp; try with_reducible rfl)
    simp only [Act.put, List.setIfInBounds_toArray, List.set_cons_zero, List.set_cons_succ]
    refine held_call 5 (f := 25) (args := #[.slice p6 16 d6, .int .u32 (snap : Int), .bool big]) rfl (by kernel_rfl) (by rfl) (by go_simp) ?_
    refine (four_own p6 16 d6 20 _ snap big W0 _ rfl (by omega) hsn (O6.out.next ((Below.refl _ _).drew))).mono ?_
    rintro e w7 ⟨p7, d7, rfl, o7⟩
    have hS7 : w7.heap[w.heap.size]? = some ob := block_next T0.out o7.bel
    refine ⟨_, rfl, hS7, ?_⟩
    simp only [Act.put, List.setIfInBounds_toArray, List.set_cons_zero, List.set_cons_succ]
    refine held_call 10 (f := 25) (args := #[.slice p7 20 d7, .int .u32 (link : Int), .bool big]) rfl (by kernel_rfl) (by rfl) (by go_simp) ?_
    refine (four_own p7 20 d7 24 _ link big W0 _ rfl (by omega) hln o7).mono ?_
    rintro e w8 ⟨p8, d8, rfl, o8⟩
    have hS8 : w8.heap[w.heap.size]? = some ob := block_next T0.out o8.bel
    refine ⟨_, rfl, hS8, ?_⟩
    simp only [Act.put, List.setIfInBounds_toArray, List.set_cons_zero, List.set_cons_succ]
    refine held_take 11 (v := ?_) rfl (by kernel_rfl) (by kernel_rfl) (by kernel_rfl) (fun _ _ _ h => h) (by assumption) (by rfl) ?_ ?_
    rotate_left
    · (intro W hW; go_simp; try with_reducible rfl)
    simp only [Act.put, List.setIfInBounds_toArray, List.set_cons_zero, List.set_cons_succ]
    refine held_done (by kernel_rfl) ?_
    have hsz := B0.out.size
    have O8 := Lib.hid o8
    clear hS hS7 o7 o8 hS8
    go_wp2
    go_ret
    exact ⟨_, rfl, by have := O8.out.own; rw [HE.out] at this; exact ownsRow_lower this hsz, Below.trans B0.out (O8.out.bel.mono hsz)⟩
end Go.Proofs.YtbbnkmhlgfoacaaDoor.S9

namespace Go.Proofs.YtbbnkmhlgfoacaaDoor.S9
open Go.RowKit

theorem Pc.put_take (m : Pc.Hdr) (L : List Pc.Rcd) (k : Nat) (h : k < L.length) : Pc.put m (L.take (k + 1)) = ((((Pc.put m (L.take k) ++ Oc.put L[k].sec 4 m.big) ++ Oc.put L[k].frac 4 m.big) ++ Oc.put L[k].data.length 4 m.big) ++ Oc.put L[k].len 4 m.big) ++ L[k].data := by
  rw [List.take_succ_eq_append_getElem h, Pc.put_snoc]
  simp [Pc.rbytes, Pc.rnums, Pc.nums]
theorem Pc.put_upto (m : Pc.Hdr) (L : List Pc.Rcd) (k : Nat) (h : k < L.length) : (Pc.put m (L.take k)).length + 16 + L[k].data.length ≤ 24 + 16 * L.length + Pc.size L := by
  have h1 := Pc.put_length m (L.take k)
  have h2 := Pc.size_next L k h
  have h3 := Pc.size_take L (k + 1)
  rw [List.length_take] at h1
  omega

set_option maxRecDepth 100000 in
set_option maxHeartbeats 4000000 in
theorem refPut_put (m : Pc.Hdr) (a : Option Addr) (n cap : Nat) (L : List Pc.Rcd) (w : World) (hm : m.Ok) (hn : L.length = n) (hb : 24 + 16 * n + Pc.size L ≤ 300000) (h : RecsAt w a L) :
    Calls Tryd.prog 12 #[.agg (hcells m).toArray, .slice a n cap] w fun e w' => PutRes w w' e m L := by
  have c23 := fun W => header_any m W hm
  have H := Lib.hid h
  have Hn := Lib.hid hn
  clear h hn
  obtain ⟨ob, hob⟩ : ∃ ob, ob = Obj.cells (hcells m).toArray 39 (0, 0) := ⟨_, rfl⟩
  have b0 : Below w.heap.size w (w.alloc (.cells #[.bool m.big, .bool m.nano, .int .u32 (m.snap : Int), .int .u32 (m.link : Int)] 39)) := (Below.refl _ _).alloc (Nat.le_refl _) _
  have hT0 : (w.alloc (.cells #[.bool m.big, .bool m.nano, .int .u32 (m.snap : Int), .int .u32 (m.link : Int)] 39)).heap[w.heap.size]? = some ob := by rw [hob]; exact heap_alloc_new w _
  have h0 := H.out.next b0
  have hs0 : (w.alloc (.cells #[.bool m.big, .bool m.nano, .int .u32 (m.snap : Int), .int .u32 (m.link : Int)] 39)).heap.size = w.heap.size + 1 := by simp
  have HPost : ∀ W v, Below w.heap.size w W → Pc.small L → W.ownsRow w.heap.size 5 1 v (Pc.put m L).length (Lib.byteCells (Pc.put m L)) → PutRes w W (.returned (.tuple #[v, .int .i64 0])) m L := fun W v h1 h2 h3 => ⟨h1, .inl ⟨h2, v, rfl, h3⟩⟩
  have HPost2 : ∀ W, Below w.heap.size w W → ¬ Pc.small L → PutRes w W (.returned (.tuple #[.slice none 0 0, .int .i64 4])) m L := fun W h1 h2 => ⟨h1, .inr ⟨h2, rfl⟩⟩
  have P1 := Lib.hid HPost
  have P2 := Lib.hid HPost2
  clear HPost HPost2
  go_enter Tryd.func12, Tryd.ntmps12
  simp only [hcells]
  go_wp2_with fail
  generalize w.alloc (.cells #[.bool m.big, .bool m.nano, .int .u32 (m.snap : Int), .int .u32 (m.link : Int)] 39) = W0 at *
  refine (c23 W0).mono ?_
  rintro e w1 ⟨v1, rfl, o1, b1⟩
  obtain ⟨p1, c1, rfl⟩ := own_slice o1
  have O1 : Hid (Own W0 w1 p1 24 c1 (Pc.hbytes m)) := ⟨Pc.hbytes_length m, o1, b1⟩
  have B0 := Lib.hid b0
  have T0 := Lib.hid hT0
  have R0 := Lib.hid h0
  clear o1 b1 c23 b0 hT0 h0 H
  go_wp2_with fail
  go_loopw [6, 7] (fun v i wr => ∃ (k N : Nat) (p : Option Addr) (c : Nat), i = .int .i64 (k : Int) ∧ v = .slice p N c ∧ k ≤ n ∧ Pc.small (L.take k) ∧ Own W0 wr p N c (Pc.put m (L.take k))) (fun _ i _ => n - (intOf i).toNat)
  case atStart => exact ⟨0, 24, p1, c1, rfl, rfl, Nat.zero_le _, by intro r h; simp at h, by simpa [Pc.put] using O1.out⟩
  case round =>
    obtain ⟨k, N, p0, c0, rfl, rfl, hk, hsm, hO⟩ := hrel
    by_cases hlt : (k : Int) < (n : Int)
    · have hkn : k < L.length := by rw [Hn.out]; omega
      have hr := R0.out
      rcases hr with hr | ⟨b, off, rfl, hbl, hr⟩
      · rw [hr] at hkn; simp at hkn
      obtain ⟨p, c, hra⟩ := hr k hkn
      have hpt := Pc.put_take m L k hkn
      have hup := Pc.put_upto m L k hkn
      rw [Hn.out, hO.len] at hup
      have hst := Pc.small_take hkn hsm
      have hns : 131072 < L[k].data.length → ¬ Pc.small L := fun h1 h2 => by have := h2 _ (List.getElem_mem hkn); omega
      generalize Pc.put m (L.take k) = X at *
      generalize L[k] = r at *
      have hN : N + 16 + r.data.length ≤ 300000 := by omega
      have HO := Lib.hid hO
      have HPT := Lib.hid hpt
      have HST := Lib.hid hst
      have HNS := Lib.hid hns
      have HRA := Lib.hid hra
      have SC : Hid (∀ W, Below W0.heap.size W0 W → W.heap[w.heap.size]? = some ob ∧ RecAt W b (off + k * 4) r p c) := fun W bb => ⟨block_next T0.out bb, HRA.out.next hbl bb⟩
      have d1 := ((SC.out _ hO.bel).2).data
      have hok := hra.ok
      have k1 := hok.sec
      have k2 := hok.frac
      have k3 := hok.len
      clear hO hpt hst hns hra hr hsm hup hok
      by_cases hlong : 131072 < r.data.length
      · have j1 : (131072 : Int) < (r.data.length : Int) := by omega
        go_wp2
        go_ret2
        exact P2.out _ (Below.trans B0.out (HO.out.bel.mono (by omega))) (HNS.out hlong)
      · have j1 : ¬ (131072 : Int) < (r.data.length : Int) := by omega
        have hwu : IntKind.u32.wrap (r.data.length : Int) = (r.data.length : Int) := by rw [IntKind.wrap_u32]; omega
        go_wp2_with fail
        have hS := SC.out _ (HO.out.bel.drew)
        refine held_start (S := fun W => W.heap[w.heap.size]? = some ob ∧ RecAt W b (off + k * 4) r p c) 18 (by kernel_rfl) rfl ?_
        clear d1
        refine held_take 0 (v := ?_) rfl (by kernel_rfl) (by kernel_rfl) (by kernel_rfl) (fun _ _ _ h => h) (by assumption) (by rfl) ?_ ?_
        rotate_left
        · (intro W hW; go_simp; try with_reducible rfl)
        simp only [Act.put, List.setIfInBounds_toArray, List.set_cons_zero, List.set_cons_succ]
        refine held_take 1 (v := ?_) rfl (by kernel_rfl) (by kernel_rfl) (by kernel_rfl) (fun _ _ _ h => h) (by assumption) (by rfl) ?_ ?_
        rotate_left
        · (intro W hW; go_simp; try with_reducible rfl)
        simp only [Act.put, List.setIfInBounds_toArray, List.set_cons_zero, List.set_cons_succ]
        refine held_take 2 (v := ?_) rfl (by kernel_rfl) (by kernel_rfl) (by kernel_rfl) (fun _ _ _ h => h) (by assumption) (by rfl) ?_ ?_
        rotate_left
        · (intro W hW; go_simp; try with_reducible rfl)
        simp only [Act.put, List.setIfInBounds_toArray, List.set_cons_zero, List.set_cons_succ]
        refine held_take 3 (v := ?_) rfl (by kernel_rfl) (by kernel_rfl) (by kernel_rfl) (fun _ _ _ h => h) (by assumption) (by rfl) ?_ ?_
        rotate_left
        · (intro W hW; go_simp; try with_reducible rfl)
        simp only [Act.put, List.setIfInBounds_toArray, List.set_cons_zero, List.set_cons_succ]
        refine held_take 4 (v := ?_) rfl (by kernel_rfl) (by kernel_rfl) (by kernel_rfl) (fun _ _ _ h => h) (by assumption) (by rfl) ?_ ?_
        rotate_left
        · (intro W hW; go_simp; try with_reducible rfl)
        simp only [Act.put, List.setIfInBounds_toArray, List.set_cons_zero, List.set_cons_succ]
        refine held_take 5 (v := ?_) rfl (by kernel_rfl) (by kernel_rfl) (by kernel_rfl) (fun _ _ _ h => h) (by assumption) (by rfl) ?_ ?_
        rotate_left
        · (intro W hW; (have t0 := hW.2.sec); clear hW; go_simp; try with_reducible rfl)
        simp only [Act.put, List.setIfInBounds_toArray, List.set_cons_zero, List.set_cons_succ]
        refine held_take 6 (v := ?_) rfl (by kernel_rfl) (by kernel_rfl) (by kernel_rfl) (fun _ _ _ h => h) (by assumption) (by rfl) ?_ ?_
        rotate_left
        · (intro W hW; go_simp; try with_reducible rfl)
        simp only [Act.put, List.setIfInBounds_toArray, List.set_cons_zero, List.set_cons_succ]
        refine held_take 7 (v := ?_) rfl (by kernel_rfl) (by kernel_rfl) (by kernel_rfl) (fun _ _ _ h => h) (by assumption) (by rfl) ?_ ?_
        rotate_left
        · (intro W hW; (have t0 : W.cell? ⟨w.heap.size, 0, none⟩ = some (.bool m.big) := by subst hob; exact cell_of_row _ _ _ _ _ _ hW.1); clear hW; go_simp; try with_reducible rfl)
        simp only [Act.put, List.setIfInBounds_toArray, List.set_cons_zero, List.set_cons_succ]
        refine held_take 9 (v := ?_) rfl (by kernel_rfl) (by kernel_rfl) (by kernel_rfl) (fun _ _ _ h => h) (by assumption) (by rfl) ?_ ?_
        rotate_left
        · (intro W hW; go_simp; try with_reducible rfl)
        simp only [Act.put, List.setIfInBounds_toArray, List.set_cons_zero, List.set_cons_succ]
        refine held_take 10 (v := ?_) rfl (by kernel_rfl) (by kernel_rfl) (by kernel_rfl) (fun _ _ _ h => h) (by assumption) (by rfl) ?_ ?_
        rotate_left
        · (intro W hW; go_simp; try with_reducible rfl)
        simp only [Act.put, List.setIfInBounds_toArray, List.set_cons_zero, List.set_cons_succ]
        refine held_take 11 (v := ?_) rfl (by kernel_rfl) (by kernel_rfl) (by kernel_rfl) (fun _ _ _ h => h) (by assumption) (by rfl) ?_ ?_
        rotate_left
        · (intro W hW; go_simp; try with_reducible rfl)
        simp only [Act.put, List.setIfInBounds_toArray, List.set_cons_zero, List.set_cons_succ]
        refine held_take 12 (v := ?_) rfl (by kernel_rfl) (by kernel_rfl) (by kernel_rfl) (fun _ _ _ h => h) (by assumption) (by rfl) ?_ ?_
        rotate_left
        · (intro W hW; go_simp; try with_reducible rfl)
        simp only [Act.put, List.setIfInBounds_toArray, List.set_cons_zero, List.set_cons_succ]
        refine held_take 13 (v := ?_) rfl (by kernel_rfl) (by kernel_rfl) (by kernel_rfl) (fun _ _ _ h => h) (by assumption) (by rfl) ?_ ?_
        rotate_left
        · (intro W hW; (have t0 := hW.2.frac); clear hW; go_simp; try with_reducible rfl)
        simp only [Act.put, List.setIfInBounds_toArray, List.set_cons_zero, List.set_cons_succ]
        refine held_take 14 (v := ?_) rfl (by kernel_rfl) (by kernel_rfl) (by kernel_rfl) (fun _ _ _ h => h) (by assumption) (by rfl) ?_ ?_
        rotate_left
        · (intro W hW; go_simp; try with_reducible rfl)
        simp only [Act.put, List.setIfInBounds_toArray, List.set_cons_zero, List.set_cons_succ]
        refine held_take 15 (v := ?_) rfl (by kernel_rfl) (by kernel_rfl) (by kernel_rfl) (fun _ _ _ h => h) (by assumption) (by rfl) ?_ ?_
        rotate_left
        · (intro W hW; (have t0 : W.cell? ⟨w.heap.size, 0, none⟩ = some (.bool m.big) := by subst hob; exact cell_of_row _ _ _ _ _ _ hW.1); clear hW; go_simp; try with_reducible rfl)
        simp only [Act.put, List.setIfInBounds_toArray, List.set_cons_zero, List.set_cons_succ]
        refine held_call 8 (f := 25) (args := #[.slice p0 N c0, .int .u32 (r.sec : Int), .bool m.big]) rfl (by kernel_rfl) (by rfl) (by go_simp) ?_
        refine (four_own p0 N c0 (N + 4) _ r.sec m.big W0 _ rfl (by omega) k1 (HO.out.next ((Below.refl _ _).drew))).mono ?_
        rintro e w7 ⟨p7, d7, rfl, o7⟩
        have hS7 := SC.out _ o7.bel
        refine ⟨_, rfl, hS7, ?_⟩
        simp only [Act.put, List.setIfInBounds_toArray, List.set_cons_zero, List.set_cons_succ]
        refine held_call 16 (f := 25) (args := #[.slice p7 (N + 4) d7, .int .u32 (r.frac : Int), .bool m.big]) rfl (by kernel_rfl) (by rfl) (by go_simp) ?_
        refine (four_own p7 (N + 4) d7 (N + 8) _ r.frac m.big W0 _ rfl (by omega) k2 o7).mono ?_
        rintro e w8 ⟨p8, d8, rfl, o8⟩
        have hS8 := SC.out _ o8.bel
        refine ⟨_, rfl, hS8, ?_⟩
        simp only [Act.put, List.setIfInBounds_toArray, List.set_cons_zero, List.set_cons_succ]
        refine held_take 17 (v := ?_) rfl (by kernel_rfl) (by kernel_rfl) (by kernel_rfl) (fun _ _ _ h => h) (by assumption) (by rfl) ?_ ?_
        rotate_left
        · (intro W hW; go_simp; try with_reducible rfl)
        simp only [Act.put, List.setIfInBounds_toArray, List.set_cons_zero, List.set_cons_succ]
        refine held_done (by kernel_rfl) ?_
        have O8 := Lib.hid o8
        clear hS hS7 o7 o8 hS8 HO
        go_wp2_with fail
        have hS := SC.out _ (O8.out.bel.drew)
        refine held_start (S := fun W => W.heap[w.heap.size]? = some ob ∧ RecAt W b (off + k * 4) r p c) 20 (by kernel_rfl) rfl ?_
        refine held_take 0 (v := ?_) rfl (by kernel_rfl) (by kernel_rfl) (by kernel_rfl) (fun _ _ _ h => h) (by assumption) (by rfl) ?_ ?_
        rotate_left
        · (intro W hW; go_simp; try with_reducible rfl)
        simp only [Act.put, List.setIfInBounds_toArray, List.set_cons_zero, List.set_cons_succ]
        refine held_take 1 (v := ?_) rfl (by kernel_rfl) (by kernel_rfl) (by kernel_rfl) (fun _ _ _ h => h) (by assumption) (by rfl) ?_ ?_
        rotate_left
        · (intro W hW; go_simp; try with_reducible rfl)
        simp only [Act.put, List.setIfInBounds_toArray, List.set_cons_zero, List.set_cons_succ]
        refine held_take 2 (v := ?_) rfl (by kernel_rfl) (by kernel_rfl) (by kernel_rfl) (fun _ _ _ h => h) (by assumption) (by rfl) ?_ ?_
        rotate_left
        · (intro W hW; go_simp; try with_reducible rfl)
        simp only [Act.put, List.setIfInBounds_toArray, List.set_cons_zero, List.set_cons_succ]
        refine held_take 3 (v := ?_) rfl (by kernel_rfl) (by kernel_rfl) (by kernel_rfl) (fun _ _ _ h => h) (by assumption) (by rfl) ?_ ?_
        rotate_left
        · (intro W hW; go_simp; try with_reducible rfl)
        simp only [Act.put, List.setIfInBounds_toArray, List.set_cons_zero, List.set_cons_succ]
        refine held_take 4 (v := ?_) rfl (by kernel_rfl) (by kernel_rfl) (by kernel_rfl) (fun _ _ _ h => h) (by assumption) (by rfl) ?_ ?_
        rotate_left
        · (intro W hW; go_simp; try with_reducible rfl)
        simp only [Act.put, List.setIfInBounds_toArray, List.set_cons_zero, List.set_cons_succ]
        refine held_take 5 (v := ?_) rfl (by kernel_rfl) (by kernel_rfl) (by kernel_rfl) (fun _ _ _ h => h) (by assumption) (by rfl) ?_ ?_
        rotate_left
        · (intro W hW; (have t0 := hW.2.data); clear hW; go_simp; try with_reducible rfl)
        simp only [Act.put, List.setIfInBounds_toArray, List.set_cons_zero, List.set_cons_succ]
        refine held_take 6 (v := ?_) rfl (by kernel_rfl) (by kernel_rfl) (by kernel_rfl) (fun _ _ _ h => h) (by assumption) (by rfl) ?_ ?_
        rotate_left
        · (intro W hW; go_simp; try with_reducible rfl)
        simp only [Act.put, List.setIfInBounds_toArray, List.set_cons_zero, List.set_cons_succ]
        refine held_take 7 (v := ?_) rfl (by kernel_rfl) (by kernel_rfl) (by kernel_rfl) (fun _ _ _ h => h) (by assumption) (by rfl) ?_ ?_
        rotate_left
        · (intro W hW; go_simp; try with_reducible rfl)
        simp only [Act.put, List.setIfInBounds_toArray, List.set_cons_zero, List.set_cons_succ]
        refine held_take 8 (v := ?_) rfl (by kernel_rfl) (by kernel_rfl) (by kernel_rfl) (fun _ _ _ h => h) (by assumption) (by rfl) ?_ ?_
        rotate_left
        · (intro W hW; go_simp; try with_reducible rfl)
        simp only [Act.put, List.setIfInBounds_toArray, List.set_cons_zero, List.set_cons_succ]
        refine held_take 9 (v := ?_) rfl (by kernel_rfl) (by kernel_rfl) (by kernel_rfl) (fun _ _ _ h => h) (by assumption) (by rfl) ?_ ?_
        rotate_left
        · (intro W hW; (have t0 : W.cell? ⟨w.heap.size, 0, none⟩ = some (.bool m.big) := by subst hob; exact cell_of_row _ _ _ _ _ _ hW.1); clear hW; go_simp; try with_reducible rfl)
        simp only [Act.put, List.setIfInBounds_toArray, List.set_cons_zero, List.set_cons_succ]
        refine held_take 11 (v := ?_) rfl (by kernel_rfl) (by kernel_rfl) (by kernel_rfl) (fun _ _ _ h => h) (by assumption) (by rfl) ?_ ?_
        rotate_left
        · (intro W hW; go_simp; try with_reducible rfl)
        simp only [Act.put, List.setIfInBounds_toArray, List.set_cons_zero, List.set_cons_succ]
        refine held_take 12 (v := ?_) rfl (by kernel_rfl) (by kernel_rfl) (by kernel_rfl) (fun _ _ _ h => h) (by assumption) (by rfl) ?_ ?_
        rotate_left
        · (intro W hW; go_simp; try with_reducible rfl)
        simp only [Act.put, List.setIfInBounds_toArray, List.set_cons_zero, List.set_cons_succ]
        refine held_take 13 (v := ?_) rfl (by kernel_rfl) (by kernel_rfl) (by kernel_rfl) (fun _ _ _ h => h) (by assumption) (by rfl) ?_ ?_
        rotate_left
        · (intro W hW; go_simp; try with_reducible rfl)
        simp only [Act.put, List.setIfInBounds_toArray, List.set_cons_zero, List.set_cons_succ]
        refine held_take 14 (v := ?_) rfl (by kernel_rfl) (by kernel_rfl) (by kernel_rfl) (fun _ _ _ h => h) (by assumption) (by rfl) ?_ ?_
        rotate_left
        · (intro W hW; go_simp; try with_reducible rfl)
        simp only [Act.put, List.setIfInBounds_toArray, List.set_cons_zero, List.set_cons_succ]
        refine held_take 15 (v := ?_) rfl (by kernel_rfl) (by kernel_rfl) (by kernel_rfl) (fun _ _ _ h => h) (by assumption) (by rfl) ?_ ?_
        rotate_left
        · (intro W hW; (have t0 := hW.2.len); clear hW; go_simp; try with_reducible rfl)
        simp only [Act.put, List.setIfInBounds_toArray, List.set_cons_zero, List.set_cons_succ]
        refine held_take 16 (v := ?_) rfl (by kernel_rfl) (by kernel_rfl) (by kernel_rfl) (fun _ _ _ h => h) (by assumption) (by rfl) ?_ ?_
        rotate_left
        · (intro W hW; go_simp; try with_reducible rfl)
        simp only [Act.put, List.setIfInBounds_toArray, List.set_cons_zero, List.set_cons_succ]
        refine held_take 17 (v := ?_) rfl (by kernel_rfl) (by kernel_rfl) (by kernel_rfl) (fun _ _ _ h => h) (by assumption) (by rfl) ?_ ?_
        rotate_left
        · (intro W hW; (have t0 : W.cell? ⟨w.heap.size, 0, none⟩ = some (.bool m.big) := by subst hob; exact cell_of_row _ _ _ _ _ _ hW.1); clear hW; go_simp; try with_reducible rfl)
        simp only [Act.put, List.setIfInBounds_toArray, List.set_cons_zero, List.set_cons_succ]
        refine held_call 10 (f := 25) (args := #[.slice p8 (N + 8) d8, .int .u32 (r.data.length : Int), .bool m.big]) rfl (by kernel_rfl) (by rfl) (by go_simp) ?_
        refine (four_own p8 (N + 8) d8 (N + 12) _ r.data.length m.big W0 _ rfl (by omega) (by omega) (O8.out.next ((Below.refl _ _).drew))).mono ?_
        rintro e w9 ⟨p9, d9, rfl, o9⟩
        have hS9 := SC.out _ o9.bel
        refine ⟨_, rfl, hS9, ?_⟩
        simp only [Act.put, List.setIfInBounds_toArray, List.set_cons_zero, List.set_cons_succ]
        refine held_call 18 (f := 25) (args := #[.slice p9 (N + 12) d9, .int .u32 (r.len : Int), .bool m.big]) rfl (by kernel_rfl) (by rfl) (by go_simp) ?_
        refine (four_own p9 (N + 12) d9 (N + 16) _ r.len m.big W0 _ rfl (by omega) k3 o9).mono ?_
        rintro e w10 ⟨p10, d10, rfl, o10⟩
        have hS10 := SC.out _ o10.bel
        refine ⟨_, rfl, hS10, ?_⟩
        simp only [Act.put, List.setIfInBounds_toArray, List.set_cons_zero, List.set_cons_succ]
        refine held_take 19 (v := ?_) rfl (by kernel_rfl) (by kernel_rfl) (by kernel_rfl) (fun _ _ _ h => h) (by assumption) (by rfl) ?_ ?_
        rotate_left
        · (intro W hW; go_simp; try with_reducible rfl)
        simp only [Act.put, List.setIfInBounds_toArray, List.set_cons_zero, List.set_cons_succ]
        refine held_done (by kernel_rfl) ?_
        have O10 := Lib.hid o10
        have R10 := Lib.hid hS10.2.row
        have e10 := hS10.2.data
        clear hS hS9 o9 o10 hS10 O8
        go_wp2_with (at_builtin; refine wpList_append_mine rfl (.tmp 59) (.tmp 64) rfl p10 (N + 16) d10 (N + 16 + r.data.length) _ rfl O10.out p r.data.length c r.data rfl rfl R10.out rfl (by omega) ?_; intro p11 d11 w11 o11; have O11 := Lib.hid o11; clear o11)
        go_roundw
        case rel => exact ⟨k + 1, N + 16 + r.data.length, p11, d11, by simp, rfl, by omega, HST.out (by omega), by rw [HPT.out]; exact O11.out⟩
        case measure => simp [intOf]; omega
    · have hkn : k = n := by omega
      subst hkn
      rw [List.take_of_length_le (by rw [Hn.out]; exact Nat.le_refl _)] at hO hsm
      have HO := Lib.hid hO
      have HSM := Lib.hid hsm
      clear hO hsm
      go_wp2
      go_ret2
      exact P1.out _ _ (Below.trans B0.out (HO.out.bel.mono (by omega))) HSM.out (by rw [HO.out.len]; exact ownsRow_lower HO.out.own (by omega))
end Go.Proofs.YtbbnkmhlgfoacaaDoor.S9

namespace Go.Proofs.YtbbnkmhlgfoacaaDoor.S9
open Go.RowKit

set_option maxRecDepth 100000 in
set_option maxHeartbeats 4000000 in
theorem refNext_any (a : Option Addr) (n cap : Nat) (xs : List UInt8) (big : Bool) (w : World) (hn : xs.length = n) (hm : n ≤ 300000) (h : RowAt w a cap xs) :
    Calls Tryd.prog 23 #[.slice a n cap, .bool big] w fun e w' => NextRes w w' e (Pc.next xs big) := by
  by_cases h16 : n < 16
  · rw [Pc.next_end xs big (by omega)]
    have i1 : (n : Int) < 16 := by omega
    go_enter Tryd.func23, Tryd.ntmps23
    go_wp2
    exact bodyPost_ret (rec_ret0 (r := Pc.rz) (v := .slice none 0 0) Tryd.results23 rfl rfl rfl) rfl (next_none ((Below.refl _ _).alloc (Nat.le_refl _) _))
  · have i1 : ¬ (n : Int) < 16 := by omega
    have q1 := Pc.next_long xs big (by omega)
    have q2 := Pc.next_short xs big (by omega)
    have q3 := Pc.next_good xs big (by omega)
    have l0 := Pc.num_lt xs 0 big
    have l4 := Pc.num_lt xs 4 big
    have l8 := Pc.num_lt xs 8 big
    have l12 := Pc.num_lt xs 12 big
    have c0 := fun W h => refNum_any a n cap xs 0 big W hn hm (by omega) h
    have c4 := fun W h => refNum_any a n cap xs 4 big W hn hm (by omega) h
    have c8 := fun W h => refNum_any a n cap xs 8 big W hn hm (by omega) h
    have c12 := fun W h => refNum_any a n cap xs 12 big W hn hm (by omega) h
    obtain ⟨A, hA⟩ : ∃ A, Pc.next xs big = A := ⟨_, rfl⟩
    rw [hA] at q1 q2 q3 ⊢
    generalize Pc.num xs 0 big = v0 at *
    generalize Pc.num xs 4 big = v4 at *
    generalize Pc.num xs 8 big = v8 at *
    generalize Pc.num xs 12 big = v12 at *
    rw [hn] at q2 q3
    have hle := h.le
    rw [hn] at hle
    have hcut : ¬ n < 16 + v8 → ∀ W, RowAt W a cap xs → RowAt W (if cap = 16 then a else a.map (·.add 16)) (cap - 16) ((xs.drop 16).take v8) := fun hle2 W hW => by
      have := hW.cut 16 (16 + v8) (by omega) (by omega)
      rw [List.drop_take, Nat.add_sub_cancel_left] at this
      exact this
    have hys : ¬ n < 16 + v8 → ((xs.drop 16).take v8).length = v8 := fun hle => by simp; omega
    generalize (xs.drop 16).take v8 = ys at *
    have Q1 := Lib.hid q1
    have Q2 := Lib.hid q2
    have Q3 := Lib.hid q3
    have H := Lib.hid h
    have C0 := Lib.hid c0
    have C4 := Lib.hid c4
    have C8 := Lib.hid c8
    have C12 := Lib.hid c12
    have HC := Lib.hid hcut
    have Hys := Lib.hid hys
    clear q1 q2 q3 h c0 c4 c8 c12 hA hn hcut hys
    have hw8 : IntKind.i64.wrap (v8 : Int) = (v8 : Int) := by rw [IntKind.wrap_i64]; omega
    have hR1 := heap_alloc_new w (.cells (rcells Pc.rz (.slice none 0 0)).toArray 44)
    have b1 : Below w.heap.size w (w.alloc (.cells (rcells Pc.rz (.slice none 0 0)).toArray 44)) := (Below.refl _ _).alloc (Nat.le_refl _) _
    have HR1 : Hid ((w.alloc (.cells #[.int .u32 0, .int .u32 0, .int .u32 0, .slice none 0 0] 44)).heap[w.heap.size]? = some (.cells (rcells Pc.rz (.slice none 0 0)).toArray 44 (0, 0))) := hR1
    have B1 : Hid (Below w.heap.size w (w.alloc (.cells #[.int .u32 0, .int .u32 0, .int .u32 0, .slice none 0 0] 44))) := b1
    clear hR1 b1
    go_enter Tryd.func23, Tryd.ntmps23
    go_wp2_with fail
    generalize w.alloc (.cells #[.int .u32 0, .int .u32 0, .int .u32 0, .slice none 0 0] 44) = W1 at *
    refine (C8.out _ (H.out.next B1.out)).mono ?_
    rintro e w2 ⟨rfl, h2⟩
    rw [h2]
    clear h2 C8
    by_cases u1 : 131072 < v8
    · obtain rfl := Q1.out u1
      clear Q1 Q2 Q3 C0 C4 C12 HC Hys
      have j1 : 131072 < (v8 : Int) := by omega
      go_wp2_with (refine wpList_store_rec rfl (.tmp 4) (.tmp 19) rfl w.heap.size Pc.rz none 0 0 _ rfl rfl HR1.out rfl ?_)
      exact bodyPost_ret (rec_ret (r := Pc.rz) (v := .slice none 0 0) Tryd.results23 rfl rfl rfl HR1.out) rfl (next_none (below_setRow B1.out (Nat.le_refl _) _))
    · have j1 : ¬ 131072 < (v8 : Int) := by omega
      by_cases u2 : n < 16 + v8
      · obtain rfl := Q2.out u1 u2
        clear Q1 Q2 Q3 C0 C4 C12 HC Hys
        have j2 : (n : Int) < 16 + (v8 : Int) := by omega
        go_wp2_with (refine wpList_store_rec rfl (.tmp 4) (.tmp 25) rfl w.heap.size Pc.rz none 0 0 _ rfl rfl HR1.out rfl ?_)
        exact bodyPost_ret (rec_ret (r := Pc.rz) (v := .slice none 0 0) Tryd.results23 rfl rfl rfl HR1.out) rfl (next_none (below_setRow B1.out (Nat.le_refl _) _))
      · obtain rfl := Q3.out u1 u2
        have hy := Hys.out u2
        have j2 : ¬ (n : Int) < 16 + (v8 : Int) := by omega
        clear Q1 Q2 Q3 Hys
        go_wp2_with fail
        refine (C0.out _ (H.out.next B1.out)).mono ?_
        rintro e w3 ⟨rfl, h3⟩
        rw [h3]
        clear h3 C0
        go_wp2_with fail
        refine (C4.out _ (H.out.next B1.out)).mono ?_
        rintro e w3 ⟨rfl, h3⟩
        rw [h3]
        clear h3 C4
        go_wp2_with fail
        refine (C12.out _ (H.out.next B1.out)).mono ?_
        rintro e w3 ⟨rfl, h3⟩
        rw [h3]
        clear h3 C12
        have hT := heap_alloc_new W1 (.cells (rcells ⟨v0, v4, v12, ys⟩ (.slice none 0 0)).toArray 44)
        have b2 : Below W1.heap.size W1 (W1.alloc (.cells (rcells ⟨v0, v4, v12, ys⟩ (.slice none 0 0)).toArray 44)) := (Below.refl _ _).alloc (Nat.le_refl _) _
        have hR2 := block_next HR1.out b2
        have HT : Hid ((W1.alloc (.cells #[.int .u32 (v0 : Int), .int .u32 (v4 : Int), .int .u32 (v12 : Int), .slice none 0 0] 44)).heap[W1.heap.size]? = some (.cells (rcells ⟨v0, v4, v12, ys⟩ (.slice none 0 0)).toArray 44 (0, 0))) := hT
        have HR2 : Hid ((W1.alloc (.cells #[.int .u32 (v0 : Int), .int .u32 (v4 : Int), .int .u32 (v12 : Int), .slice none 0 0] 44)).heap[w.heap.size]? = some (.cells (rcells Pc.rz (.slice none 0 0)).toArray 44 (0, 0))) := hR2
        have B2 : Hid (Below w.heap.size w (W1.alloc (.cells #[.int .u32 (v0 : Int), .int .u32 (v4 : Int), .int .u32 (v12 : Int), .slice none 0 0] 44))) := Below.chain B1.out b2
        have hlt1 := lt_of_block HR1.out
        have hge1 := B1.out.size
        clear hT b2 hR2
        go_wp2_with fail
        generalize W1.alloc (.cells #[.int .u32 (v0 : Int), .int .u32 (v4 : Int), .int .u32 (v12 : Int), .slice none 0 0] 44) = W2 at *
        generalize W1.heap.size = T at *
        have hS : W2.drew.heap[T]? = some (.cells (rcells ⟨v0, v4, v12, ys⟩ (.slice none 0 0)).toArray 44 (0, 0)) := HT.out
        have hTr : True := trivial
        refine held_start (S := fun _ => True) 9 (by kernel_rfl) rfl ?_
        refine held_take 0 (v := ?_) rfl (by kernel_rfl) (by kernel_rfl) (by kernel_rfl) (fun _ _ _ h => h) (by assumption) (by rfl) ?_ ?_
        rotate_left
        · (intro W hW; go_simp; try with_reducible rfl)
        simp only [Act.put, List.setIfInBounds_toArray, List.set_cons_zero, List.set_cons_succ]
        have hw16 : IntKind.i64.wrap (16 + (v8 : Int)) = 16 + (v8 : Int) := by rw [IntKind.wrap_i64]; omega
        have hz16 : (16 + (v8 : Int)).toNat - 16 = v8 := by omega
        refine held_take 2 (v := ?_) rfl (by kernel_rfl) (by kernel_rfl) (by kernel_rfl) (fun _ _ _ h => h) (by assumption) (by rfl) ?_ ?_
        rotate_left
        · (intro W hW; go_simp; try with_reducible rfl)
        simp only [Act.put, List.setIfInBounds_toArray, List.set_cons_zero, List.set_cons_succ]
        refine held_take 3 (v := ?_) rfl (by kernel_rfl) (by kernel_rfl) (by kernel_rfl) (fun _ _ _ h => h) (by assumption) (by rfl) ?_ ?_
        rotate_left
        · (intro W hW; go_simp; try with_reducible rfl)
        simp only [Act.put, List.setIfInBounds_toArray, List.set_cons_zero, List.set_cons_succ]
        refine held_take 4 (v := ?_) rfl (by kernel_rfl) (by kernel_rfl) (by kernel_rfl) (fun _ _ _ h => h) (by assumption) (by rfl) ?_ ?_
        rotate_left
        · (intro W hW; skip; go_simp; try with_reducible rfl)
        simp only [Act.put, List.setIfInBounds_toArray, List.set_cons_zero, List.set_cons_succ]
        have j3 : (16 : Int) + (v8 : Int) ≤ (cap : Int) := by omega
        have j4 : 16 + v8 ≤ cap := by omega
        refine held_take 5 (v := .slice (if cap = 16 then a else a.map (·.add 16)) v8 (cap - 16)) rfl (by kernel_rfl) (by kernel_rfl) (by kernel_rfl) (fun _ _ _ h => h) (by assumption) (by rfl) ?_ ?_
        · intro W hW
          clear hW
          by_cases hca : cap = 16
          · have j5 : (cap : Int) = 16 := by omega
            rw [if_pos hca]
            subst hca
            go_simp
            rw [if_pos ⟨by omega, by omega⟩, if_pos (by omega)]
          · have j5 : ¬ (cap : Int) = 16 := by omega
            rw [if_neg hca]
            go_simp
            rw [if_pos (by omega), if_pos (by omega)]
        simp only [Act.put, List.setIfInBounds_toArray, List.set_cons_zero, List.set_cons_succ]
        have hrow := HC.out u2 _ ((H.out.next B2.out).next (Below.refl _ _).drew)
        have bd : Below W2.heap.size W2 W2.drew := (Below.refl _ _).drew
        generalize (if cap = 16 then a else a.map (·.add 16)) = q at *
        generalize cap - 16 = qc at *
        have hR3 := block_next HR2.out bd
        have hB3 := Below.chain B2.out bd
        clear HR2 B2 bd HT HC H
        generalize W2.drew = W3 at *
        refine held_one 1 rfl (by kernel_rfl) (by rfl) ?_
        have t0 : W3.cell? ⟨T, 3, none⟩ = some (.slice none 0 0) := cell_of_row _ _ _ _ _ _ hS
        refine wp_value (v := .slice none 0 0) (w' := W3) (by go_simp) ⟨trivial, ?_⟩
        simp only [Act.put, List.setIfInBounds_toArray, List.set_cons_zero, List.set_cons_succ]
        refine held_one 6 rfl (by kernel_rfl) (by rfl) ?_
        refine wp_append_row (.tmp 37) (.tmp 41) rfl W3.heap.size (.slice none 0 0) 0 [] rfl (World.ownsRow_nil _ _ _ _) q v8 qc ys rfl hy hrow (by omega) (Nat.le_refl _) ?_
        intro v W4 o4 g4
        have b4 : Below W3.heap.size W3 W4 := Below.grown (Below.refl _ _) g4 (Nat.le_refl _) (fun k hk => by simp [Value.ownBlock] at hk)
        have hS4 := block_next hS b4
        have hR4 := block_next hR3 b4
        have hB4 := Below.chain hB3 b4
        refine ⟨trivial, ?_⟩
        simp only [Act.put, List.setIfInBounds_toArray, List.set_cons_zero, List.set_cons_succ]
        refine held_take 7 (v := ?_) rfl (by kernel_rfl) (by kernel_rfl) (by kernel_rfl) (fun _ _ _ h => h) (by assumption) (by rfl) ?_ ?_
        rotate_left
        · (intro W hW; go_simp; try with_reducible rfl)
        simp only [Act.put, List.setIfInBounds_toArray, List.set_cons_zero, List.set_cons_succ]
        rw [Nat.zero_add, List.nil_append] at o4
        have hlt := lt_of_block hS
        have o5 := ownsRow_set (i := 3) (u := v) o4 hlt
        obtain ⟨p, c, rfl⟩ := own_slice o4
        have d4 : W4.cell? ⟨T, 3, none⟩ = some (.slice none 0 0) := cell_of_row _ _ _ _ _ _ hS4
        have f4 := frozen_of_row _ _ 3 _ _ hS4
        have hT5 := heap_setCell_same W4 T 3 _ _ (.slice p v8 c) hS4
        have hR5 : (W4.setCell ⟨T, 3, none⟩ (.slice p v8 c)).heap[w.heap.size]? = _ := (heap_setCell_other W4 _ _ _ (by simp; omega)).trans hR4
        have B5 := Lib.hid (hB4.setCell (p := ⟨T, 3, none⟩) (by simp; omega) (.slice p v8 c))
        have HT5 := Lib.hid hT5
        have HR5 := Lib.hid hR5
        have hrl := lt_of_block hR3
        have O5 := Lib.hid (ownsRow_lower (base' := w.heap.size) (ownsRow_setRow o5 hrl (rcells ⟨v0, v4, v12, ys⟩ (.slice p v8 c)).toArray) (by omega))
        have hne : w.heap.size ≠ T := by omega
        refine held_alone 8 (w' := W4.setCell ⟨T, 3, none⟩ (.slice p v8 c)) rfl (by kernel_rfl) (by rfl) (by go_simp) trivial ?_
        refine held_done (by kernel_rfl) ?_
        clear hS4 hR4 hB4 o4 o5 hT5 hR5 d4 f4 b4 g4 hrow hS hR3 hB3 t0
        generalize W4.setCell ⟨T, 3, none⟩ (.slice p v8 c) = W5 at *
        go_wp2_with (first | (refine wpList_load_row rfl 44 (.tmp 8) rfl T rfl 44 (rcells ⟨v0, v4, v12, ys⟩ (.slice p v8 c)).toArray (0, 0) _ HT5.out Tryd.underlying44 rfl info46 ?_) | (refine wpList_store_rec rfl (.tmp 4) (.tmp 44) rfl w.heap.size ⟨v0, v4, v12, ys⟩ p v8 c _ rfl rfl HR5.out rfl ?_))
        refine bodyPost_ret (rec_ret (k := 16 + v8) (e := 0) (r := ⟨v0, v4, v12, ys⟩) (v := .slice p v8 c) Tryd.results23 rfl ?_ rfl HR5.out) rfl ⟨_, rfl, by rw [← hy] at O5 ⊢; exact O5.out, below_setRow B5.out (Nat.le_refl _) _⟩
        show Value.int .i64 _ = _
        first | rfl | (congr 1; omega)
end Go.Proofs.YtbbnkmhlgfoacaaDoor.S9

namespace Go.Proofs.YtbbnkmhlgfoacaaDoor.S9
open Go.RowKit

theorem Pc.hbytes_four (m : Pc.Hdr) : (Pc.hbytes m).take 4 = Oc.put (Pc.mark m.nano) 4 m.big := by
  have h : (Oc.put (Pc.mark m.nano) 4 m.big).length = 4 := Oc.put_length _ _ _
  rw [← Pc.hbytes_eq]
  simp only [List.nil_append, List.append_assoc]
  rw [List.take_append_of_le_length (by omega), List.take_of_length_le (by omega)]
theorem run_load_head {w : World} {o : Oper} {a : Act} (x : Operand) (ho : o.op = .load 39 x) (T : Nat) (m : Pc.Hdr) (hx : a.eval x = .pointer (some ⟨T, 0, none⟩)) (hT : w.heap[T]? = some (.cells (hcells m).toArray 39 (0, 0))) :
    (execOp a.eval o).run Tryd.prog w = .ok (.value (.agg (hcells m).toArray)) w := by
  have h := run_loadVar_row (P := Tryd.prog) w T 39 39 _ _ _ hT Tryd.underlying39 rfl info24
  unfold execOp
  simp only [ho, hx, Instr.loadAt, Instr.sureAddr, Sem.run_bind, Sem.run_pure, Result.andThen_ok, h]
def Pc.nth (k : Nat) : Bool × Bool := (k % 2 == 1, k / 2 == 1)

set_option maxRecDepth 100000 in
set_option maxHeartbeats 4000000 in
theorem refHead_any (a : Option Addr) (n cap : Nat) (xs : List UInt8) (w : World) (hn : xs.length = n) (hm : n ≤ 300000) (h : RowAt w a cap xs) :
    Calls Tryd.prog 22 #[.slice a n cap] w fun e w' => HeadRes w w' e (Pc.head xs).1 (Pc.head xs).2 := by
  by_cases h4 : n < 4
  · rw [Pc.head_end xs (by omega)]
    have i4 : (n : Int) < 4 := by omega
    go_enter Tryd.func22, Tryd.ntmps22
    go_wp2
    exact bodyPost_ret (head_ret0 (m := Pc.hz) Tryd.results22 rfl rfl) rfl ⟨rfl, (Below.refl _ _).alloc (Nat.le_refl _) _⟩
  · have i4 : ¬ (n : Int) < 4 := by omega
    obtain ⟨A, hA⟩ : ∃ A, Pc.head xs = A := ⟨_, rfl⟩
    rw [hA]
    have qn := Pc.head_form xs (by omega)
    rw [hA] at qn
    have QN := Lib.hid qn
    have HA := Lib.hid hA
    have Hn := Lib.hid hn
    have Hn4 := Lib.hid (show ¬ xs.length < 4 by omega)
    have H4 := Lib.hid (show 4 ≤ xs.length by omega)
    have H := Lib.hid h
    have hR0 := heap_alloc_new w (.cells (hcells Pc.hz).toArray 39)
    have b0 : Below w.heap.size w (w.alloc (.cells (hcells Pc.hz).toArray 39)) := (Below.refl _ _).alloc (Nat.le_refl _) _
    have HR0 : Hid ((w.alloc (.cells #[.bool false, .bool false, .int .u32 0, .int .u32 0] 39)).heap[w.heap.size]? = some (.cells (hcells Pc.hz).toArray 39 (0, 0))) := hR0
    have B0 : Hid (Below w.heap.size w (w.alloc (.cells #[.bool false, .bool false, .int .u32 0, .int .u32 0] 39))) := b0
    clear hA qn hn h hR0 b0
    go_enter Tryd.func22, Tryd.ntmps22
    go_wp2
    generalize w.alloc (.cells #[.bool false, .bool false, .int .u32 0, .int .u32 0] 39) = W0 at *
    go_loopw [4] (fun i wr => ∃ k : Nat, i = .int .i64 (k : Int) ∧ k ≤ 4 ∧ (∀ j, j < k → ¬ Pc.who xs = some (Pc.nth j)) ∧ Below w.heap.size w wr ∧ wr.heap[w.heap.size]? = some (.cells (hcells Pc.hz).toArray 39 (0, 0))) (fun i _ => 4 - (intOf i).toNat)
    case atStart => exact ⟨0, rfl, by omega, fun j hj => by omega, B0.out, HR0.out⟩
    case round =>
      obtain ⟨k, rfl, hk, hno, hbw, hR⟩ := hrel
      have hk5 : k = 0 ∨ k = 1 ∨ k = 2 ∨ k = 3 ∨ k = 4 := by omega
      rcases hk5 with rfl | rfl | rfl | rfl | rfl
      · skip
        have q1 := fun hw => Pc.head_short xs Hn4.out (big := false) (nano := false) hw
        have q2 := fun hw => Pc.head_two xs Hn4.out (big := false) (nano := false) hw
        have q3 := fun hw => Pc.head_good xs Hn4.out (big := false) (nano := false) hw
        have hiff := Pc.who_iff xs H4.out false false
        have h4b := Pc.hbytes_four ⟨false, false, 0, 0⟩
        simp only at h4b
        rw [← h4b] at hiff
        rw [HA.out] at q1 q2 q3
        have c23 := fun W => header_any ⟨false, false, 0, 0⟩ W ⟨by decide, by decide⟩
        have l24 := Pc.hbytes_length ⟨false, false, 0, 0⟩
        generalize Pc.hbytes ⟨false, false, 0, 0⟩ = hb at *
        have hT := heap_alloc_new wr (.cells (hcells ⟨false, false, 0, 0⟩).toArray 39)
        have bT : Below wr.heap.size wr (wr.alloc (.cells (hcells ⟨false, false, 0, 0⟩).toArray 39)) := (Below.refl _ _).alloc (Nat.le_refl _) _
        have HT : Hid ((wr.alloc (.cells #[.bool false, .bool false, .int .u32 0, .int .u32 0] 39)).heap[wr.heap.size]? = some (.cells (hcells ⟨false, false, 0, 0⟩).toArray 39 (0, 0))) := hT
        have HR1 : Hid ((wr.alloc (.cells #[.bool false, .bool false, .int .u32 0, .int .u32 0] 39)).heap[w.heap.size]? = some (.cells (hcells Pc.hz).toArray 39 (0, 0))) := block_next hR bT
        have B1 : Hid (Below w.heap.size w (wr.alloc (.cells #[.bool false, .bool false, .int .u32 0, .int .u32 0] 39))) := Below.chain hbw bT
        have hRT : w.heap.size < wr.heap.size := lt_of_block hR
        have Q1 := Lib.hid q1
        have Q2 := Lib.hid q2
        have Q3 := Lib.hid q3
        have HI := Lib.hid hiff
        have C23 := Lib.hid c23
        have L24 := Lib.hid l24
        have HNO := Lib.hid hno
        clear hR hbw hT bT q1 q2 q3 hiff h4b c23 l24 hno
        go_wp2_with fail
        generalize wr.alloc (.cells #[.bool false, .bool false, .int .u32 0, .int .u32 0] 39) = W1 at *
        generalize wr.heap.size = T at *
        have hS : W1.drew.heap[T]? = some (.cells (hcells ⟨false, false, 0, 0⟩).toArray 39 (0, 0)) ∧ RowAt W1.drew a cap xs := ⟨HT.out, (H.out.next B1.out).next (Below.refl _ _).drew⟩
        have hcap := H.out.le
        rw [Hn.out] at hcap
        have j1 : 4 ≤ cap := by omega
        have j2 : (4 : Int) ≤ (cap : Int) := by omega
        refine held_start (S := fun W => W.heap[T]? = some (.cells (hcells ⟨false, false, 0, 0⟩).toArray 39 (0, 0)) ∧ RowAt W a cap xs) 8 (by kernel_rfl) rfl ?_
        refine held_take 0 (v := .agg (hcells ⟨false, false, 0, 0⟩).toArray) rfl (by kernel_rfl) (by kernel_rfl) (by kernel_rfl) (fun _ _ _ h => h) (by assumption) (by rfl) (fun W hW => run_load_head (.tmp 5) rfl T _ rfl hW.1) ?_
        simp only [Act.put, List.setIfInBounds_toArray, List.set_cons_zero, List.set_cons_succ]
        refine held_take 4 (v := ?_) rfl (by kernel_rfl) (by kernel_rfl) (by kernel_rfl) (fun _ _ _ h => h) (by assumption) (by rfl) ?_ ?_
        rotate_left
        · (intro W hW; go_simp; try with_reducible rfl)
        simp only [Act.put, List.setIfInBounds_toArray, List.set_cons_zero, List.set_cons_succ]
        refine held_take 5 (v := ?_) rfl (by kernel_rfl) (by kernel_rfl) (by kernel_rfl) (fun _ _ _ h => h) (by assumption) (by rfl) ?_ ?_
        rotate_left
        · (intro W hW; go_simp; try with_reducible rfl)
        simp only [Act.put, List.setIfInBounds_toArray, List.set_cons_zero, List.set_cons_succ]
        refine held_take 6 (v := ?_) rfl (by kernel_rfl) (by kernel_rfl) (by kernel_rfl) (fun _ _ _ h => h) (by assumption) (by rfl) ?_ ?_
        rotate_left
        · (intro W hW; (have t0 := conv_row (n := 4) (by simp; have := H4.out; omega) (hW.2.head 4 H4.out)); clear hW; go_simp; try with_reducible rfl)
        simp only [Act.put, List.setIfInBounds_toArray, List.set_cons_zero, List.set_cons_succ]
        have bd : Below W1.heap.size W1 W1.drew := (Below.refl _ _).drew
        have hR2 := block_next HR1.out bd
        have hB2 := Below.chain B1.out bd
        clear bd HT HR1 B1
        generalize W1.drew = W2 at *
        refine held_call 1 (f := 24) (args := #[.agg (hcells ⟨false, false, 0, 0⟩).toArray]) rfl (by kernel_rfl) (by rfl) (by go_simp) ?_
        refine (C23.out W2).mono ?_
        rintro e W3 ⟨v3, rfl, o3, b3⟩
        obtain ⟨p3, c3, rfl, r3⟩ := rowAt_own L24.out o3
        have hS3 := And.intro (block_next hS.1 b3) (hS.2.next b3)
        have hR3 := block_next hR2 b3
        have hB3 := Below.chain hB2 b3
        refine ⟨_, rfl, hS3, ?_⟩
        simp only [Act.put, List.setIfInBounds_toArray, List.set_cons_zero, List.set_cons_succ]
        have hc3 := r3.le
        rw [L24.out] at hc3
        have j3 : 4 ≤ c3 := by omega
        have j4 : (4 : Int) ≤ (c3 : Int) := by omega
        refine held_one 2 rfl (by kernel_rfl) (by rfl) ?_
        refine wp_value (v := .slice p3 4 c3) (w' := W3) (by go_simp) ⟨hS3, ?_⟩
        simp only [Act.put, List.setIfInBounds_toArray, List.set_cons_zero, List.set_cons_succ]
        have t3 := conv_row (n := 4) (by rw [List.length_take, L24.out]; rfl) (r3.head 4 (by rw [L24.out]; omega))
        refine held_one 3 rfl (by kernel_rfl) (by rfl) ?_
        refine wp_value (v := .string ⟨(hb.take 4).toArray⟩) (w' := W3) (by go_simp) ⟨hS3, ?_⟩
        simp only [Act.put, List.setIfInBounds_toArray, List.set_cons_zero, List.set_cons_succ]
        refine held_one 7 rfl (by kernel_rfl) (by rfl) ?_
        have HS3 := Lib.hid hS3
        have HR3 := Lib.hid hR3
        have HB3 := Lib.hid hB3
        clear hS hS3 hR2 hB2 hR3 hB3 o3 r3 b3 t3 hc3 j3 j4
        by_cases hw : Pc.who xs = some (false, false)
        · have e4 := HI.out.1 hw
          refine wp_value (v := .bool false) (w' := W3) (by rw [e4]; go_simp) ⟨HS3.out, ?_⟩
          simp only [Act.put, List.setIfInBounds_toArray, List.set_cons_zero, List.set_cons_succ]
          refine held_done (by kernel_rfl) ?_
          clear HI HNO
          by_cases h24 : n < 24
          · have i1 : (n : Int) < 24 := by omega
            obtain rfl := Q1.out hw (by rw [Hn.out]; exact h24)
            clear Q1 Q2 Q3 hw e4
            go_wp2_with (refine wpList_store_head rfl (.tmp 2) (.tmp 32) rfl w.heap.size Pc.hz _ rfl rfl HR3.out rfl ?_)
            exact bodyPost_ret (head_ret Tryd.results22 rfl rfl HR3.out) rfl ⟨rfl, below_setRow HB3.out (Nat.le_refl _) _⟩
          · have i1 : ¬ (n : Int) < 24 := by omega
            have hcut := fun W (h : RowAt W a cap xs) => h.cut 4 6 (by omega) (by rw [Hn.out]; omega)
            rw [if_neg (by omega), List.drop_take] at hcut
            have l2 : ((xs.drop 4).take (6 - 4)).length = 2 := by simp; have := Hn.out; omega
            have c27 := fun W h => refGet_at (a.map (·.add 4)) 2 (cap - 4) _ false W l2 (by omega) (by omega) (hcut W h).bytes
            have q2 := Q2.out hw (by rw [Hn.out]; exact h24)
            have q3 := Q3.out hw (by rw [Hn.out]; exact h24)
            have c16 := fun W h => refNum_any a n cap xs 16 false W Hn.out hm (by omega) h
            have c20 := fun W h => refNum_any a n cap xs 20 false W Hn.out hm (by omega) h
            have C16 := Lib.hid c16
            have C20 := Lib.hid c20
            have C27 := Lib.hid c27
            have q2x : ¬ Oc.get ((xs.drop 4).take (6 - 4)) false = 2 → A = (Pc.hz, 3) := q2
            have q3x : Oc.get ((xs.drop 4).take (6 - 4)) false = 2 → A = (⟨false, false, Pc.num xs 16 false, Pc.num xs 20 false⟩, 0) := q3
            have l16 := Pc.num_lt xs 16 false
            have l20 := Pc.num_lt xs 20 false
            generalize Pc.num xs 16 false = v16 at *
            generalize Pc.num xs 20 false = v20 at *
            generalize Oc.get ((xs.drop 4).take (6 - 4)) false = v2 at *
            clear Q1 Q2 Q3 hw e4 hcut c27 q2 q3 c16 c20
            have j5 : (6 : Int) ≤ (cap : Int) := by omega
            have j6 : ¬ cap = 4 := by omega
            have j7 : ¬ (cap : Int) = 4 := by omega
            go_wp2_with fail
            have hS : W3.drew.heap[T]? = some (.cells (hcells ⟨false, false, 0, 0⟩).toArray 39 (0, 0)) := HS3.out.1
            refine held_start (S := fun W => W.heap[T]? = some (.cells (hcells ⟨false, false, 0, 0⟩).toArray 39 (0, 0))) 6 (by kernel_rfl) rfl ?_
            refine held_take 0 (v := ?_) rfl (by kernel_rfl) (by kernel_rfl) (by kernel_rfl) (fun _ _ _ h => h) (by assumption) (by rfl) ?_ ?_
            rotate_left
            · (intro W hW; go_simp; try with_reducible rfl)
            simp only [Act.put, List.setIfInBounds_toArray, List.set_cons_zero, List.set_cons_succ]
            refine held_take 1 (v := .slice (a.map (·.add 4)) 2 (cap - 4)) rfl (by kernel_rfl) (by kernel_rfl) (by kernel_rfl) (fun _ _ _ h => h) (by assumption) (by rfl) (by intro W hW; clear hW; go_simp) ?_
            simp only [Act.put, List.setIfInBounds_toArray, List.set_cons_zero, List.set_cons_succ]
            refine held_take 2 (v := ?_) rfl (by kernel_rfl) (by kernel_rfl) (by kernel_rfl) (fun _ _ _ h => h) (by assumption) (by rfl) ?_ ?_
            rotate_left
            · (intro W hW; go_simp; try with_reducible rfl)
            simp only [Act.put, List.setIfInBounds_toArray, List.set_cons_zero, List.set_cons_succ]
            refine held_take 3 (v := ?_) rfl (by kernel_rfl) (by kernel_rfl) (by kernel_rfl) (fun _ _ _ h => h) (by assumption) (by rfl) ?_ ?_
            rotate_left
            · (intro W hW; (have t0 : W.cell? ⟨T, 0, none⟩ = some (.bool false) := cell_of_row _ _ _ _ _ _ hW); clear hW; go_simp; try with_reducible rfl)
            simp only [Act.put, List.setIfInBounds_toArray, List.set_cons_zero, List.set_cons_succ]
            have bd : Below W3.heap.size W3 W3.drew := (Below.refl _ _).drew
            have hR4 := block_next HR3.out bd
            have hB4 := Below.chain HB3.out bd
            have hrow4 := HS3.out.2.next bd
            clear HR3 HB3 HS3 bd
            generalize W3.drew = W4 at *
            refine held_call 4 (f := 46) (args := #[.slice (a.map (·.add 4)) 2 (cap - 4), .bool false]) rfl (by kernel_rfl) (by rfl) (by go_simp) ?_
            refine (C27.out W4 hrow4).mono ?_
            rintro e W5 ⟨rfl, h5⟩
            refine ⟨_, rfl, by rw [h5]; exact hS, ?_⟩
            rw [h5]
            clear h5 W5
            simp only [Act.put, List.setIfInBounds_toArray, List.set_cons_zero, List.set_cons_succ]
            refine held_one 5 rfl (by kernel_rfl) (by rfl) ?_
            have HR4 := Lib.hid hR4
            have HB4 := Lib.hid hB4
            have HS4 := Lib.hid hS
            have HW4 := Lib.hid hrow4
            clear hR4 hB4 hS hrow4
            by_cases t2 : v2 = 2
            · obtain rfl := q3x t2
              have u2 : ((v2 : Int) != 2) = false := by rw [t2]; rfl
              clear q2x q3x t2
              refine wp_value (v := .bool false) (w' := W4) (by go_simp) ⟨HS4.out, ?_⟩
              simp only [Act.put, List.setIfInBounds_toArray, List.set_cons_zero, List.set_cons_succ]
              refine held_done (by kernel_rfl) ?_
              have t0 : W4.cell? ⟨T, 0, none⟩ = some (.bool false) := cell_of_row _ _ _ _ _ _ HS4.out
              have d4 : W4.cell? ⟨T, 2, none⟩ = some (.int .u32 0) := cell_of_row _ _ _ _ _ _ HS4.out
              have f4 := frozen_of_row _ _ 2 _ _ HS4.out
              go_wp2_with fail
              refine (C16.out W4 HW4.out).mono ?_
              rintro e W5 ⟨rfl, h5⟩
              rw [h5]
              clear h5 W5
              have hT5 := heap_setCell_same W4 T 2 _ _ (.int .u32 (v16 : Int)) HS4.out
              have hR5 : (W4.setCell ⟨T, 2, none⟩ (.int .u32 (v16 : Int))).heap[w.heap.size]? = _ := (heap_setCell_other W4 _ _ _ (by simp; omega)).trans HR4.out
              have hB5 := HB4.out.setCell (p := ⟨T, 2, none⟩) (by simp; omega) (.int .u32 (v16 : Int))
              have hW5 := H.out.next hB5
              have t5 : (W4.setCell ⟨T, 2, none⟩ (.int .u32 (v16 : Int))).cell? ⟨T, 0, none⟩ = some (.bool false) := cell_of_row _ _ _ _ _ _ hT5
              have d5 : (W4.setCell ⟨T, 2, none⟩ (.int .u32 (v16 : Int))).cell? ⟨T, 3, none⟩ = some (.int .u32 0) := cell_of_row _ _ _ _ _ _ hT5
              have f5 := frozen_of_row _ _ 3 _ _ hT5
              have hT6 := heap_setCell_same _ T 3 _ _ (.int .u32 (v20 : Int)) hT5
              have hR6 : ((W4.setCell ⟨T, 2, none⟩ (.int .u32 (v16 : Int))).setCell ⟨T, 3, none⟩ (.int .u32 (v20 : Int))).heap[w.heap.size]? = _ := (heap_setCell_other _ _ _ _ (by simp; omega)).trans hR5
              have HB6 := Lib.hid (hB5.setCell (p := ⟨T, 3, none⟩) (by simp; omega) (.int .u32 (v20 : Int)))
              have HT6 := Lib.hid hT6
              have HR6 := Lib.hid hR6
              have HW5 := Lib.hid hW5
              clear hT5 hR5 hB5 hW5 hT6 hR6
              go_wp2_with fail
              refine (C20.out _ HW5.out).mono ?_
              rintro e W5 ⟨rfl, h5⟩
              rw [h5]
              clear h5 W5 HW5
              go_wp2_with (first | (refine wpList_load_row rfl 39 (.tmp 5) rfl T rfl 39 (hcells ⟨false, false, v16, v20⟩).toArray (0, 0) _ HT6.out Tryd.underlying39 rfl info24 ?_) | (refine wpList_store_head rfl (.tmp 2) (.tmp 50) rfl w.heap.size ⟨false, false, v16, v20⟩ _ rfl rfl HR6.out rfl ?_))
              exact bodyPost_ret (head_ret Tryd.results22 rfl rfl HR6.out) rfl ⟨rfl, below_setRow HB6.out (Nat.le_refl _) _⟩
            · obtain rfl := q2x t2
              have u2 : ((v2 : Int) != 2) = true := by simp; omega
              clear q2x q3x t2
              refine wp_value (v := .bool true) (w' := W4) (by go_simp) ⟨HS4.out, ?_⟩
              simp only [Act.put, List.setIfInBounds_toArray, List.set_cons_zero, List.set_cons_succ]
              refine held_done (by kernel_rfl) ?_
              go_wp2_with (refine wpList_store_head rfl (.tmp 2) (.tmp 39) rfl w.heap.size Pc.hz _ rfl rfl HR4.out rfl ?_)
              exact bodyPost_ret (head_ret Tryd.results22 rfl rfl HR4.out) rfl ⟨rfl, below_setRow HB4.out (Nat.le_refl _) _⟩
        · have e4 : ¬ hb.take 4 = xs.take 4 := fun e => hw (HI.out.2 e)
          refine wp_value (v := .bool true) (w' := W3) (by go_simp) ⟨HS3.out, ?_⟩
          simp only [Act.put, List.setIfInBounds_toArray, List.set_cons_zero, List.set_cons_succ]
          refine held_done (by kernel_rfl) ?_
          have HNW := Lib.hid hw
          clear e4 hw HI Q1 Q2 Q3
          go_wp2
          go_roundw
          case rel => exact ⟨0 + 1, by simp, by omega, (fun j hj => by
            rcases Nat.lt_succ_iff_lt_or_eq.1 hj with h | h
            · exact HNO.out j h
            · subst h; exact HNW.out), HB3.out, HR3.out⟩
          case measure => simp [intOf]
      · skip
        have q1 := fun hw => Pc.head_short xs Hn4.out (big := true) (nano := false) hw
        have q2 := fun hw => Pc.head_two xs Hn4.out (big := true) (nano := false) hw
        have q3 := fun hw => Pc.head_good xs Hn4.out (big := true) (nano := false) hw
        have hiff := Pc.who_iff xs H4.out true false
        have h4b := Pc.hbytes_four ⟨true, false, 0, 0⟩
        simp only at h4b
        rw [← h4b] at hiff
        rw [HA.out] at q1 q2 q3
        have c23 := fun W => header_any ⟨true, false, 0, 0⟩ W ⟨by decide, by decide⟩
        have l24 := Pc.hbytes_length ⟨true, false, 0, 0⟩
        generalize Pc.hbytes ⟨true, false, 0, 0⟩ = hb at *
        have hT := heap_alloc_new wr (.cells (hcells ⟨true, false, 0, 0⟩).toArray 39)
        have bT : Below wr.heap.size wr (wr.alloc (.cells (hcells ⟨true, false, 0, 0⟩).toArray 39)) := (Below.refl _ _).alloc (Nat.le_refl _) _
        have HT : Hid ((wr.alloc (.cells #[.bool true, .bool false, .int .u32 0, .int .u32 0] 39)).heap[wr.heap.size]? = some (.cells (hcells ⟨true, false, 0, 0⟩).toArray 39 (0, 0))) := hT
        have HR1 : Hid ((wr.alloc (.cells #[.bool true, .bool false, .int .u32 0, .int .u32 0] 39)).heap[w.heap.size]? = some (.cells (hcells Pc.hz).toArray 39 (0, 0))) := block_next hR bT
        have B1 : Hid (Below w.heap.size w (wr.alloc (.cells #[.bool true, .bool false, .int .u32 0, .int .u32 0] 39))) := Below.chain hbw bT
        have hRT : w.heap.size < wr.heap.size := lt_of_block hR
        have Q1 := Lib.hid q1
        have Q2 := Lib.hid q2
        have Q3 := Lib.hid q3
        have HI := Lib.hid hiff
        have C23 := Lib.hid c23
        have L24 := Lib.hid l24
        have HNO := Lib.hid hno
        clear hR hbw hT bT q1 q2 q3 hiff h4b c23 l24 hno
        go_wp2_with fail
        generalize wr.alloc (.cells #[.bool true, .bool false, .int .u32 0, .int .u32 0] 39) = W1 at *
        generalize wr.heap.size = T at *
        have hS : W1.drew.heap[T]? = some (.cells (hcells ⟨true, false, 0, 0⟩).toArray 39 (0, 0)) ∧ RowAt W1.drew a cap xs := ⟨HT.out, (H.out.next B1.out).next (Below.refl _ _).drew⟩
        have hcap := H.out.le
        rw [Hn.out] at hcap
        have j1 : 4 ≤ cap := by omega
        have j2 : (4 : Int) ≤ (cap : Int) := by omega
        refine held_start (S := fun W => W.heap[T]? = some (.cells (hcells ⟨true, false, 0, 0⟩).toArray 39 (0, 0)) ∧ RowAt W a cap xs) 8 (by kernel_rfl) rfl ?_
        refine held_take 0 (v := .agg (hcells ⟨true, false, 0, 0⟩).toArray) rfl (by kernel_rfl) (by kernel_rfl) (by kernel_rfl) (fun _ _ _ h => h) (by assumption) (by rfl) (fun W hW => run_load_head (.tmp 5) rfl T _ rfl hW.1) ?_
        simp only [Act.put, List.setIfInBounds_toArray, List.set_cons_zero, List.set_cons_succ]
        refine held_take 4 (v := ?_) rfl (by kernel_rfl) (by kernel_rfl) (by kernel_rfl) (fun _ _ _ h => h) (by assumption) (by rfl) ?_ ?_
        rotate_left
        · (intro W hW; go_simp; try with_reducible rfl)
        simp only [Act.put, List.setIfInBounds_toArray, List.set_cons_zero, List.set_cons_succ]
        refine held_take 5 (v := ?_) rfl (by kernel_rfl) (by kernel_rfl) (by kernel_rfl) (fun _ _ _ h => h) (by assumption) (by rfl) ?_ ?_
        rotate_left
        · (intro W hW; go_simp; try with_reducible rfl)
        simp only [Act.put, List.setIfInBounds_toArray, List.set_cons_zero, List.set_cons_succ]
        refine held_take 6 (v := ?_) rfl (by kernel_rfl) (by kernel_rfl) (by kernel_rfl) (fun _ _ _ h => h) (by assumption) (by rfl) ?_ ?_
        rotate_left
        · (intro W hW; (have t0 := conv_row (n := 4) (by simp; have := H4.out; omega) (hW.2.head 4 H4.out)); clear hW; go_simp; try with_reducible rfl)
        simp only [Act.put, List.setIfInBounds_toArray, List.set_cons_zero, List.set_cons_succ]
        have bd : Below W1.heap.size W1 W1.drew := (Below.refl _ _).drew
        have hR2 := block_next HR1.out bd
        have hB2 := Below.chain B1.out bd
        clear bd HT HR1 B1
        generalize W1.drew = W2 at *
        refine held_call 1 (f := 24) (args := #[.agg (hcells ⟨true, false, 0, 0⟩).toArray]) rfl (by kernel_rfl) (by rfl) (by go_simp) ?_
        refine (C23.out W2).mono ?_
        rintro e W3 ⟨v3, rfl, o3, b3⟩
        obtain ⟨p3, c3, rfl, r3⟩ := rowAt_own L24.out o3
        have hS3 := And.intro (block_next hS.1 b3) (hS.2.next b3)
        have hR3 := block_next hR2 b3
        have hB3 := Below.chain hB2 b3
        refine ⟨_, rfl, hS3, ?_⟩
        simp only [Act.put, List.setIfInBounds_toArray, List.set_cons_zero, List.set_cons_succ]
        have hc3 := r3.le
        rw [L24.out] at hc3
        have j3 : 4 ≤ c3 := by omega
        have j4 : (4 : Int) ≤ (c3 : Int) := by omega
        refine held_one 2 rfl (by kernel_rfl) (by rfl) ?_
        refine wp_value (v := .slice p3 4 c3) (w' := W3) (by go_simp) ⟨hS3, ?_⟩
        simp only [Act.put, List.setIfInBounds_toArray, List.set_cons_zero, List.set_cons_succ]
        have t3 := conv_row (n := 4) (by rw [List.length_take, L24.out]; rfl) (r3.head 4 (by rw [L24.out]; omega))
        refine held_one 3 rfl (by kernel_rfl) (by rfl) ?_
        refine wp_value (v := .string ⟨(hb.take 4).toArray⟩) (w' := W3) (by go_simp) ⟨hS3, ?_⟩
        simp only [Act.put, List.setIfInBounds_toArray, List.set_cons_zero, List.set_cons_succ]
        refine held_one 7 rfl (by kernel_rfl) (by rfl) ?_
        have HS3 := Lib.hid hS3
        have HR3 := Lib.hid hR3
        have HB3 := Lib.hid hB3
        clear hS hS3 hR2 hB2 hR3 hB3 o3 r3 b3 t3 hc3 j3 j4
        by_cases hw : Pc.who xs = some (true, false)
        · have e4 := HI.out.1 hw
          refine wp_value (v := .bool false) (w' := W3) (by rw [e4]; go_simp) ⟨HS3.out, ?_⟩
          simp only [Act.put, List.setIfInBounds_toArray, List.set_cons_zero, List.set_cons_succ]
          refine held_done (by kernel_rfl) ?_
          clear HI HNO
          by_cases h24 : n < 24
          · have i1 : (n : Int) < 24 := by omega
            obtain rfl := Q1.out hw (by rw [Hn.out]; exact h24)
            clear Q1 Q2 Q3 hw e4
            go_wp2_with (refine wpList_store_head rfl (.tmp 2) (.tmp 32) rfl w.heap.size Pc.hz _ rfl rfl HR3.out rfl ?_)
            exact bodyPost_ret (head_ret Tryd.results22 rfl rfl HR3.out) rfl ⟨rfl, below_setRow HB3.out (Nat.le_refl _) _⟩
          · have i1 : ¬ (n : Int) < 24 := by omega
            have hcut := fun W (h : RowAt W a cap xs) => h.cut 4 6 (by omega) (by rw [Hn.out]; omega)
            rw [if_neg (by omega), List.drop_take] at hcut
            have l2 : ((xs.drop 4).take (6 - 4)).length = 2 := by simp; have := Hn.out; omega
            have c27 := fun W h => refGet_at (a.map (·.add 4)) 2 (cap - 4) _ true W l2 (by omega) (by omega) (hcut W h).bytes
            have q2 := Q2.out hw (by rw [Hn.out]; exact h24)
            have q3 := Q3.out hw (by rw [Hn.out]; exact h24)
            have c16 := fun W h => refNum_any a n cap xs 16 true W Hn.out hm (by omega) h
            have c20 := fun W h => refNum_any a n cap xs 20 true W Hn.out hm (by omega) h
            have C16 := Lib.hid c16
            have C20 := Lib.hid c20
            have C27 := Lib.hid c27
            have q2x : ¬ Oc.get ((xs.drop 4).take (6 - 4)) true = 2 → A = (Pc.hz, 3) := q2
            have q3x : Oc.get ((xs.drop 4).take (6 - 4)) true = 2 → A = (⟨true, false, Pc.num xs 16 true, Pc.num xs 20 true⟩, 0) := q3
            have l16 := Pc.num_lt xs 16 true
            have l20 := Pc.num_lt xs 20 true
            generalize Pc.num xs 16 true = v16 at *
            generalize Pc.num xs 20 true = v20 at *
            generalize Oc.get ((xs.drop 4).take (6 - 4)) true = v2 at *
            clear Q1 Q2 Q3 hw e4 hcut c27 q2 q3 c16 c20
            have j5 : (6 : Int) ≤ (cap : Int) := by omega
            have j6 : ¬ cap = 4 := by omega
            have j7 : ¬ (cap : Int) = 4 := by omega
            go_wp2_with fail
            have hS : W3.drew.heap[T]? = some (.cells (hcells ⟨true, false, 0, 0⟩).toArray 39 (0, 0)) := HS3.out.1
            refine held_start (S := fun W => W.heap[T]? = some (.cells (hcells ⟨true, false, 0, 0⟩).toArray 39 (0, 0))) 6 (by kernel_rfl) rfl ?_
            refine held_take 0 (v := ?_) rfl (by kernel_rfl) (by kernel_rfl) (by kernel_rfl) (fun _ _ _ h => h) (by assumption) (by rfl) ?_ ?_
            rotate_left
            · (intro W hW; go_simp; try with_reducible rfl)
            simp only [Act.put, List.setIfInBounds_toArray, List.set_cons_zero, List.set_cons_succ]
            refine held_take 1 (v := .slice (a.map (·.add 4)) 2 (cap - 4)) rfl (by kernel_rfl) (by kernel_rfl) (by kernel_rfl) (fun _ _ _ h => h) (by assumption) (by rfl) (by intro W hW; clear hW; go_simp) ?_
            simp only [Act.put, List.setIfInBounds_toArray, List.set_cons_zero, List.set_cons_succ]
            refine held_take 2 (v := ?_) rfl (by kernel_rfl) (by kernel_rfl) (by kernel_rfl) (fun _ _ _ h => h) (by assumption) (by rfl) ?_ ?_
            rotate_left
            · (intro W hW; go_simp; try with_reducible rfl)
            simp only [Act.put, List.setIfInBounds_toArray, List.set_cons_zero, List.set_cons_succ]
            refine held_take 3 (v := ?_) rfl (by kernel_rfl) (by kernel_rfl) (by kernel_rfl) (fun _ _ _ h => h) (by assumption) (by rfl) ?_ ?_
            rotate_left
            · (intro W hW; (have t0 : W.cell? ⟨T, 0, none⟩ = some (.bool true) := cell_of_row _ _ _ _ _ _ hW); clear hW; go_simp; try with_reducible rfl)
            simp only [Act.put, List.setIfInBounds_toArray, List.set_cons_zero, List.set_cons_succ]
            have bd : Below W3.heap.size W3 W3.drew := (Below.refl _ _).drew
            have hR4 := block_next HR3.out bd
            have hB4 := Below.chain HB3.out bd
            have hrow4 := HS3.out.2.next bd
            clear HR3 HB3 HS3 bd
            generalize W3.drew = W4 at *
            refine held_call 4 (f := 46) (args := #[.slice (a.map (·.add 4)) 2 (cap - 4), .bool true]) rfl (by kernel_rfl) (by rfl) (by go_simp) ?_
            refine (C27.out W4 hrow4).mono ?_
            rintro e W5 ⟨rfl, h5⟩
            refine ⟨_, rfl, by rw [h5]; exact hS, ?_⟩
            rw [h5]
            clear h5 W5
            simp only [Act.put, List.setIfInBounds_toArray, List.set_cons_zero, List.set_cons_succ]
            refine held_one 5 rfl (by kernel_rfl) (by rfl) ?_
            have HR4 := Lib.hid hR4
            have HB4 := Lib.hid hB4
            have HS4 := Lib.hid hS
            have HW4 := Lib.hid hrow4
            clear hR4 hB4 hS hrow4
            by_cases t2 : v2 = 2
            · obtain rfl := q3x t2
              have u2 : ((v2 : Int) != 2) = false := by rw [t2]; rfl
              clear q2x q3x t2
              refine wp_value (v := .bool false) (w' := W4) (by go_simp) ⟨HS4.out, ?_⟩
              simp only [Act.put, List.setIfInBounds_toArray, List.set_cons_zero, List.set_cons_succ]
              refine held_done (by kernel_rfl) ?_
              have t0 : W4.cell? ⟨T, 0, none⟩ = some (.bool true) := cell_of_row _ _ _ _ _ _ HS4.out
              have d4 : W4.cell? ⟨T, 2, none⟩ = some (.int .u32 0) := cell_of_row _ _ _ _ _ _ HS4.out
              have f4 := frozen_of_row _ _ 2 _ _ HS4.out
              go_wp2_with fail
              refine (C16.out W4 HW4.out).mono ?_
              rintro e W5 ⟨rfl, h5⟩
              rw [h5]
              clear h5 W5
              have hT5 := heap_setCell_same W4 T 2 _ _ (.int .u32 (v16 : Int)) HS4.out
              have hR5 : (W4.setCell ⟨T, 2, none⟩ (.int .u32 (v16 : Int))).heap[w.heap.size]? = _ := (heap_setCell_other W4 _ _ _ (by simp; omega)).trans HR4.out
              have hB5 := HB4.out.setCell (p := ⟨T, 2, none⟩) (by simp; omega) (.int .u32 (v16 : Int))
              have hW5 := H.out.next hB5
              have t5 : (W4.setCell ⟨T, 2, none⟩ (.int .u32 (v16 : Int))).cell? ⟨T, 0, none⟩ = some (.bool true) := cell_of_row _ _ _ _ _ _ hT5
              have d5 : (W4.setCell ⟨T, 2, none⟩ (.int .u32 (v16 : Int))).cell? ⟨T, 3, none⟩ = some (.int .u32 0) := cell_of_row _ _ _ _ _ _ hT5
              have f5 := frozen_of_row _ _ 3 _ _ hT5
              have hT6 := heap_setCell_same _ T 3 _ _ (.int .u32 (v20 : Int)) hT5
              have hR6 : ((W4.setCell ⟨T, 2, none⟩ (.int .u32 (v16 : Int))).setCell ⟨T, 3, none⟩ (.int .u32 (v20 : Int))).heap[w.heap.size]? = _ := (heap_setCell_other _ _ _ _ (by simp; omega)).trans hR5
              have HB6 := Lib.hid (hB5.setCell (p := ⟨T, 3, none⟩) (by simp; omega) (.int .u32 (v20 : Int)))
              have HT6 := Lib.hid hT6
              have HR6 := Lib.hid hR6
              have HW5 := Lib.hid hW5
              clear hT5 hR5 hB5 hW5 hT6 hR6
              go_wp2_with fail
              refine (C20.out _ HW5.out).mono ?_
              rintro e W5 ⟨rfl, h5⟩
              rw [h5]
              clear h5 W5 HW5
              go_wp2_with (first | (refine wpList_load_row rfl 39 (.tmp 5) rfl T rfl 39 (hcells ⟨true, false, v16, v20⟩).toArray (0, 0) _ HT6.out Tryd.underlying39 rfl info24 ?_) | (refine wpList_store_head rfl (.tmp 2) (.tmp 50) rfl w.heap.size ⟨true, false, v16, v20⟩ _ rfl rfl HR6.out rfl ?_))
              exact bodyPost_ret (head_ret Tryd.results22 rfl rfl HR6.out) rfl ⟨rfl, below_setRow HB6.out (Nat.le_refl _) _⟩
            · obtain rfl := q2x t2
              have u2 : ((v2 : Int) != 2) = true := by simp; omega
              clear q2x q3x t2
              refine wp_value (v := .bool true) (w' := W4) (by go_simp) ⟨HS4.out, ?_⟩
              simp only [Act.put, List.setIfInBounds_toArray, List.set_cons_zero, List.set_cons_succ]
              refine held_done (by kernel_rfl) ?_
              go_wp2_with (refine wpList_store_head rfl (.tmp 2) (.tmp 39) rfl w.heap.size Pc.hz _ rfl rfl HR4.out rfl ?_)
              exact bodyPost_ret (head_ret Tryd.results22 rfl rfl HR4.out) rfl ⟨rfl, below_setRow HB4.out (Nat.le_refl _) _⟩
        · have e4 : ¬ hb.take 4 = xs.take 4 := fun e => hw (HI.out.2 e)
          refine wp_value (v := .bool true) (w' := W3) (by go_simp) ⟨HS3.out, ?_⟩
          simp only [Act.put, List.setIfInBounds_toArray, List.set_cons_zero, List.set_cons_succ]
          refine held_done (by kernel_rfl) ?_
          have HNW := Lib.hid hw
          clear e4 hw HI Q1 Q2 Q3
          go_wp2
          go_roundw
          case rel => exact ⟨1 + 1, by simp, by omega, (fun j hj => by
            rcases Nat.lt_succ_iff_lt_or_eq.1 hj with h | h
            · exact HNO.out j h
            · subst h; exact HNW.out), HB3.out, HR3.out⟩
          case measure => simp [intOf]
      · skip
        have q1 := fun hw => Pc.head_short xs Hn4.out (big := false) (nano := true) hw
        have q2 := fun hw => Pc.head_two xs Hn4.out (big := false) (nano := true) hw
        have q3 := fun hw => Pc.head_good xs Hn4.out (big := false) (nano := true) hw
        have hiff := Pc.who_iff xs H4.out false true
        have h4b := Pc.hbytes_four ⟨false, true, 0, 0⟩
        simp only at h4b
        rw [← h4b] at hiff
        rw [HA.out] at q1 q2 q3
        have c23 := fun W => header_any ⟨false, true, 0, 0⟩ W ⟨by decide, by decide⟩
        have l24 := Pc.hbytes_length ⟨false, true, 0, 0⟩
        generalize Pc.hbytes ⟨false, true, 0, 0⟩ = hb at *
        have hT := heap_alloc_new wr (.cells (hcells ⟨false, true, 0, 0⟩).toArray 39)
        have bT : Below wr.heap.size wr (wr.alloc (.cells (hcells ⟨false, true, 0, 0⟩).toArray 39)) := (Below.refl _ _).alloc (Nat.le_refl _) _
        have HT : Hid ((wr.alloc (.cells #[.bool false, .bool true, .int .u32 0, .int .u32 0] 39)).heap[wr.heap.size]? = some (.cells (hcells ⟨false, true, 0, 0⟩).toArray 39 (0, 0))) := hT
        have HR1 : Hid ((wr.alloc (.cells #[.bool false, .bool true, .int .u32 0, .int .u32 0] 39)).heap[w.heap.size]? = some (.cells (hcells Pc.hz).toArray 39 (0, 0))) := block_next hR bT
        have B1 : Hid (Below w.heap.size w (wr.alloc (.cells #[.bool false, .bool true, .int .u32 0, .int .u32 0] 39))) := Below.chain hbw bT
        have hRT : w.heap.size < wr.heap.size := lt_of_block hR
        have Q1 := Lib.hid q1
        have Q2 := Lib.hid q2
        have Q3 := Lib.hid q3
        have HI := Lib.hid hiff
        have C23 := Lib.hid c23
        have L24 := Lib.hid l24
        have HNO := Lib.hid hno
        clear hR hbw hT bT q1 q2 q3 hiff h4b c23 l24 hno
        go_wp2_with fail
        generalize wr.alloc (.cells #[.bool false, .bool true, .int .u32 0, .int .u32 0] 39) = W1 at *
        generalize wr.heap.size = T at *
        have hS : W1.drew.heap[T]? = some (.cells (hcells ⟨false, true, 0, 0⟩).toArray 39 (0, 0)) ∧ RowAt W1.drew a cap xs := ⟨HT.out, (H.out.next B1.out).next (Below.refl _ _).drew⟩
        have hcap := H.out.le
        rw [Hn.out] at hcap
        have j1 : 4 ≤ cap := by omega
        have j2 : (4 : Int) ≤ (cap : Int) := by omega
        refine held_start (S := fun W => W.heap[T]? = some (.cells (hcells ⟨false, true, 0, 0⟩).toArray 39 (0, 0)) ∧ RowAt W a cap xs) 8 (by kernel_rfl) rfl ?_
        refine held_take 0 (v := .agg (hcells ⟨false, true, 0, 0⟩).toArray) rfl (by kernel_rfl) (by kernel_rfl) (by kernel_rfl) (fun _ _ _ h => h) (by assumption) (by rfl) (fun W hW => run_load_head (.tmp 5) rfl T _ rfl hW.1) ?_
        simp only [Act.put, List.setIfInBounds_toArray, List.set_cons_zero, List.set_cons_succ]
        refine held_take 4 (v := ?_) rfl (by kernel_rfl) (by kernel_rfl) (by kernel_rfl) (fun _ _ _ h => h) (by assumption) (by rfl) ?_ ?_
        rotate_left
        · (intro W hW; go_simp; try with_reducible rfl)
        simp only [Act.put, List.setIfInBounds_toArray, List.set_cons_zero, List.set_cons_succ]
        refine held_take 5 (v := ?_) rfl (by kernel_rfl) (by kernel_rfl) (by kernel_rfl) (fun _ _ _ h => h) (by assumption) (by rfl) ?_ ?_
        rotate_left
        · (intro W hW; go_simp; try with_reducible rfl)
        simp only [Act.put, List.setIfInBounds_toArray, List.set_cons_zero, List.set_cons_succ]
        refine held_take 6 (v := ?_) rfl (by kernel_rfl) (by kernel_rfl) (by kernel_rfl) (fun _ _ _ h => h) (by assumption) (by rfl) ?_ ?_
        rotate_left
        · (intro W hW; (have t0 := conv_row (n := 4) (by simp; have := H4.out; omega) (hW.2.head 4 H4.out)); clear hW; go_simp; try with_reducible rfl)
        simp only [Act.put, List.setIfInBounds_toArray, List.set_cons_zero, List.set_cons_succ]
        have bd : Below W1.heap.size W1 W1.drew := (Below.refl _ _).drew
        have hR2 := block_next HR1.out bd
        have hB2 := Below.chain B1.out bd
        clear bd HT HR1 B1
        generalize W1.drew = W2 at *
        refine held_call 1 (f := 24) (args := #[.agg (hcells ⟨false, true, 0, 0⟩).toArray]) rfl (by kernel_rfl) (by rfl) (by go_simp) ?_
        refine (C23.out W2).mono ?_
        rintro e W3 ⟨v3, rfl, o3, b3⟩
        obtain ⟨p3, c3, rfl, r3⟩ := rowAt_own L24.out o3
        have hS3 := And.intro (block_next hS.1 b3) (hS.2.next b3)
        have hR3 := block_next hR2 b3
        have hB3 := Below.chain hB2 b3
        refine ⟨_, rfl, hS3, ?_⟩
        simp only [Act.put, List.setIfInBounds_toArray, List.set_cons_zero, List.set_cons_succ]
        have hc3 := r3.le
        rw [L24.out] at hc3
        have j3 : 4 ≤ c3 := by omega
        have j4 : (4 : Int) ≤ (c3 : Int) := by omega
        refine held_one 2 rfl (by kernel_rfl) (by rfl) ?_
        refine wp_value (v := .slice p3 4 c3) (w' := W3) (by go_simp) ⟨hS3, ?_⟩
        simp only [Act.put, List.setIfInBounds_toArray, List.set_cons_zero, List.set_cons_succ]
        have t3 := conv_row (n := 4) (by rw [List.length_take, L24.out]; rfl) (r3.head 4 (by rw [L24.out]; omega))
        refine held_one 3 rfl (by kernel_rfl) (by rfl) ?_
        refine wp_value (v := .string ⟨(hb.take 4).toArray⟩) (w' := W3) (by go_simp) ⟨hS3, ?_⟩
        simp only [Act.put, List.setIfInBounds_toArray, List.set_cons_zero, List.set_cons_succ]
        refine held_one 7 rfl (by kernel_rfl) (by rfl) ?_
        have HS3 := Lib.hid hS3
        have HR3 := Lib.hid hR3
        have HB3 := Lib.hid hB3
        clear hS hS3 hR2 hB2 hR3 hB3 o3 r3 b3 t3 hc3 j3 j4
        by_cases hw : Pc.who xs = some (false, true)
        · have e4 := HI.out.1 hw
          refine wp_value (v := .bool false) (w' := W3) (by rw [e4]; go_simp) ⟨HS3.out, ?_⟩
          simp only [Act.put, List.setIfInBounds_toArray, List.set_cons_zero, List.set_cons_succ]
          refine held_done (by kernel_rfl) ?_
          clear HI HNO
          by_cases h24 : n < 24
          · have i1 : (n : Int) < 24 := by omega
            obtain rfl := Q1.out hw (by rw [Hn.out]; exact h24)
            clear Q1 Q2 Q3 hw e4
            go_wp2_with (refine wpList_store_head rfl (.tmp 2) (.tmp 32) rfl w.heap.size Pc.hz _ rfl rfl HR3.out rfl ?_)
            exact bodyPost_ret (head_ret Tryd.results22 rfl rfl HR3.out) rfl ⟨rfl, below_setRow HB3.out (Nat.le_refl _) _⟩
          · have i1 : ¬ (n : Int) < 24 := by omega
            have hcut := fun W (h : RowAt W a cap xs) => h.cut 4 6 (by omega) (by rw [Hn.out]; omega)
            rw [if_neg (by omega), List.drop_take] at hcut
            have l2 : ((xs.drop 4).take (6 - 4)).length = 2 := by simp; have := Hn.out; omega
            have c27 := fun W h => refGet_at (a.map (·.add 4)) 2 (cap - 4) _ false W l2 (by omega) (by omega) (hcut W h).bytes
            have q2 := Q2.out hw (by rw [Hn.out]; exact h24)
            have q3 := Q3.out hw (by rw [Hn.out]; exact h24)
            have c16 := fun W h => refNum_any a n cap xs 16 false W Hn.out hm (by omega) h
            have c20 := fun W h => refNum_any a n cap xs 20 false W Hn.out hm (by omega) h
            have C16 := Lib.hid c16
            have C20 := Lib.hid c20
            have C27 := Lib.hid c27
            have q2x : ¬ Oc.get ((xs.drop 4).take (6 - 4)) false = 2 → A = (Pc.hz, 3) := q2
            have q3x : Oc.get ((xs.drop 4).take (6 - 4)) false = 2 → A = (⟨false, true, Pc.num xs 16 false, Pc.num xs 20 false⟩, 0) := q3
            have l16 := Pc.num_lt xs 16 false
            have l20 := Pc.num_lt xs 20 false
            generalize Pc.num xs 16 false = v16 at *
            generalize Pc.num xs 20 false = v20 at *
            generalize Oc.get ((xs.drop 4).take (6 - 4)) false = v2 at *
            clear Q1 Q2 Q3 hw e4 hcut c27 q2 q3 c16 c20
            have j5 : (6 : Int) ≤ (cap : Int) := by omega
            have j6 : ¬ cap = 4 := by omega
            have j7 : ¬ (cap : Int) = 4 := by omega
            go_wp2_with fail
            have hS : W3.drew.heap[T]? = some (.cells (hcells ⟨false, true, 0, 0⟩).toArray 39 (0, 0)) := HS3.out.1
            refine held_start (S := fun W => W.heap[T]? = some (.cells (hcells ⟨false, true, 0, 0⟩).toArray 39 (0, 0))) 6 (by kernel_rfl) rfl ?_
            refine held_take 0 (v := ?_) rfl (by kernel_rfl) (by kernel_rfl) (by kernel_rfl) (fun _ _ _ h => h) (by assumption) (by rfl) ?_ ?_
            rotate_left
            · (intro W hW; go_simp; try with_reducible rfl)
            simp only [Act.put, List.setIfInBounds_toArray, List.set_cons_zero, List.set_cons_succ]
            refine held_take 1 (v := .slice (a.map (·.add 4)) 2 (cap - 4)) rfl (by kernel_rfl) (by kernel_rfl) (by kernel_rfl) (fun _ _ _ h => h) (by assumption) (by rfl) (by intro W hW; clear hW; go_simp) ?_
            simp only [Act.put, List.setIfInBounds_toArray, List.set_cons_zero, List.set_cons_succ]
            refine held_take 2 (v := ?_) rfl (by kernel_rfl) (by kernel_rfl) (by kernel_rfl) (fun _ _ _ h => h) (by assumption) (by rfl) ?_ ?_
            rotate_left
            · (intro W hW; go_simp; try with_reducible rfl)
            simp only [Act.put, List.setIfInBounds_toArray, List.set_cons_zero, List.set_cons_succ]
            refine held_take 3 (v := ?_) rfl (by kernel_rfl) (by kernel_rfl) (by kernel_rfl) (fun _ _ _ h => h) (by assumption) (by rfl) ?_ ?_
            rotate_left
            · (intro W hW; (have t0 : W.cell? ⟨T, 0, none⟩ = some (.bool false) := cell_of_row _ _ _ _ _ _ hW); clear hW; go_simp; try with_reducible rfl)
            simp only [Act.put, List.setIfInBounds_toArray, List.set_cons_zero, List.set_cons_succ]
            have bd : Below W3.heap.size W3 W3.drew := (Below.refl _ _).drew
            have hR4 := block_next HR3.out bd
            have hB4 := Below.chain HB3.out bd
            have hrow4 := HS3.out.2.next bd
            clear HR3 HB3 HS3 bd
            generalize W3.drew = W4 at *
            refine held_call 4 (f := 46) (args := #[.slice (a.map (·.add 4)) 2 (cap - 4), .bool false]) rfl (by kernel_rfl) (by rfl) (by go_simp) ?_
            refine (C27.out W4 hrow4).mono ?_
            rintro e W5 ⟨rfl, h5⟩
            refine ⟨_, rfl, by rw [h5]; exact hS, ?_⟩
            rw [h5]
            clear h5 W5
            simp only [Act.put, List.setIfInBounds_toArray, List.set_cons_zero, List.set_cons_succ]
            refine held_one 5 rfl (by kernel_rfl) (by rfl) ?_
            have HR4 := Lib.hid hR4
            have HB4 := Lib.hid hB4
            have HS4 := Lib.hid hS
            have HW4 := Lib.hid hrow4
            clear hR4 hB4 hS hrow4
            by_cases t2 : v2 = 2
            · obtain rfl := q3x t2
              have u2 : ((v2 : Int) != 2) = false := by rw [t2]; rfl
              clear q2x q3x t2
              refine wp_value (v := .bool false) (w' := W4) (by go_simp) ⟨HS4.out, ?_⟩
              simp only [Act.put, List.setIfInBounds_toArray, List.set_cons_zero, List.set_cons_succ]
              refine held_done (by kernel_rfl) ?_
              have t0 : W4.cell? ⟨T, 0, none⟩ = some (.bool false) := cell_of_row _ _ _ _ _ _ HS4.out
              have d4 : W4.cell? ⟨T, 2, none⟩ = some (.int .u32 0) := cell_of_row _ _ _ _ _ _ HS4.out
              have f4 := frozen_of_row _ _ 2 _ _ HS4.out
              go_wp2_with fail
              refine (C16.out W4 HW4.out).mono ?_
              rintro e W5 ⟨rfl, h5⟩
              rw [h5]
              clear h5 W5
              have hT5 := heap_setCell_same W4 T 2 _ _ (.int .u32 (v16 : Int)) HS4.out
              have hR5 : (W4.setCell ⟨T, 2, none⟩ (.int .u32 (v16 : Int))).heap[w.heap.size]? = _ := (heap_setCell_other W4 _ _ _ (by simp; omega)).trans HR4.out
              have hB5 := HB4.out.setCell (p := ⟨T, 2, none⟩) (by simp; omega) (.int .u32 (v16 : Int))
              have hW5 := H.out.next hB5
              have t5 : (W4.setCell ⟨T, 2, none⟩ (.int .u32 (v16 : Int))).cell? ⟨T, 0, none⟩ = some (.bool false) := cell_of_row _ _ _ _ _ _ hT5
              have d5 : (W4.setCell ⟨T, 2, none⟩ (.int .u32 (v16 : Int))).cell? ⟨T, 3, none⟩ = some (.int .u32 0) := cell_of_row _ _ _ _ _ _ hT5
              have f5 := frozen_of_row _ _ 3 _ _ hT5
              have hT6 := heap_setCell_same _ T 3 _ _ (.int .u32 (v20 : Int)) hT5
              have hR6 : ((W4.setCell ⟨T, 2, none⟩ (.int .u32 (v16 : Int))).setCell ⟨T, 3, none⟩ (.int .u32 (v20 : Int))).heap[w.heap.size]? = _ := (heap_setCell_other _ _ _ _ (by simp; omega)).trans hR5
              have HB6 := Lib.hid (hB5.setCell (p := ⟨T, 3, none⟩) (by simp; omega) (.int .u32 (v20 : Int)))
              have HT6 := Lib.hid hT6
              have HR6 := Lib.hid hR6
              have HW5 := Lib.hid hW5
              clear hT5 hR5 hB5 hW5 hT6 hR6
              go_wp2_with fail
              refine (C20.out _ HW5.out).mono ?_
              rintro e W5 ⟨rfl, h5⟩
              rw [h5]
              clear h5 W5 HW5
              go_wp2_with (first | (refine wpList_load_row rfl 39 (.tmp 5) rfl T rfl 39 (hcells ⟨false, true, v16, v20⟩).toArray (0, 0) _ HT6.out Tryd.underlying39 rfl info24 ?_) | (refine wpList_store_head rfl (.tmp 2) (.tmp 50) rfl w.heap.size ⟨false, true, v16, v20⟩ _ rfl rfl HR6.out rfl ?_))
              exact bodyPost_ret (head_ret Tryd.results22 rfl rfl HR6.out) rfl ⟨rfl, below_setRow HB6.out (Nat.le_refl _) _⟩
            · obtain rfl := q2x t2
              have u2 : ((v2 : Int) != 2) = true := by simp; omega
              clear q2x q3x t2
              refine wp_value (v := .bool true) (w' := W4) (by go_simp) ⟨HS4.out, ?_⟩
              simp only [Act.put, List.setIfInBounds_toArray, List.set_cons_zero, List.set_cons_succ]
              refine held_done (by kernel_rfl) ?_
              go_wp2_with (refine wpList_store_head rfl (.tmp 2) (.tmp 39) rfl w.heap.size Pc.hz _ rfl rfl HR4.out rfl ?_)
              exact bodyPost_ret (head_ret Tryd.results22 rfl rfl HR4.out) rfl ⟨rfl, below_setRow HB4.out (Nat.le_refl _) _⟩
        · have e4 : ¬ hb.take 4 = xs.take 4 := fun e => hw (HI.out.2 e)
          refine wp_value (v := .bool true) (w' := W3) (by go_simp) ⟨HS3.out, ?_⟩
          simp only [Act.put, List.setIfInBounds_toArray, List.set_cons_zero, List.set_cons_succ]
          refine held_done (by kernel_rfl) ?_
          have HNW := Lib.hid hw
          clear e4 hw HI Q1 Q2 Q3
          go_wp2
          go_roundw
          case rel => exact ⟨2 + 1, by simp, by omega, (fun j hj => by
            rcases Nat.lt_succ_iff_lt_or_eq.1 hj with h | h
            · exact HNO.out j h
            · subst h; exact HNW.out), HB3.out, HR3.out⟩
          case measure => simp [intOf]
      · skip
        have q1 := fun hw => Pc.head_short xs Hn4.out (big := true) (nano := true) hw
        have q2 := fun hw => Pc.head_two xs Hn4.out (big := true) (nano := true) hw
        have q3 := fun hw => Pc.head_good xs Hn4.out (big := true) (nano := true) hw
        have hiff := Pc.who_iff xs H4.out true true
        have h4b := Pc.hbytes_four ⟨true, true, 0, 0⟩
        simp only at h4b
        rw [← h4b] at hiff
        rw [HA.out] at q1 q2 q3
        have c23 := fun W => header_any ⟨true, true, 0, 0⟩ W ⟨by decide, by decide⟩
        have l24 := Pc.hbytes_length ⟨true, true, 0, 0⟩
        generalize Pc.hbytes ⟨true, true, 0, 0⟩ = hb at *
        have hT := heap_alloc_new wr (.cells (hcells ⟨true, true, 0, 0⟩).toArray 39)
        have bT : Below wr.heap.size wr (wr.alloc (.cells (hcells ⟨true, true, 0, 0⟩).toArray 39)) := (Below.refl _ _).alloc (Nat.le_refl _) _
        have HT : Hid ((wr.alloc (.cells #[.bool true, .bool true, .int .u32 0, .int .u32 0] 39)).heap[wr.heap.size]? = some (.cells (hcells ⟨true, true, 0, 0⟩).toArray 39 (0, 0))) := hT
        have HR1 : Hid ((wr.alloc (.cells #[.bool true, .bool true, .int .u32 0, .int .u32 0] 39)).heap[w.heap.size]? = some (.cells (hcells Pc.hz).toArray 39 (0, 0))) := block_next hR bT
        have B1 : Hid (Below w.heap.size w (wr.alloc (.cells #[.bool true, .bool true, .int .u32 0, .int .u32 0] 39))) := Below.chain hbw bT
        have hRT : w.heap.size < wr.heap.size := lt_of_block hR
        have Q1 := Lib.hid q1
        have Q2 := Lib.hid q2
        have Q3 := Lib.hid q3
        have HI := Lib.hid hiff
        have C23 := Lib.hid c23
        have L24 := Lib.hid l24
        have HNO := Lib.hid hno
        clear hR hbw hT bT q1 q2 q3 hiff h4b c23 l24 hno
        go_wp2_with fail
        generalize wr.alloc (.cells #[.bool true, .bool true, .int .u32 0, .int .u32 0] 39) = W1 at *
        generalize wr.heap.size = T at *
        have hS : W1.drew.heap[T]? = some (.cells (hcells ⟨true, true, 0, 0⟩).toArray 39 (0, 0)) ∧ RowAt W1.drew a cap xs := ⟨HT.out, (H.out.next B1.out).next (Below.refl _ _).drew⟩
        have hcap := H.out.le
        rw [Hn.out] at hcap
        have j1 : 4 ≤ cap := by omega
        have j2 : (4 : Int) ≤ (cap : Int) := by omega
        refine held_start (S := fun W => W.heap[T]? = some (.cells (hcells ⟨true, true, 0, 0⟩).toArray 39 (0, 0)) ∧ RowAt W a cap xs) 8 (by kernel_rfl) rfl ?_
        refine held_take 0 (v := .agg (hcells ⟨true, true, 0, 0⟩).toArray) rfl (by kernel_rfl) (by kernel_rfl) (by kernel_rfl) (fun _ _ _ h => h) (by assumption) (by rfl) (fun W hW => run_load_head (.tmp 5) rfl T _ rfl hW.1) ?_
        simp only [Act.put, List.setIfInBounds_toArray, List.set_cons_zero, List.set_cons_succ]
        refine held_take 4 (v := ?_) rfl (by kernel_rfl) (by kernel_rfl) (by kernel_rfl) (fun _ _ _ h => h) (by assumption) (by rfl) ?_ ?_
        rotate_left
        · (intro W hW; go_simp; try with_reducible rfl)
        simp only [Act.put, List.setIfInBounds_toArray, List.set_cons_zero, List.set_cons_succ]
        refine held_take 5 (v := ?_) rfl (by kernel_rfl) (by kernel_rfl) (by kernel_rfl) (fun _ _ _ h => h) (by assumption) (by rfl) ?_ ?_
        rotate_left
        · (intro W hW; go_simp; try with_reducible rfl)
        simp only [Act.put, List.setIfInBounds_toArray, List.set_cons_zero, List.set_cons_succ]
        refine held_take 6 (v := ?_) rfl (by kernel_rfl) (by kernel_rfl) (by kernel_rfl) (fun _ _ _ h => h) (by assumption) (by rfl) ?_ ?_
        rotate_left
        · (intro W hW; (have t0 := conv_row (n := 4) (by simp; have := H4.out; omega) (hW.2.head 4 H4.out)); clear hW; go_simp; try with_reducible rfl)
        simp only [Act.put, List.setIfInBounds_toArray, List.set_cons_zero, List.set_cons_succ]
        have bd : Below W1.heap.size W1 W1.drew := (Below.refl _ _).drew
        have hR2 := block_next HR1.out bd
        have hB2 := Below.chain B1.out bd
        clear bd HT HR1 B1
        generalize W1.drew = W2 at *
        refine held_call 1 (f := 24) (args := #[.agg (hcells ⟨true, true, 0, 0⟩).toArray]) rfl (by kernel_rfl) (by rfl) (by go_simp) ?_
        refine (C23.out W2).mono ?_
        rintro e W3 ⟨v3, rfl, o3, b3⟩
        obtain ⟨p3, c3, rfl, r3⟩ := rowAt_own L24.out o3
        have hS3 := And.intro (block_next hS.1 b3) (hS.2.next b3)
        have hR3 := block_next hR2 b3
        have hB3 := Below.chain hB2 b3
        refine ⟨_, rfl, hS3, ?_⟩
        simp only [Act.put, List.setIfInBounds_toArray, List.set_cons_zero, List.set_cons_succ]
        have hc3 := r3.le
        rw [L24.out] at hc3
        have j3 : 4 ≤ c3 := by omega
        have j4 : (4 : Int) ≤ (c3 : Int) := by omega
        refine held_one 2 rfl (by kernel_rfl) (by rfl) ?_
        refine wp_value (v := .slice p3 4 c3) (w' := W3) (by go_simp) ⟨hS3, ?_⟩
        simp only [Act.put, List.setIfInBounds_toArray, List.set_cons_zero, List.set_cons_succ]
        have t3 := conv_row (n := 4) (by rw [List.length_take, L24.out]; rfl) (r3.head 4 (by rw [L24.out]; omega))
        refine held_one 3 rfl (by kernel_rfl) (by rfl) ?_
        refine wp_value (v := .string ⟨(hb.take 4).toArray⟩) (w' := W3) (by go_simp) ⟨hS3, ?_⟩
        simp only [Act.put, List.setIfInBounds_toArray, List.set_cons_zero, List.set_cons_succ]
        refine held_one 7 rfl (by kernel_rfl) (by rfl) ?_
        have HS3 := Lib.hid hS3
        have HR3 := Lib.hid hR3
        have HB3 := Lib.hid hB3
        clear hS hS3 hR2 hB2 hR3 hB3 o3 r3 b3 t3 hc3 j3 j4
        by_cases hw : Pc.who xs = some (true, true)
        · have e4 := HI.out.1 hw
          refine wp_value (v := .bool false) (w' := W3) (by rw [e4]; go_simp) ⟨HS3.out, ?_⟩
          simp only [Act.put, List.setIfInBounds_toArray, List.set_cons_zero, List.set_cons_succ]
          refine held_done (by kernel_rfl) ?_
          clear HI HNO
          by_cases h24 : n < 24
          · have i1 : (n : Int) < 24 := by omega
            obtain rfl := Q1.out hw (by rw [Hn.out]; exact h24)
            clear Q1 Q2 Q3 hw e4
            go_wp2_with (refine wpList_store_head rfl (.tmp 2) (.tmp 32) rfl w.heap.size Pc.hz _ rfl rfl HR3.out rfl ?_)
            exact bodyPost_ret (head_ret Tryd.results22 rfl rfl HR3.out) rfl ⟨rfl, below_setRow HB3.out (Nat.le_refl _) _⟩
          · have i1 : ¬ (n : Int) < 24 := by omega
            have hcut := fun W (h : RowAt W a cap xs) => h.cut 4 6 (by omega) (by rw [Hn.out]; omega)
            rw [if_neg (by omega), List.drop_take] at hcut
            have l2 : ((xs.drop 4).take (6 - 4)).length = 2 := by simp; have := Hn.out; omega
            have c27 := fun W h => refGet_at (a.map (·.add 4)) 2 (cap - 4) _ true W l2 (by omega) (by omega) (hcut W h).bytes
            have q2 := Q2.out hw (by rw [Hn.out]; exact h24)
            have q3 := Q3.out hw (by rw [Hn.out]; exact h24)
            have c16 := fun W h => refNum_any a n cap xs 16 true W Hn.out hm (by omega) h
            have c20 := fun W h => refNum_any a n cap xs 20 true W Hn.out hm (by omega) h
            have C16 := Lib.hid c16
            have C20 := Lib.hid c20
            have C27 := Lib.hid c27
            have q2x : ¬ Oc.get ((xs.drop 4).take (6 - 4)) true = 2 → A = (Pc.hz, 3) := q2
            have q3x : Oc.get ((xs.drop 4).take (6 - 4)) true = 2 → A = (⟨true, true, Pc.num xs 16 true, Pc.num xs 20 true⟩, 0) := q3
            have l16 := Pc.num_lt xs 16 true
            have l20 := Pc.num_lt xs 20 true
            generalize Pc.num xs 16 true = v16 at *
            generalize Pc.num xs 20 true = v20 at *
            generalize Oc.get ((xs.drop 4).take (6 - 4)) true = v2 at *
            clear Q1 Q2 Q3 hw e4 hcut c27 q2 q3 c16 c20
            have j5 : (6 : Int) ≤ (cap : Int) := by omega
            have j6 : ¬ cap = 4 := by omega
            have j7 : ¬ (cap : Int) = 4 := by omega
            go_wp2_with fail
            have hS : W3.drew.heap[T]? = some (.cells (hcells ⟨true, true, 0, 0⟩).toArray 39 (0, 0)) := HS3.out.1
            refine held_start (S := fun W => W.heap[T]? = some (.cells (hcells ⟨true, true, 0, 0⟩).toArray 39 (0, 0))) 6 (by kernel_rfl) rfl ?_
            refine held_take 0 (v := ?_) rfl (by kernel_rfl) (by kernel_rfl) (by kernel_rfl) (fun _ _ _ h => h) (by assumption) (by rfl) ?_ ?_
            rotate_left
            · (intro W hW; go_simp; try with_reducible rfl)
            simp only [Act.put, List.setIfInBounds_toArray, List.set_cons_zero, List.set_cons_succ]
            refine held_take 1 (v := .slice (a.map (·.add 4)) 2 (cap - 4)) rfl (by kernel_rfl) (by kernel_rfl) (by kernel_rfl) (fun _ _ _ h => h) (by assumption) (by rfl) (by intro W hW; clear hW; go_simp) ?_
            simp only [Act.put, List.setIfInBounds_toArray, List.set_cons_zero, List.set_cons_succ]
            refine held_take 2 (v := ?_) rfl (by kernel_rfl) (by kernel_rfl) (by kernel_rfl) (fun _ _ _ h => h) (by assumption) (by rfl) ?_ ?_
            rotate_left
            · (intro W hW; go_simp; try with_reducible rfl)
            simp only [Act.put, List.setIfInBounds_toArray, List.set_cons_zero, List.set_cons_succ]
            refine held_take 3 (v := ?_) rfl (by kernel_rfl) (by kernel_rfl) (by kernel_rfl) (fun _ _ _ h => h) (by assumption) (by rfl) ?_ ?_
            rotate_left
            · (intro W hW; (have t0 : W.cell? ⟨T, 0, none⟩ = some (.bool true) := cell_of_row _ _ _ _ _ _ hW); clear hW; go_simp; try with_reducible rfl)
            simp only [Act.put, List.setIfInBounds_toArray, List.set_cons_zero, List.set_cons_succ]
            have bd : Below W3.heap.size W3 W3.drew := (Below.refl _ _).drew
            have hR4 := block_next HR3.out bd
            have hB4 := Below.chain HB3.out bd
            have hrow4 := HS3.out.2.next bd
            clear HR3 HB3 HS3 bd
            generalize W3.drew = W4 at *
            refine held_call 4 (f := 46) (args := #[.slice (a.map (·.add 4)) 2 (cap - 4), .bool true]) rfl (by kernel_rfl) (by rfl) (by go_simp) ?_
            refine (C27.out W4 hrow4).mono ?_
            rintro e W5 ⟨rfl, h5⟩
            refine ⟨_, rfl, by rw [h5]; exact hS, ?_⟩
            rw [h5]
            clear h5 W5
            simp only [Act.put, List.setIfInBounds_toArray, List.set_cons_zero, List.set_cons_succ]
            refine held_one 5 rfl (by kernel_rfl) (by rfl) ?_
            have HR4 := Lib.hid hR4
            have HB4 := Lib.hid hB4
            have HS4 := Lib.hid hS
            have HW4 := Lib.hid hrow4
            clear hR4 hB4 hS hrow4
            by_cases t2 : v2 = 2
            · obtain rfl := q3x t2
              have u2 : ((v2 : Int) != 2) = false := by rw [t2]; rfl
              clear q2x q3x t2
              refine wp_value (v := .bool false) (w' := W4) (by go_simp) ⟨HS4.out, ?_⟩
              simp only [Act.put, List.setIfInBounds_toArray, List.set_cons_zero, List.set_cons_succ]
              refine held_done (by kernel_rfl) ?_
              have t0 : W4.cell? ⟨T, 0, none⟩ = some (.bool true) := cell_of_row _ _ _ _ _ _ HS4.out
              have d4 : W4.cell? ⟨T, 2, none⟩ = some (.int .u32 0) := cell_of_row _ _ _ _ _ _ HS4.out
              have f4 := frozen_of_row _ _ 2 _ _ HS4.out
              go_wp2_with fail
              refine (C16.out W4 HW4.out).mono ?_
              rintro e W5 ⟨rfl, h5⟩
              rw [h5]
              clear h5 W5
              have hT5 := heap_setCell_same W4 T 2 _ _ (.int .u32 (v16 : Int)) HS4.out
              have hR5 : (W4.setCell ⟨T, 2, none⟩ (.int .u32 (v16 : Int))).heap[w.heap.size]? = _ := (heap_setCell_other W4 _ _ _ (by simp; omega)).trans HR4.out
              have hB5 := HB4.out.setCell (p := ⟨T, 2, none⟩) (by simp; omega) (.int .u32 (v16 : Int))
              have hW5 := H.out.next hB5
              have t5 : (W4.setCell ⟨T, 2, none⟩ (.int .u32 (v16 : Int))).cell? ⟨T, 0, none⟩ = some (.bool true) := cell_of_row _ _ _ _ _ _ hT5
              have d5 : (W4.setCell ⟨T, 2, none⟩ (.int .u32 (v16 : Int))).cell? ⟨T, 3, none⟩ = some (.int .u32 0) := cell_of_row _ _ _ _ _ _ hT5
              have f5 := frozen_of_row _ _ 3 _ _ hT5
              have hT6 := heap_setCell_same _ T 3 _ _ (.int .u32 (v20 : Int)) hT5
              have hR6 : ((W4.setCell ⟨T, 2, none⟩ (.int .u32 (v16 : Int))).setCell ⟨T, 3, none⟩ (.int .u32 (v20 : Int))).heap[w.heap.size]? = _ := (heap_setCell_other _ _ _ _ (by simp; omega)).trans hR5
              have HB6 := Lib.hid (hB5.setCell (p := ⟨T, 3, none⟩) (by simp; omega) (.int .u32 (v20 : Int)))
              have HT6 := Lib.hid hT6
              have HR6 := Lib.hid hR6
              have HW5 := Lib.hid hW5
              clear hT5 hR5 hB5 hW5 hT6 hR6
              go_wp2_with fail
              refine (C20.out _ HW5.out).mono ?_
              rintro e W5 ⟨rfl, h5⟩
              rw [h5]
              clear h5 W5 HW5
              go_wp2_with (first | (refine wpList_load_row rfl 39 (.tmp 5) rfl T rfl 39 (hcells ⟨true, true, v16, v20⟩).toArray (0, 0) _ HT6.out Tryd.underlying39 rfl info24 ?_) | (refine wpList_store_head rfl (.tmp 2) (.tmp 50) rfl w.heap.size ⟨true, true, v16, v20⟩ _ rfl rfl HR6.out rfl ?_))
              exact bodyPost_ret (head_ret Tryd.results22 rfl rfl HR6.out) rfl ⟨rfl, below_setRow HB6.out (Nat.le_refl _) _⟩
            · obtain rfl := q2x t2
              have u2 : ((v2 : Int) != 2) = true := by simp; omega
              clear q2x q3x t2
              refine wp_value (v := .bool true) (w' := W4) (by go_simp) ⟨HS4.out, ?_⟩
              simp only [Act.put, List.setIfInBounds_toArray, List.set_cons_zero, List.set_cons_succ]
              refine held_done (by kernel_rfl) ?_
              go_wp2_with (refine wpList_store_head rfl (.tmp 2) (.tmp 39) rfl w.heap.size Pc.hz _ rfl rfl HR4.out rfl ?_)
              exact bodyPost_ret (head_ret Tryd.results22 rfl rfl HR4.out) rfl ⟨rfl, below_setRow HB4.out (Nat.le_refl _) _⟩
        · have e4 : ¬ hb.take 4 = xs.take 4 := fun e => hw (HI.out.2 e)
          refine wp_value (v := .bool true) (w' := W3) (by go_simp) ⟨HS3.out, ?_⟩
          simp only [Act.put, List.setIfInBounds_toArray, List.set_cons_zero, List.set_cons_succ]
          refine held_done (by kernel_rfl) ?_
          have HNW := Lib.hid hw
          clear e4 hw HI Q1 Q2 Q3
          go_wp2
          go_roundw
          case rel => exact ⟨3 + 1, by simp, by omega, (fun j hj => by
            rcases Nat.lt_succ_iff_lt_or_eq.1 hj with h | h
            · exact HNO.out j h
            · subst h; exact HNW.out), HB3.out, HR3.out⟩
          case measure => simp [intOf]
      · have hw : Pc.who xs = none := by
          cases hq : Pc.who xs with
          | none => rfl
          | some p =>
            exfalso
            obtain ⟨x, y⟩ := p
            have h0 := hno 0 (by omega)
            have h1 := hno 1 (by omega)
            have h2 := hno 2 (by omega)
            have h3 := hno 3 (by omega)
            rw [hq] at h0 h1 h2 h3
            cases x <;> cases y
            · exact h0 rfl
            · exact h2 rfl
            · exact h1 rfl
            · exact h3 rfl
        obtain rfl := QN.out hw
        have HR := Lib.hid hR
        have HB := Lib.hid hbw
        clear hR hbw hno hw
        go_wp2_with (refine wpList_store_head rfl (.tmp 2) (.tmp 51) rfl w.heap.size Pc.hz _ rfl rfl HR.out rfl ?_)
        exact bodyPost_ret (head_ret Tryd.results22 rfl rfl HR.out) rfl ⟨rfl, below_setRow HB.out (Nat.le_refl _) _⟩
end Go.Proofs.YtbbnkmhlgfoacaaDoor.S9

namespace Go.Proofs.YtbbnkmhlgfoacaaDoor.S9
open Go.RowKit

set_option maxRecDepth 100000 in
set_option maxHeartbeats 4000000 in
theorem refRead_any (a : Option Addr) (n cap : Nat) (xs : List UInt8) (w : World) (hn : xs.length = n) (hm : n ≤ 300000) (h : RowAt w a cap xs) :
    Calls Tryd.prog 11 #[.slice a n cap] w fun e w' => ReadRes w w' e (Pc.read xs) := by
  have c15 := fun W h => refHead_any a n cap xs W hn hm h
  have hk := Pc.head_known xs
  obtain ⟨A, hA⟩ : ∃ A, Pc.read xs = A := ⟨_, rfl⟩
  rw [hA]
  have q1 := Pc.read_bad xs (Pc.head xs).2 (Pc.head xs).1 rfl
  have q2 := Pc.read_good xs (Pc.head xs).1
  rw [hA] at q1 q2
  clear hA
  have H := Lib.hid h
  clear h
  by_cases he : (Pc.head xs).2 = 0
  · have hA := q2 (by rw [← he])
    clear q1 q2
    generalize Pc.head xs = M at *
    obtain ⟨m, r⟩ := M
    simp only at he hA c15
    subst he
    have C15 := Lib.hid c15
    have HA := Lib.hid hA
    have Hn := Lib.hid hn
    clear c15 hA hk hn
    go_enter Tryd.func11, Tryd.ntmps11
    go_wp2_with fail
    have h0 := two_blocks w (.cells #[.bool false, .bool false, .int .u32 0, .int .u32 0] 39) (.cells #[.int .i64 0, .int .i64 0] 33)
    refine (C15.out _ (H.out.next h0.2.2)).mono ?_
    rintro e w1 ⟨rfl, b1⟩
    have hR := block_next h0.1 b1
    have hR2 := block_next h0.2.1 b1
    have hB := Below.chain h0.2.2 b1
    clear h0 b1 C15
    simp only [hcells]
    go_wp2_with fail
    have hT : (w1.alloc (.cells #[.bool m.big, .bool m.nano, .int .u32 (m.snap : Int), .int .u32 (m.link : Int)] 39)).heap[w1.heap.size]? = some (.cells (hcells m).toArray 39 (0, 0)) := heap_alloc_new w1 _
    have b1 : Below w1.heap.size w1 (w1.alloc (.cells #[.bool m.big, .bool m.nano, .int .u32 (m.snap : Int), .int .u32 (m.link : Int)] 39)) := (Below.refl _ _).alloc (Nat.le_refl _) _
    have hR' := block_next hR b1
    have hR2' := block_next hR2 b1
    have hB' := Below.chain hB b1
    have hTR : w.heap.size + 1 < w1.heap.size := lt_of_block hR2
    clear hR hR2 hB b1
    generalize w1.alloc (.cells #[.bool m.big, .bool m.nano, .int .u32 (m.snap : Int), .int .u32 (m.link : Int)] 39) = W at *
    generalize w1.heap.size = T at *
    have hTW := lt_of_block hT
    go_loopw [7, 8] (fun v i wr => ∃ (k : Nat) (pre : List Pc.Rcd), 24 ≤ k ∧ i = .int .i64 (k : Int) ∧ k ≤ 300000 ∧ pre.length ≤ k ∧ Hid (A = (m, pre ++ (Pc.rdr (xs.drop k) m.big k).1, (Pc.rdr (xs.drop k) m.big k).2)) ∧ Recs wr W.heap.size v pre ∧ Below W.heap.size W wr) (fun _ i _ => n - (intOf i).toNat)
    case atStart => exact ⟨24, [], Nat.le_refl _, rfl, by omega, by simp, HA.out, recs_none _ _, Below.refl _ _⟩
    case round =>
      obtain ⟨k, pre, h24, rfl, hk3, hpl, HI, hrec, hbw⟩ := hrel
      obtain ⟨av, cv, rfl⟩ := recs_slice hrec
      have HR := Lib.hid (block_next hR' hbw)
      have HR2 := Lib.hid (block_next hR2' hbw)
      have HTb := Lib.hid (block_next hT hbw)
      have HB := Lib.hid (Below.chain hB' hbw)
      have HBW := Lib.hid hbw
      have HREC := Lib.hid hrec
      have hsz := hbw.size
      clear hrec hbw hT
      by_cases hlt : (k : Int) < (n : Int)
      · have hkn : k < n := by omega
        have hrow := (HB.out |> H.out.next).cut k n (by omega) (by rw [Hn.out]; exact Nat.le_refl _)
        rw [List.take_of_length_le (by rw [Hn.out]; exact Nat.le_refl _)] at hrow
        have hle := (H.out).le
        rw [Hn.out] at hle
        have hdl : (xs.drop k).length = n - k := by rw [List.length_drop, Hn.out]
        have c18 := fun W h => refNext_any (if cap = k then a else a.map (·.add k)) (n - k) (cap - k) (xs.drop k) m.big W hdl (by omega) h
        have nk := Pc.next_known (xs.drop k) m.big
        have qb := Pc.rdr_bad (xs.drop k) m.big k (by omega) (Pc.next (xs.drop k) m.big).1 (Pc.next (xs.drop k) m.big).2.1 (Pc.next (xs.drop k) m.big).2.2 rfl
        have qg := Pc.rdr_good (xs.drop k) m.big k (by omega) (Pc.next (xs.drop k) m.big).1 (Pc.next (xs.drop k) m.big).2.1
        generalize Pc.next (xs.drop k) m.big = X at *
        obtain ⟨r, sz, e⟩ := X
        simp only at qb qg
        have NK := Lib.hid nk
        have QB := Lib.hid qb
        have QG := Lib.hid qg
        have C18 := Lib.hid c18
        have HROW := Lib.hid hrow
        clear nk qb qg c18 hrow
        have j2 : ¬ n < k := by omega
        have j3 : k ≤ n := by omega
        have j4 : n - k ≤ 300000 := by omega
        go_wp2_with fail
        have hS : wr.drew.heap[T]? = some (.cells (hcells m).toArray 39 (0, 0)) := HTb.out
        have bd : Below wr.heap.size wr wr.drew := (Below.refl _ _).drew
        refine held_start (S := fun W => W.heap[T]? = some (.cells (hcells m).toArray 39 (0, 0))) 14 (by kernel_rfl) rfl ?_
        refine held_take 0 (v := ?_) rfl (by kernel_rfl) (by kernel_rfl) (by kernel_rfl) (fun _ _ _ h => h) (by assumption) (by rfl) ?_ ?_
        rotate_left
        · (intro W hW; go_simp; try with_reducible rfl)
        simp only [Act.put, List.setIfInBounds_toArray, List.set_cons_zero, List.set_cons_succ]
        refine held_take 1 (v := ?_) rfl (by kernel_rfl) (by kernel_rfl) (by kernel_rfl) (fun _ _ _ h => h) (by assumption) (by rfl) ?_ ?_
        rotate_left
        · (intro W hW; go_simp; try with_reducible rfl)
        simp only [Act.put, List.setIfInBounds_toArray, List.set_cons_zero, List.set_cons_succ]
        refine held_take 2 (v := .slice (if cap = k then a else a.map (·.add k)) (n - k) (cap - k)) rfl (by kernel_rfl) (by kernel_rfl) (by kernel_rfl) (fun _ _ _ h => h) (by assumption) (by rfl) ?_ ?_
        · intro W hW
          clear hW
          by_cases hca : cap = k
          · have j1 : (cap : Int) = (k : Int) := by omega
            rw [if_pos hca]
            go_simp
          · have j1 : ¬ (cap : Int) = (k : Int) := by omega
            rw [if_neg hca]
            go_simp
        simp only [Act.put, List.setIfInBounds_toArray, List.set_cons_zero, List.set_cons_succ]
        refine held_take 3 (v := ?_) rfl (by kernel_rfl) (by kernel_rfl) (by kernel_rfl) (fun _ _ _ h => h) (by assumption) (by rfl) ?_ ?_
        rotate_left
        · (intro W hW; go_simp; try with_reducible rfl)
        simp only [Act.put, List.setIfInBounds_toArray, List.set_cons_zero, List.set_cons_succ]
        refine held_take 4 (v := ?_) rfl (by kernel_rfl) (by kernel_rfl) (by kernel_rfl) (fun _ _ _ h => h) (by assumption) (by rfl) ?_ ?_
        rotate_left
        · (intro W hW; (have t0 : W.cell? ⟨T, 0, none⟩ = some (.bool m.big) := cell_of_row _ _ _ _ _ _ hW); clear hW; go_simp; try with_reducible rfl)
        simp only [Act.put, List.setIfInBounds_toArray, List.set_cons_zero, List.set_cons_succ]
        refine held_two_cm 5 10 (f := 23) (args := #[.slice (if cap = k then a else a.map (·.add k)) (n - k) (cap - k), .bool m.big]) (v := .pointer (some ⟨wr.drew.heap.size, 0, none⟩)) (w1 := wr.drew.alloc (.cells #[.int .u32 0, .int .u32 0, .int .u32 0, .slice none 0 0] 44)) rfl rfl (by kernel_rfl) (by rfl) (by rfl) (by go_simp) (by go_simp) (block_next hS ((Below.refl _ _).alloc (Nat.le_refl _) _)) ?_ ?_
        · refine (C18.out _ (HROW.out.next bd)).mono ?_
          rintro e3 w3 ⟨d, rfl, o3, b3⟩
          obtain ⟨pd, cd, rfl⟩ := own_slice o3
          have b4 := Below.chain bd b3
          have hS3 : w3.heap[T]? = some (.cells (hcells m).toArray 39 (0, 0)) := block_next HTb.out b4
          refine ⟨_, rfl, hS3, ?_⟩
          simp only [Act.put, List.setIfInBounds_toArray, List.set_cons_zero, List.set_cons_succ]
          refine held_take 6 (v := ?_) rfl (by kernel_rfl) (by kernel_rfl) (by kernel_rfl) (fun _ _ _ h => h) (by assumption) (by rfl) ?_ ?_
          rotate_left
          · (intro W hW; go_simp; try with_reducible rfl)
          simp only [Act.put, List.setIfInBounds_toArray, List.set_cons_zero, List.set_cons_succ]
          refine held_take 7 (v := ?_) rfl (by kernel_rfl) (by kernel_rfl) (by kernel_rfl) (fun _ _ _ h => h) (by assumption) (by rfl) ?_ ?_
          rotate_left
          · (intro W hW; go_simp; try with_reducible rfl)
          simp only [Act.put, List.setIfInBounds_toArray, List.set_cons_zero, List.set_cons_succ]
          refine held_take 8 (v := ?_) rfl (by kernel_rfl) (by kernel_rfl) (by kernel_rfl) (fun _ _ _ h => h) (by assumption) (by rfl) ?_ ?_
          rotate_left
          · (intro W hW; go_simp; try with_reducible rfl)
          simp only [Act.put, List.setIfInBounds_toArray, List.set_cons_zero, List.set_cons_succ]
          refine held_take 9 (v := ?_) rfl (by kernel_rfl) (by kernel_rfl) (by kernel_rfl) (fun _ _ _ h => h) (by assumption) (by rfl) ?_ ?_
          rotate_left
          · (intro W hW; go_simp; try with_reducible rfl)
          simp only [Act.put, List.setIfInBounds_toArray, List.set_cons_zero, List.set_cons_succ]
          refine held_makes 10 (v := .pointer (some ⟨w3.heap.size, 0, none⟩)) (w' := w3.alloc (.cells #[.int .u32 0, .int .u32 0, .int .u32 0, .slice none 0 0] 44)) rfl (by kernel_rfl) (by rfl) (by go_simp) (block_next hS3 ((Below.refl _ _).alloc (Nat.le_refl _) _)) ?_
          simp only [Act.put, List.setIfInBounds_toArray, List.set_cons_zero, List.set_cons_succ]
          have b4' : Below wr.heap.size wr (w3.alloc (.cells #[.int .u32 0, .int .u32 0, .int .u32 0, .slice none 0 0] 44)) := b4.alloc b4.size _
          have hg0 := heap_alloc_new w3 (.cells #[.int .u32 0, .int .u32 0, .int .u32 0, .slice none 0 0] 44)
          have o4 := o3.alloc (.cells #[.int .u32 0, .int .u32 0, .int .u32 0, .slice none 0 0] 44)
          have hge := b4.size
          have hS4 := block_next hS3 ((Below.refl w3.heap.size w3).alloc (Nat.le_refl _) (.cells #[.int .u32 0, .int .u32 0, .int .u32 0, .slice none 0 0] 44))
          generalize w3.alloc (.cells #[.int .u32 0, .int .u32 0, .int .u32 0, .slice none 0 0] 44) = w4 at *
          generalize w3.heap.size = g3 at *
          generalize (if cap = k then a else a.map (·.add k)) = pt at *
          have hg4 : w4.heap[g3]? = some (.cells #[.int .u32 0, .int .u32 0, .int .u32 0, .slice none 0 0] 44 (0, 0)) := hg0
          have b5 : Below wr.heap.size wr (w4.setRow g3 (rcells r (.slice pd r.data.length cd)).toArray) := below_setRow b4' (hge) _
          have g5 := setRow_heap w4 g3 _ (rcells r (.slice pd r.data.length cd)).toArray _ _ hg4
          have o5 : (w4.setRow g3 (rcells r (.slice pd r.data.length cd)).toArray).ownsRow wr.heap.size 5 1 (.slice pd r.data.length cd) r.data.length (Lib.byteCells r.data) := by
            refine World.ownsRow.kept (ownsRow_lower o4 (Nat.le_refl _)) (grown_row w4 g3 _) ?_
            rcases o4.2 with ⟨ee, _⟩ | ⟨q, _, cur, ee, _, hq, _⟩
            · rw [ee]; exact .inl rfl
            · right
              rw [ee]
              intro e1
              simp [Value.ownBlock] at e1
              subst e1
              rw [hg4] at hq
              simp at hq
          have hS5 : (w4.setRow g3 (rcells r (.slice pd r.data.length cd)).toArray).heap[T]? = some (.cells (hcells m).toArray 39 (0, 0)) := block_next HTb.out b5
          refine held_alone 11 (w' := w4.setRow g3 (rcells r (.slice pd r.data.length cd)).toArray) rfl (by kernel_rfl) (by rfl) (run_store_rec (.tmp 9) (.tmp 33) rfl g3 r pd r.data.length cd _ rfl rfl hg4 rfl) hS5 ?_
          simp only [Act.put]
          refine held_take 12 (v := ?_) rfl (by kernel_rfl) (by kernel_rfl) (by kernel_rfl) (fun _ _ _ h => h) (by assumption) (by rfl) ?_ ?_
          rotate_left
          · (intro W hW; go_simp; try with_reducible rfl)
          simp only [Act.put, List.setIfInBounds_toArray, List.set_cons_zero, List.set_cons_succ]
          refine held_take 13 (v := ?_) rfl (by kernel_rfl) (by kernel_rfl) (by kernel_rfl) (fun _ _ _ h => h) (by assumption) (by rfl) ?_ ?_
          rotate_left
          · (intro W hW; go_simp; try with_reducible rfl)
          simp only [Act.put, List.setIfInBounds_toArray, List.set_cons_zero, List.set_cons_succ]
          refine held_done (by kernel_rfl) ?_
          have G5 := Lib.hid g5
          have O5 := Lib.hid o5
          have B5 := Lib.hid (Below.chain HB.out b5)
          have B5w := Lib.hid (Below.trans HBW.out (b5.mono hsz))
          have R5 := Lib.hid (block_next HR.out b5)
          have R25 := Lib.hid (block_next HR2.out b5)
          have T5 := Lib.hid hS5
          have REC5 := Lib.hid (HREC.out.next b5)
          have hs5 := b5.size
          clear g5 o5 b5 hS5 hg4 hS4
          generalize w4.setRow g3 (rcells r (.slice pd r.data.length cd)).toArray = W5 at *
          generalize g3 = g at *
          by_cases he : e = 0
          · subst he
            have hq := QG.out rfl
            have hnk := (NK.out.good rfl)
            have hns := NK.out.size
            rw [hdl] at hns
            simp only at hnk hns
            have hsz1 : 16 ≤ sz := by omega
            have hsz2 : k + sz ≤ n := by omega
            clear hnk hns
            have HI2 : Hid (A = (m, (pre ++ [r]) ++ (Pc.rdr (xs.drop (k + sz)) m.big (k + sz)).1, (Pc.rdr (xs.drop (k + sz)) m.big (k + sz)).2)) := by
              show A = _
              rw [HI.out, hq, List.drop_drop]
              simp
            have hok := NK.out.ok
            clear HI hq QB QG NK
            go_wp2_with (first | (refine wpList_load_row rfl 44 (.tmp 9) rfl g rfl 44 (rcells r (.slice pd r.data.length cd)).toArray (0, 0) _ G5.out Tryd.underlying44 rfl info46 ?_; simp only [rcells]) | (at_builtin; refine wpList_append_recs rfl (.tmp 43) (.tmp 45) rfl W.heap.size (.slice av pre.length cv) pre r (.slice pd r.data.length cd) W5.heap.size rfl rfl (REC5.out.next ((Below.refl _ _).alloc (Nat.le_refl _) _)) (ownsRow_lower (O5.out.alloc _) hsz) (heap_alloc_new W5 _) (by have := B5w.out.size; simp; omega) (by omega) ?_; intro v6 w6 rec6 gr6 blk6))
            have b6 : Below W.heap.size W w6 := Below.grown (B5w.out.alloc B5w.out.size _) gr6 (by have := B5w.out.size; simp; omega) blk6
            go_roundw
            case rel => exact ⟨_, _, _, ⟨k + sz, by omega, rfl, by omega, pre ++ [r], by rw [List.length_append]; simp; omega, HI2, rec6, b6⟩, rfl, rfl, by simp⟩
            case measure => simp [intOf]; omega
          · have hq := QB.out he
            have HI2 : A = (m, pre, k, e) := by rw [HI.out, hq]; simp
            subst HI2
            have i1 : ((e : Int) != 0) = true := by simp; omega
            clear hq QB QG HI
            have hR6 := setRow_heap W5 w.heap.size _ (hcells m).toArray _ _ R5.out
            have hR62 : (W5.setRow w.heap.size (hcells m).toArray).heap[w.heap.size + 1]? = _ := (setRow_other _ _ _ _ (by omega)).trans (R25.out)
            have HR62 := Lib.hid hR62
            have HR6 := Lib.hid hR6
            clear hR6 hR62
            go_wp2_with (first | (refine wpList_load_row rfl 39 (.tmp 5) rfl T rfl 39 (hcells m).toArray (0, 0) _ T5.out Tryd.underlying39 rfl info24 ?_) | (refine wpList_store_head rfl (.tmp 2) (.tmp 38) rfl w.heap.size m _ rfl rfl R5.out rfl ?_) | (refine wpList_store_spot rfl (.tmp 4) (.tmp 42) rfl (w.heap.size + 1) k e _ rfl rfl HR62.out rfl ?_))
            refine bodyPost_ret (v := .tuple #[.agg (hcells m).toArray, .slice av pre.length cv, .agg (scells k e).toArray]) ?_ rfl ⟨_, rfl, ((REC5.out.kept (grown_row _ _ _) (by omega)).kept (grown_row _ _ _) (by omega)).lower (by have := hB'.size; omega), below_setRow (below_setRow B5.out (Nat.le_refl _) _) (by omega) _⟩
            exact results_cell_tmp_cell Tryd.results11 _ _ w.heap.size (w.heap.size + 1) 39 33 _ _ _ _ _ _ rfl ((setRow_other _ _ _ _ (by omega)).trans HR6.out) Tryd.underlying39 rfl info24 rfl (setRow_heap _ _ _ _ _ _ HR62.out) Tryd.underlying33 rfl info36
        · have b4 : Below wr.heap.size wr (wr.drew.alloc (.cells #[.int .u32 0, .int .u32 0, .int .u32 0, .slice none 0 0] 44)) := bd.alloc bd.size _
          have hg0 := heap_alloc_new wr.drew (.cells #[.int .u32 0, .int .u32 0, .int .u32 0, .slice none 0 0] 44)
          have hs4 : (wr.drew.alloc (.cells #[.int .u32 0, .int .u32 0, .int .u32 0, .slice none 0 0] 44)).heap.size = wr.heap.size + 1 := by simp
          rw [show wr.drew.heap.size = wr.heap.size from rfl] at hg0 ⊢
          obtain ⟨g0, hge0⟩ : ∃ g0, g0 = wr.heap.size := ⟨_, rfl⟩
          rw [← hge0] at hg0 ⊢
          have hge1 := Nat.le_of_eq hge0.symm
          clear hge0
          simp only [Act.put, List.setIfInBounds_toArray, List.set_cons_zero, List.set_cons_succ]
          generalize wr.drew.alloc (.cells #[.int .u32 0, .int .u32 0, .int .u32 0, .slice none 0 0] 44) = w2 at *
          refine held_call 5 (f := 23) (args := #[.slice (if cap = k then a else a.map (·.add k)) (n - k) (cap - k), .bool m.big]) rfl (by kernel_rfl) (by rfl) (by go_simp) ?_
          refine (C18.out _ (HROW.out.next b4)).mono ?_
          rintro e3 w3 ⟨d, rfl, o3, b3⟩
          obtain ⟨pd, cd, rfl⟩ := own_slice o3
          have b4' := Below.chain b4 b3
          have hg1 := block_next hg0 b3
          have hS3 : w3.heap[T]? = some (.cells (hcells m).toArray 39 (0, 0)) := block_next HTb.out b4'
          refine ⟨_, rfl, hS3, ?_⟩
          simp only [Act.put, List.setIfInBounds_toArray, List.set_cons_zero, List.set_cons_succ]
          refine held_take 6 (v := ?_) rfl (by kernel_rfl) (by kernel_rfl) (by kernel_rfl) (fun _ _ _ h => h) (by assumption) (by rfl) ?_ ?_
          rotate_left
          · (intro W hW; go_simp; try with_reducible rfl)
          simp only [Act.put, List.setIfInBounds_toArray, List.set_cons_zero, List.set_cons_succ]
          refine held_take 7 (v := ?_) rfl (by kernel_rfl) (by kernel_rfl) (by kernel_rfl) (fun _ _ _ h => h) (by assumption) (by rfl) ?_ ?_
          rotate_left
          · (intro W hW; go_simp; try with_reducible rfl)
          simp only [Act.put, List.setIfInBounds_toArray, List.set_cons_zero, List.set_cons_succ]
          refine held_take 8 (v := ?_) rfl (by kernel_rfl) (by kernel_rfl) (by kernel_rfl) (fun _ _ _ h => h) (by assumption) (by rfl) ?_ ?_
          rotate_left
          · (intro W hW; go_simp; try with_reducible rfl)
          simp only [Act.put, List.setIfInBounds_toArray, List.set_cons_zero, List.set_cons_succ]
          refine held_take 9 (v := ?_) rfl (by kernel_rfl) (by kernel_rfl) (by kernel_rfl) (fun _ _ _ h => h) (by assumption) (by rfl) ?_ ?_
          rotate_left
          · (intro W hW; go_simp; try with_reducible rfl)
          simp only [Act.put, List.setIfInBounds_toArray, List.set_cons_zero, List.set_cons_succ]
          have hle4 : wr.heap.size ≤ w2.heap.size := by omega
          generalize (if cap = k then a else a.map (·.add k)) = pt at *
          have hg4 : w3.heap[g0]? = some (.cells #[.int .u32 0, .int .u32 0, .int .u32 0, .slice none 0 0] 44 (0, 0)) := hg1
          have b5 : Below wr.heap.size wr (w3.setRow g0 (rcells r (.slice pd r.data.length cd)).toArray) := below_setRow b4' (hge1) _
          have g5 := setRow_heap w3 g0 _ (rcells r (.slice pd r.data.length cd)).toArray _ _ hg4
          have o5 : (w3.setRow g0 (rcells r (.slice pd r.data.length cd)).toArray).ownsRow wr.heap.size 5 1 (.slice pd r.data.length cd) r.data.length (Lib.byteCells r.data) := by
            refine World.ownsRow.kept (ownsRow_lower o3 (hle4)) (grown_row w3 g0 _) ?_
            rcases o3.2 with ⟨ee, _⟩ | ⟨q, _, cur, ee, _, hq, _⟩
            · rw [ee]; exact .inl rfl
            · right
              rw [ee]
              intro e1
              simp [Value.ownBlock] at e1
              subst e1
              rw [hg4] at hq
              simp at hq
          have hS5 : (w3.setRow g0 (rcells r (.slice pd r.data.length cd)).toArray).heap[T]? = some (.cells (hcells m).toArray 39 (0, 0)) := block_next HTb.out b5
          refine held_alone 11 (w' := w3.setRow g0 (rcells r (.slice pd r.data.length cd)).toArray) rfl (by kernel_rfl) (by rfl) (run_store_rec (.tmp 9) (.tmp 33) rfl g0 r pd r.data.length cd _ rfl rfl hg4 rfl) hS5 ?_
          simp only [Act.put]
          refine held_take 12 (v := ?_) rfl (by kernel_rfl) (by kernel_rfl) (by kernel_rfl) (fun _ _ _ h => h) (by assumption) (by rfl) ?_ ?_
          rotate_left
          · (intro W hW; go_simp; try with_reducible rfl)
          simp only [Act.put, List.setIfInBounds_toArray, List.set_cons_zero, List.set_cons_succ]
          refine held_take 13 (v := ?_) rfl (by kernel_rfl) (by kernel_rfl) (by kernel_rfl) (fun _ _ _ h => h) (by assumption) (by rfl) ?_ ?_
          rotate_left
          · (intro W hW; go_simp; try with_reducible rfl)
          simp only [Act.put, List.setIfInBounds_toArray, List.set_cons_zero, List.set_cons_succ]
          refine held_done (by kernel_rfl) ?_
          have G5 := Lib.hid g5
          have O5 := Lib.hid o5
          have B5 := Lib.hid (Below.chain HB.out b5)
          have B5w := Lib.hid (Below.trans HBW.out (b5.mono hsz))
          have R5 := Lib.hid (block_next HR.out b5)
          have R25 := Lib.hid (block_next HR2.out b5)
          have T5 := Lib.hid hS5
          have REC5 := Lib.hid (HREC.out.next b5)
          have hs5 := b5.size
          clear g5 o5 b5 hS5 hg4 hS3
          generalize w3.setRow g0 (rcells r (.slice pd r.data.length cd)).toArray = W5 at *
          generalize g0 = g at *
          by_cases he : e = 0
          · subst he
            have hq := QG.out rfl
            have hnk := (NK.out.good rfl)
            have hns := NK.out.size
            rw [hdl] at hns
            simp only at hnk hns
            have hsz1 : 16 ≤ sz := by omega
            have hsz2 : k + sz ≤ n := by omega
            clear hnk hns
            have HI2 : Hid (A = (m, (pre ++ [r]) ++ (Pc.rdr (xs.drop (k + sz)) m.big (k + sz)).1, (Pc.rdr (xs.drop (k + sz)) m.big (k + sz)).2)) := by
              show A = _
              rw [HI.out, hq, List.drop_drop]
              simp
            have hok := NK.out.ok
            clear HI hq QB QG NK
            go_wp2_with (first | (refine wpList_load_row rfl 44 (.tmp 9) rfl g rfl 44 (rcells r (.slice pd r.data.length cd)).toArray (0, 0) _ G5.out Tryd.underlying44 rfl info46 ?_; simp only [rcells]) | (at_builtin; refine wpList_append_recs rfl (.tmp 43) (.tmp 45) rfl W.heap.size (.slice av pre.length cv) pre r (.slice pd r.data.length cd) W5.heap.size rfl rfl (REC5.out.next ((Below.refl _ _).alloc (Nat.le_refl _) _)) (ownsRow_lower (O5.out.alloc _) hsz) (heap_alloc_new W5 _) (by have := B5w.out.size; simp; omega) (by omega) ?_; intro v6 w6 rec6 gr6 blk6))
            have b6 : Below W.heap.size W w6 := Below.grown (B5w.out.alloc B5w.out.size _) gr6 (by have := B5w.out.size; simp; omega) blk6
            go_roundw
            case rel => exact ⟨_, _, _, ⟨k + sz, by omega, rfl, by omega, pre ++ [r], by rw [List.length_append]; simp; omega, HI2, rec6, b6⟩, rfl, rfl, by simp⟩
            case measure => simp [intOf]; omega
          · have hq := QB.out he
            have HI2 : A = (m, pre, k, e) := by rw [HI.out, hq]; simp
            subst HI2
            have i1 : ((e : Int) != 0) = true := by simp; omega
            clear hq QB QG HI
            have hR6 := setRow_heap W5 w.heap.size _ (hcells m).toArray _ _ R5.out
            have hR62 : (W5.setRow w.heap.size (hcells m).toArray).heap[w.heap.size + 1]? = _ := (setRow_other _ _ _ _ (by omega)).trans (R25.out)
            have HR62 := Lib.hid hR62
            have HR6 := Lib.hid hR6
            clear hR6 hR62
            go_wp2_with (first | (refine wpList_load_row rfl 39 (.tmp 5) rfl T rfl 39 (hcells m).toArray (0, 0) _ T5.out Tryd.underlying39 rfl info24 ?_) | (refine wpList_store_head rfl (.tmp 2) (.tmp 38) rfl w.heap.size m _ rfl rfl R5.out rfl ?_) | (refine wpList_store_spot rfl (.tmp 4) (.tmp 42) rfl (w.heap.size + 1) k e _ rfl rfl HR62.out rfl ?_))
            refine bodyPost_ret (v := .tuple #[.agg (hcells m).toArray, .slice av pre.length cv, .agg (scells k e).toArray]) ?_ rfl ⟨_, rfl, ((REC5.out.kept (grown_row _ _ _) (by omega)).kept (grown_row _ _ _) (by omega)).lower (by have := hB'.size; omega), below_setRow (below_setRow B5.out (Nat.le_refl _) _) (by omega) _⟩
            exact results_cell_tmp_cell Tryd.results11 _ _ w.heap.size (w.heap.size + 1) 39 33 _ _ _ _ _ _ rfl ((setRow_other _ _ _ _ (by omega)).trans HR6.out) Tryd.underlying39 rfl info24 rfl (setRow_heap _ _ _ _ _ _ HR62.out) Tryd.underlying33 rfl info36
      · have hrn : xs.drop k = [] := List.drop_of_length_le (by rw [Hn.out]; omega)
        have HI2 : A = (m, pre, 0, 0) := by rw [HI.out, hrn, Pc.rdr_nil]; simp
        subst HI2
        clear hrn HI
        have hR6 := setRow_heap wr w.heap.size _ (hcells m).toArray _ _ HR.out
        have hR62 : (wr.setRow w.heap.size (hcells m).toArray).heap[w.heap.size + 1]? = _ := (setRow_other _ _ _ _ (by omega)).trans (HR2.out)
        have HR62 := Lib.hid hR62
        have HR6 := Lib.hid hR6
        clear hR6 hR62
        go_wp2_with (first | (refine wpList_load_row rfl 39 (.tmp 5) rfl T rfl 39 (hcells m).toArray (0, 0) _ HTb.out Tryd.underlying39 rfl info24 ?_) | (refine wpList_store_head rfl (.tmp 2) (.tmp 50) rfl w.heap.size m _ rfl rfl HR.out rfl ?_) | (refine wpList_store_spot rfl (.tmp 4) (.tmp 52) rfl (w.heap.size + 1) 0 0 _ rfl rfl HR62.out rfl ?_))
        refine bodyPost_ret (v := .tuple #[.agg (hcells m).toArray, .slice av pre.length cv, .agg (scells 0 0).toArray]) ?_ rfl ⟨_, rfl, ((HREC.out.kept (grown_row _ _ _) (by omega)).kept (grown_row _ _ _) (by omega)).lower (by have := hB'.size; omega), below_setRow (below_setRow HB.out (Nat.le_refl _) _) (by omega) _⟩
        exact results_cell_tmp_cell Tryd.results11 _ _ w.heap.size (w.heap.size + 1) 39 33 _ _ _ _ _ _ rfl ((setRow_other _ _ _ _ (by omega)).trans HR6.out) Tryd.underlying39 rfl info24 rfl (setRow_heap _ _ _ _ _ _ HR62.out) Tryd.underlying33 rfl info36
  · have hA := q1 he
    subst hA
    have hr3 := hk.err
    clear q1 q2 hk
    generalize Pc.head xs = M at *
    obtain ⟨m, r⟩ := M
    simp only at he c15 hr3
    have i1 : ((r : Int) != 0) = true := by simp; omega
    have C15 := Lib.hid c15
    clear c15 hn hm
    go_enter Tryd.func11, Tryd.ntmps11
    go_wp2_with fail
    have h0 := two_blocks w (.cells #[.bool false, .bool false, .int .u32 0, .int .u32 0] 39) (.cells #[.int .i64 0, .int .i64 0] 33)
    refine (C15.out _ (H.out.next h0.2.2)).mono ?_
    rintro e w1 ⟨rfl, b1⟩
    have hR := block_next h0.1 b1
    have hR2 := block_next h0.2.1 b1
    have hB := Below.chain h0.2.2 b1
    have ba : ∀ o, Below w1.heap.size w1 (w1.alloc o) := fun o => (Below.refl _ _).alloc (Nat.le_refl _) o
    have HR := Lib.hid (fun o => block_next hR (ba o))
    have HR62 := Lib.hid (fun o => (setRow_other (w1.alloc o) w.heap.size (w.heap.size + 1) (hcells Pc.hz).toArray (by omega)).trans (block_next hR2 (ba o)))
    have HB := Lib.hid (fun o => Below.chain hB (ba o))
    clear h0 b1 C15 hR hR2 hB ba he
    simp only [hcells]
    go_wp2_with (first | (refine wpList_store_head rfl (.tmp 2) (.tmp 19) rfl w.heap.size Pc.hz _ rfl rfl (HR.out _) rfl ?_) | (refine wpList_store_spot rfl (.tmp 4) (.tmp 21) rfl (w.heap.size + 1) 0 r _ rfl rfl (HR62.out _) rfl ?_))
    refine bodyPost_ret (v := .tuple #[.agg (hcells Pc.hz).toArray, .slice none 0 0, .agg (scells 0 r).toArray]) ?_ rfl ⟨_, rfl, recs_none _ _, below_setRow (below_setRow (HB.out _) (Nat.le_refl _) _) (by omega) _⟩
    exact results_cell_tmp_cell Tryd.results11 _ _ w.heap.size (w.heap.size + 1) 39 33 (hcells Pc.hz).toArray (scells 0 r).toArray _ _ _ _ rfl ((setRow_other _ _ _ _ (by omega)).trans (setRow_heap _ _ _ _ _ _ (HR.out _))) Tryd.underlying39 rfl info24 rfl (setRow_heap _ _ _ _ _ _ (HR62.out _)) Tryd.underlying33 rfl info36
end Go.Proofs.YtbbnkmhlgfoacaaDoor.S9

namespace Go.Proofs.YtbbnkmhlgfoacaaDoor.S9
open Go.RowKit

theorem RecsAt.at {w : World} {a : Option Addr} {L : List Pc.Rcd} (h : RecsAt w a L) (k : Nat) (hk : k < L.length) : ∃ b off p c, a = some ⟨b, off, none⟩ ∧ RecAt w b (off + k * 4) L[k] p c := by
  rcases h with h | ⟨b, off, rfl, _, h⟩
  · rw [h] at hk; simp at hk
  · obtain ⟨p, c, h2⟩ := h k hk
    exact ⟨b, off, p, c, rfl, h2⟩

end Go.Proofs.YtbbnkmhlgfoacaaDoor.S9

namespace Go.Proofs.YtbbnkmhlgfoacaaDoor.S9
namespace Pc

def recs (big : Bool) (l : List Rcd) : List UInt8 := (l.map (rbytes big)).flatten
theorem put_eq (m : Hdr) (l : List Rcd) : put m l = hbytes m ++ recs m.big l := rfl
theorem recs_nil (big : Bool) : recs big [] = [] := rfl
theorem recs_cons (big : Bool) (r : Rcd) (l : List Rcd) : recs big (r :: l) = rbytes big r ++ recs big l := by simp [recs]
theorem recs_append (big : Bool) (l k : List Rcd) : recs big (l ++ k) = recs big l ++ recs big k := by simp [recs]
theorem recs_len (big : Bool) (l : List Rcd) : (recs big l).length = 16 * l.length + size l := recs_length big l
theorem rbytes_eq (big : Bool) (r : Rcd) : rbytes big r = Oc.put r.sec 4 big ++ (Oc.put r.frac 4 big ++ (Oc.put r.data.length 4 big ++ (Oc.put r.len 4 big ++ r.data))) := by
  simp [rbytes, rnums, nums]
theorem num_at (A B : List UInt8) (x k : Nat) (big : Bool) (hx : x < 4294967296) (hk : A.length = k) : num (A ++ (Oc.put x 4 big ++ B)) k big = x := by
  subst hk
  unfold num
  rw [List.drop_left, List.take_append_of_le_length (by rw [Oc.put_length]; exact Nat.le_refl _), List.take_of_length_le (by rw [Oc.put_length]; exact Nat.le_refl _)]
  exact Oc.get_put x 4 big hx
theorem get2_at (A B : List UInt8) (x k : Nat) (big : Bool) (hx : x < 65536) (hk : A.length = k) : Oc.get (((A ++ (Oc.put x 2 big ++ B)).drop k).take 2) big = x := by
  subst hk
  rw [List.drop_left, List.take_append_of_le_length (by rw [Oc.put_length]; exact Nat.le_refl _), List.take_of_length_le (by rw [Oc.put_length]; exact Nat.le_refl _)]
  exact Oc.get_put x 2 big hx
theorem next_put (big : Bool) (r : Rcd) (rest : List UInt8) (hr : r.Ok) (hs : r.data.length ≤ 131072) : next (rbytes big r ++ rest) big = (r, 16 + r.data.length, 0) := by
  have e : rbytes big r ++ rest = Oc.put r.sec 4 big ++ (Oc.put r.frac 4 big ++ (Oc.put r.data.length 4 big ++ (Oc.put r.len 4 big ++ (r.data ++ rest)))) := by simp [rbytes_eq]
  have p := fun x => Oc.put_length x 4 big
  have n0 : num (rbytes big r ++ rest) 0 big = r.sec := by rw [e]; exact num_at [] _ _ 0 big hr.sec rfl
  have n4 : num (rbytes big r ++ rest) 4 big = r.frac := by rw [e]; exact num_at (Oc.put r.sec 4 big) _ _ 4 big hr.frac (p _)
  have n8 : num (rbytes big r ++ rest) 8 big = r.data.length := by
    rw [e, ← List.append_assoc]; exact num_at (Oc.put r.sec 4 big ++ Oc.put r.frac 4 big) _ _ 8 big (by omega) (by rw [List.length_append, p, p])
  have n12 : num (rbytes big r ++ rest) 12 big = r.len := by
    rw [e, ← List.append_assoc, ← List.append_assoc]; exact num_at ((Oc.put r.sec 4 big ++ Oc.put r.frac 4 big) ++ Oc.put r.data.length 4 big) _ _ 12 big hr.len (by rw [List.length_append, List.length_append, p, p, p])
  have hl : (rbytes big r ++ rest).length = 16 + r.data.length + rest.length := by rw [List.length_append, rbytes_length]
  rw [next_good _ big (by omega) (by rw [n8]; omega) (by rw [n8, hl]; omega), n0, n4, n8, n12]
  have hd : ((rbytes big r ++ rest).drop 16).take r.data.length = r.data := by
    have : rbytes big r ++ rest = rnums big r ++ (r.data ++ rest) := by simp [rbytes]
    rw [this, List.drop_left' (rnums_length big r), List.take_left' rfl]
  rw [hd]
theorem rdr_put (big : Bool) (rest : List UInt8) : ∀ (l : List Rcd) (k : Nat), (∀ r ∈ l, r.Ok) → (∀ r ∈ l, r.data.length ≤ 131072) →
    rdr (recs big l ++ rest) big k = (l ++ (rdr rest big (k + 16 * l.length + size l)).1, (rdr rest big (k + 16 * l.length + size l)).2)
  | [], k, _, _ => by simp [recs_nil, size_nil]
  | r :: l, k, h1, h2 => by
    have hn := next_put big r (recs big l ++ rest) (h1 r (by simp)) (h2 r (by simp))
    have hl := rbytes_length big r
    have ih := rdr_put big rest l (k + (16 + r.data.length)) (fun x hx => h1 x (by simp [hx])) (fun x hx => h2 x (by simp [hx]))
    rw [recs_cons, List.append_assoc, rdr_good _ big k (by rw [List.length_append]; omega) r _ hn, List.drop_left' hl, ih]
    have e : k + (16 + r.data.length) + 16 * l.length + size l = k + 16 * (r :: l).length + size (r :: l) := by rw [List.length_cons, size_cons]; omega
    rw [e]
    rfl
theorem hbytes_eq' (m : Hdr) : hbytes m = Oc.put (mark m.nano) 4 m.big ++ (Oc.put 2 2 m.big ++ (Oc.put 4 2 m.big ++ (Oc.put 0 4 m.big ++ (Oc.put 0 4 m.big ++ (Oc.put m.snap 4 m.big ++ Oc.put m.link 4 m.big))))) := by
  simp [hbytes, hparts, nums]
theorem who_take (b : List UInt8) (n : Nat) (h : 4 ≤ n) (_hb : 4 ≤ b.length) : who (b.take n) = who b := by
  unfold who
  rw [List.take_take, Nat.min_eq_left h]
theorem who_put (m : Hdr) (rest : List UInt8) : who (hbytes m ++ rest) = some (m.big, m.nano) := by
  have hl := hbytes_length m
  rw [who_iff _ (by rw [List.length_append]; omega), hbytes_eq', List.append_assoc, List.take_append_of_le_length (by rw [Oc.put_length]; exact Nat.le_refl _), List.take_of_length_le (by rw [Oc.put_length]; exact Nat.le_refl _)]
theorem head_put (m : Hdr) (rest : List UInt8) (hm : m.Ok) : head (hbytes m ++ rest) = (m, 0) := by
  have hl := hbytes_length m
  have e : hbytes m ++ rest = Oc.put (mark m.nano) 4 m.big ++ (Oc.put 2 2 m.big ++ (Oc.put 4 2 m.big ++ (Oc.put 0 4 m.big ++ (Oc.put 0 4 m.big ++ (Oc.put m.snap 4 m.big ++ (Oc.put m.link 4 m.big ++ rest)))))) := by simp [hbytes_eq']
  have p := fun x => Oc.put_length x 4 m.big
  have p2 := fun x => Oc.put_length x 2 m.big
  have n2 : Oc.get (((hbytes m ++ rest).drop 4).take 2) m.big = 2 := by rw [e]; exact get2_at _ _ 2 4 m.big (by omega) (p _)
  have n16 : num (hbytes m ++ rest) 16 m.big = m.snap := by
    rw [e]
    have e2 : Oc.put (mark m.nano) 4 m.big ++ (Oc.put 2 2 m.big ++ (Oc.put 4 2 m.big ++ (Oc.put 0 4 m.big ++ (Oc.put 0 4 m.big ++ (Oc.put m.snap 4 m.big ++ (Oc.put m.link 4 m.big ++ rest)))))) = (Oc.put (mark m.nano) 4 m.big ++ Oc.put 2 2 m.big ++ Oc.put 4 2 m.big ++ Oc.put 0 4 m.big ++ Oc.put 0 4 m.big) ++ (Oc.put m.snap 4 m.big ++ (Oc.put m.link 4 m.big ++ rest)) := by simp
    rw [e2]
    exact num_at _ _ _ 16 m.big hm.snap (by simp only [List.length_append, p, p2])
  have n20 : num (hbytes m ++ rest) 20 m.big = m.link := by
    rw [e]
    have e2 : Oc.put (mark m.nano) 4 m.big ++ (Oc.put 2 2 m.big ++ (Oc.put 4 2 m.big ++ (Oc.put 0 4 m.big ++ (Oc.put 0 4 m.big ++ (Oc.put m.snap 4 m.big ++ (Oc.put m.link 4 m.big ++ rest)))))) = (Oc.put (mark m.nano) 4 m.big ++ Oc.put 2 2 m.big ++ Oc.put 4 2 m.big ++ Oc.put 0 4 m.big ++ Oc.put 0 4 m.big ++ Oc.put m.snap 4 m.big) ++ (Oc.put m.link 4 m.big ++ rest) := by simp
    rw [e2]
    exact num_at _ _ _ 20 m.big hm.link (by simp only [List.length_append, p, p2])
  rw [head_good _ (by rw [List.length_append]; omega) (who_put m rest) (by rw [List.length_append]; omega) n2, n16, n20]
theorem read_hb (m : Hdr) (rest : List UInt8) (hm : m.Ok) : read (hbytes m ++ rest) = (m, rdr rest m.big 24) := by
  rw [read_good _ m (head_put m rest hm), List.drop_left' (hbytes_length m)]
theorem read_put (m : Hdr) (l : List Rcd) (hm : m.Ok) (h1 : ∀ r ∈ l, r.Ok) (h2 : ∀ r ∈ l, r.data.length ≤ 131072) : read (put m l) = (m, l, 0, 0) := by
  have h := rdr_put m.big [] l 24 h1 h2
  rw [List.append_nil, rdr_nil] at h
  rw [put_eq, read_hb m _ hm, h]
  simp

/-! Captures that are cut off. -/
theorem next_cut (big : Bool) (r : Rcd) (j : Nat) (_hr : r.Ok) (hs : r.data.length ≤ 131072) (hj : j < 16 + r.data.length) : next ((rbytes big r).take j) big = (rz, 0, 2) := by
  have hl := rbytes_length big r
  have hjl : ((rbytes big r).take j).length = j := by rw [List.length_take]; omega
  by_cases h16 : j < 16
  · exact next_end _ big (by omega)
  · have e : (rbytes big r).take j = Oc.put r.sec 4 big ++ (Oc.put r.frac 4 big ++ (Oc.put r.data.length 4 big ++ (Oc.put r.len 4 big ++ r.data.take (j - 16)))) := by
      have e1 : rbytes big r = rnums big r ++ r.data := rfl
      have e2 : rnums big r = Oc.put r.sec 4 big ++ (Oc.put r.frac 4 big ++ (Oc.put r.data.length 4 big ++ Oc.put r.len 4 big)) := by simp [rnums, nums]
      rw [e1, List.take_append, List.take_of_length_le (by rw [rnums_length]; omega), rnums_length, e2]
      simp
    have p := fun x => Oc.put_length x 4 big
    have n8 : num ((rbytes big r).take j) 8 big = r.data.length := by
      rw [e, ← List.append_assoc]; exact num_at (Oc.put r.sec 4 big ++ Oc.put r.frac 4 big) _ _ 8 big (by omega) (by rw [List.length_append, p, p])
    exact next_short _ big (by omega) (by rw [n8]; omega) (by rw [n8]; omega)
theorem rdr_cut (big : Bool) (r : Rcd) (j k : Nat) (hr : r.Ok) (hs : r.data.length ≤ 131072) (hj : j < 16 + r.data.length) : rdr ((rbytes big r).take j) big k = ([], if 0 < j then (k, 2) else (0, 0)) := by
  have hl := rbytes_length big r
  by_cases h0 : 0 < j
  · rw [if_pos h0]
    exact rdr_bad _ big k (by rw [List.length_take]; omega) rz 0 2 (next_cut big r j hr hs hj) (by omega)
  · rw [if_neg h0]
    have : j = 0 := by omega
    subst this
    exact rdr_nil big k
theorem read_cut (m : Hdr) (l : List Rcd) (n i : Nat) (hm : m.Ok) (h1 : ∀ r ∈ l, r.Ok) (h2 : ∀ r ∈ l, r.data.length ≤ 131072) (hi : i < l.length)
    (ha : 24 + 16 * i + size (l.take i) ≤ n) (hb : n < 24 + 16 * i + size (l.take i) + (16 + l[i].data.length)) :
    read ((put m l).take n) = (m, l.take i, if 24 + 16 * i + size (l.take i) < n then (24 + 16 * i + size (l.take i), 2) else (0, 0)) := by
  have hl := hbytes_length m
  have hrl := rbytes_length m.big l[i]
  have hsp : l = l.take i ++ (l[i] :: l.drop (i + 1)) := by rw [← List.drop_eq_getElem_cons hi, List.take_append_drop]
  have hrc : recs m.big l = recs m.big (l.take i) ++ (rbytes m.big l[i] ++ recs m.big (l.drop (i + 1))) := by
    have := congrArg (recs m.big) hsp
    rw [recs_append, recs_cons] at this
    exact this
  have hlt : (l.take i).length = i := by rw [List.length_take]; omega
  have hrl2 := recs_len m.big (l.take i)
  rw [hlt] at hrl2
  have e : (put m l).take n = hbytes m ++ (recs m.big (l.take i) ++ (rbytes m.big l[i]).take (n - (24 + 16 * i + size (l.take i)))) := by
    rw [put_eq, hrc, List.take_append, List.take_of_length_le (by omega), hl, List.take_append, List.take_of_length_le (by omega), hrl2, List.take_append_of_le_length (by omega), show n - 24 - (16 * i + size (l.take i)) = n - (24 + 16 * i + size (l.take i)) by omega]
  rw [e, read_hb m _ hm, rdr_put m.big _ (l.take i) 24 (fun r hr => h1 r (List.mem_of_mem_take hr)) (fun r hr => h2 r (List.mem_of_mem_take hr)), hlt]
  rw [rdr_cut m.big l[i] _ _ (h1 _ (List.getElem_mem hi)) (h2 _ (List.getElem_mem hi)) (by omega)]
  have e3 : (0 < n - (24 + 16 * i + size (l.take i))) = (24 + 16 * i + size (l.take i) < n) := by apply propext; omega
  simp only [e3, List.append_nil]
theorem read_short (m : Hdr) (l : List Rcd) (n : Nat) (hn : n < 24) : read ((put m l).take n) = (hz, [], 0, 2) := by
  have hl := hbytes_length m
  have hp := put_length m l
  have hln : ((put m l).take n).length = n := by rw [List.length_take]; omega
  have hh : head ((put m l).take n) = (hz, 2) := by
    by_cases h4 : n < 4
    · exact head_end _ (by omega)
    · exact head_short _ (by omega) (by rw [who_take _ n (by omega) (by omega), put_eq]; exact who_put m _) (by omega)
  exact read_bad _ 2 hz hh (by omega)

/-! What is read, put again. -/
theorem put_num (b : List UInt8) (k : Nat) (big : Bool) (h : k + 4 ≤ b.length) : Oc.put (num b k big) 4 big = (b.drop k).take 4 := by
  have h2 := Oc.put_get ((b.drop k).take 4) big
  have hl : ((b.drop k).take 4).length = 4 := by simp; omega
  rw [hl] at h2
  exact h2
theorem next_back (b : List UInt8) (big : Bool) (r : Rcd) (n : Nat) (h : next b big = (r, n, 0)) : rbytes big r = b.take n ∧ n = 16 + r.data.length ∧ n ≤ b.length ∧ r.Ok ∧ r.data.length ≤ 131072 := by
  have hk := next_known b big
  rw [h] at hk
  obtain ⟨h5, h6⟩ := hk.good rfl
  have h7 := hk.size
  simp only at h5 h6 h7
  refine ⟨?_, h5, h7, hk.ok, h6⟩
  have c1 : ¬ b.length < 16 := fun hc => by rw [next_end b big hc] at h; simp at h
  have c2 : ¬ 131072 < num b 8 big := fun hc => by rw [next_long b big c1 hc] at h; simp at h
  have c3 : ¬ b.length < 16 + num b 8 big := fun hc => by rw [next_short b big c1 c2 hc] at h; simp at h
  rw [next_good b big c1 c2 c3] at h
  simp only [Prod.mk.injEq, and_true] at h
  obtain ⟨rfl, rfl⟩ := h
  have hdl : ((b.drop 16).take (num b 8 big)).length = num b 8 big := by simp; omega
  rw [rbytes_eq]
  simp only [hdl]
  rw [put_num b 0 big (by omega), put_num b 4 big (by omega), put_num b 8 big (by omega), put_num b 12 big (by omega)]
  have t : ∀ (x y : Nat), (b.drop x).take y ++ (b.drop (x + y)) = b.drop x := fun x y => by rw [← List.drop_drop, List.take_append_drop]
  have u : ∀ (x y z : Nat), (b.drop x).take y ++ (b.drop (x + y)).take z = (b.drop x).take (y + z) := fun x y z => by
    rw [← List.drop_drop, List.take_add]
  rw [show (12 : Nat) = 8 + 4 from rfl]
  rw [show (b.drop 16) = b.drop (8 + 4 + 4) from rfl, u (8 + 4) 4 _]
  rw [u 8 4 _, show (8 : Nat) = 4 + 4 from rfl, u 4 4 _, show (b.drop 4) = b.drop (0 + 4) from rfl, u 0 4 _, List.drop_zero]
  congr 1
  omega
theorem rdr_back (big : Bool) : ∀ (f : Nat) (b : List UInt8) (k : Nat) (l : List Rcd), b.length ≤ f → rdr b big k = (l, 0, 0) → recs big l = b ∧ (∀ r ∈ l, r.Ok) ∧ (∀ r ∈ l, r.data.length ≤ 131072)
  | 0, b, k, l, hf, h => by
    have : b = [] := List.eq_nil_of_length_eq_zero (by omega)
    subst this
    rw [rdr_nil] at h
    simp only [Prod.mk.injEq, and_true] at h
    subst h
    exact ⟨rfl, (fun r hr => by simp at hr), (fun r hr => by simp at hr)⟩
  | f + 1, b, k, l, hf, h => by
    by_cases hb : b = []
    · subst hb
      rw [rdr_nil] at h
      simp only [Prod.mk.injEq, and_true] at h
      subst h
      exact ⟨rfl, (fun r hr => by simp at hr), (fun r hr => by simp at hr)⟩
    · have hpos : 0 < b.length := List.length_pos_iff.2 hb
      rcases hx : next b big with ⟨r, n, e⟩
      by_cases he : e = 0
      · subst he
        obtain ⟨q1, q2, q3, q4, q5⟩ := next_back b big r n hx
        rw [rdr_good b big k hpos r n hx] at h
        simp only [Prod.mk.injEq] at h
        obtain ⟨h1, h2⟩ := h
        have ih := rdr_back big f (b.drop n) (k + n) (rdr (b.drop n) big (k + n)).1 (by simp; omega) (by rw [← h2])
        obtain ⟨i1, i2, i3⟩ := ih
        subst h1
        refine ⟨?_, ?_, ?_⟩
        · rw [recs_cons, i1, q1, List.take_append_drop]
        · intro x hx
          simp only [List.mem_cons] at hx
          rcases hx with rfl | hx
          · exact q4
          · exact i2 x hx
        · intro x hx
          simp only [List.mem_cons] at hx
          rcases hx with rfl | hx
          · exact q5
          · exact i3 x hx
      · rw [rdr_bad b big k hpos r n e hx he] at h
        simp only [Prod.mk.injEq] at h
        exact absurd h.2.2 he
/-- What Read's fault may be. -/
theorem rdr_spot (big : Bool) : ∀ (f : Nat) (b : List UInt8) (k : Nat), b.length ≤ f → ((rdr b big k).2 = (0, 0)) ∨ ((rdr b big k).2.1 ≤ k + b.length ∧ (rdr b big k).2.2 ≠ 0 ∧ (rdr b big k).2.2 ≤ 4)
  | 0, b, k, hf => by
    have : b = [] := List.eq_nil_of_length_eq_zero (by omega)
    subst this
    exact .inl rfl
  | f + 1, b, k, hf => by
    by_cases hb : b = []
    · subst hb; exact .inl rfl
    · have hpos : 0 < b.length := List.length_pos_iff.2 hb
      have hk := next_known b big
      rcases hx : next b big with ⟨r, n, e⟩
      rw [hx] at hk
      by_cases he : e = 0
      · subst he
        obtain ⟨h5, h6⟩ := hk.good rfl
        have h7 := hk.size
        simp only at h5 h6 h7
        rw [rdr_good b big k hpos r n hx]
        have ih := rdr_spot big f (b.drop n) (k + n) (by simp; omega)
        simp only
        rcases ih with h | ⟨h1, h2, h3⟩
        · exact .inl h
        · refine .inr ⟨?_, h2, h3⟩
          rw [List.length_drop] at h1; omega
      · rw [rdr_bad b big k hpos r n e hx he]
        refine .inr ⟨by simp, he, ?_⟩
        have := hk.err
        simp only at this ⊢
        omega
structure ReadKnown (b : List UInt8) (A : Hdr × List Rcd × Nat × Nat) : Prop where
  ok : A.1.Ok
  spot : A.2.2 = (0, 0) ∨ (A.2.2.1 ≤ b.length ∧ A.2.2.2 ≠ 0 ∧ A.2.2.2 ≤ 4)
theorem read_known (b : List UInt8) : ReadKnown b (read b) := by
  have hk := head_known b
  rcases hx : head b with ⟨m, e⟩
  rw [hx] at hk
  by_cases he : e = 0
  · subst he
    rw [read_good b m hx]
    have hs := rdr_spot m.big (b.drop 24).length (b.drop 24) 24 (Nat.le_refl _)
    refine ⟨hk.ok, ?_⟩
    by_cases h24 : b.length < 24
    · have : b.drop 24 = [] := List.drop_of_length_le (by omega)
      rw [this]
      exact .inl rfl
    · rcases hs with h | ⟨h1, h2, h3⟩
      · exact .inl h
      · rw [List.length_drop] at h1
        exact .inr ⟨by simp only; omega, h2, h3⟩
  · rw [read_bad b e m hx he]
    have := hk.err
    simp only at this
    exact ⟨hz_ok, .inr ⟨Nat.zero_le _, he, by simp only; omega⟩⟩
theorem read_recs (b : List UInt8) : ∀ r ∈ (read b).2.1, r.Ok := by
  have main : ∀ (big : Bool) (f : Nat) (b : List UInt8) (k : Nat), b.length ≤ f → ∀ r ∈ (rdr b big k).1, r.Ok := by
    intro big f
    induction f with
    | zero =>
      intro b k hf r hr
      have : b = [] := List.eq_nil_of_length_eq_zero (by omega)
      subst this
      rw [rdr_nil] at hr; simp at hr
    | succ f ih =>
      intro b k hf r hr
      by_cases hb : b = []
      · subst hb; rw [rdr_nil] at hr; simp at hr
      · have hpos : 0 < b.length := List.length_pos_iff.2 hb
        have hk := next_known b big
        rcases hx : next b big with ⟨r', n, e⟩
        rw [hx] at hk
        by_cases he : e = 0
        · subst he
          have h5 := (hk.good rfl).1
          simp only at h5
          rw [rdr_good b big k hpos r' n hx] at hr
          simp only [List.mem_cons] at hr
          rcases hr with rfl | hr
          · exact hk.ok
          · exact ih (b.drop n) (k + n) (by simp; omega) r hr
        · rw [rdr_bad b big k hpos r' n e hx he] at hr; simp at hr
  rcases hx : head b with ⟨m, e⟩
  by_cases he : e = 0
  · subst he
    rw [read_good b m hx]
    exact main m.big _ _ 24 (Nat.le_refl _)
  · rw [read_bad b e m hx he]
    intro r hr; simp at hr
theorem read_back (b : List UInt8) (m : Hdr) (l : List Rcd) (h : read b = (m, l, 0, 0)) :
    24 ≤ b.length ∧ (∀ r ∈ l, r.Ok) ∧ (∀ r ∈ l, r.data.length ≤ 131072) ∧ (put m l).length = b.length ∧ (put m l).take 6 = b.take 6 ∧ (put m l).drop 16 = b.drop 16 := by
  rcases hx : head b with ⟨m', e⟩
  by_cases he : e = 0
  · subst he
    rw [read_good b m' hx] at h
    simp only [Prod.mk.injEq] at h
    obtain ⟨rfl, h⟩ := h
    obtain ⟨r1, r2, r3⟩ := rdr_back m'.big (b.drop 24).length (b.drop 24) 24 l (Nat.le_refl _) h
    have c0 : ¬ b.length < 4 := fun hc => by rw [head_end b hc] at hx; simp at hx
    cases hw : who b with
    | none => rw [head_form b c0 hw] at hx; simp at hx
    | some p =>
      obtain ⟨big, nano⟩ := p
      have c1 : ¬ b.length < 24 := fun hc => by rw [head_short b c0 hw hc] at hx; simp at hx
      have c2 : Oc.get ((b.drop 4).take 2) big = 2 := by
        by_cases hc : Oc.get ((b.drop 4).take 2) big = 2
        · exact hc
        · rw [head_two b c0 hw c1 hc] at hx; simp at hx
      rw [head_good b c0 hw c1 c2] at hx
      simp only [Prod.mk.injEq, and_true] at hx
      subst hx
      have w4 := (who_iff b (by omega) big nano).1 hw
      have g2 := Oc.put_get ((b.drop 4).take 2) big
      rw [c2, show ((b.drop 4).take 2).length = 2 by simp; omega] at g2
      have p16 := put_num b 16 big (by omega)
      have p20 := put_num b 20 big (by omega)
      have p := fun x => Oc.put_length x 4 big
      have p2 := fun x => Oc.put_length x 2 big
      have hh := hbytes_eq' ⟨big, nano, num b 16 big, num b 20 big⟩
      have hl := hbytes_length ⟨big, nano, num b 16 big, num b 20 big⟩
      simp only at hh r1
      rw [p16, p20, w4, g2] at hh
      refine ⟨by omega, r2, r3, ?_, ?_, ?_⟩
      · rw [put_eq, List.length_append, hl, r1, List.length_drop]; omega
      · rw [put_eq, List.take_append_of_le_length (by omega), hh, ← List.append_assoc]
        have : b.take 4 ++ (b.drop 4).take 2 = b.take 6 := by rw [← List.take_add]
        rw [this, List.take_append_of_le_length (by simp; omega), List.take_take, Nat.min_self]
      · rw [put_eq, r1, List.drop_append_of_le_length (by omega), hh]
        have e2 : b.take 4 ++ ((b.drop 4).take 2 ++ (Oc.put 4 2 big ++ (Oc.put 0 4 big ++ (Oc.put 0 4 big ++ ((b.drop 16).take 4 ++ (b.drop 20).take 4))))) = (b.take 4 ++ (b.drop 4).take 2 ++ Oc.put 4 2 big ++ Oc.put 0 4 big ++ Oc.put 0 4 big) ++ ((b.drop 16).take 4 ++ (b.drop 20).take 4) := by simp
        rw [e2, List.drop_left' (by simp only [List.length_append, List.length_take, List.length_drop, p, p2]; omega)]
        have e3 : (b.drop 16).take 4 ++ (b.drop 20).take 4 = (b.drop 16).take 8 := by rw [show (20 : Nat) = 16 + 4 from rfl, ← List.drop_drop, ← List.take_add]
        rw [e3, show (24 : Nat) = 16 + 8 from rfl, ← List.drop_drop, List.take_append_drop]
  · rw [read_bad b e m' hx he] at h
    simp only [Prod.mk.injEq] at h
    exact absurd h.2.2.2 he
end Pc
end Go.Proofs.YtbbnkmhlgfoacaaDoor.S9
