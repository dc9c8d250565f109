/- Contract of Put. -/
import Derived.Test.YtfkjjolohphaoaaPt
namespace Go.Proofs.Ytfkjjolohphaoaa
open Go.RowKit

/-- No record is too long. -/
def Pc.small (L : List Pc.Rcd) : Prop := ∀ r ∈ L, r.data.length ≤ 131072
theorem Pc.small_take {L : List Pc.Rcd} {k : Nat} (h : k < L.length) (hs : Pc.small (L.take k)) (hr : L[k].data.length ≤ 131072) : Pc.small (L.take (k + 1)) := by
  intro r hm
  rw [List.take_succ_eq_append_getElem h] at hm
  simp only [List.mem_append, List.mem_cons, List.not_mem_nil, or_false] at hm
  rcases hm with hm | rfl
  · exact hs r hm
  · exact hr
theorem Pc.size_mem {L : List Pc.Rcd} (k : Nat) (h : k < L.length) : L[k].data.length ≤ Pc.size L := by
  have h1 := Pc.size_next L k h
  have h2 := Pc.size_take L (k + 1)
  omega
/-- A capture that is answered, or that a record is too long. -/
def PutRes (w w' : World) (e : Ending) (m : Pc.Hdr) (L : List Pc.Rcd) : Prop :=
  Below w.heap.size w w' ∧ ((Pc.small L ∧ ∃ v, e = .returned (.tuple #[v, .int .i64 0]) ∧ w'.ownsRow w.heap.size 5 1 v (Pc.put m L).length (Lib.byteCells (Pc.put m L))) ∨ (¬ Pc.small L ∧ e = .returned (.tuple #[.slice none 0 0, .int .i64 4])))
theorem RecAt.range {w : World} {b k : Nat} {r : Pc.Rcd} {p : Option Addr} {c : Nat} (h : RecAt w b k r p c) : w.rangeAt b k (rcells r (.slice p r.data.length c)) := by
  intro j v hv
  have hj : j = 0 ∨ j = 1 ∨ j = 2 ∨ j = 3 := by
    have := (List.getElem?_eq_some_iff.1 hv).1
    simp [rcells] at this; omega
  rcases hj with rfl | rfl | rfl | rfl <;> simp [rcells] at hv <;> subst hv
  · exact h.sec
  · exact h.frac
  · exact h.len
  · exact h.data
theorem prts_kept {w0 w w' : World} {B R : Nat} {v : Value} {L : List (List UInt8)} {cs : Array Value} (h : Prts w0 w B v L) (g : w.grownBy w' v.ownBlock) (hR : w.heap[R]? = some (.cells cs 46 (0, 0))) : w'.heap[R]? = some (.cells cs 46 (0, 0)) := by
  obtain ⟨vs, ho, _⟩ := h
  rw [g.block R (lt_of_block hR) ?_]
  · exact hR
  · intro e
    rcases ho.2 with ⟨rfl, _⟩ | ⟨q, cap, cur, rfl, _, hq, _⟩
    · simp [Value.ownBlock] at e
    · simp [Value.ownBlock] at e
      subst e
      rw [hR] at hq
      simp at hq
theorem info46r (r : Pc.Rcd) (v : Value) : (Try.prog.info? 46).map (·.size) = some (rcells r v).length := info46

set_option maxRecDepth 100000 in
set_option maxHeartbeats 4000000 in
theorem put_any (m : Pc.Hdr) (a : Option Addr) (n cap : Nat) (L : List Pc.Rcd) (w : World) (hm : m.Ok) (hn : L.length = n) (hb : 24 + 16 * n + Pc.size L ≤ 300000) (h : RecsAt w a L) :
    Calls Try.prog 11 #[.agg (hcells m).toArray, .slice a n cap] w fun e w' => PutRes w w' e m L := by
  have c20 := fun W => putHead_any m W hm
  have H := Lib.hid h
  have Hn := Lib.hid hn
  clear h hn
  obtain ⟨ob, hob⟩ : ∃ ob, ob = Obj.cells (hcells m).toArray 24 (0, 0) := ⟨_, rfl⟩
  have b0 : Below w.heap.size w (w.alloc (.cells #[.bool m.big, .bool m.nano, .int .u32 (m.snap : Int), .int .u32 (m.link : Int)] 24)) := (Below.refl _ _).alloc (Nat.le_refl _) _
  have hT0 : (w.alloc (.cells #[.bool m.big, .bool m.nano, .int .u32 (m.snap : Int), .int .u32 (m.link : Int)] 24)).heap[w.heap.size]? = some ob := by rw [hob]; exact heap_alloc_new w _
  have h0 := H.out.next b0
  have hs0 : (w.alloc (.cells #[.bool m.big, .bool m.nano, .int .u32 (m.snap : Int), .int .u32 (m.link : Int)] 24)).heap.size = w.heap.size + 1 := by simp
  go_enter Try.func11, Try.ntmps11
  simp only [hcells]
  go_wp2_with fail
  generalize w.alloc (.cells #[.bool m.big, .bool m.nano, .int .u32 (m.snap : Int), .int .u32 (m.link : Int)] 24) = W0 at *
  refine (c20 W0).mono ?_
  rintro e w1 ⟨v1, rfl, o1, b1⟩
  have hp1 : Prts W0 (w1.alloc (.cells #[v1] 28)) W0.heap.size (.slice (some ⟨w1.heap.size, 0, none⟩) 1 1) [Pc.hbytes m] := by
    refine ⟨[v1], owns_built w1 _ 28 v1 b1.size, fun j hj => ?_⟩
    have : j = 0 := by simpa using hj
    subst this
    exact ⟨v1, rfl, (part_own (Pc.hbytes_length m) o1).next ((Below.refl _ _).alloc (Nat.le_refl _) _)⟩
  have b2 : Below W0.heap.size W0 (w1.alloc (.cells #[v1] 28)) := b1.alloc b1.size _
  obtain ⟨p1, c1, rfl⟩ := own_slice o1
  have hF := Pc.parts_flat m L
  have hFl : (Pc.put m L).length ≤ 300000 := by rw [Pc.put_length, Hn.out]; omega
  obtain ⟨F, hFF⟩ : ∃ F, Pc.put m L = F := ⟨_, rfl⟩
  have HPost : ∀ W v, Below w.heap.size w W → Pc.small L → W.ownsRow w.heap.size 5 1 v F.length (Lib.byteCells F) → PutRes w W (.returned (.tuple #[v, .int .i64 0])) m L := fun W v h1 h2 h3 => ⟨h1, .inl ⟨h2, v, rfl, by rw [hFF]; exact h3⟩⟩
  have HPost2 : ∀ W, Below w.heap.size w W → ¬ Pc.small L → PutRes w W (.returned (.tuple #[.slice none 0 0, .int .i64 4])) m L := fun W h1 h2 => ⟨h1, .inr ⟨h2, rfl⟩⟩
  rw [hFF] at hF hFl
  have HF := Lib.hid hF
  have P1 := Lib.hid HPost
  have P2 := Lib.hid HPost2
  have HP1 := Lib.hid hp1
  have B2 := Lib.hid b2
  have B0 := Lib.hid b0
  have T0 := Lib.hid hT0
  have R0 := Lib.hid h0
  clear hF HPost HPost2 hp1 b2 b0 hT0 h0 o1 b1 c20 H hFF
  go_wp2_with fail
  generalize w1.alloc (.cells #[.slice p1 24 c1] 28) = W1 at *
  generalize w1.heap.size = g1 at *
  go_loopw [6, 14] (fun v i wr => ∃ k : Nat, i = .int .i64 (k : Int) ∧ k ≤ n ∧ Pc.small (L.take k) ∧ Prts W0 wr W0.heap.size v (Pc.parts m (L.take k)) ∧ Below W0.heap.size W0 wr) (fun _ i _ => n - (intOf i).toNat)
  case atStart => exact ⟨0, rfl, Nat.zero_le _, by intro r h; simp at h, by simpa [Pc.parts] using HP1.out, B2.out⟩
  case round =>
    obtain ⟨k, rfl, hk, hsm, hp, hbw⟩ := hrel
    obtain ⟨av, cv, rfl⟩ := prts_slice hp
    have hpl : (Pc.parts m (L.take k)).length = 1 + 2 * k := by rw [Pc.parts_length, List.length_take]; have := Hn.out; omega
    by_cases hlt : (k : Int) < (n : Int)
    · have hkn : k < L.length := by rw [Hn.out]; omega
      have hr := R0.out.next hbw
      rcases hr with hr | ⟨b, off, rfl, hbl, hr⟩
      · rw [hr] at hkn; simp at hkn
      obtain ⟨p, c, hra⟩ := hr k hkn
      have hrow0 : RowAt W0 p c L[k].data := by
        rcases R0.out with h1 | ⟨b', off', e1, _, h1⟩
        · rw [h1] at hkn; simp at hkn
        · obtain ⟨p', c', h2⟩ := h1 k hkn
          have e2 := (h2.next (by assumption) hbw).data
          cases e1
          rw [hra.data] at e2
          simp only [Option.some.injEq, Value.slice.injEq, true_and] at e2
          obtain ⟨rfl, rfl⟩ := e2
          exact h2.row
      have hps := Pc.parts_snoc m (L.take k) L[k]
      rw [← List.take_succ_eq_append_getElem hkn] at hps
      have hst := Pc.small_take hkn hsm
      have hns : 131072 < L[k].data.length → ¬ Pc.small L := fun h1 h2 => by have := h2 _ (List.getElem_mem hkn); omega
      have hsz := Pc.size_mem k hkn
      have hN : ∀ y ∈ [L[k].sec, L[k].frac, L[k].data.length, L[k].len], y < 256 ^ 4 := fun y h => by
        have h1 := hra.ok.sec
        have h2 := hra.ok.frac
        have h3 := hra.ok.len
        simp at h
        rcases h with rfl | rfl | rfl | rfl
        · exact h1
        · exact h2
        · show _ < 4294967296; omega
        · exact h3
      have hnum : Pc.nums m.big 4 [L[k].sec, L[k].frac, L[k].data.length, L[k].len] = Pc.rnums m.big L[k] := rfl
      have hnl := Pc.rnums_length m.big L[k]
      rw [hpl]
      generalize Pc.parts m (L.take k) = PL at *
      generalize Pc.rnums m.big L[k] = NB at *
      have hrange := hra.range
      generalize L[k] = r at *
      have HT1 := Lib.hid (block_next T0.out hbw)
      have HP := Lib.hid hp
      have HPL := Lib.hid hpl
      have HBW := Lib.hid hbw
      have HPS := Lib.hid hps
      have HST := Lib.hid hst
      have HNS := Lib.hid hns
      have HNU := Lib.hid hnum
      have HRG := Lib.hid hrange
      have HR0 := Lib.hid hrow0
      have HNN := Lib.hid hN
      have hws := hbw.size
      clear hp hpl hbw hps hst hns hnum hrange hra hr hrow0 hN hsm
      by_cases hlong : 131072 < r.data.length
      · have j1 : (131072 : Int) < (r.data.length : Int) := by omega
        go_wp2_with (refine wpList_load_mid rfl 46 (.tmp 16) rfl b (off + k * 4) rfl (rcells r (.slice p r.data.length c)) _ HRG.out Try.underlying46 rfl (info46r _ _) ?_; simp only [rcells])
        go_ret2
        exact P2.out _ (Below.trans B0.out ((HBW.out.alloc HBW.out.size _).mono (by omega))) (HNS.out hlong)
      · have j1 : ¬ (131072 : Int) < (r.data.length : Int) := by omega
        have hwu : IntKind.u32.wrap (r.data.length : Int) = (r.data.length : Int) := by rw [IntKind.wrap_u32]; omega
        have hRn := heap_alloc_new wr (.cells (rcells r (.slice p r.data.length c)).toArray 46)
        have bR : Below wr.heap.size wr (wr.alloc (.cells (rcells r (.slice p r.data.length c)).toArray 46)) := (Below.refl _ _).alloc (Nat.le_refl _) _
        have hTn := block_next HT1.out bR
        have HPn := Lib.hid (HP.out.next bR)
        have HBn := Lib.hid (Below.chain HBW.out bR)
        have hRW : w.heap.size ≠ wr.heap.size := by omega
        have HRn : Hid ((wr.alloc (.cells #[.int .u32 (r.sec : Int), .int .u32 (r.frac : Int), .int .u32 (r.len : Int), .slice p r.data.length c] 46)).heap[wr.heap.size]? = some (.cells (rcells r (.slice p r.data.length c)).toArray 46 (0, 0))) := hRn
        have HTn : Hid ((wr.alloc (.cells #[.int .u32 (r.sec : Int), .int .u32 (r.frac : Int), .int .u32 (r.len : Int), .slice p r.data.length c] 46)).heap[w.heap.size]? = some ob) := hTn
        have HPm : Hid (Prts W0 (wr.alloc (.cells #[.int .u32 (r.sec : Int), .int .u32 (r.frac : Int), .int .u32 (r.len : Int), .slice p r.data.length c] 46)) W0.heap.size (.slice av PL.length cv) PL) := HPn.out
        have HBm : Hid (Below W0.heap.size W0 (wr.alloc (.cells #[.int .u32 (r.sec : Int), .int .u32 (r.frac : Int), .int .u32 (r.len : Int), .slice p r.data.length c] 46))) := HBn.out
        clear hRn bR hTn HPn HBn HP HBW HT1
        go_wp2_with (refine wpList_load_mid rfl 46 (.tmp 16) rfl b (off + k * 4) rfl (rcells r (.slice p r.data.length c)) _ HRG.out Try.underlying46 rfl (info46r _ _) ?_; simp only [rcells])
        generalize wr.alloc (.cells #[.int .u32 (r.sec : Int), .int .u32 (r.frac : Int), .int .u32 (r.len : Int), .slice p r.data.length c] 46) = W2 at *
        generalize wr.heap.size = R at *
        have hS : W2.drew.heap[w.heap.size]? = some ob ∧ W2.drew.heap[R]? = some (.cells (rcells r (.slice p r.data.length c)).toArray 46 (0, 0)) := ⟨HTn.out, HRn.out⟩
        refine held_start (S := fun W => W.heap[w.heap.size]? = some ob ∧ W.heap[R]? = some (.cells (rcells r (.slice p r.data.length c)).toArray 46 (0, 0))) 20 (by kernel_rfl) rfl ?_
        refine held_take 0 (v := ?_) rfl (by kernel_rfl) (by kernel_rfl) (by kernel_rfl) (fun _ _ _ h => h) (by assumption) (by rfl) ?_ ?_
        rotate_left
        · (intro W hW; go_simp; try with_reducible rfl)
        simp only [Act.put, List.setIfInBounds_toArray, List.set_cons_zero, List.set_cons_succ]
        refine held_take 1 (v := ?_) rfl (by kernel_rfl) (by kernel_rfl) (by kernel_rfl) (fun _ _ _ h => h) (by assumption) (by rfl) ?_ ?_
        rotate_left
        · (intro W hW; go_simp; try with_reducible rfl)
        simp only [Act.put, List.setIfInBounds_toArray, List.set_cons_zero, List.set_cons_succ]
        refine held_take 2 (v := ?_) rfl (by kernel_rfl) (by kernel_rfl) (by kernel_rfl) (fun _ _ _ h => h) (by assumption) (by rfl) ?_ ?_
        rotate_left
        · (intro W hW; (have t0 : W.cell? ⟨w.heap.size, 0, none⟩ = some (.bool m.big) := by subst hob; exact cell_of_row _ _ _ _ _ _ hW.1); clear hW; go_simp; try with_reducible rfl)
        simp only [Act.put, List.setIfInBounds_toArray, List.set_cons_zero, List.set_cons_succ]
        refine held_take 3 (v := ?_) rfl (by kernel_rfl) (by kernel_rfl) (by kernel_rfl) (fun _ _ _ h => h) (by assumption) (by rfl) ?_ ?_
        rotate_left
        · (intro W hW; go_simp; try with_reducible rfl)
        simp only [Act.put, List.setIfInBounds_toArray, List.set_cons_zero, List.set_cons_succ]
        refine held_take 4 (v := ?_) rfl (by kernel_rfl) (by kernel_rfl) (by kernel_rfl) (fun _ _ _ h => h) (by assumption) (by rfl) ?_ ?_
        rotate_left
        · (intro W hW; (have t0 : W.cell? ⟨R, 0, none⟩ = some (.int .u32 (r.sec : Int)) := cell_of_row _ _ _ _ _ _ hW.2); clear hW; go_simp; try with_reducible rfl)
        simp only [Act.put, List.setIfInBounds_toArray, List.set_cons_zero, List.set_cons_succ]
        refine held_take 5 (v := ?_) rfl (by kernel_rfl) (by kernel_rfl) (by kernel_rfl) (fun _ _ _ h => h) (by assumption) (by rfl) ?_ ?_
        rotate_left
        · (intro W hW; go_simp; try with_reducible rfl)
        simp only [Act.put, List.setIfInBounds_toArray, List.set_cons_zero, List.set_cons_succ]
        refine held_take 6 (v := ?_) rfl (by kernel_rfl) (by kernel_rfl) (by kernel_rfl) (fun _ _ _ h => h) (by assumption) (by rfl) ?_ ?_
        rotate_left
        · (intro W hW; (have t0 : W.cell? ⟨R, 1, none⟩ = some (.int .u32 (r.frac : Int)) := cell_of_row _ _ _ _ _ _ hW.2); clear hW; go_simp; try with_reducible rfl)
        simp only [Act.put, List.setIfInBounds_toArray, List.set_cons_zero, List.set_cons_succ]
        refine held_take 7 (v := ?_) rfl (by kernel_rfl) (by kernel_rfl) (by kernel_rfl) (fun _ _ _ h => h) (by assumption) (by rfl) ?_ ?_
        rotate_left
        · (intro W hW; go_simp; try with_reducible rfl)
        simp only [Act.put, List.setIfInBounds_toArray, List.set_cons_zero, List.set_cons_succ]
        refine held_take 8 (v := ?_) rfl (by kernel_rfl) (by kernel_rfl) (by kernel_rfl) (fun _ _ _ h => h) (by assumption) (by rfl) ?_ ?_
        rotate_left
        · (intro W hW; (have t0 : W.cell? ⟨R, 3, none⟩ = some (.slice p r.data.length c) := cell_of_row _ _ _ _ _ _ hW.2); clear hW; go_simp; try with_reducible rfl)
        simp only [Act.put, List.setIfInBounds_toArray, List.set_cons_zero, List.set_cons_succ]
        refine held_take 9 (v := ?_) rfl (by kernel_rfl) (by kernel_rfl) (by kernel_rfl) (fun _ _ _ h => h) (by assumption) (by rfl) ?_ ?_
        rotate_left
        · (intro W hW; go_simp; try with_reducible rfl)
        simp only [Act.put, List.setIfInBounds_toArray, List.set_cons_zero, List.set_cons_succ]
        refine held_take 10 (v := ?_) rfl (by kernel_rfl) (by kernel_rfl) (by kernel_rfl) (fun _ _ _ h => h) (by assumption) (by rfl) ?_ ?_
        rotate_left
        · (intro W hW; go_simp; try with_reducible rfl)
        simp only [Act.put, List.setIfInBounds_toArray, List.set_cons_zero, List.set_cons_succ]
        refine held_take 11 (v := ?_) rfl (by kernel_rfl) (by kernel_rfl) (by kernel_rfl) (fun _ _ _ h => h) (by assumption) (by rfl) ?_ ?_
        rotate_left
        · (intro W hW; go_simp; try with_reducible rfl)
        simp only [Act.put, List.setIfInBounds_toArray, List.set_cons_zero, List.set_cons_succ]
        refine held_take 12 (v := ?_) rfl (by kernel_rfl) (by kernel_rfl) (by kernel_rfl) (fun _ _ _ h => h) (by assumption) (by rfl) ?_ ?_
        rotate_left
        · (intro W hW; (have t0 : W.cell? ⟨R, 2, none⟩ = some (.int .u32 (r.len : Int)) := cell_of_row _ _ _ _ _ _ hW.2); clear hW; go_simp; try with_reducible rfl)
        simp only [Act.put, List.setIfInBounds_toArray, List.set_cons_zero, List.set_cons_succ]
        refine held_take 15 (v := ?_) rfl (by kernel_rfl) (by kernel_rfl) (by kernel_rfl) (fun _ _ _ h => h) (by assumption) (by rfl) ?_ ?_
        rotate_left
        · (intro W hW; go_simp; try with_reducible rfl)
        simp only [Act.put, List.setIfInBounds_toArray, List.set_cons_zero, List.set_cons_succ]
        refine held_take 16 (v := ?_) rfl (by kernel_rfl) (by kernel_rfl) (by kernel_rfl) (fun _ _ _ h => h) (by assumption) (by rfl) ?_ ?_
        rotate_left
        · (intro W hW; (have t0 : W.cell? ⟨R, 3, none⟩ = some (.slice p r.data.length c) := cell_of_row _ _ _ _ _ _ hW.2); clear hW; go_simp; try with_reducible rfl)
        simp only [Act.put, List.setIfInBounds_toArray, List.set_cons_zero, List.set_cons_succ]
        have bd : Below W2.heap.size W2 W2.drew := (Below.refl _ _).drew
        have hPd := HPm.out.next bd
        have hBd := Below.chain HBm.out bd
        clear HPm HBm bd HTn HRn
        generalize W2.drew = W3 at *
        have bA : Below W3.heap.size W3 (W3.alloc (.cells #[.int .u32 (r.sec : Int), .int .u32 (r.frac : Int), .int .u32 (r.data.length : Int), .int .u32 (r.len : Int)] 22)) := (Below.refl _ _).alloc (Nat.le_refl _) _
        have hgA : (W3.alloc (.cells #[.int .u32 (r.sec : Int), .int .u32 (r.frac : Int), .int .u32 (r.data.length : Int), .int .u32 (r.len : Int)] 22)).heap[W3.heap.size]? = some (.cells (wcells [r.sec, r.frac, r.data.length, r.len]).toArray 22 (0, 0)) := heap_alloc_new W3 _
        refine held_makes 13 (v := .slice (some ⟨W3.heap.size, 0, none⟩) 4 4) (w' := W3.alloc (.cells #[.int .u32 (r.sec : Int), .int .u32 (r.frac : Int), .int .u32 (r.data.length : Int), .int .u32 (r.len : Int)] 22)) rfl (by kernel_rfl) (by rfl) (by go_simp) ⟨block_next hS.1 bA, block_next hS.2 bA⟩ ?_
        simp only [Act.put, List.setIfInBounds_toArray, List.set_cons_zero, List.set_cons_succ]
        have hS4 := And.intro (block_next hS.1 bA) (block_next hS.2 bA)
        have hP4 := hPd.next bA
        have hB4 := Below.chain hBd bA
        clear hS hPd hBd bA
        generalize W3.alloc (.cells #[.int .u32 (r.sec : Int), .int .u32 (r.frac : Int), .int .u32 (r.data.length : Int), .int .u32 (r.len : Int)] 22) = W4 at *
        generalize W3.heap.size = g4 at *
        refine held_call 14 (f := 21) (args := #[.bool m.big, .int .i64 4, .slice (some ⟨g4, 0, none⟩) 4 4]) rfl (by kernel_rfl) (by rfl) (by go_simp) ?_
        refine (numbers_put [r.sec, r.frac, r.data.length, r.len] 4 4 m.big g4 W4 rfl (by omega) (by omega) (by omega) HNN.out hgA).mono ?_
        rintro e W5 ⟨v5, rfl, o5, b5⟩
        rw [HNU.out, hnl] at o5
        have hS5 := And.intro (block_next hS4.1 b5) (block_next hS4.2 b5)
        refine ⟨_, rfl, hS5, ?_⟩
        simp only [Act.put, List.setIfInBounds_toArray, List.set_cons_zero, List.set_cons_succ]
        have hP5 := hP4.next b5
        have hB5 := Below.chain hB4 b5
        have hpt := part_own (w0 := W0) hnl (ownsRow_lower o5 hB4.size)
        obtain ⟨p5, c5, rfl⟩ := own_slice o5
        have hpt2 : PartIs W0 W5 W0.heap.size (.slice p r.data.length c) r.data := ⟨p, c, rfl, .inl HR0.out⟩
        have hnew := news_two hpt hpt2
        have bC : Below W5.heap.size W5 (W5.alloc (.cells #[.slice p5 16 c5, .slice p r.data.length c] 28)) := (Below.refl _ _).alloc (Nat.le_refl _) _
        refine held_makes 17 (v := .slice (some ⟨W5.heap.size, 0, none⟩) 2 2) (w' := W5.alloc (.cells #[.slice p5 16 c5, .slice p r.data.length c] 28)) rfl (by kernel_rfl) (by rfl) (by go_simp) ⟨block_next hS5.1 bC, block_next hS5.2 bC⟩ ?_
        simp only [Act.put, List.setIfInBounds_toArray, List.set_cons_zero, List.set_cons_succ]
        have hS6 := And.intro (block_next hS5.1 bC) (block_next hS5.2 bC)
        have hP6 := hP5.next bC
        have hB6 := Below.chain hB5 bC
        clear hP5 hB5 hS5 bC hpt hpt2 o5 b5 hP4 hB4 hS4 hgA
        generalize W5.alloc (.cells #[.slice p5 16 c5, .slice p r.data.length c] 28) = W6 at *
        generalize W5.heap.size = g6 at *
        rw [HPL.out] at hP6
        refine held_one 18 rfl (by kernel_rfl) (by rfl) ?_
        refine wp_append_prts (.tmp 22) (.tmp 39) rfl W0.heap.size g6 (.slice av (1 + 2 * k) cv) PL [NB, r.data] rfl rfl hP6 hnew hB6.size (by rw [HPL.out]; simp; omega) ?_
        intro v7 W7 p7 g7 blk7
        have b7 : Below W0.heap.size W0 W7 := Below.grown hB6 g7 hB6.size blk7
        have hT7 := block_next T0.out b7
        have hS7 := And.intro hT7 (prts_kept hP6 g7 hS6.2)
        refine ⟨hS7, ?_⟩
        simp only [Act.put, List.setIfInBounds_toArray, List.set_cons_zero, List.set_cons_succ]
        refine held_take 19 (v := ?_) rfl (by kernel_rfl) (by kernel_rfl) (by kernel_rfl) (fun _ _ _ h => h) (by assumption) (by rfl) ?_ ?_
        rotate_left
        · (intro W hW; go_simp; try with_reducible rfl)
        simp only [Act.put, List.setIfInBounds_toArray, List.set_cons_zero, List.set_cons_succ]
        refine held_done (by kernel_rfl) ?_
        have HP7 := Lib.hid p7
        have HB7 := Lib.hid b7
        clear p7 b7 hT7 hS7 hS6 hP6 hB6 hnew g7 blk7
        go_wp2
        go_roundw
        case rel => exact ⟨k + 1, by simp, by omega, HST.out (by omega), by rw [HPS.out]; exact HP7.out, HB7.out⟩
        case measure => simp [intOf]; omega
    · have hkn : k = n := by omega
      subst hkn
      rw [List.take_of_length_le (by rw [Hn.out]; exact Nat.le_refl _)] at hp hpl hsm ⊢
      obtain ⟨a1, d1, e1, hpa⟩ := hp.parts hbw
      simp only [Value.slice.injEq, true_and] at e1
      obtain ⟨rfl, rfl⟩ := e1
      have c22 := join_at av _ cv _ F wr rfl HF.out (by rw [hpl]; omega) hFl hpa
      rw [hpl] at c22 ⊢
      have C := Lib.hid c22
      have HB := Lib.hid hbw
      have hws := hbw.size
      have HSM := Lib.hid hsm
      clear c22 hpa hp hbw hpl hsm
      go_wp2_with fail
      refine C.out.mono ?_
      rintro e w2 ⟨v2, rfl, o2, b2⟩
      have O2 := Lib.hid (ownsRow_lower (base' := w.heap.size) o2 (by omega))
      have B3 := Lib.hid (Below.trans B0.out ((Below.chain HB.out b2).mono (by omega)))
      clear o2 b2
      go_wp2
      go_ret2
      exact P1.out _ _ B3.out HSM.out O2.out
end Go.Proofs.Ytfkjjolohphaoaa
