/- Contract of Bad. -/
import Derived.Test.YtacnlancncmpmaaTk
import Derived.Test.YtacnlancncmpmaaOl
namespace Go.Proofs.Ytacnlancncmpmaa
open Go.RowKit Go.Maps S2 S12

/-- What Bad tells: two lists that are new, and so are their Data. -/
def BadRes (w w' : World) (e : Ending) (A C : List Ot.O) : Prop :=
  ∃ u v, e = .returned (.tuple #[u, v]) ∧ Opts w' w.heap.size u A ∧ Opts w' w.heap.size v C ∧ Below w.heap.size w w'
theorem before_not {L : List Ot.O} {k : Nat} {t : Int} (h : ∀ x ∈ L.take k, x.ty ≠ t) : t ∉ (L.take k).map Ot.O.ty := fun e => by
  obtain ⟨x, hx, he⟩ := List.mem_map.1 e
  exact h x hx he
theorem before_in {L : List Ot.O} {k : Nat} {t : Int} (h : ∃ x ∈ L.take k, x.ty = t) : t ∈ (L.take k).map Ot.O.ty := by
  obtain ⟨x, hx, he⟩ := h
  exact List.mem_map.2 ⟨x, hx, he⟩
theorem first_in {L : List Ot.O} {k : Nat} (h : k < L.length) : (Ad.first L k = true → L[k].ty ∉ (L.take k).map Ot.O.ty) ∧ (Ad.first L k = false → L[k].ty ∈ (L.take k).map Ot.O.ty) := by
  refine ⟨fun e => before_not ((Ad.first_iff h).1 e), fun e => ?_⟩
  by_cases hx : ∃ x ∈ L.take k, x.ty = L[k].ty
  · exact before_in hx
  · rw [(Ad.first_iff h).2 (fun x hm e' => hx ⟨x, hm, e'⟩)] at e; cases e
/-- The map of the Types that were seen. -/
def MapAt (w : World) (g k : Nat) (D : DataW Unit) : Prop := w.ownsMap Try.prog 3 (plainElem Try.prog 4) g k D
theorem MapAt.beside {w w' W0 : World} {g B k : Nat} {D : DataW Unit} {v : Value} {L : List Ot.O} (h : MapAt w g k D) (hl : Lopts False w W0 B v L) (hg : w.grownBy w' v.ownBlock) (hB : g < B) : MapAt w' g k D :=
  World.ownsMap.kept h hg (fun e => by have := hl.lt g e.symm; omega)
theorem MapAt.next {w w' : World} {g k : Nat} {D : DataW Unit} (h : MapAt w g k D) (hb : Below w.heap.size w w') : MapAt w' g k D :=
  World.ownsMap.kept (row := none) h (grown_below hb none) (by simp)
theorem Asunder.turn {old : Prop} {u v v' : Value} {W : World} {B s : Nat} {L : List Ot.O} {W0 : World} (h : Asunder u v) (hu : Lopts old W W0 B u L) (hs : W.heap.size ≤ s) (hv : v'.ownBlock = v.ownBlock ∨ ∀ k, v'.ownBlock = some k → s ≤ k) : Asunder u v' :=
  h.grow (fun k e => Nat.lt_of_lt_of_le (hu.lt k e).2 hs) hv

set_option maxRecDepth 100000 in
set_option maxHeartbeats 2000000 in
theorem bad_any (P : Int) (a : Option Addr) (n cap : Nat) (L : List Ot.O) (w : World) (hL : L.length = n) (hn : n ≤ 1000) (hd : ∀ x ∈ L, x.data.length ≤ 300000) (hw : ∀ x ∈ L, (Lit.int .i64 x.ty).wf = true) (h : OptsAt w a L) :
    Calls Try.prog 21 #[.int .i64 P, .slice a n cap] w fun e w' => BadRes w w' e (Ad.away P L) (Ad.changed P L) := by
  have H := Lib.hid h
  have HL := Lib.hid hL
  have HD := Lib.hid hd
  have HW := Lib.hid hw
  have hmm := @run_makeMap Try.prog
  have HO : Hid (MapAt (w.alloc (.map #[] 0)) w.heap.size 0 (.map [])) := World.ownsMap_made w Try.prog 3 (plainElem (H := Unit) Try.prog 4)
  have HB := Lib.hid (below_one w (.map #[] 0))
  clear h hL hd hw
  go_enter Try.func21, Try.ntmps21
  go_wp2
  generalize w.alloc (.map #[] 0) = W0 at *
  go_loopw [6, 7, 14] (fun u v i wr => ∃ (k : Nat) (D : DataW Unit), i = .int .i64 (k : Int) ∧ k ≤ n ∧ Hid (Seen D ((L.take k).map Ot.O.ty)) ∧ Hid (MapAt wr w.heap.size k D) ∧ Hid (Lopts False wr w (w.heap.size + 1) u (Ad.awayTo P L k)) ∧ Hid (Lopts False wr w (w.heap.size + 1) v (Ad.changedTo P L k)) ∧ Hid (Asunder u v) ∧ Below w.heap.size w wr) (fun _ _ i _ => n - (intOf i).toNat)
  case atStart => exact ⟨0, _, rfl, Nat.zero_le _, by rw [List.take_zero]; exact (seen_none : Seen (.map []) []), HO, by rw [Ad.away_nil]; exact lopts_none _ _ _ _, by rw [Ad.changed_nil]; exact lopts_none _ _ _ _, asunder_none _ _ _, HB.out⟩
  case round =>
    obtain ⟨k, D, rfl, hk, HS, HM, HA, HC, HX, hbw⟩ := hrel
    by_cases hlt : (k : Int) < (n : Int)
    · have hkn : k < n := by omega
      have hkL : k < L.length := by rw [HL.out]; omega
      obtain ⟨b, off, q, d, rfl, r1, hb1⟩ := (H.out.next hbw).at k hkL
      have HST0 := Lib.hid (Ot.seen_step (L := L) hkL)
      have HFI := Lib.hid (first_in hkL)
      have HAW := Lib.hid (Ad.arm_away P hkL)
      have HST := Lib.hid (Ad.arm_stay P hkL)
      have HCH := Lib.hid (Ad.arm_change P hkL)
      have hwx := HW.out L[k] (List.getElem_mem hkL)
      have hdx := HD.out L[k] (List.getElem_mem hkL)
      have hAl := Ad.away_le P L k
      have hCl := Ad.changed_le P L k
      generalize L[k] = r at *
      generalize Ad.first L k = fi at *
      generalize Ad.awayTo P L k = AL at *
      generalize Ad.changedTo P L k = CL at *
      obtain ⟨m, hm⟩ : ∃ m, r.data.length = m := ⟨_, rfl⟩
      have RG := Lib.hid r1.range
      rw [hm] at RG hdx
      have bA := below_one wr (.cells #[.int .i64 r.ty, .slice q m d] 24)
      have hg3 := heap_alloc_new wr (.cells #[.int .i64 r.ty, .slice q m d] 24)
      have k0 : (wr.alloc (.cells #[.int .i64 r.ty, .slice q m d] 24)).cell? ⟨wr.heap.size, 0, none⟩ = some (.int .i64 r.ty) := cell_of_row _ _ _ _ _ _ hg3
      have k1 : (wr.alloc (.cells #[.int .i64 r.ty, .slice q m d] 24)).cell? ⟨wr.heap.size, 1, none⟩ = some (.slice q m d) := cell_of_row _ _ _ _ _ _ hg3
      have hs3 : (wr.alloc (.cells #[.int .i64 r.ty, .slice q m d] 24)).heap.size = wr.heap.size + 1 := by simp
      have M2 := Lib.hid (MapAt.next HM.out bA)
      have A2 := Lib.hid (HA.out.next bA)
      have C2 := Lib.hid (HC.out.next bA)
      have R2 := Lib.hid (r1.row.next bA)
      have B2 := Lib.hid (Below.chain hbw bA)
      have G2 := Lib.hid hg3
      have hlook := seen_look M2.out HS.out r.ty hwx
      have HAL := Lib.hid HA.out.lt
      have HCL := Lib.hid HC.out.lt
      have HWX := Lib.hid hwx
      have HGM := Lib.hid (World.ownsMap.lt HM.out)
      have HMM := Lib.hid hm
      have HS2 : Hid (Seen (D.put (.int .i64 r.ty) (.lit (.bool true))) ((L.take (k + 1)).map Ot.O.ty)) := by
        show Seen _ _
        rw [HST0.out]
        exact Seen.step (World.ownsMap.isMap M2.out) HS.out r.ty
      clear bA hg3 r1 hm hwx HM HA HC hbw HS HST0
      cases hfv : fi with
      | false =>
        rw [decide_eq_true (HFI.out.2 hfv)] at hlook
        have HE := Lib.hid (HAW.out (.inr hfv))
        clear HAW HST HCH HFI hfv
        go_wp2_with (refine wpList_load_mid rfl 24 (.tmp 16) rfl b (off + k * 2) rfl (ocells r (.slice q m d)) _ RG.out Try.underlying24 rfl (infoOptN _ _) ?_; simp only [ocells])
        have hS : (wr.alloc (.cells #[.int .i64 r.ty, .slice q m d] 24)).drew.cell? ⟨wr.heap.size, 0, none⟩ = some (.int .i64 r.ty) ∧ (wr.alloc (.cells #[.int .i64 r.ty, .slice q m d] 24)).drew.cell? ⟨wr.heap.size, 1, none⟩ = some (.slice q m d) := ⟨k0, k1⟩
        have bd := (Below.refl (wr.alloc (.cells #[.int .i64 r.ty, .slice q m d] 24)).heap.size (wr.alloc (.cells #[.int .i64 r.ty, .slice q m d] 24))).drew
        have MD := Lib.hid (MapAt.next M2.out bd)
        have AD := Lib.hid (A2.out.next bd)
        have CD := Lib.hid (C2.out.next bd)
        have RD := Lib.hid (R2.out.next bd)
        have GD : Hid ((wr.alloc (.cells #[.int .i64 r.ty, .slice q m d] 24)).drew.heap[wr.heap.size]? = some (.cells #[.int .i64 r.ty, .slice q m d] 24 (0, 0))) := G2.out
        have BD := Lib.hid B2.out.drew
        have sD : (wr.alloc (.cells #[.int .i64 r.ty, .slice q m d] 24)).drew.heap.size = wr.heap.size + 1 := hs3
        refine held_start (S := fun W => W.cell? ⟨wr.heap.size, 0, none⟩ = some (.int .i64 r.ty) ∧ W.cell? ⟨wr.heap.size, 1, none⟩ = some (.slice q m d)) 11 (by kernel_rfl) rfl ?_
        generalize (wr.alloc (.cells #[.int .i64 r.ty, .slice q m d] 24)).drew = WD at *
        clear k0 k1 M2 A2 C2 G2 B2 R2 hs3 hlook RG bd
        refine held_take 0 (v := ?_) rfl (by kernel_rfl) (by kernel_rfl) (by kernel_rfl) (fun _ _ _ h => h) (by assumption) (by rfl) ?_ ?_
        rotate_left
        · (intro W hW; go_simp; try with_reducible rfl)
        simp only [Act.put, List.setIfInBounds_toArray, List.set_cons_zero, List.set_cons_succ]
        refine held_take 1 (v := ?_) rfl (by kernel_rfl) (by kernel_rfl) (by kernel_rfl) (fun _ _ _ h => h) (by assumption) (by rfl) ?_ ?_
        rotate_left
        · (intro W hW; go_simp; try with_reducible rfl)
        simp only [Act.put, List.setIfInBounds_toArray, List.set_cons_zero, List.set_cons_succ]
        refine held_take 2 (v := ?_) rfl (by kernel_rfl) (by kernel_rfl) (by kernel_rfl) (fun _ _ _ h => h) (by assumption) (by rfl) ?_ ?_
        rotate_left
        · (intro W hW; have e0 := hW.1; go_simp; try with_reducible rfl)
        simp only [Act.put, List.setIfInBounds_toArray, List.set_cons_zero, List.set_cons_succ]
        refine held_take 3 (v := ?_) rfl (by kernel_rfl) (by kernel_rfl) (by kernel_rfl) (fun _ _ _ h => h) (by assumption) (by rfl) ?_ ?_
        rotate_left
        · (intro W hW; go_simp; try with_reducible rfl)
        simp only [Act.put, List.setIfInBounds_toArray, List.set_cons_zero, List.set_cons_succ]
        refine held_take 4 (v := ?_) rfl (by kernel_rfl) (by kernel_rfl) (by kernel_rfl) (fun _ _ _ h => h) (by assumption) (by rfl) ?_ ?_
        rotate_left
        · (intro W hW; have e0 := hW.2; go_simp; try with_reducible rfl)
        simp only [Act.put, List.setIfInBounds_toArray, List.set_cons_zero, List.set_cons_succ]
        have b3 := below_one WD (.cells #[.slice q m d] 22)
        have P3 := Lib.hid (one_part HMM.out RD.out)
        have G3 := Lib.hid (block_next GD.out b3)
        have M3 := Lib.hid (MapAt.next MD.out b3)
        have A3 := Lib.hid (AD.out.next b3)
        have C3 := Lib.hid (CD.out.next b3)
        have B3 := Lib.hid (Below.chain BD.out b3)
        have s3 : wr.heap.size + 1 ≤ (WD.alloc (.cells #[.slice q m d] 22)).heap.size := by have := b3.size; omega
        have hS3 : (WD.alloc (.cells #[.slice q m d] 22)).cell? ⟨wr.heap.size, 0, none⟩ = some (.int .i64 r.ty) ∧ (WD.alloc (.cells #[.slice q m d] 22)).cell? ⟨wr.heap.size, 1, none⟩ = some (.slice q m d) := ⟨cell_of_row _ _ _ _ _ _ G3.out, cell_of_row _ _ _ _ _ _ G3.out⟩
        refine held_makes 5 (v := .slice (some ⟨WD.heap.size, 0, none⟩) 1 1) (w' := WD.alloc (.cells #[.slice q m d] 22)) rfl (by kernel_rfl) (by rfl) (by go_simp) hS3 ?_
        simp only [Act.put, List.setIfInBounds_toArray, List.set_cons_zero, List.set_cons_succ]
        clear b3 MD AD CD RD GD BD hS sD
        generalize WD.heap.size = g3 at *
        generalize WD.alloc (.cells #[.slice q m d] 22) = W3 at *
        clear WD
        refine held_call 6 (f := 30) (args := #[.slice (some ⟨g3, 0, none⟩) 1 1]) rfl (by kernel_rfl) (by rfl) (by go_simp) ?_
        refine (join_at (some ⟨g3, 0, none⟩) 1 1 [r.data] r.data W3 rfl (by simp) (by simp) (by rw [HMM.out]; omega) P3.out).mono ?_
        rintro e w5 ⟨v5, rfl, o5, b5⟩
        rw [HMM.out] at o5
        obtain ⟨p5, c5, rfl⟩ := own_slice o5
        have G5 := Lib.hid (block_next G3.out b5)
        have hS5 : w5.cell? ⟨wr.heap.size, 0, none⟩ = some (.int .i64 r.ty) ∧ w5.cell? ⟨wr.heap.size, 1, none⟩ = some (.slice q m d) := ⟨cell_of_row _ _ _ _ _ _ G5.out, cell_of_row _ _ _ _ _ _ G5.out⟩
        refine ⟨_, rfl, hS5, ?_⟩
        simp only [Act.put, List.setIfInBounds_toArray, List.set_cons_zero, List.set_cons_succ]
        have s5 := b5.size
        have b7 := below_one w5 (.cells #[.int .i64 r.ty, .slice p5 m c5] 24)
        have M7 := Lib.hid (MapAt.next (MapAt.next M3.out b5) b7)
        have A7 := Lib.hid ((A3.out.next b5).next b7)
        have C7 := Lib.hid ((C3.out.next b5).next b7)
        have D7 : Hid (DataIs False (w5.alloc (.cells #[.int .i64 r.ty, .slice p5 m c5] 24)) w (w.heap.size + 1) (.slice p5 m c5) r.data) := by
          refine .inl ?_
          rw [HMM.out]
          have hgm := HGM.out
          exact ownsRow_next (ownsRow_lower o5 (by omega)) b7
        have G7 := Lib.hid (heap_alloc_new w5 (.cells #[.int .i64 r.ty, .slice p5 m c5] 24))
        have K7 := Lib.hid (block_next G5.out b7)
        have Q7 := Lib.hid (Below.chain (Below.chain B3.out b5) b7)
        have s7 : (w5.alloc (.cells #[.int .i64 r.ty, .slice p5 m c5] 24)).heap.size = w5.heap.size + 1 := by simp
        have hS7 : (w5.alloc (.cells #[.int .i64 r.ty, .slice p5 m c5] 24)).cell? ⟨wr.heap.size, 0, none⟩ = some (.int .i64 r.ty) ∧ (w5.alloc (.cells #[.int .i64 r.ty, .slice p5 m c5] 24)).cell? ⟨wr.heap.size, 1, none⟩ = some (.slice q m d) := ⟨cell_of_row _ _ _ _ _ _ K7.out, cell_of_row _ _ _ _ _ _ K7.out⟩
        clear o5 b5 b7 M3 A3 C3 B3 P3 G3 G5 hS3
        refine held_take 7 (v := ?_) rfl (by kernel_rfl) (by kernel_rfl) (by kernel_rfl) (fun _ _ _ h => h) (by assumption) (by rfl) ?_ ?_
        rotate_left
        · (intro W hW; go_simp; try with_reducible rfl)
        simp only [Act.put, List.setIfInBounds_toArray, List.set_cons_zero, List.set_cons_succ]
        refine held_makes 8 (v := .slice (some ⟨w5.heap.size, 0, none⟩) 1 1) (w' := w5.alloc (.cells #[.int .i64 r.ty, .slice p5 m c5] 24)) rfl (by kernel_rfl) (by rfl) (by go_simp) hS7 ?_
        simp only [Act.put, List.setIfInBounds_toArray, List.set_cons_zero, List.set_cons_succ]
        clear hS5
        generalize w5.alloc (.cells #[.int .i64 r.ty, .slice p5 m c5] 24) = W7 at *
        refine held_one 9 rfl (by kernel_rfl) (by rfl) ?_
        refine wp_append_lopts (.tmp 30) (.tmp 38) rfl (w.heap.size + 1) u6 AL r (.slice p5 m c5) w5.heap.size rfl rfl A7.out D7.out G7.out (by have := HGM.out; omega) (by omega) ?_
        intro v8 w8 L8 g8 x8
        have K8 := Lib.hid ((g8.block wr.heap.size (by omega) (fun e => by have := HAL.out _ e.symm; omega)).trans K7.out)
        have k8 : w8.cell? ⟨wr.heap.size, 0, none⟩ = some (.int .i64 r.ty) := cell_of_row _ _ _ _ _ _ K8.out
        have k9 : w8.cell? ⟨wr.heap.size, 1, none⟩ = some (.slice q m d) := cell_of_row _ _ _ _ _ _ K8.out
        have hS8 : w8.cell? ⟨wr.heap.size, 0, none⟩ = some (.int .i64 r.ty) ∧ w8.cell? ⟨wr.heap.size, 1, none⟩ = some (.slice q m d) := ⟨k8, k9⟩
        refine ⟨hS8, ?_⟩
        simp only [Act.put, List.setIfInBounds_toArray, List.set_cons_zero, List.set_cons_succ]
        clear hS7
        refine held_take 10 (v := ?_) rfl (by kernel_rfl) (by kernel_rfl) (by kernel_rfl) (fun _ _ _ h => h) (by assumption) (by rfl) ?_ ?_
        rotate_left
        · (intro W hW; go_simp; try with_reducible rfl)
        simp only [Act.put, List.setIfInBounds_toArray, List.set_cons_zero, List.set_cons_succ]
        refine held_done (by kernel_rfl) ?_
        clear hS8 k9
        go_wp2_with (at_mapUpdate; refine wpList_mapUpdate_own _ rfl _ _ _ 53 rfl 3 4 lawInt Try.underlying53 _ w.heap.size k D rfl (MapAt.beside M7.out A7.out g8 (Nat.lt_succ_self _)) (by unfold maxLen; omega) _ _ _ rfl rfl (keyOf_int_mk Try.underlying3 HWX.out) _ [] (plainElem_bool Try.underlying4 true) ?_; intro w9 own9 gr9)
        go_roundw
        case rel =>
          have s8 := g8.size
          have hgm := HGM.out
          refine ⟨k + 1, _, by simp, by omega, HS2.out, own9, ?_, ?_, ?_, Below.grown (Below.grown Q7.out g8 (by omega) (fun j hj => by have := HAL.out j hj; omega)) gr9 (by omega) (fun j hj => by cases hj; exact Nat.le_refl _)⟩
          · show Lopts _ _ _ _ _ _
            rw [HE.out.1]; exact L8.kept gr9 (Nat.lt_succ_self _)
          · show Lopts _ _ _ _ _ _
            rw [HE.out.2]; exact (C7.out.beside A7.out g8 HX.out.symm.ne).kept gr9 (Nat.lt_succ_self _)
          · exact (HX.out.symm.turn C7.out (Nat.le_refl _) x8).symm
        case measure => simp [intOf]; omega
      | true =>
        rw [decide_eq_false (HFI.out.1 hfv)] at hlook
        have C0 := Lib.hid (known_any P r.ty (wr.alloc (.cells #[.int .i64 r.ty, .slice q m d] 24)))
        by_cases hkn2 : Ad.known P r.ty = true
        · rw [hkn2] at C0
          have C1 := Lib.hid (right_any P r q m d (wr.alloc (.cells #[.int .i64 r.ty, .slice q m d] 24)) HMM.out R2.out)
          simp only [ocells] at C1
          by_cases hr : Ad.right P r = true
          · have HE := Lib.hid (HST.out hkn2 hfv hr)
            rw [hr] at C1
            clear hr hkn2 HAW HST HCH HFI hfv R2
            go_wp2_with (first
              | (refine wpList_load_mid rfl 24 (.tmp 16) rfl b (off + k * 2) rfl (ocells r (.slice q m d)) _ RG.out Try.underlying24 rfl (infoOptN _ _) ?_; simp only [ocells])
              | (refine C0.out.mono ?_; rintro e w4 ⟨rfl, h4⟩; rw [h4]; clear h4 C0)
              | (refine wpList_load_row rfl 24 (.tmp 10) rfl wr.heap.size rfl 24 #[.int .i64 r.ty, .slice q m d] (0, 0) _ G2.out Try.underlying24 rfl infoOpt ?_)
              | (refine C1.out.mono ?_; rintro e w5 ⟨rfl, b5⟩; have k5 : w5.cell? ⟨wr.heap.size, 0, none⟩ = some (.int .i64 r.ty) := cell_of_row _ _ _ _ _ _ (block_next G2.out b5))
              | (at_mapUpdate; refine wpList_mapUpdate_own _ rfl _ _ _ 53 rfl 3 4 lawInt Try.underlying53 _ w.heap.size k D rfl (MapAt.next M2.out b5) (by unfold maxLen; omega) _ _ _ rfl rfl (keyOf_int_mk Try.underlying3 HWX.out) _ [] (plainElem_bool Try.underlying4 true) ?_; intro w9 own9 gr9))
            go_roundw
            case rel =>
              have s5 := b5.size
              have hgm := HGM.out
              refine ⟨k + 1, _, by simp, by omega, HS2.out, own9, ?_, ?_, HX, Below.grown (Below.chain B2.out b5) gr9 (by omega) (fun j hj => by cases hj; exact Nat.le_refl _)⟩
              · show Lopts _ _ _ _ _ _
                rw [HE.out.1]; exact (A2.out.next b5).kept gr9 (Nat.lt_succ_self _)
              · show Lopts _ _ _ _ _ _
                rw [HE.out.2]; exact (C2.out.next b5).kept gr9 (Nat.lt_succ_self _)
            case measure => simp [intOf]; omega
          · rw [Bool.not_eq_true] at hr
            have HE := Lib.hid (HCH.out hkn2 hfv hr)
            have HKN := Lib.hid hkn2
            rw [hr] at C1
            clear hr hkn2 HAW HST HCH HFI hfv R2
            go_wp2_with (first
              | (refine wpList_load_mid rfl 24 (.tmp 16) rfl b (off + k * 2) rfl (ocells r (.slice q m d)) _ RG.out Try.underlying24 rfl (infoOptN _ _) ?_; simp only [ocells])
              | (refine C0.out.mono ?_; rintro e w4 ⟨rfl, h4⟩; rw [h4]; clear h4 C0)
              | (refine wpList_load_row rfl 24 (.tmp 10) rfl wr.heap.size rfl 24 #[.int .i64 r.ty, .slice q m d] (0, 0) _ G2.out Try.underlying24 rfl infoOpt ?_)
              | (refine C1.out.mono ?_; rintro e w5 ⟨rfl, b5⟩; have k5 : w5.cell? ⟨wr.heap.size, 0, none⟩ = some (.int .i64 r.ty) := cell_of_row _ _ _ _ _ _ (block_next G2.out b5)))
            refine (usual_any P r.ty w5 HKN.out).mono ?_
            rintro e w6 ⟨vu, rfl, o6, b6⟩
            obtain ⟨pu, cu, rfl⟩ := own_slice o6
            obtain ⟨mu, hmu⟩ : ∃ mu, (Ad.usualD r.ty).length = mu := ⟨_, rfl⟩
            rw [hmu] at o6 ⊢
            have HMU := Lib.hid hmu
            have s5 := b5.size
            rw [hs3] at s5
            have s6 := b6.size
            have hgm := HGM.out
            have b7 := below_one w6 (.cells #[.int .i64 r.ty, .slice pu mu cu] 24)
            have M7 := Lib.hid (MapAt.next (MapAt.next (MapAt.next M2.out b5) b6) b7)
            have A7 := Lib.hid (((A2.out.next b5).next b6).next b7)
            have C7 := Lib.hid (((C2.out.next b5).next b6).next b7)
            have D7 : Hid (DataIs False (w6.alloc (.cells #[.int .i64 r.ty, .slice pu mu cu] 24)) w (w.heap.size + 1) (.slice pu mu cu) (Ad.usual r).data) := by
              refine .inl ?_
              show World.ownsRow _ _ _ _ _ (Ad.usualD r.ty).length _
              rw [HMU.out]
              exact ownsRow_next (ownsRow_lower o6 (by omega)) b7
            have G7 := Lib.hid (heap_alloc_new w6 (.cells #[.int .i64 r.ty, .slice pu mu cu] 24))
            have K7 := Lib.hid (block_next (block_next (block_next G2.out b5) b6) b7)
            have Q7 := Lib.hid (Below.chain (Below.chain (Below.chain B2.out b5) b6) b7)
            have s7 : w6.heap.size < (w6.alloc (.cells #[.int .i64 r.ty, .slice pu mu cu] 24)).heap.size := by simp
            clear o6 b5 b6 b7 hmu M2 A2 C2 G2 B2 k5 k0 k1 hs3 hlook C1
            simp only [ocells]
            go_wp2_with (first
              | (at_builtin; refine wpList_append_lopts rfl (.tmp 45) (.tmp 49) rfl (w.heap.size + 1) u7 CL (Ad.usual r) (.slice pu mu cu) w6.heap.size rfl rfl C7.out D7.out G7.out (by omega) (by omega) ?_; intro v8 w8 L8 g8 x8; have k8 : w8.cell? ⟨wr.heap.size, 0, none⟩ = some (.int .i64 r.ty) := cell_of_row _ _ _ _ _ _ ((g8.block wr.heap.size (by omega) (fun e => by have := HCL.out _ e.symm; omega)).trans K7.out))
              | (at_mapUpdate; refine wpList_mapUpdate_own _ rfl _ _ _ 53 rfl 3 4 lawInt Try.underlying53 _ w.heap.size k D rfl (MapAt.beside M7.out C7.out g8 (Nat.lt_succ_self _)) (by unfold maxLen; omega) _ _ _ rfl rfl (keyOf_int_mk Try.underlying3 HWX.out) _ [] (plainElem_bool Try.underlying4 true) ?_; intro w9 own9 gr9))
            go_roundw
            case rel =>
              have s8 := g8.size
              refine ⟨k + 1, _, by simp, by omega, HS2.out, own9, ?_, ?_, ?_, Below.grown (Below.grown Q7.out g8 (by omega) (fun j hj => by have := HCL.out j hj; omega)) gr9 (by omega) (fun j hj => by cases hj; exact Nat.le_refl _)⟩
              · show Lopts _ _ _ _ _ _
                rw [HE.out.1]; exact (A7.out.beside C7.out g8 HX.out.ne).kept gr9 (Nat.lt_succ_self _)
              · show Lopts _ _ _ _ _ _
                rw [HE.out.2]; exact L8.kept gr9 (Nat.lt_succ_self _)
              · exact HX.out.turn A7.out (Nat.le_refl _) x8
            case measure => simp [intOf]; omega
        · rw [Bool.not_eq_true] at hkn2
          rw [hkn2] at C0
          have HE := Lib.hid (HAW.out (.inl hkn2))
          clear hkn2 HAW HST HCH HFI hfv
          go_wp2_with (first
            | (refine wpList_load_mid rfl 24 (.tmp 16) rfl b (off + k * 2) rfl (ocells r (.slice q m d)) _ RG.out Try.underlying24 rfl (infoOptN _ _) ?_; simp only [ocells])
            | (refine C0.out.mono ?_; rintro e w4 ⟨rfl, h4⟩; rw [h4]; clear h4 C0))
          have hS : (wr.alloc (.cells #[.int .i64 r.ty, .slice q m d] 24)).drew.cell? ⟨wr.heap.size, 0, none⟩ = some (.int .i64 r.ty) ∧ (wr.alloc (.cells #[.int .i64 r.ty, .slice q m d] 24)).drew.cell? ⟨wr.heap.size, 1, none⟩ = some (.slice q m d) := ⟨k0, k1⟩
          have bd := (Below.refl (wr.alloc (.cells #[.int .i64 r.ty, .slice q m d] 24)).heap.size (wr.alloc (.cells #[.int .i64 r.ty, .slice q m d] 24))).drew
          have MD := Lib.hid (MapAt.next M2.out bd)
          have AD := Lib.hid (A2.out.next bd)
          have CD := Lib.hid (C2.out.next bd)
          have RD := Lib.hid (R2.out.next bd)
          have GD : Hid ((wr.alloc (.cells #[.int .i64 r.ty, .slice q m d] 24)).drew.heap[wr.heap.size]? = some (.cells #[.int .i64 r.ty, .slice q m d] 24 (0, 0))) := G2.out
          have BD := Lib.hid B2.out.drew
          have sD : (wr.alloc (.cells #[.int .i64 r.ty, .slice q m d] 24)).drew.heap.size = wr.heap.size + 1 := hs3
          refine held_start (S := fun W => W.cell? ⟨wr.heap.size, 0, none⟩ = some (.int .i64 r.ty) ∧ W.cell? ⟨wr.heap.size, 1, none⟩ = some (.slice q m d)) 11 (by kernel_rfl) rfl ?_
          generalize (wr.alloc (.cells #[.int .i64 r.ty, .slice q m d] 24)).drew = WD at *
          clear k0 k1 M2 A2 C2 G2 B2 R2 hs3 hlook RG bd
          refine held_take 0 (v := ?_) rfl (by kernel_rfl) (by kernel_rfl) (by kernel_rfl) (fun _ _ _ h => h) (by assumption) (by rfl) ?_ ?_
          rotate_left
          · (intro W hW; go_simp; try with_reducible rfl)
          simp only [Act.put, List.setIfInBounds_toArray, List.set_cons_zero, List.set_cons_succ]
          refine held_take 1 (v := ?_) rfl (by kernel_rfl) (by kernel_rfl) (by kernel_rfl) (fun _ _ _ h => h) (by assumption) (by rfl) ?_ ?_
          rotate_left
          · (intro W hW; go_simp; try with_reducible rfl)
          simp only [Act.put, List.setIfInBounds_toArray, List.set_cons_zero, List.set_cons_succ]
          refine held_take 2 (v := ?_) rfl (by kernel_rfl) (by kernel_rfl) (by kernel_rfl) (fun _ _ _ h => h) (by assumption) (by rfl) ?_ ?_
          rotate_left
          · (intro W hW; have e0 := hW.1; go_simp; try with_reducible rfl)
          simp only [Act.put, List.setIfInBounds_toArray, List.set_cons_zero, List.set_cons_succ]
          refine held_take 3 (v := ?_) rfl (by kernel_rfl) (by kernel_rfl) (by kernel_rfl) (fun _ _ _ h => h) (by assumption) (by rfl) ?_ ?_
          rotate_left
          · (intro W hW; go_simp; try with_reducible rfl)
          simp only [Act.put, List.setIfInBounds_toArray, List.set_cons_zero, List.set_cons_succ]
          refine held_take 4 (v := ?_) rfl (by kernel_rfl) (by kernel_rfl) (by kernel_rfl) (fun _ _ _ h => h) (by assumption) (by rfl) ?_ ?_
          rotate_left
          · (intro W hW; have e0 := hW.2; go_simp; try with_reducible rfl)
          simp only [Act.put, List.setIfInBounds_toArray, List.set_cons_zero, List.set_cons_succ]
          have b3 := below_one WD (.cells #[.slice q m d] 22)
          have P3 := Lib.hid (one_part HMM.out RD.out)
          have G3 := Lib.hid (block_next GD.out b3)
          have M3 := Lib.hid (MapAt.next MD.out b3)
          have A3 := Lib.hid (AD.out.next b3)
          have C3 := Lib.hid (CD.out.next b3)
          have B3 := Lib.hid (Below.chain BD.out b3)
          have s3 : wr.heap.size + 1 ≤ (WD.alloc (.cells #[.slice q m d] 22)).heap.size := by have := b3.size; omega
          have hS3 : (WD.alloc (.cells #[.slice q m d] 22)).cell? ⟨wr.heap.size, 0, none⟩ = some (.int .i64 r.ty) ∧ (WD.alloc (.cells #[.slice q m d] 22)).cell? ⟨wr.heap.size, 1, none⟩ = some (.slice q m d) := ⟨cell_of_row _ _ _ _ _ _ G3.out, cell_of_row _ _ _ _ _ _ G3.out⟩
          refine held_makes 5 (v := .slice (some ⟨WD.heap.size, 0, none⟩) 1 1) (w' := WD.alloc (.cells #[.slice q m d] 22)) rfl (by kernel_rfl) (by rfl) (by go_simp) hS3 ?_
          simp only [Act.put, List.setIfInBounds_toArray, List.set_cons_zero, List.set_cons_succ]
          clear b3 MD AD CD RD GD BD hS sD
          generalize WD.heap.size = g3 at *
          generalize WD.alloc (.cells #[.slice q m d] 22) = W3 at *
          clear WD
          refine held_call 6 (f := 30) (args := #[.slice (some ⟨g3, 0, none⟩) 1 1]) rfl (by kernel_rfl) (by rfl) (by go_simp) ?_
          refine (join_at (some ⟨g3, 0, none⟩) 1 1 [r.data] r.data W3 rfl (by simp) (by simp) (by rw [HMM.out]; omega) P3.out).mono ?_
          rintro e w5 ⟨v5, rfl, o5, b5⟩
          rw [HMM.out] at o5
          obtain ⟨p5, c5, rfl⟩ := own_slice o5
          have G5 := Lib.hid (block_next G3.out b5)
          have hS5 : w5.cell? ⟨wr.heap.size, 0, none⟩ = some (.int .i64 r.ty) ∧ w5.cell? ⟨wr.heap.size, 1, none⟩ = some (.slice q m d) := ⟨cell_of_row _ _ _ _ _ _ G5.out, cell_of_row _ _ _ _ _ _ G5.out⟩
          refine ⟨_, rfl, hS5, ?_⟩
          simp only [Act.put, List.setIfInBounds_toArray, List.set_cons_zero, List.set_cons_succ]
          have s5 := b5.size
          have b7 := below_one w5 (.cells #[.int .i64 r.ty, .slice p5 m c5] 24)
          have M7 := Lib.hid (MapAt.next (MapAt.next M3.out b5) b7)
          have A7 := Lib.hid ((A3.out.next b5).next b7)
          have C7 := Lib.hid ((C3.out.next b5).next b7)
          have D7 : Hid (DataIs False (w5.alloc (.cells #[.int .i64 r.ty, .slice p5 m c5] 24)) w (w.heap.size + 1) (.slice p5 m c5) r.data) := by
            refine .inl ?_
            rw [HMM.out]
            have hgm := HGM.out
            exact ownsRow_next (ownsRow_lower o5 (by omega)) b7
          have G7 := Lib.hid (heap_alloc_new w5 (.cells #[.int .i64 r.ty, .slice p5 m c5] 24))
          have K7 := Lib.hid (block_next G5.out b7)
          have Q7 := Lib.hid (Below.chain (Below.chain B3.out b5) b7)
          have s7 : (w5.alloc (.cells #[.int .i64 r.ty, .slice p5 m c5] 24)).heap.size = w5.heap.size + 1 := by simp
          have hS7 : (w5.alloc (.cells #[.int .i64 r.ty, .slice p5 m c5] 24)).cell? ⟨wr.heap.size, 0, none⟩ = some (.int .i64 r.ty) ∧ (w5.alloc (.cells #[.int .i64 r.ty, .slice p5 m c5] 24)).cell? ⟨wr.heap.size, 1, none⟩ = some (.slice q m d) := ⟨cell_of_row _ _ _ _ _ _ K7.out, cell_of_row _ _ _ _ _ _ K7.out⟩
          clear o5 b5 b7 M3 A3 C3 B3 P3 G3 G5 hS3
          refine held_take 7 (v := ?_) rfl (by kernel_rfl) (by kernel_rfl) (by kernel_rfl) (fun _ _ _ h => h) (by assumption) (by rfl) ?_ ?_
          rotate_left
          · (intro W hW; go_simp; try with_reducible rfl)
          simp only [Act.put, List.setIfInBounds_toArray, List.set_cons_zero, List.set_cons_succ]
          refine held_makes 8 (v := .slice (some ⟨w5.heap.size, 0, none⟩) 1 1) (w' := w5.alloc (.cells #[.int .i64 r.ty, .slice p5 m c5] 24)) rfl (by kernel_rfl) (by rfl) (by go_simp) hS7 ?_
          simp only [Act.put, List.setIfInBounds_toArray, List.set_cons_zero, List.set_cons_succ]
          clear hS5
          generalize w5.alloc (.cells #[.int .i64 r.ty, .slice p5 m c5] 24) = W7 at *
          refine held_one 9 rfl (by kernel_rfl) (by rfl) ?_
          refine wp_append_lopts (.tmp 30) (.tmp 38) rfl (w.heap.size + 1) u6 AL r (.slice p5 m c5) w5.heap.size rfl rfl A7.out D7.out G7.out (by have := HGM.out; omega) (by omega) ?_
          intro v8 w8 L8 g8 x8
          have K8 := Lib.hid ((g8.block wr.heap.size (by omega) (fun e => by have := HAL.out _ e.symm; omega)).trans K7.out)
          have k8 : w8.cell? ⟨wr.heap.size, 0, none⟩ = some (.int .i64 r.ty) := cell_of_row _ _ _ _ _ _ K8.out
          have k9 : w8.cell? ⟨wr.heap.size, 1, none⟩ = some (.slice q m d) := cell_of_row _ _ _ _ _ _ K8.out
          have hS8 : w8.cell? ⟨wr.heap.size, 0, none⟩ = some (.int .i64 r.ty) ∧ w8.cell? ⟨wr.heap.size, 1, none⟩ = some (.slice q m d) := ⟨k8, k9⟩
          refine ⟨hS8, ?_⟩
          simp only [Act.put, List.setIfInBounds_toArray, List.set_cons_zero, List.set_cons_succ]
          clear hS7
          refine held_take 10 (v := ?_) rfl (by kernel_rfl) (by kernel_rfl) (by kernel_rfl) (fun _ _ _ h => h) (by assumption) (by rfl) ?_ ?_
          rotate_left
          · (intro W hW; go_simp; try with_reducible rfl)
          simp only [Act.put, List.setIfInBounds_toArray, List.set_cons_zero, List.set_cons_succ]
          refine held_done (by kernel_rfl) ?_
          clear hS8 k9
          go_wp2_with (at_mapUpdate; refine wpList_mapUpdate_own _ rfl _ _ _ 53 rfl 3 4 lawInt Try.underlying53 _ w.heap.size k D rfl (MapAt.beside M7.out A7.out g8 (Nat.lt_succ_self _)) (by unfold maxLen; omega) _ _ _ rfl rfl (keyOf_int_mk Try.underlying3 HWX.out) _ [] (plainElem_bool Try.underlying4 true) ?_; intro w9 own9 gr9)
          go_roundw
          case rel =>
            have s8 := g8.size
            have hgm := HGM.out
            refine ⟨k + 1, _, by simp, by omega, HS2.out, own9, ?_, ?_, ?_, Below.grown (Below.grown Q7.out g8 (by omega) (fun j hj => by have := HAL.out j hj; omega)) gr9 (by omega) (fun j hj => by cases hj; exact Nat.le_refl _)⟩
            · show Lopts _ _ _ _ _ _
              rw [HE.out.1]; exact L8.kept gr9 (Nat.lt_succ_self _)
            · show Lopts _ _ _ _ _ _
              rw [HE.out.2]; exact (C7.out.beside A7.out g8 HX.out.symm.ne).kept gr9 (Nat.lt_succ_self _)
            · exact (HX.out.symm.turn C7.out (Nat.le_refl _) x8).symm
          case measure => simp [intOf]; omega
    · have hk2 : L.length ≤ k := by rw [HL.out]; omega
      rw [Ad.away_all P hk2] at HA
      rw [Ad.changed_all P hk2] at HC
      have AA := Lib.hid HA.out.opts
      have CC := Lib.hid HC.out.opts
      have B2 := Lib.hid hbw
      clear HS HM HA HC HX hbw
      go_wp2
      go_ret2
      exact ⟨_, _, rfl, AA.out.lower (Nat.le_succ _), CC.out.lower (Nat.le_succ _), B2.out⟩
end Go.Proofs.Ytacnlancncmpmaa
