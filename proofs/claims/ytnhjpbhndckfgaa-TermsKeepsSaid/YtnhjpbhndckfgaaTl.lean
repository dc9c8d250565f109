/- Contract of Bad. -/
import Derived.Test.YtnhjpbhndckfgaaTk
namespace Go.Proofs.Ytnhjpbhndckfgaa
open Go.RowKit Go.Maps S2 S12

/-- What Bad tells: two lists that are new, and so are their Data. -/
def BadRes (w w' : World) (e : Ending) (A C : List Ot.O) : Prop :=
  ∃ u v, e = .returned (.tuple #[u, v]) ∧ Opts w' w.heap.size u A ∧ Opts w' w.heap.size v C ∧ Below w.heap.size w w'
theorem first_in {L : List Ot.O} {k : Nat} (h : k < L.length) : (Tm.first L k = true → L[k].ty ∉ (L.take k).map Ot.O.ty) ∧ (Tm.first L k = false → L[k].ty ∈ (L.take k).map Ot.O.ty) := by
  refine ⟨fun e => before_not ((Tm.first_iff h).1 e), fun e => ?_⟩
  by_cases hx : ∃ x ∈ L.take k, x.ty = L[k].ty
  · exact before_in hx
  · rw [(Tm.first_iff h).2 (fun x hm e' => hx ⟨x, hm, e'⟩)] at e; cases e
theorem LeftAt.beside {w w' W0 : World} {g B : Nat} {D : DataW Unit} {v : Value} {L : List Ot.O} (h : LeftAt w g D) (hl : Lopts False w W0 B v L) (hg : w.grownBy w' v.ownBlock) (hB : g < B) : LeftAt w' g D :=
  World.ownsMap.kept h hg (fun e => by have := hl.lt g e.symm; omega)
theorem LeftAt.next {w w' : World} {g : Nat} {D : DataW Unit} (h : LeftAt w g D) (hb : Below w.heap.size w w') : LeftAt w' g D :=
  World.ownsMap.kept (row := none) h (grown_below hb none) (by simp)
theorem Lopts.next_map {w w' W0 : World} {g B : Nat} {v : Value} {L : List Ot.O} (h : Lopts False w W0 B v L) (hg : w.mapTurned w' g) (hB : g < B) : Lopts False w' W0 B v L := h.kept hg.grown hB
theorem Asunder.turn {old : Prop} {u v v' : Value} {W : World} {B s : Nat} {L : List Ot.O} {W0 : World} (h : Asunder u v) (hu : Lopts old W W0 B u L) (hs : W.heap.size ≤ s) (hv : v'.ownBlock = v.ownBlock ∨ ∀ k, v'.ownBlock = some k → s ≤ k) : Asunder u v' :=
  h.grow (fun k e => Nat.lt_of_lt_of_le (hu.lt k e).2 hs) hv

set_option maxRecDepth 100000 in
set_option maxHeartbeats 2000000 in
theorem bad_any (a : Option Addr) (n cap : Nat) (L : List Ot.O) (w : World) (hL : L.length = n) (hn : n ≤ 1000) (hd : ∀ x ∈ L, x.data.length ≤ 300000) (hw : ∀ x ∈ L, (Lit.int .i64 x.ty).wf = true) (h : OptsAt w a L) :
    Calls Try.prog 23 #[.slice a n cap] w fun e w' => BadRes w w' e (Tm.away L) (Tm.changed L) := by
  have H := Lib.hid h
  have HL := Lib.hid hL
  have HD := Lib.hid hd
  have HW := Lib.hid hw
  clear h hL hd hw
  go_enter Try.func23, Try.ntmps23
  go_wp2_with fail
  refine (readers_any w).mono ?_
  rintro e w3 ⟨D0, rfl, hD, hl, b3⟩
  have B3 := Lib.hid b3
  have HD0 := Lib.hid hD
  have HL0 := Lib.hid hl
  clear b3 hD hl
  go_wp2
  go_loopw [4, 5, 14] (fun u v i wr => ∃ (k : Nat) (D : DataW Unit), i = .int .i64 (k : Int) ∧ k ≤ n ∧ Hid (Left D ((L.take k).map Ot.O.ty)) ∧ Hid (LeftAt wr w.heap.size D) ∧ Hid (Lopts False wr w (w.heap.size + 1) u (Tm.awayTo L k)) ∧ Hid (Lopts False wr w (w.heap.size + 1) v (Tm.changedTo L k)) ∧ Hid (Asunder u v) ∧ Below w.heap.size w wr) (fun _ _ i _ => n - (intOf i).toNat)
  case atStart => exact ⟨0, D0, rfl, Nat.zero_le _, by rw [List.take_zero]; exact HL0.out, HD0, by rw [Tm.away_nil]; exact lopts_none _ _ _ _, by rw [Tm.changed_nil]; exact lopts_none _ _ _ _, asunder_none _ _ _, B3.out⟩
  case round =>
    obtain ⟨k, D, rfl, hk, HS, HM, HA, HC, HX, hbw⟩ := hrel
    by_cases hlt : (k : Int) < (n : Int)
    · have hkn : k < n := by omega
      have hkL : k < L.length := by rw [HL.out]; omega
      obtain ⟨b, off, q, d, rfl, r1, hb1⟩ := (H.out.next hbw).at k hkL
      have HTS := Lib.hid (types_step hkL)
      have HFI := Lib.hid (first_in hkL)
      have HAW := Lib.hid (Tm.arm_away hkL)
      have HST := Lib.hid (Tm.arm_stay hkL)
      have HCH := Lib.hid (Tm.arm_change hkL)
      have hwx := HW.out L[k] (List.getElem_mem hkL)
      have hdx := HD.out L[k] (List.getElem_mem hkL)
      have hAl := Tm.away_le L k
      have hCl := Tm.changed_le L k
      generalize L[k] = r at *
      generalize Tm.first L k = fi at *
      generalize Tm.awayTo L k = AL at *
      generalize Tm.changedTo L k = CL at *
      obtain ⟨m, hm⟩ : ∃ m, r.data.length = m := ⟨_, rfl⟩
      have RG := Lib.hid r1.range
      rw [hm] at RG hdx
      have bA := below_one wr (.cells #[.int .i64 r.ty, .slice q m d] 24)
      have hg3 := heap_alloc_new wr (.cells #[.int .i64 r.ty, .slice q m d] 24)
      have k0 : (wr.alloc (.cells #[.int .i64 r.ty, .slice q m d] 24)).cell? ⟨wr.heap.size, 0, none⟩ = some (.int .i64 r.ty) := cell_of_row _ _ _ _ _ _ hg3
      have k1 : (wr.alloc (.cells #[.int .i64 r.ty, .slice q m d] 24)).cell? ⟨wr.heap.size, 1, none⟩ = some (.slice q m d) := cell_of_row _ _ _ _ _ _ hg3
      have hs3 : (wr.alloc (.cells #[.int .i64 r.ty, .slice q m d] 24)).heap.size = wr.heap.size + 1 := by simp
      have M2 := Lib.hid (LeftAt.next HM.out bA)
      have A2 := Lib.hid (HA.out.next bA)
      have C2 := Lib.hid (HC.out.next bA)
      have hR2 := r1.row.next bA
      have B2 := Lib.hid (Below.chain hbw bA)
      have G2 := Lib.hid hg3
      by_cases hkn : Tm.known r.ty = true
      · cases hfv : fi with
        | true =>
          rw [hfv] at HST HCH HFI
          have hfi := HFI.out.1 rfl
          by_cases hr : Tm.right r = true
          · have HE := Lib.hid (HST.out hkn rfl hr)
            have HR := Lib.hid hr
            have hlook := look_in M2.out HS.out r.ty hwx hkn hfi
            have hcf := reader_enter r.ty hkn
            have c1 := reader_any r (wr.heap.size + 1) Tm.z q m d ((wr.alloc (.cells #[.int .i64 r.ty, .slice q m d] 24)).alloc (.cells (tcells Tm.z).toArray 32)) hkn hm hdx (hR2.next (below_one _ _)) (by have := heap_alloc_new (wr.alloc (.cells #[.int .i64 r.ty, .slice q m d] 24)) (.cells (tcells Tm.z).toArray 32); rw [hs3] at this; exact this)
            have BT := below_one (wr.alloc (.cells #[.int .i64 r.ty, .slice q m d] 24)) (.cells (tcells Tm.z).toArray 32)
            have C5 := Lib.hid c1
            have BT5 := Lib.hid BT
            have HWX := Lib.hid hwx
            have hgm := HM.out.lt
            clear c1 BT bA hg3 hR2 r1 hm hwx HM HA HC hbw
            generalize rfun r.ty = F at hlook C5 hcf
            simp only [tcells, Tm.z] at C5 BT5
            clear hr hkn HAW HST HCH HFI hfv
            go_wp2_with ((refine wpList_load_mid rfl 24 (.tmp 16) rfl b (off + k * 2) rfl (ocells r (.slice q m d)) _ RG.out Try.underlying24 rfl (infoOptN _ _) ?_; simp only [ocells]))
            refine C5.out.mono ?_
            rintro e w5 ⟨rfl, g5, t5, e5, h5⟩
            rw [HR.out]
            clear h5 e5 t5
            have B5 := Below.grown BT5.out g5 (by simp) (fun j hj => by cases hj; simp)
            have M5 := Lib.hid (LeftAt.next M2.out B5)
            have A5 := Lib.hid (A2.out.next B5)
            have CC5 := Lib.hid (C2.out.next B5)
            have G5 := Lib.hid (block_next G2.out B5)
            have k5 : w5.cell? ⟨wr.heap.size, 0, none⟩ = some (.int .i64 r.ty) := cell_of_row _ _ _ _ _ _ G5.out
            have Q5 := Lib.hid (Below.chain B2.out B5)
            have s5 : wr.heap.size + 1 ≤ w5.heap.size := by rw [← hs3]; exact B5.size
            clear B5 g5 M2 A2 C2 G2 B2 C5 BT5 k0 k1 hs3
            go_wp2_with (at_delete; refine wpList_delete_own _ rfl _ _ 48 3 rfl 46 lawInt Try.underlying48 funcElem w.heap.size 7 D rfl M5.out _ _ rfl (keyOf_int_mk Try.underlying3 HWX.out) ?_; intro w6 own6 gr6)
            go_roundw
            case rel =>
              refine ⟨k + 1, _, by simp, by omega, ?_, own6, ?_, ?_, HX, Below.grown Q5.out gr6.grown (by omega) (fun j hj => by cases hj; exact Nat.le_refl _)⟩
              · show Left _ _
                rw [HTS.out]; exact HS.out.drop _
              · show Lopts _ _ _ _ _ _
                rw [HE.out.1]; exact A5.out.next_map gr6 (Nat.lt_succ_self _)
              · show Lopts _ _ _ _ _ _
                rw [HE.out.2]; exact CC5.out.next_map gr6 (Nat.lt_succ_self _)
            case measure => simp [intOf]; omega
          · rw [Bool.not_eq_true] at hr
            have HE := Lib.hid (HCH.out hkn rfl hr)
            have HR := Lib.hid hr
            have HCL := Lib.hid HC.out.lt
            have HKN := Lib.hid hkn
            have hlook := look_in M2.out HS.out r.ty hwx hkn hfi
            have hcf := reader_enter r.ty hkn
            have c1 := reader_any r (wr.heap.size + 1) Tm.z q m d ((wr.alloc (.cells #[.int .i64 r.ty, .slice q m d] 24)).alloc (.cells (tcells Tm.z).toArray 32)) hkn hm hdx (hR2.next (below_one _ _)) (by have := heap_alloc_new (wr.alloc (.cells #[.int .i64 r.ty, .slice q m d] 24)) (.cells (tcells Tm.z).toArray 32); rw [hs3] at this; exact this)
            have BT := below_one (wr.alloc (.cells #[.int .i64 r.ty, .slice q m d] 24)) (.cells (tcells Tm.z).toArray 32)
            have C5 := Lib.hid c1
            have BT5 := Lib.hid BT
            have HWX := Lib.hid hwx
            have hgm := HM.out.lt
            clear c1 BT bA hg3 hR2 r1 hm hwx HM HA HC hbw
            generalize rfun r.ty = F at hlook C5 hcf
            simp only [tcells, Tm.z] at C5 BT5
            clear hr hkn HAW HST HCH HFI hfv
            go_wp2_with (refine wpList_load_mid rfl 24 (.tmp 16) rfl b (off + k * 2) rfl (ocells r (.slice q m d)) _ RG.out Try.underlying24 rfl (infoOptN _ _) ?_; simp only [ocells])
            refine C5.out.mono ?_
            rintro e w5 ⟨rfl, g5, t5, e5, h5⟩
            rw [HR.out]
            clear h5 e5 t5
            have B5 := Below.grown BT5.out g5 (by simp) (fun j hj => by cases hj; simp)
            have M5 := Lib.hid (LeftAt.next M2.out B5)
            have A5 := Lib.hid (A2.out.next B5)
            have CC5 := Lib.hid (C2.out.next B5)
            have G5 := Lib.hid (block_next G2.out B5)
            have k5 : w5.cell? ⟨wr.heap.size, 0, none⟩ = some (.int .i64 r.ty) := cell_of_row _ _ _ _ _ _ G5.out
            have Q5 := Lib.hid (Below.chain B2.out B5)
            have s5 : wr.heap.size + 1 ≤ w5.heap.size := by rw [← hs3]; exact B5.size
            clear B5 g5 M2 A2 C2 G2 B2 C5 BT5 k0 k1 hs3
            go_wp2_with fail
            refine (usual_any r.ty w5 HKN.out).mono ?_
            rintro e w6 ⟨vu, rfl, o6, b6⟩
            obtain ⟨pu, cu, rfl⟩ := own_slice o6
            obtain ⟨mu, hmu⟩ : ∃ mu, (Tm.usualD r.ty).length = mu := ⟨_, rfl⟩
            rw [hmu] at o6 ⊢
            have HMU := Lib.hid hmu
            have s6 := b6.size
            have b7 := below_one w6 (.cells #[.int .i64 r.ty, .slice pu mu cu] 24)
            have M7 := Lib.hid (LeftAt.next (LeftAt.next M5.out b6) b7)
            have A7 := Lib.hid ((A5.out.next b6).next b7)
            have C7 := Lib.hid ((CC5.out.next b6).next b7)
            have D7 : Hid (DataIs False (w6.alloc (.cells #[.int .i64 r.ty, .slice pu mu cu] 24)) w (w.heap.size + 1) (.slice pu mu cu) (Tm.usual r).data) := by
              refine .inl ?_
              show World.ownsRow _ _ _ _ _ (Tm.usualD r.ty).length _
              rw [HMU.out]
              exact ownsRow_next (ownsRow_lower o6 (by omega)) b7
            have G7 := Lib.hid (heap_alloc_new w6 (.cells #[.int .i64 r.ty, .slice pu mu cu] 24))
            have K7 := Lib.hid (block_next (block_next G5.out b6) b7)
            have Q7 := Lib.hid (Below.chain (Below.chain Q5.out b6) b7)
            have s7 : w6.heap.size < (w6.alloc (.cells #[.int .i64 r.ty, .slice pu mu cu] 24)).heap.size := by simp
            clear o6 b6 b7 hmu M5 A5 CC5 G5 Q5 k5
            simp only [ocells]
            go_wp2_with (first
              | (at_builtin; refine wpList_append_lopts rfl (.tmp 45) (.tmp 49) rfl (w.heap.size + 1) u5 CL (Tm.usual r) (.slice pu mu cu) w6.heap.size rfl rfl C7.out D7.out G7.out (by omega) (by omega) ?_; intro v8 w8 L8 g8 x8; have k8 : w8.cell? ⟨wr.heap.size, 0, none⟩ = some (.int .i64 r.ty) := cell_of_row _ _ _ _ _ _ ((g8.block wr.heap.size (by omega) (fun e => by have := HCL.out _ e.symm; omega)).trans K7.out))
              | (at_delete; refine wpList_delete_own _ rfl _ _ 48 3 rfl 46 lawInt Try.underlying48 funcElem w.heap.size 7 D rfl (LeftAt.beside M7.out C7.out g8 (Nat.lt_succ_self _)) _ _ rfl (keyOf_int_mk Try.underlying3 HWX.out) ?_; intro w9 own9 gr9))
            go_roundw
            case rel =>
              have s8 := g8.size
              refine ⟨k + 1, _, by simp, by omega, ?_, own9, ?_, ?_, ?_, Below.grown (Below.grown Q7.out g8 (by omega) (fun j hj => by have := HCL.out j hj; omega)) gr9.grown (by omega) (fun j hj => by cases hj; exact Nat.le_refl _)⟩
              · show Left _ _
                rw [HTS.out]; exact HS.out.drop _
              · show Lopts _ _ _ _ _ _
                rw [HE.out.1]; exact (A7.out.beside C7.out g8 HX.out.ne).next_map gr9 (Nat.lt_succ_self _)
              · show Lopts _ _ _ _ _ _
                rw [HE.out.2]; exact L8.next_map gr9 (Nat.lt_succ_self _)
              · exact HX.out.turn A7.out (Nat.le_refl _) x8
            case measure => simp [intOf]; omega
        | false =>
          have hout := HFI.out.2 hfv
          have HE := Lib.hid (HAW.out (.inr hfv))
          have hou : Tm.known r.ty = false ∨ r.ty ∈ (L.take k).map Ot.O.ty := .inr hout
          clear hkn hout
          obtain ⟨v0, hlook⟩ := look_out M2.out HS.out r.ty hwx hou
          have HAL := Lib.hid HA.out.lt
          have HRW := Lib.hid hR2
          have HWX := Lib.hid hwx
          have HGM := Lib.hid HM.out.lt
          have HMM := Lib.hid hm
          clear bA hg3 hR2 r1 hm hwx HM HA HC hbw hou HAW HST HCH HFI
          go_wp2_with (refine wpList_load_mid rfl 24 (.tmp 16) rfl b (off + k * 2) rfl (ocells r (.slice q m d)) _ RG.out Try.underlying24 rfl (infoOptN _ _) ?_; simp only [ocells])
          have hS : (wr.alloc (.cells #[.int .i64 r.ty, .slice q m d] 24)).drew.cell? ⟨wr.heap.size, 0, none⟩ = some (.int .i64 r.ty) ∧ (wr.alloc (.cells #[.int .i64 r.ty, .slice q m d] 24)).drew.cell? ⟨wr.heap.size, 1, none⟩ = some (.slice q m d) := ⟨k0, k1⟩
          have MD := Lib.hid (LeftAt.next M2.out (Below.refl _ (wr.alloc (.cells #[.int .i64 r.ty, .slice q m d] 24))).drew)
          have AD := Lib.hid (A2.out.next (Below.refl _ (wr.alloc (.cells #[.int .i64 r.ty, .slice q m d] 24))).drew)
          have CD := Lib.hid (C2.out.next (Below.refl _ (wr.alloc (.cells #[.int .i64 r.ty, .slice q m d] 24))).drew)
          have RD := Lib.hid (HRW.out.next (Below.refl _ (wr.alloc (.cells #[.int .i64 r.ty, .slice q m d] 24))).drew)
          have GD : Hid ((wr.alloc (.cells #[.int .i64 r.ty, .slice q m d] 24)).drew.heap[wr.heap.size]? = some (.cells #[.int .i64 r.ty, .slice q m d] 24 (0, 0))) := G2.out
          have BD := Lib.hid B2.out.drew
          have sD : (wr.alloc (.cells #[.int .i64 r.ty, .slice q m d] 24)).drew.heap.size = wr.heap.size + 1 := hs3
          refine held_start (S := fun W => W.cell? ⟨wr.heap.size, 0, none⟩ = some (.int .i64 r.ty) ∧ W.cell? ⟨wr.heap.size, 1, none⟩ = some (.slice q m d)) 10 (by kernel_rfl) rfl ?_
          generalize (wr.alloc (.cells #[.int .i64 r.ty, .slice q m d] 24)).drew = WD at *
          clear k0 k1 M2 A2 C2 G2 B2 HRW hs3 hlook RG
          refine held_take 0 (v := ?_) rfl (by kernel_rfl) (by kernel_rfl) (by kernel_rfl) (fun _ _ _ h => h) (by assumption) (by rfl) ?_ ?_
          rotate_left
          · (intro W hW; go_simp; try with_reducible rfl)
          simp only [Act.put, List.setIfInBounds_toArray, List.set_cons_zero, List.set_cons_succ]
          refine held_take 1 (v := ?_) rfl (by kernel_rfl) (by kernel_rfl) (by kernel_rfl) (fun _ _ _ h => h) (by assumption) (by rfl) ?_ ?_
          rotate_left
          · (intro W hW; go_simp; try with_reducible rfl)
          simp only [Act.put, List.setIfInBounds_toArray, List.set_cons_zero, List.set_cons_succ]
          refine held_take 2 (v := ?_) rfl (by kernel_rfl) (by kernel_rfl) (by kernel_rfl) (fun _ _ _ h => h) (by assumption) (by rfl) ?_ ?_
          rotate_left
          · (intro W hW; have e0 := hW.1; go_simp; try with_reducible rfl)
          simp only [Act.put, List.setIfInBounds_toArray, List.set_cons_zero, List.set_cons_succ]
          refine held_take 3 (v := ?_) rfl (by kernel_rfl) (by kernel_rfl) (by kernel_rfl) (fun _ _ _ h => h) (by assumption) (by rfl) ?_ ?_
          rotate_left
          · (intro W hW; go_simp; try with_reducible rfl)
          simp only [Act.put, List.setIfInBounds_toArray, List.set_cons_zero, List.set_cons_succ]
          refine held_take 4 (v := ?_) rfl (by kernel_rfl) (by kernel_rfl) (by kernel_rfl) (fun _ _ _ h => h) (by assumption) (by rfl) ?_ ?_
          rotate_left
          · (intro W hW; have e0 := hW.2; go_simp; try with_reducible rfl)
          simp only [Act.put, List.setIfInBounds_toArray, List.set_cons_zero, List.set_cons_succ]
          refine held_call 5 (f := 34) (args := #[.slice q m d]) rfl (by kernel_rfl) (by rfl) (by go_simp) ?_
          refine (clone_any q m d r.data WD HMM.out (by omega) RD.out).mono ?_
          rintro e w5 ⟨v5, rfl, o5, b5⟩
          obtain ⟨p5, c5, rfl⟩ := own_slice o5
          have G5 := Lib.hid (block_next GD.out b5)
          have hS5 : w5.cell? ⟨wr.heap.size, 0, none⟩ = some (.int .i64 r.ty) ∧ w5.cell? ⟨wr.heap.size, 1, none⟩ = some (.slice q m d) := ⟨cell_of_row _ _ _ _ _ _ G5.out, cell_of_row _ _ _ _ _ _ G5.out⟩
          refine ⟨_, rfl, hS5, ?_⟩
          simp only [Act.put, List.setIfInBounds_toArray, List.set_cons_zero, List.set_cons_succ]
          have s5 := b5.size
          have b7 := below_one w5 (.cells #[.int .i64 r.ty, .slice p5 m c5] 24)
          have M7 := Lib.hid (LeftAt.next (LeftAt.next MD.out b5) b7)
          have A7 := Lib.hid ((AD.out.next b5).next b7)
          have C7 := Lib.hid ((CD.out.next b5).next b7)
          have D7 : Hid (DataIs False (w5.alloc (.cells #[.int .i64 r.ty, .slice p5 m c5] 24)) w (w.heap.size + 1) (.slice p5 m c5) r.data) := by
            refine .inl ?_
            rw [HMM.out]
            have hgm := HGM.out
            exact ownsRow_next (ownsRow_lower o5 (by omega)) b7
          have G7 := Lib.hid (heap_alloc_new w5 (.cells #[.int .i64 r.ty, .slice p5 m c5] 24))
          have K7 := Lib.hid (block_next G5.out b7)
          have Q7 := Lib.hid (Below.chain (Below.chain BD.out b5) b7)
          have s7 : (w5.alloc (.cells #[.int .i64 r.ty, .slice p5 m c5] 24)).heap.size = w5.heap.size + 1 := by simp
          have hS7 : (w5.alloc (.cells #[.int .i64 r.ty, .slice p5 m c5] 24)).cell? ⟨wr.heap.size, 0, none⟩ = some (.int .i64 r.ty) ∧ (w5.alloc (.cells #[.int .i64 r.ty, .slice p5 m c5] 24)).cell? ⟨wr.heap.size, 1, none⟩ = some (.slice q m d) := ⟨cell_of_row _ _ _ _ _ _ K7.out, cell_of_row _ _ _ _ _ _ K7.out⟩
          clear o5 b5 b7 MD AD CD GD BD RD G5 hS
          refine held_take 6 (v := ?_) rfl (by kernel_rfl) (by kernel_rfl) (by kernel_rfl) (fun _ _ _ h => h) (by assumption) (by rfl) ?_ ?_
          rotate_left
          · (intro W hW; go_simp; try with_reducible rfl)
          simp only [Act.put, List.setIfInBounds_toArray, List.set_cons_zero, List.set_cons_succ]
          refine held_makes 7 (v := .slice (some ⟨w5.heap.size, 0, none⟩) 1 1) (w' := w5.alloc (.cells #[.int .i64 r.ty, .slice p5 m c5] 24)) rfl (by kernel_rfl) (by rfl) (by go_simp) hS7 ?_
          simp only [Act.put, List.setIfInBounds_toArray, List.set_cons_zero, List.set_cons_succ]
          clear hS5
          generalize w5.alloc (.cells #[.int .i64 r.ty, .slice p5 m c5] 24) = W7 at *
          refine held_one 8 rfl (by kernel_rfl) (by rfl) ?_
          refine wp_append_lopts (.tmp 28) (.tmp 35) rfl (w.heap.size + 1) u4 AL r (.slice p5 m c5) w5.heap.size rfl rfl A7.out D7.out G7.out (by have := HGM.out; omega) (by omega) ?_
          intro v8 w8 L8 g8 x8
          have K8 := Lib.hid ((g8.block wr.heap.size (by omega) (fun e => by have := HAL.out _ e.symm; omega)).trans K7.out)
          have k8 : w8.cell? ⟨wr.heap.size, 0, none⟩ = some (.int .i64 r.ty) := cell_of_row _ _ _ _ _ _ K8.out
          have k9 : w8.cell? ⟨wr.heap.size, 1, none⟩ = some (.slice q m d) := cell_of_row _ _ _ _ _ _ K8.out
          have hS8 : w8.cell? ⟨wr.heap.size, 0, none⟩ = some (.int .i64 r.ty) ∧ w8.cell? ⟨wr.heap.size, 1, none⟩ = some (.slice q m d) := ⟨k8, k9⟩
          refine ⟨hS8, ?_⟩
          simp only [Act.put, List.setIfInBounds_toArray, List.set_cons_zero, List.set_cons_succ]
          clear hS7
          refine held_take 9 (v := ?_) rfl (by kernel_rfl) (by kernel_rfl) (by kernel_rfl) (fun _ _ _ h => h) (by assumption) (by rfl) ?_ ?_
          rotate_left
          · (intro W hW; go_simp; try with_reducible rfl)
          simp only [Act.put, List.setIfInBounds_toArray, List.set_cons_zero, List.set_cons_succ]
          refine held_done (by kernel_rfl) ?_
          clear hS8 k9
          go_wp2_with (at_delete; refine wpList_delete_own _ rfl _ _ 48 3 rfl 46 lawInt Try.underlying48 funcElem w.heap.size 7 D rfl (LeftAt.beside M7.out A7.out g8 (Nat.lt_succ_self _)) _ _ rfl (keyOf_int_mk Try.underlying3 HWX.out) ?_; intro w9 own9 gr9)
          go_roundw
          case rel =>
            have s8 := g8.size
            have hgm := HGM.out
            refine ⟨k + 1, _, by simp, by omega, ?_, own9, ?_, ?_, ?_, Below.grown (Below.grown Q7.out g8 (by omega) (fun j hj => by have := HAL.out j hj; omega)) gr9.grown (by omega) (fun j hj => by cases hj; exact Nat.le_refl _)⟩
            · show Left _ _
              rw [HTS.out]; exact HS.out.drop _
            · show Lopts _ _ _ _ _ _
              rw [HE.out.1]; exact L8.next_map gr9 (Nat.lt_succ_self _)
            · show Lopts _ _ _ _ _ _
              rw [HE.out.2]; exact (C7.out.beside A7.out g8 HX.out.symm.ne).next_map gr9 (Nat.lt_succ_self _)
            · exact (HX.out.symm.turn C7.out (Nat.le_refl _) x8).symm
          case measure => simp [intOf]; omega
      · rw [Bool.not_eq_true] at hkn
        have HE := Lib.hid (HAW.out (.inl hkn))
        have hou : Tm.known r.ty = false ∨ r.ty ∈ (L.take k).map Ot.O.ty := .inl hkn
        clear hkn
        obtain ⟨v0, hlook⟩ := look_out M2.out HS.out r.ty hwx hou
        have HAL := Lib.hid HA.out.lt
        have HRW := Lib.hid hR2
        have HWX := Lib.hid hwx
        have HGM := Lib.hid HM.out.lt
        have HMM := Lib.hid hm
        clear bA hg3 hR2 r1 hm hwx HM HA HC hbw hou HAW HST HCH HFI
        go_wp2_with (refine wpList_load_mid rfl 24 (.tmp 16) rfl b (off + k * 2) rfl (ocells r (.slice q m d)) _ RG.out Try.underlying24 rfl (infoOptN _ _) ?_; simp only [ocells])
        have hS : (wr.alloc (.cells #[.int .i64 r.ty, .slice q m d] 24)).drew.cell? ⟨wr.heap.size, 0, none⟩ = some (.int .i64 r.ty) ∧ (wr.alloc (.cells #[.int .i64 r.ty, .slice q m d] 24)).drew.cell? ⟨wr.heap.size, 1, none⟩ = some (.slice q m d) := ⟨k0, k1⟩
        have MD := Lib.hid (LeftAt.next M2.out (Below.refl _ (wr.alloc (.cells #[.int .i64 r.ty, .slice q m d] 24))).drew)
        have AD := Lib.hid (A2.out.next (Below.refl _ (wr.alloc (.cells #[.int .i64 r.ty, .slice q m d] 24))).drew)
        have CD := Lib.hid (C2.out.next (Below.refl _ (wr.alloc (.cells #[.int .i64 r.ty, .slice q m d] 24))).drew)
        have RD := Lib.hid (HRW.out.next (Below.refl _ (wr.alloc (.cells #[.int .i64 r.ty, .slice q m d] 24))).drew)
        have GD : Hid ((wr.alloc (.cells #[.int .i64 r.ty, .slice q m d] 24)).drew.heap[wr.heap.size]? = some (.cells #[.int .i64 r.ty, .slice q m d] 24 (0, 0))) := G2.out
        have BD := Lib.hid B2.out.drew
        have sD : (wr.alloc (.cells #[.int .i64 r.ty, .slice q m d] 24)).drew.heap.size = wr.heap.size + 1 := hs3
        refine held_start (S := fun W => W.cell? ⟨wr.heap.size, 0, none⟩ = some (.int .i64 r.ty) ∧ W.cell? ⟨wr.heap.size, 1, none⟩ = some (.slice q m d)) 10 (by kernel_rfl) rfl ?_
        generalize (wr.alloc (.cells #[.int .i64 r.ty, .slice q m d] 24)).drew = WD at *
        clear k0 k1 M2 A2 C2 G2 B2 HRW hs3 hlook RG
        refine held_take 0 (v := ?_) rfl (by kernel_rfl) (by kernel_rfl) (by kernel_rfl) (fun _ _ _ h => h) (by assumption) (by rfl) ?_ ?_
        rotate_left
        · (intro W hW; go_simp; try with_reducible rfl)
        simp only [Act.put, List.setIfInBounds_toArray, List.set_cons_zero, List.set_cons_succ]
        refine held_take 1 (v := ?_) rfl (by kernel_rfl) (by kernel_rfl) (by kernel_rfl) (fun _ _ _ h => h) (by assumption) (by rfl) ?_ ?_
        rotate_left
        · (intro W hW; go_simp; try with_reducible rfl)
        simp only [Act.put, List.setIfInBounds_toArray, List.set_cons_zero, List.set_cons_succ]
        refine held_take 2 (v := ?_) rfl (by kernel_rfl) (by kernel_rfl) (by kernel_rfl) (fun _ _ _ h => h) (by assumption) (by rfl) ?_ ?_
        rotate_left
        · (intro W hW; have e0 := hW.1; go_simp; try with_reducible rfl)
        simp only [Act.put, List.setIfInBounds_toArray, List.set_cons_zero, List.set_cons_succ]
        refine held_take 3 (v := ?_) rfl (by kernel_rfl) (by kernel_rfl) (by kernel_rfl) (fun _ _ _ h => h) (by assumption) (by rfl) ?_ ?_
        rotate_left
        · (intro W hW; go_simp; try with_reducible rfl)
        simp only [Act.put, List.setIfInBounds_toArray, List.set_cons_zero, List.set_cons_succ]
        refine held_take 4 (v := ?_) rfl (by kernel_rfl) (by kernel_rfl) (by kernel_rfl) (fun _ _ _ h => h) (by assumption) (by rfl) ?_ ?_
        rotate_left
        · (intro W hW; have e0 := hW.2; go_simp; try with_reducible rfl)
        simp only [Act.put, List.setIfInBounds_toArray, List.set_cons_zero, List.set_cons_succ]
        refine held_call 5 (f := 34) (args := #[.slice q m d]) rfl (by kernel_rfl) (by rfl) (by go_simp) ?_
        refine (clone_any q m d r.data WD HMM.out (by omega) RD.out).mono ?_
        rintro e w5 ⟨v5, rfl, o5, b5⟩
        obtain ⟨p5, c5, rfl⟩ := own_slice o5
        have G5 := Lib.hid (block_next GD.out b5)
        have hS5 : w5.cell? ⟨wr.heap.size, 0, none⟩ = some (.int .i64 r.ty) ∧ w5.cell? ⟨wr.heap.size, 1, none⟩ = some (.slice q m d) := ⟨cell_of_row _ _ _ _ _ _ G5.out, cell_of_row _ _ _ _ _ _ G5.out⟩
        refine ⟨_, rfl, hS5, ?_⟩
        simp only [Act.put, List.setIfInBounds_toArray, List.set_cons_zero, List.set_cons_succ]
        have s5 := b5.size
        have b7 := below_one w5 (.cells #[.int .i64 r.ty, .slice p5 m c5] 24)
        have M7 := Lib.hid (LeftAt.next (LeftAt.next MD.out b5) b7)
        have A7 := Lib.hid ((AD.out.next b5).next b7)
        have C7 := Lib.hid ((CD.out.next b5).next b7)
        have D7 : Hid (DataIs False (w5.alloc (.cells #[.int .i64 r.ty, .slice p5 m c5] 24)) w (w.heap.size + 1) (.slice p5 m c5) r.data) := by
          refine .inl ?_
          rw [HMM.out]
          have hgm := HGM.out
          exact ownsRow_next (ownsRow_lower o5 (by omega)) b7
        have G7 := Lib.hid (heap_alloc_new w5 (.cells #[.int .i64 r.ty, .slice p5 m c5] 24))
        have K7 := Lib.hid (block_next G5.out b7)
        have Q7 := Lib.hid (Below.chain (Below.chain BD.out b5) b7)
        have s7 : (w5.alloc (.cells #[.int .i64 r.ty, .slice p5 m c5] 24)).heap.size = w5.heap.size + 1 := by simp
        have hS7 : (w5.alloc (.cells #[.int .i64 r.ty, .slice p5 m c5] 24)).cell? ⟨wr.heap.size, 0, none⟩ = some (.int .i64 r.ty) ∧ (w5.alloc (.cells #[.int .i64 r.ty, .slice p5 m c5] 24)).cell? ⟨wr.heap.size, 1, none⟩ = some (.slice q m d) := ⟨cell_of_row _ _ _ _ _ _ K7.out, cell_of_row _ _ _ _ _ _ K7.out⟩
        clear o5 b5 b7 MD AD CD GD BD RD G5 hS
        refine held_take 6 (v := ?_) rfl (by kernel_rfl) (by kernel_rfl) (by kernel_rfl) (fun _ _ _ h => h) (by assumption) (by rfl) ?_ ?_
        rotate_left
        · (intro W hW; go_simp; try with_reducible rfl)
        simp only [Act.put, List.setIfInBounds_toArray, List.set_cons_zero, List.set_cons_succ]
        refine held_makes 7 (v := .slice (some ⟨w5.heap.size, 0, none⟩) 1 1) (w' := w5.alloc (.cells #[.int .i64 r.ty, .slice p5 m c5] 24)) rfl (by kernel_rfl) (by rfl) (by go_simp) hS7 ?_
        simp only [Act.put, List.setIfInBounds_toArray, List.set_cons_zero, List.set_cons_succ]
        clear hS5
        generalize w5.alloc (.cells #[.int .i64 r.ty, .slice p5 m c5] 24) = W7 at *
        refine held_one 8 rfl (by kernel_rfl) (by rfl) ?_
        refine wp_append_lopts (.tmp 28) (.tmp 35) rfl (w.heap.size + 1) u4 AL r (.slice p5 m c5) w5.heap.size rfl rfl A7.out D7.out G7.out (by have := HGM.out; omega) (by omega) ?_
        intro v8 w8 L8 g8 x8
        have K8 := Lib.hid ((g8.block wr.heap.size (by omega) (fun e => by have := HAL.out _ e.symm; omega)).trans K7.out)
        have k8 : w8.cell? ⟨wr.heap.size, 0, none⟩ = some (.int .i64 r.ty) := cell_of_row _ _ _ _ _ _ K8.out
        have k9 : w8.cell? ⟨wr.heap.size, 1, none⟩ = some (.slice q m d) := cell_of_row _ _ _ _ _ _ K8.out
        have hS8 : w8.cell? ⟨wr.heap.size, 0, none⟩ = some (.int .i64 r.ty) ∧ w8.cell? ⟨wr.heap.size, 1, none⟩ = some (.slice q m d) := ⟨k8, k9⟩
        refine ⟨hS8, ?_⟩
        simp only [Act.put, List.setIfInBounds_toArray, List.set_cons_zero, List.set_cons_succ]
        clear hS7
        refine held_take 9 (v := ?_) rfl (by kernel_rfl) (by kernel_rfl) (by kernel_rfl) (fun _ _ _ h => h) (by assumption) (by rfl) ?_ ?_
        rotate_left
        · (intro W hW; go_simp; try with_reducible rfl)
        simp only [Act.put, List.setIfInBounds_toArray, List.set_cons_zero, List.set_cons_succ]
        refine held_done (by kernel_rfl) ?_
        clear hS8 k9
        go_wp2_with (at_delete; refine wpList_delete_own _ rfl _ _ 48 3 rfl 46 lawInt Try.underlying48 funcElem w.heap.size 7 D rfl (LeftAt.beside M7.out A7.out g8 (Nat.lt_succ_self _)) _ _ rfl (keyOf_int_mk Try.underlying3 HWX.out) ?_; intro w9 own9 gr9)
        go_roundw
        case rel =>
          have s8 := g8.size
          have hgm := HGM.out
          refine ⟨k + 1, _, by simp, by omega, ?_, own9, ?_, ?_, ?_, Below.grown (Below.grown Q7.out g8 (by omega) (fun j hj => by have := HAL.out j hj; omega)) gr9.grown (by omega) (fun j hj => by cases hj; exact Nat.le_refl _)⟩
          · show Left _ _
            rw [HTS.out]; exact HS.out.drop _
          · show Lopts _ _ _ _ _ _
            rw [HE.out.1]; exact L8.next_map gr9 (Nat.lt_succ_self _)
          · show Lopts _ _ _ _ _ _
            rw [HE.out.2]; exact (C7.out.beside A7.out g8 HX.out.symm.ne).next_map gr9 (Nat.lt_succ_self _)
          · exact (HX.out.symm.turn C7.out (Nat.le_refl _) x8).symm
        case measure => simp [intOf]; omega
    · have hk2 : L.length ≤ k := by rw [HL.out]; omega
      rw [Tm.away_all hk2] at HA
      rw [Tm.changed_all hk2] at HC
      have AA := Lib.hid HA.out.opts
      have CC := Lib.hid HC.out.opts
      have B2 := Lib.hid hbw
      clear HS HM HA HC HX hbw
      go_wp2
      go_ret2
      exact ⟨_, _, rfl, AA.out.lower (Nat.le_succ _), CC.out.lower (Nat.le_succ _), B2.out⟩
end Go.Proofs.Ytnhjpbhndckfgaa
