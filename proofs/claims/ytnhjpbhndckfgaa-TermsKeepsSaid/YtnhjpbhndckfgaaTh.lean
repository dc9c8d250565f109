/- Contract of the document's Read. -/
import Derived.Test.YtnhjpbhndckfgaaTg
namespace Go.Proofs.Ytnhjpbhndckfgaa
open Go.RowKit Go.Maps S2 S12

namespace Tm
theorem put1_1 {s : T} {x : Ot.O} (h : x.ty = 1) : put1 s x = { s with hasMru := true, mru := (Oc.get x.data true : Nat) } := by simp [put1, h]
theorem put1_2 {s : T} {x : Ot.O} (h : x.ty = 2) : put1 s x = { s with hasAccm := true, accm := Oc.get x.data true } := by simp [put1, h]
theorem put1_3 {s : T} {x : Ot.O} (h : x.ty = 3) : put1 s x = { s with login := (asked x.data : Nat) } := by simp [put1, h]
theorem put1_4 {s : T} {x : Ot.O} (h : x.ty = 4) : put1 s x = { s with quality := true } := by simp [put1, h]
theorem put1_5 {s : T} {x : Ot.O} (h : x.ty = 5) : put1 s x = { s with hasMagic := true, magic := Oc.get x.data true } := by simp [put1, h]
theorem put1_7 {s : T} {x : Ot.O} (h : x.ty = 7) : put1 s x = { s with pfc := true } := by simp [put1, h]
theorem put1_8 {s : T} {x : Ot.O} (h : x.ty = 8) : put1 s x = { s with acfc := true } := by simp [put1, h]
end Tm

theorem wrap_small (v : Nat) (h : v < 256 ^ 2) : IntKind.i64.wrap (v : Int) = (v : Int) := by rw [IntKind.wrap_i64]; omega
set_option maxRecDepth 100000 in
set_option maxHeartbeats 4000000 in
theorem refRead_any (a : Option Addr) (n cap : Nat) (L : List Ot.O) (w : World) (hL : L.length = n) (hn : n ≤ 1000000) (hc : n ≤ cap) (h : OptsAt w a L) :
    Calls Try.prog 16 #[.slice a n cap] w fun e w' => ToldRes w w' e (Tm.read L) := by
  obtain ⟨Z, hZ⟩ : ∃ Z, Tm.read L = Z := ⟨_, rfl⟩
  rw [hZ]
  have HZ := Lib.hid hZ.symm
  have H := Lib.hid h
  have HL := Lib.hid hL
  clear h hL hZ
  have BW := Lib.hid (Below.chain (below_one w (.cells (tcells Tm.z).toArray 32)) (below_one (w.alloc (.cells (tcells Tm.z).toArray 32)) (.cells (tcells Tm.z).toArray 32)))
  have T1 : Hid (TmAt ((w.alloc (.cells (tcells Tm.z).toArray 32)).alloc (.cells (tcells Tm.z).toArray 32)) (w.heap.size + 1) Tm.z) := by
    have := heap_alloc_new (w.alloc (.cells (tcells Tm.z).toArray 32)) (.cells (tcells Tm.z).toArray 32)
    rw [show (w.alloc (.cells (tcells Tm.z).toArray 32)).heap.size = w.heap.size + 1 by simp] at this
    exact this
  have T0 : Hid (TmAt ((w.alloc (.cells (tcells Tm.z).toArray 32)).alloc (.cells (tcells Tm.z).toArray 32)) w.heap.size Tm.z) := by
    have := heap_alloc_new w (.cells (tcells Tm.z).toArray 32)
    exact TmAt.next (w := w.alloc (.cells (tcells Tm.z).toArray 32)) this (below_one _ _)
  have S2' : ((w.alloc (.cells (tcells Tm.z).toArray 32)).alloc (.cells (tcells Tm.z).toArray 32)).heap.size = w.heap.size + 2 := by simp
  go_enter Try.func16, Try.ntmps16
  go_wp2_with fail
  show Code.wp _ _ _ _ ((w.alloc (.cells (tcells Tm.z).toArray 32)).alloc (.cells (tcells Tm.z).toArray 32))
  generalize (w.alloc (.cells (tcells Tm.z).toArray 32)).alloc (.cells (tcells Tm.z).toArray 32) = W2 at BW T1 T0 S2' ⊢
  have hs2 : w.heap.size + 1 < W2.heap.size := by omega
  clear S2'
  go_loopw [5] (fun i wr => ∃ k : Nat, i = .int .i64 (k : Int) ∧ k ≤ n ∧ Hid (Tm.okl (L.take k)) ∧ Hid (TmAt wr (w.heap.size + 1) (Tm.told (L.take k))) ∧ Hid (TmAt wr w.heap.size Tm.z) ∧ Below w.heap.size w wr) (fun i _ => n - (intOf i).toNat)
  case atStart => exact ⟨0, rfl, Nat.zero_le _, by rw [List.take_zero]; exact Tm.okl_nil, by rw [List.take_zero]; exact T1, T0, BW.out⟩
  case round =>
    obtain ⟨k, rfl, hk, HO, HT, HZ0, hbw⟩ := hrel
    by_cases hlt : (k : Int) < (n : Int)
    · have hkc : k ≤ cap := by omega
      have hkn : k < n := by omega
      have hkL : k < L.length := by rw [HL.out]; omega
      obtain ⟨b, off, q, d, rfl, r1, hb1⟩ := H.out.at k hkL
      have HST := Lib.hid (Tm.told_step hkL)
      have HOS := Lib.hid (fun hr hf => Tm.okl_step hkL HO.out hr hf)
      have HWR := Lib.hid (Tm.okl_wrong hkL)
      have HAG := Lib.hid (Tm.okl_again hkL)
      clear HO
      generalize L[k] = r at *
      generalize Tm.told (L.take k) = tk at *
      obtain ⟨m, hm⟩ : ∃ m, r.data.length = m := ⟨_, rfl⟩
      have RG0 := (r1.next hb1 hbw).range
      rw [hm] at RG0
      have RG2 := Lib.hid RG0
      have hgl := HT.out.lt
      clear RG0
      by_cases hr : Tm.right r = true
      · by_cases hf : ∃ x ∈ L.take k, x.ty = r.ty
        · have hZ : Z = (Tm.z, false) := HZ.out.trans (Tm.read_no (HAG.out hf))
          subst hZ
          obtain ⟨j, hj⟩ := find_again (L.take k) r.ty hf
          have HJ := Lib.hid (fun W (hB : Below w.heap.size w W) => hj (some ⟨b, off, none⟩) k cap W (by rw [List.length_take]; omega) (by omega) ((H.out.next hB).take k))
          clear hj hf HZ HWR HAG HOS HST
          go_wp2_with (refine wpList_load_mid rfl 24 (.tmp 16) rfl b (off + k * 2) rfl (ocells r (.slice q m d)) _ RG2.out Try.underlying24 rfl (infoOptN _ _) ?_; simp only [ocells])
          have BA := Lib.hid (Below.chain hbw (below_one wr (.cells #[.int .i64 r.ty, .slice q m d] 24)).drew)
          have RG : (wr.alloc (.cells #[.int .i64 r.ty, .slice q m d] 24)).drew.rangeAt wr.heap.size 0 (ocells r (.slice q m d)) := by
            intro j u hu
            rw [Nat.zero_add]
            rw [show (wr.alloc (.cells #[.int .i64 r.ty, .slice q m d] 24)).drew.cell? ⟨wr.heap.size, j, none⟩ = (wr.alloc (.cells #[.int .i64 r.ty, .slice q m d] 24)).cell? ⟨wr.heap.size, j, none⟩ from rfl, cell_of_row _ _ _ _ _ _ (heap_alloc_new wr _)]
            simpa [ocells] using hu
          have hs : wr.heap.size < (wr.alloc (.cells #[.int .i64 r.ty, .slice q m d] 24)).drew.heap.size := by show wr.heap.size < (wr.alloc _).heap.size; simp
          have HTA := Lib.hid (HT.out.next (below_one wr (.cells #[.int .i64 r.ty, .slice q m d] 24)).drew)
          have HZA := Lib.hid (HZ0.out.next (below_one wr (.cells #[.int .i64 r.ty, .slice q m d] 24)).drew)
          refine held_start (S := fun W => W.rangeAt wr.heap.size 0 (ocells r (.slice q m d))) 12 (by kernel_rfl) rfl ?_
          generalize (wr.alloc (.cells #[.int .i64 r.ty, .slice q m d] 24)).drew = WA at *
          have RR := Lib.hid (r1.next hb1 BA.out).row
          refine held_take 0 (v := .agg (ocells r (.slice q m d)).toArray) rfl (by kernel_rfl) (by kernel_rfl) (by kernel_rfl) (fun _ _ _ h => h) (by assumption) (by rfl) (fun W hW => run_load_mid (.tmp 6) rfl wr.heap.size 0 rfl r q m d hW) ?_
          simp only [Act.put, List.setIfInBounds_toArray, List.set_cons_zero, List.set_cons_succ]
          refine held_call 1 (f := 13) (args := #[.agg (ocells r (.slice q m d)).toArray]) rfl (by kernel_rfl) (by rfl) (by go_simp) ?_
          refine (refRight_any r q m d WA hm RR.out).mono ?_
          rintro e w1 ⟨rfl, b1⟩
          have hR1 : w1.rangeAt wr.heap.size 0 (ocells r (.slice q m d)) := range_next RG hs b1
          refine ⟨_, rfl, hR1, ?_⟩
          simp only [Act.put, List.setIfInBounds_toArray, List.set_cons_zero, List.set_cons_succ]
          have B1 := Lib.hid (Below.chain BA.out b1)
          have HT1 := Lib.hid (HTA.out.next b1)
          have HZ1 := Lib.hid (HZA.out.next b1)
          clear RG hs b1 HTA HZA RR BA HT HZ0
          rw [hr]
          refine held_take 2 (v := ?_) rfl (by kernel_rfl) (by kernel_rfl) (by kernel_rfl) (fun _ _ _ h => h) (by assumption) (by rfl) ?_ ?_
          rotate_left
          · (intro W hW; go_simp; try with_reducible rfl)
          simp only [Act.put, List.setIfInBounds_toArray, List.set_cons_zero, List.set_cons_succ]
          refine held_take 3 (v := ?_) rfl (by kernel_rfl) (by kernel_rfl) (by kernel_rfl) (fun _ _ _ h => h) (by assumption) (by rfl) ?_ ?_
          rotate_left
          · (intro W hW; go_simp; try with_reducible rfl)
          simp only [Act.put, List.setIfInBounds_toArray, List.set_cons_zero, List.set_cons_succ]
          refine held_take 4 (v := ?_) rfl (by kernel_rfl) (by kernel_rfl) (by kernel_rfl) (fun _ _ _ h => h) (by assumption) (by rfl) ?_ ?_
          rotate_left
          · (intro W hW; go_simp; try with_reducible rfl)
          simp only [Act.put, List.setIfInBounds_toArray, List.set_cons_zero, List.set_cons_succ]
          refine held_take 5 (v := ?_) rfl (by kernel_rfl) (by kernel_rfl) (by kernel_rfl) (fun _ _ _ h => h) (by assumption) (by rfl) ?_ ?_
          rotate_left
          · (intro W hW; go_simp; try with_reducible rfl)
          simp only [Act.put, List.setIfInBounds_toArray, List.set_cons_zero, List.set_cons_succ]
          refine held_take 6 (v := ?_) rfl (by kernel_rfl) (by kernel_rfl) (by kernel_rfl) (fun _ _ _ h => h) (by assumption) (by rfl) ?_ ?_
          rotate_left
          · (intro W hW; go_simp; try with_reducible rfl)
          simp only [Act.put, List.setIfInBounds_toArray, List.set_cons_zero, List.set_cons_succ]
          refine held_take 7 (v := ?_) rfl (by kernel_rfl) (by kernel_rfl) (by kernel_rfl) (fun _ _ _ h => h) (by assumption) (by rfl) ?_ ?_
          rotate_left
          · (intro W hW; go_simp; try with_reducible rfl)
          simp only [Act.put, List.setIfInBounds_toArray, List.set_cons_zero, List.set_cons_succ]
          refine held_take 8 (v := ?_) rfl (by kernel_rfl) (by kernel_rfl) (by kernel_rfl) (fun _ _ _ h => h) (by assumption) (by rfl) ?_ ?_
          rotate_left
          · (intro W hW; have e0 : W.cell? ⟨wr.heap.size, 0, none⟩ = some (.int .i64 r.ty) := hW 0 _ rfl; go_simp; try with_reducible rfl)
          simp only [Act.put, List.setIfInBounds_toArray, List.set_cons_zero, List.set_cons_succ]
          refine held_call 9 (f := 26) (args := #[.slice (some ⟨b, off, none⟩) k cap, .int .i64 r.ty]) rfl (by kernel_rfl) (by rfl) (by go_simp) ?_
          refine (HJ.out w1 B1.out).mono ?_
          rintro e w2 ⟨rfl, h2⟩; rw [h2]; clear h2
          refine ⟨_, rfl, hR1, ?_⟩
          simp only [Act.put, List.setIfInBounds_toArray, List.set_cons_zero, List.set_cons_succ]
          refine held_take 10 (v := ?_) rfl (by kernel_rfl) (by kernel_rfl) (by kernel_rfl) (fun _ _ _ h => h) (by assumption) (by rfl) ?_ ?_
          rotate_left
          · (intro W hW; go_simp; try with_reducible rfl)
          simp only [Act.put, List.setIfInBounds_toArray, List.set_cons_zero, List.set_cons_succ]
          refine held_take 11 (v := ?_) rfl (by kernel_rfl) (by kernel_rfl) (by kernel_rfl) (fun _ _ _ h => h) (by assumption) (by rfl) ?_ ?_
          rotate_left
          · (intro W hW; go_simp; try with_reducible rfl)
          simp only [Act.put, List.setIfInBounds_toArray, List.set_cons_zero, List.set_cons_succ]
          refine held_done (by kernel_rfl) ?_
          go_wp2_with (refine wpList_store_tm rfl _ _ rfl w.heap.size Tm.z _ rfl rfl HZ1.out rfl ?_)
          exact bodyPost_ret (results_cell_tmp_tm Try.results16 _ _ _ Tm.z false rfl rfl (setRow_heap _ _ _ _ _ _ HZ1.out)) rfl ⟨rfl, below_setRow B1.out (Nat.le_refl _) _⟩
        · have hf2 : ∀ x ∈ L.take k, x.ty ≠ r.ty := fun x hx e => hf ⟨x, hx, e⟩
          have HOK := Lib.hid (HOS.out hr hf2)
          have HJ := Lib.hid (fun W (hB : Below w.heap.size w W) => find_first (some ⟨b, off, none⟩) k cap (L.take k) r.ty W (by rw [List.length_take]; omega) (by omega) ((H.out.next hB).take k) hf2)
          clear hf hf2 HZ HWR HAG HOS
          have HR := Lib.hid hr
          have hkn := Tm.right_known hr
          go_wp2_with (refine wpList_load_mid rfl 24 (.tmp 16) rfl b (off + k * 2) rfl (ocells r (.slice q m d)) _ RG2.out Try.underlying24 rfl (infoOptN _ _) ?_; simp only [ocells])
          have BA := Lib.hid (Below.chain hbw (below_one wr (.cells #[.int .i64 r.ty, .slice q m d] 24)).drew)
          have RG : (wr.alloc (.cells #[.int .i64 r.ty, .slice q m d] 24)).drew.rangeAt wr.heap.size 0 (ocells r (.slice q m d)) := by
            intro j u hu
            rw [Nat.zero_add]
            rw [show (wr.alloc (.cells #[.int .i64 r.ty, .slice q m d] 24)).drew.cell? ⟨wr.heap.size, j, none⟩ = (wr.alloc (.cells #[.int .i64 r.ty, .slice q m d] 24)).cell? ⟨wr.heap.size, j, none⟩ from rfl, cell_of_row _ _ _ _ _ _ (heap_alloc_new wr _)]
            simpa [ocells] using hu
          have hs : wr.heap.size < (wr.alloc (.cells #[.int .i64 r.ty, .slice q m d] 24)).drew.heap.size := by show wr.heap.size < (wr.alloc _).heap.size; simp
          have HTA := Lib.hid (HT.out.next (below_one wr (.cells #[.int .i64 r.ty, .slice q m d] 24)).drew)
          have HZA := Lib.hid (HZ0.out.next (below_one wr (.cells #[.int .i64 r.ty, .slice q m d] 24)).drew)
          refine held_start (S := fun W => W.rangeAt wr.heap.size 0 (ocells r (.slice q m d))) 12 (by kernel_rfl) rfl ?_
          generalize (wr.alloc (.cells #[.int .i64 r.ty, .slice q m d] 24)).drew = WA at *
          have RR := Lib.hid (r1.next hb1 BA.out).row
          refine held_take 0 (v := .agg (ocells r (.slice q m d)).toArray) rfl (by kernel_rfl) (by kernel_rfl) (by kernel_rfl) (fun _ _ _ h => h) (by assumption) (by rfl) (fun W hW => run_load_mid (.tmp 6) rfl wr.heap.size 0 rfl r q m d hW) ?_
          simp only [Act.put, List.setIfInBounds_toArray, List.set_cons_zero, List.set_cons_succ]
          refine held_call 1 (f := 13) (args := #[.agg (ocells r (.slice q m d)).toArray]) rfl (by kernel_rfl) (by rfl) (by go_simp) ?_
          refine (refRight_any r q m d WA hm RR.out).mono ?_
          rintro e w1 ⟨rfl, b1⟩
          have hR1 : w1.rangeAt wr.heap.size 0 (ocells r (.slice q m d)) := range_next RG hs b1
          refine ⟨_, rfl, hR1, ?_⟩
          simp only [Act.put, List.setIfInBounds_toArray, List.set_cons_zero, List.set_cons_succ]
          have B1 := Lib.hid (Below.chain BA.out b1)
          have HT1 := Lib.hid (HTA.out.next b1)
          have HZ1 := Lib.hid (HZA.out.next b1)
          clear RG hs b1 HTA HZA RR BA HT HZ0
          rw [hr]
          clear hr
          refine held_take 2 (v := ?_) rfl (by kernel_rfl) (by kernel_rfl) (by kernel_rfl) (fun _ _ _ h => h) (by assumption) (by rfl) ?_ ?_
          rotate_left
          · (intro W hW; go_simp; try with_reducible rfl)
          simp only [Act.put, List.setIfInBounds_toArray, List.set_cons_zero, List.set_cons_succ]
          refine held_take 3 (v := ?_) rfl (by kernel_rfl) (by kernel_rfl) (by kernel_rfl) (fun _ _ _ h => h) (by assumption) (by rfl) ?_ ?_
          rotate_left
          · (intro W hW; go_simp; try with_reducible rfl)
          simp only [Act.put, List.setIfInBounds_toArray, List.set_cons_zero, List.set_cons_succ]
          refine held_take 4 (v := ?_) rfl (by kernel_rfl) (by kernel_rfl) (by kernel_rfl) (fun _ _ _ h => h) (by assumption) (by rfl) ?_ ?_
          rotate_left
          · (intro W hW; go_simp; try with_reducible rfl)
          simp only [Act.put, List.setIfInBounds_toArray, List.set_cons_zero, List.set_cons_succ]
          refine held_take 5 (v := ?_) rfl (by kernel_rfl) (by kernel_rfl) (by kernel_rfl) (fun _ _ _ h => h) (by assumption) (by rfl) ?_ ?_
          rotate_left
          · (intro W hW; go_simp; try with_reducible rfl)
          simp only [Act.put, List.setIfInBounds_toArray, List.set_cons_zero, List.set_cons_succ]
          refine held_take 6 (v := ?_) rfl (by kernel_rfl) (by kernel_rfl) (by kernel_rfl) (fun _ _ _ h => h) (by assumption) (by rfl) ?_ ?_
          rotate_left
          · (intro W hW; go_simp; try with_reducible rfl)
          simp only [Act.put, List.setIfInBounds_toArray, List.set_cons_zero, List.set_cons_succ]
          refine held_take 7 (v := ?_) rfl (by kernel_rfl) (by kernel_rfl) (by kernel_rfl) (fun _ _ _ h => h) (by assumption) (by rfl) ?_ ?_
          rotate_left
          · (intro W hW; go_simp; try with_reducible rfl)
          simp only [Act.put, List.setIfInBounds_toArray, List.set_cons_zero, List.set_cons_succ]
          refine held_take 8 (v := ?_) rfl (by kernel_rfl) (by kernel_rfl) (by kernel_rfl) (fun _ _ _ h => h) (by assumption) (by rfl) ?_ ?_
          rotate_left
          · (intro W hW; have e0 : W.cell? ⟨wr.heap.size, 0, none⟩ = some (.int .i64 r.ty) := hW 0 _ rfl; go_simp; try with_reducible rfl)
          simp only [Act.put, List.setIfInBounds_toArray, List.set_cons_zero, List.set_cons_succ]
          refine held_call 9 (f := 26) (args := #[.slice (some ⟨b, off, none⟩) k cap, .int .i64 r.ty]) rfl (by kernel_rfl) (by rfl) (by go_simp) ?_
          refine (HJ.out w1 B1.out).mono ?_
          rintro e w2 ⟨rfl, h2⟩; rw [h2]; clear h2
          refine ⟨_, rfl, hR1, ?_⟩
          simp only [Act.put, List.setIfInBounds_toArray, List.set_cons_zero, List.set_cons_succ]
          refine held_take 10 (v := ?_) rfl (by kernel_rfl) (by kernel_rfl) (by kernel_rfl) (fun _ _ _ h => h) (by assumption) (by rfl) ?_ ?_
          rotate_left
          · (intro W hW; go_simp; try with_reducible rfl)
          simp only [Act.put, List.setIfInBounds_toArray, List.set_cons_zero, List.set_cons_succ]
          refine held_take 11 (v := ?_) rfl (by kernel_rfl) (by kernel_rfl) (by kernel_rfl) (fun _ _ _ h => h) (by assumption) (by rfl) ?_ ?_
          rotate_left
          · (intro W hW; go_simp; try with_reducible rfl)
          simp only [Act.put, List.setIfInBounds_toArray, List.set_cons_zero, List.set_cons_succ]
          refine held_done (by kernel_rfl) ?_
          have k0 : w1.cell? ⟨wr.heap.size, 0, none⟩ = some (.int .i64 r.ty) := hR1 0 _ rfl
          have k1 : w1.cell? ⟨wr.heap.size, 1, none⟩ = some (.slice q m d) := hR1 1 _ rfl
          clear hR1 HJ RG2
          rcases Tm.known_cases hkn with h1 | h2 | h3 | h4 | h5 | h7 | h8 <;> clear hkn
          · have hm2 : m = 2 := by
              have := HR.out
              rw [show Tm.right r = Tm.good r.ty r.data from rfl, h1] at this
              have := of_decide_eq_true this
              omega
            subst hm2
            have k3 : w1.cell? ⟨w.heap.size + 1, 0, none⟩ = some (.bool tk.hasMru) := HT1.out.cell 0
            have f3 := HT1.out.frozen 0
            have T5 := HT1.out.set 0 (.bool true) { tk with hasMru := true } rfl
            have k4 : (w1.setCell ⟨w.heap.size + 1, 0, none⟩ (.bool true)).cell? ⟨w.heap.size + 1, 1, none⟩ = some (.int .i64 tk.mru) := T5.cell 1
            have f4 := T5.frozen 1
            have B5 := B1.out.setCell (p := ⟨w.heap.size + 1, 0, none⟩) (by simp) (.bool true)
            have e1 : (w1.setCell ⟨w.heap.size + 1, 0, none⟩ (.bool true)).cell? ⟨wr.heap.size, 1, none⟩ = some (.slice q 2 d) := by
              simp only [World.cell?]
              rw [heap_setCell_other _ _ _ _ (by show wr.heap.size ≠ w.heap.size + 1; omega)]
              exact k1
            have C7 := Lib.hid (refGet_row q 2 d r.data (w1.setCell ⟨w.heap.size + 1, 0, none⟩ (.bool true)) hm (by omega) (by omega) (r1.next hb1 B5).row)
            have hlt := Oc.get_lt r.data true
            rw [hm] at hlt
            have HP := Lib.hid (Tm.put1_1 (s := tk) h1)
            generalize Oc.get r.data true = v at *
            have hw1 : IntKind.i64.wrap (v : Int) = (v : Int) := by
              exact wrap_small v (by omega)
            have T9 : Hid (TmAt ((w1.setCell ⟨w.heap.size + 1, 0, none⟩ (.bool true)).setCell ⟨w.heap.size + 1, 1, none⟩ (.int .i64 (v : Int))) (w.heap.size + 1) (Tm.put1 tk r)) := by
              show TmAt _ _ _
              rw [HP.out]; exact T5.set 1 (.int .i64 (v : Int)) _ rfl
            have B6 := Lib.hid (B5.setCell (p := ⟨w.heap.size + 1, 1, none⟩) (by simp) (.int .i64 (v : Int)))
            rw [h1] at k0
            clear h1 HP T5 B5 hlt hm
            go_wp2_with (refine C7.out.mono ?_; rintro e w7 ⟨rfl, h7⟩; rw [h7]; clear h7 C7)
            go_roundw
            case rel =>
              refine ⟨k + 1, by simp, by omega, HOK.out, ?_, ?_, ?_⟩
              · show TmAt _ _ _
                rw [HST.out]; exact T9.out
              · exact ((HZ1.out.kept (grown_cell _ _ _ _) (by omega)).kept (grown_cell _ _ _ _) (by omega))
              · exact B6.out
            case measure => simp [intOf]; omega
          · have hm2 : m = 4 := by
              have := HR.out
              rw [show Tm.right r = Tm.good r.ty r.data from rfl, h2] at this
              have := of_decide_eq_true this
              omega
            subst hm2
            have k3 : w1.cell? ⟨w.heap.size + 1, 2, none⟩ = some (.bool tk.hasAccm) := HT1.out.cell 2
            have f3 := HT1.out.frozen 2
            have T5 := HT1.out.set 2 (.bool true) { tk with hasAccm := true } rfl
            have k4 : (w1.setCell ⟨w.heap.size + 1, 2, none⟩ (.bool true)).cell? ⟨w.heap.size + 1, 3, none⟩ = some (.int .u32 (tk.accm : Int)) := T5.cell 3
            have f4 := T5.frozen 3
            have B5 := B1.out.setCell (p := ⟨w.heap.size + 1, 2, none⟩) (by simp) (.bool true)
            have e1 : (w1.setCell ⟨w.heap.size + 1, 2, none⟩ (.bool true)).cell? ⟨wr.heap.size, 1, none⟩ = some (.slice q 4 d) := by
              simp only [World.cell?]
              rw [heap_setCell_other _ _ _ _ (by show wr.heap.size ≠ w.heap.size + 1; omega)]
              exact k1
            have C7 := Lib.hid (refGet_row q 4 d r.data (w1.setCell ⟨w.heap.size + 1, 2, none⟩ (.bool true)) hm (by omega) (by omega) (r1.next hb1 B5).row)
            have hlt := Oc.get_lt r.data true
            rw [hm] at hlt
            have HP := Lib.hid (Tm.put1_2 (s := tk) h2)
            generalize Oc.get r.data true = v at *
            have hw1 : (v : Int) % 4294967296 = (v : Int) := by
              omega
            have T9 : Hid (TmAt ((w1.setCell ⟨w.heap.size + 1, 2, none⟩ (.bool true)).setCell ⟨w.heap.size + 1, 3, none⟩ (.int .u32 (v : Int))) (w.heap.size + 1) (Tm.put1 tk r)) := by
              show TmAt _ _ _
              rw [HP.out]; exact T5.set 3 (.int .u32 (v : Int)) _ rfl
            have B6 := Lib.hid (B5.setCell (p := ⟨w.heap.size + 1, 3, none⟩) (by simp) (.int .u32 (v : Int)))
            rw [h2] at k0
            clear h2 HP T5 B5 hlt hm
            go_wp2_with (refine C7.out.mono ?_; rintro e w7 ⟨rfl, h7⟩; rw [h7]; clear h7 C7)
            go_roundw
            case rel =>
              refine ⟨k + 1, by simp, by omega, HOK.out, ?_, ?_, ?_⟩
              · show TmAt _ _ _
                rw [HST.out]; exact T9.out
              · exact ((HZ1.out.kept (grown_cell _ _ _ _) (by omega)).kept (grown_cell _ _ _ _) (by omega))
              · exact B6.out
            case measure => simp [intOf]; omega
          · have hq : Tm.asked r.data ≠ 0 := by
              have := HR.out
              rw [show Tm.right r = Tm.good r.ty r.data from rfl, h3] at this
              exact of_decide_eq_true this
            have C7 := Lib.hid (asks_row q m d r.data w1 hm (r1.next hb1 B1.out).row hq)
            have HP := Lib.hid (Tm.put1_3 (s := tk) h3)
            generalize Tm.asked r.data = v at *
            rw [h3] at k0
            clear h3 hq
            go_wp2_with fail
            refine C7.out.mono ?_
            rintro e w7 ⟨rfl, b7⟩
            have hT7 := HT1.out.next b7
            have k3 : w7.cell? ⟨w.heap.size + 1, 4, none⟩ = some (.int .i64 tk.login) := hT7.cell 4
            have f3 := hT7.frozen 4
            have T9 : Hid (TmAt (w7.setCell ⟨w.heap.size + 1, 4, none⟩ (.int .i64 (v : Int))) (w.heap.size + 1) (Tm.put1 tk r)) := by
              show TmAt _ _ _
              rw [HP.out]; exact hT7.set 4 (.int .i64 (v : Int)) _ rfl
            have HZ7 := Lib.hid (HZ1.out.next b7)
            have B7 := Lib.hid (Below.chain B1.out b7)
            clear hT7 b7
            go_wp2
            go_roundw
            case rel =>
              refine ⟨k + 1, by simp, by omega, HOK.out, ?_, ?_, ?_⟩
              · show TmAt _ _ _
                rw [HST.out]; exact T9.out
              · exact (HZ7.out.kept (grown_cell _ _ _ _) (by omega))
              · exact (B7.out.setCell (p := ⟨w.heap.size + 1, 4, none⟩) (by simp) _)
            case measure => simp [intOf]; omega
          · skip
            have k3 : w1.cell? ⟨w.heap.size + 1, 5, none⟩ = some (.bool tk.quality) := HT1.out.cell 5
            have f3 := HT1.out.frozen 5
            have T9 : Hid (TmAt (w1.setCell ⟨w.heap.size + 1, 5, none⟩ (.bool true)) (w.heap.size + 1) (Tm.put1 tk r)) := by
              show TmAt _ _ _
              rw [Tm.put1_4 h4]; exact HT1.out.set 5 (.bool true) _ rfl
            rw [h4] at k0
            clear h4
            go_wp2
            go_roundw
            case rel =>
              refine ⟨k + 1, by simp, by omega, HOK.out, ?_, ?_, ?_⟩
              · show TmAt _ _ _
                rw [HST.out]; exact T9.out
              · exact (HZ1.out.kept (grown_cell _ _ _ _) (by omega))
              · exact (B1.out.setCell (p := ⟨w.heap.size + 1, 5, none⟩) (by simp) _)
            case measure => simp [intOf]; omega
          · have hm2 : m = 4 := by
              have := HR.out
              rw [show Tm.right r = Tm.good r.ty r.data from rfl, h5] at this
              have := of_decide_eq_true this
              omega
            subst hm2
            have k3 : w1.cell? ⟨w.heap.size + 1, 6, none⟩ = some (.bool tk.hasMagic) := HT1.out.cell 6
            have f3 := HT1.out.frozen 6
            have T5 := HT1.out.set 6 (.bool true) { tk with hasMagic := true } rfl
            have k4 : (w1.setCell ⟨w.heap.size + 1, 6, none⟩ (.bool true)).cell? ⟨w.heap.size + 1, 7, none⟩ = some (.int .u32 (tk.magic : Int)) := T5.cell 7
            have f4 := T5.frozen 7
            have B5 := B1.out.setCell (p := ⟨w.heap.size + 1, 6, none⟩) (by simp) (.bool true)
            have e1 : (w1.setCell ⟨w.heap.size + 1, 6, none⟩ (.bool true)).cell? ⟨wr.heap.size, 1, none⟩ = some (.slice q 4 d) := by
              simp only [World.cell?]
              rw [heap_setCell_other _ _ _ _ (by show wr.heap.size ≠ w.heap.size + 1; omega)]
              exact k1
            have C7 := Lib.hid (refGet_row q 4 d r.data (w1.setCell ⟨w.heap.size + 1, 6, none⟩ (.bool true)) hm (by omega) (by omega) (r1.next hb1 B5).row)
            have hlt := Oc.get_lt r.data true
            rw [hm] at hlt
            have HP := Lib.hid (Tm.put1_5 (s := tk) h5)
            generalize Oc.get r.data true = v at *
            have hw1 : (v : Int) % 4294967296 = (v : Int) := by
              omega
            have T9 : Hid (TmAt ((w1.setCell ⟨w.heap.size + 1, 6, none⟩ (.bool true)).setCell ⟨w.heap.size + 1, 7, none⟩ (.int .u32 (v : Int))) (w.heap.size + 1) (Tm.put1 tk r)) := by
              show TmAt _ _ _
              rw [HP.out]; exact T5.set 7 (.int .u32 (v : Int)) _ rfl
            have B6 := Lib.hid (B5.setCell (p := ⟨w.heap.size + 1, 7, none⟩) (by simp) (.int .u32 (v : Int)))
            rw [h5] at k0
            clear h5 HP T5 B5 hlt hm
            go_wp2_with (refine C7.out.mono ?_; rintro e w7 ⟨rfl, h7⟩; rw [h7]; clear h7 C7)
            go_roundw
            case rel =>
              refine ⟨k + 1, by simp, by omega, HOK.out, ?_, ?_, ?_⟩
              · show TmAt _ _ _
                rw [HST.out]; exact T9.out
              · exact ((HZ1.out.kept (grown_cell _ _ _ _) (by omega)).kept (grown_cell _ _ _ _) (by omega))
              · exact B6.out
            case measure => simp [intOf]; omega
          · skip
            have k3 : w1.cell? ⟨w.heap.size + 1, 8, none⟩ = some (.bool tk.pfc) := HT1.out.cell 8
            have f3 := HT1.out.frozen 8
            have T9 : Hid (TmAt (w1.setCell ⟨w.heap.size + 1, 8, none⟩ (.bool true)) (w.heap.size + 1) (Tm.put1 tk r)) := by
              show TmAt _ _ _
              rw [Tm.put1_7 h7]; exact HT1.out.set 8 (.bool true) _ rfl
            rw [h7] at k0
            clear h7
            go_wp2
            go_roundw
            case rel =>
              refine ⟨k + 1, by simp, by omega, HOK.out, ?_, ?_, ?_⟩
              · show TmAt _ _ _
                rw [HST.out]; exact T9.out
              · exact (HZ1.out.kept (grown_cell _ _ _ _) (by omega))
              · exact (B1.out.setCell (p := ⟨w.heap.size + 1, 8, none⟩) (by simp) _)
            case measure => simp [intOf]; omega
          · skip
            have k3 : w1.cell? ⟨w.heap.size + 1, 9, none⟩ = some (.bool tk.acfc) := HT1.out.cell 9
            have f3 := HT1.out.frozen 9
            have T9 : Hid (TmAt (w1.setCell ⟨w.heap.size + 1, 9, none⟩ (.bool true)) (w.heap.size + 1) (Tm.put1 tk r)) := by
              show TmAt _ _ _
              rw [Tm.put1_8 h8]; exact HT1.out.set 9 (.bool true) _ rfl
            rw [h8] at k0
            clear h8
            go_wp2
            go_roundw
            case rel =>
              refine ⟨k + 1, by simp, by omega, HOK.out, ?_, ?_, ?_⟩
              · show TmAt _ _ _
                rw [HST.out]; exact T9.out
              · exact (HZ1.out.kept (grown_cell _ _ _ _) (by omega))
              · exact (B1.out.setCell (p := ⟨w.heap.size + 1, 9, none⟩) (by simp) _)
            case measure => simp [intOf]; omega
      · rw [Bool.not_eq_true] at hr
        have hZ : Z = (Tm.z, false) := HZ.out.trans (Tm.read_no (HWR.out hr))
        subst hZ
        clear HZ HWR HAG HOS HST
        go_wp2_with (refine wpList_load_mid rfl 24 (.tmp 16) rfl b (off + k * 2) rfl (ocells r (.slice q m d)) _ RG2.out Try.underlying24 rfl (infoOptN _ _) ?_; simp only [ocells])
        have BA := Lib.hid (Below.chain hbw (below_one wr (.cells #[.int .i64 r.ty, .slice q m d] 24)).drew)
        have RG : (wr.alloc (.cells #[.int .i64 r.ty, .slice q m d] 24)).drew.rangeAt wr.heap.size 0 (ocells r (.slice q m d)) := by
          intro j u hu
          rw [Nat.zero_add]
          rw [show (wr.alloc (.cells #[.int .i64 r.ty, .slice q m d] 24)).drew.cell? ⟨wr.heap.size, j, none⟩ = (wr.alloc (.cells #[.int .i64 r.ty, .slice q m d] 24)).cell? ⟨wr.heap.size, j, none⟩ from rfl, cell_of_row _ _ _ _ _ _ (heap_alloc_new wr _)]
          simpa [ocells] using hu
        have hs : wr.heap.size < (wr.alloc (.cells #[.int .i64 r.ty, .slice q m d] 24)).drew.heap.size := by show wr.heap.size < (wr.alloc _).heap.size; simp
        have HTA := Lib.hid (HT.out.next (below_one wr (.cells #[.int .i64 r.ty, .slice q m d] 24)).drew)
        have HZA := Lib.hid (HZ0.out.next (below_one wr (.cells #[.int .i64 r.ty, .slice q m d] 24)).drew)
        refine held_start (S := fun W => W.rangeAt wr.heap.size 0 (ocells r (.slice q m d))) 12 (by kernel_rfl) rfl ?_
        generalize (wr.alloc (.cells #[.int .i64 r.ty, .slice q m d] 24)).drew = WA at *
        have RR := Lib.hid (r1.next hb1 BA.out).row
        refine held_take 0 (v := .agg (ocells r (.slice q m d)).toArray) rfl (by kernel_rfl) (by kernel_rfl) (by kernel_rfl) (fun _ _ _ h => h) (by assumption) (by rfl) (fun W hW => run_load_mid (.tmp 6) rfl wr.heap.size 0 rfl r q m d hW) ?_
        simp only [Act.put, List.setIfInBounds_toArray, List.set_cons_zero, List.set_cons_succ]
        refine held_call 1 (f := 13) (args := #[.agg (ocells r (.slice q m d)).toArray]) rfl (by kernel_rfl) (by rfl) (by go_simp) ?_
        refine (refRight_any r q m d WA hm RR.out).mono ?_
        rintro e w1 ⟨rfl, b1⟩
        have hR1 : w1.rangeAt wr.heap.size 0 (ocells r (.slice q m d)) := range_next RG hs b1
        refine ⟨_, rfl, hR1, ?_⟩
        simp only [Act.put, List.setIfInBounds_toArray, List.set_cons_zero, List.set_cons_succ]
        have B1 := Lib.hid (Below.chain BA.out b1)
        have HT1 := Lib.hid (HTA.out.next b1)
        have HZ1 := Lib.hid (HZA.out.next b1)
        clear RG hs b1 HTA HZA RR BA HT HZ0
        rw [hr]
        refine held_take 2 (v := ?_) rfl (by kernel_rfl) (by kernel_rfl) (by kernel_rfl) (fun _ _ _ h => h) (by assumption) (by rfl) ?_ ?_
        rotate_left
        · (intro W hW; go_simp; try with_reducible rfl)
        simp only [Act.put, List.setIfInBounds_toArray, List.set_cons_zero, List.set_cons_succ]
        refine held_take 3 (v := ?_) rfl (by kernel_rfl) (by kernel_rfl) (by kernel_rfl) (fun _ _ _ h => h) (by assumption) (by rfl) ?_ ?_
        rotate_left
        · (intro W hW; go_simp; try with_reducible rfl)
        simp only [Act.put, List.setIfInBounds_toArray, List.set_cons_zero, List.set_cons_succ]
        refine held_skip 4 rfl (by kernel_rfl) (by kernel_rfl) (by kernel_rfl) (fun _ _ _ h => h) (by assumption) (by rfl) ?_
        simp only [Act.put, List.setIfInBounds_toArray, List.set_cons_zero, List.set_cons_succ]
        refine held_skip 5 rfl (by kernel_rfl) (by kernel_rfl) (by kernel_rfl) (fun _ _ _ h => h) (by assumption) (by rfl) ?_
        simp only [Act.put, List.setIfInBounds_toArray, List.set_cons_zero, List.set_cons_succ]
        refine held_skip 6 rfl (by kernel_rfl) (by kernel_rfl) (by kernel_rfl) (fun _ _ _ h => h) (by assumption) (by rfl) ?_
        simp only [Act.put, List.setIfInBounds_toArray, List.set_cons_zero, List.set_cons_succ]
        refine held_skip 7 rfl (by kernel_rfl) (by kernel_rfl) (by kernel_rfl) (fun _ _ _ h => h) (by assumption) (by rfl) ?_
        simp only [Act.put, List.setIfInBounds_toArray, List.set_cons_zero, List.set_cons_succ]
        refine held_skip 8 rfl (by kernel_rfl) (by kernel_rfl) (by kernel_rfl) (fun _ _ _ h => h) (by assumption) (by rfl) ?_
        simp only [Act.put, List.setIfInBounds_toArray, List.set_cons_zero, List.set_cons_succ]
        refine held_skip 9 rfl (by kernel_rfl) (by kernel_rfl) (by kernel_rfl) (fun _ _ _ h => h) (by assumption) (by rfl) ?_
        simp only [Act.put, List.setIfInBounds_toArray, List.set_cons_zero, List.set_cons_succ]
        refine held_skip 10 rfl (by kernel_rfl) (by kernel_rfl) (by kernel_rfl) (fun _ _ _ h => h) (by assumption) (by rfl) ?_
        simp only [Act.put, List.setIfInBounds_toArray, List.set_cons_zero, List.set_cons_succ]
        refine held_take 11 (v := ?_) rfl (by kernel_rfl) (by kernel_rfl) (by kernel_rfl) (fun _ _ _ h => h) (by assumption) (by rfl) ?_ ?_
        rotate_left
        · (intro W hW; go_simp; try with_reducible rfl)
        simp only [Act.put, List.setIfInBounds_toArray, List.set_cons_zero, List.set_cons_succ]
        refine held_done (by kernel_rfl) ?_
        go_wp2_with (refine wpList_store_tm rfl _ _ rfl w.heap.size Tm.z _ rfl rfl HZ1.out rfl ?_)
        exact bodyPost_ret (results_cell_tmp_tm Try.results16 _ _ _ Tm.z false rfl rfl (setRow_heap _ _ _ _ _ _ HZ1.out)) rfl ⟨rfl, below_setRow B1.out (Nat.le_refl _) _⟩
    · have hall : L.take k = L := List.take_of_length_le (by rw [HL.out]; omega)
      rw [hall] at HO HT
      have hZ : Z = (Tm.told L, true) := HZ.out.trans (Tm.read_yes HO.out)
      obtain ⟨tl, htl⟩ : ∃ tl, Tm.told L = tl := ⟨_, rfl⟩
      rw [htl] at hZ HT
      subst hZ
      have B2 := Lib.hid hbw
      clear htl hall HZ HO hbw
      go_wp2_with (first
        | (refine wpList_load_row rfl 32 (.tmp 4) rfl (w.heap.size + 1) rfl 32 (tcells tl).toArray (0, 0) _ HT.out Try.underlying32 rfl infoTm ?_)
        | (refine wpList_store_tm rfl _ _ rfl w.heap.size tl _ rfl rfl HZ0.out rfl ?_))
      exact bodyPost_ret (results_cell_tmp_tm Try.results16 _ _ _ tl true rfl rfl (setRow_heap _ _ _ _ _ _ HZ0.out)) rfl ⟨rfl, below_setRow B2.out (Nat.le_refl _) _⟩
end Go.Proofs.Ytnhjpbhndckfgaa
