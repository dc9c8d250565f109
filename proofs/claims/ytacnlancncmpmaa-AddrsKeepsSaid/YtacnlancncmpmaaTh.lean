/- Contract of the document's Read. -/
import Derived.Test.YtacnlancncmpmaaTf
namespace Go.Proofs.Ytacnlancncmpmaa
open Go.RowKit Go.Maps S2 S12

/-- Some of the bytes of an address have been told. -/
def Ad.mix (y o : Ad.B8) (j : Nat) : Ad.B8 := ⟨if 0 < j then y.a else o.a, if 1 < j then y.b else o.b, if 2 < j then y.c else o.c, if 3 < j then y.d else o.d, if 4 < j then y.e else o.e, if 5 < j then y.f else o.f, if 6 < j then y.g else o.g, if 7 < j then y.h else o.h⟩
def Ad.idTo (t : Ad.T) (y : Ad.B8) (j : Nat) : Ad.T := { t with hasId := true, id := Ad.mix y t.id j }

theorem Ad.right_len {P : Int} {x : Ot.O} (h : Ad.right P x = true) : x.data.length = if x.ty = 1 then 8 else 4 := by
  have h2 : Ad.fits x.ty x.data = true := by
    unfold Ad.right Ad.good at h
    rw [Bool.and_eq_true] at h
    exact h.2
  unfold Ad.fits at h2
  split at h2
  · rename_i e; rw [if_pos e]; simp at h2; exact h2.1
  · rename_i e
    rw [if_neg e]
    split at h2
    · simp at h2; exact h2.1
    · simpa using h2
theorem grown_keep {w w' : World} {g b i : Nat} {v : Value} (hg : w.grownBy w' (some g)) (hb : b < w.heap.size) (hne : b ≠ g) (h : w.cell? ⟨b, i, none⟩ = some v) : w'.cell? ⟨b, i, none⟩ = some v := by
  have e := hg.block b hb (fun e => hne (Option.some.inj e))
  simp only [World.cell?] at h ⊢
  rw [e]; exact h

theorem below_kept {B g : Nat} {w w1 w2 : World} (h : Below B w w1) (hg : w1.grownBy w2 (some g)) (hs : B ≤ w1.heap.size) (hb : B ≤ g) : Below B w w2 := Below.grown h hg hs (fun k e => by cases e; exact hb)

set_option maxRecDepth 100000 in
set_option maxHeartbeats 4000000 in
theorem refRead_any (P : Int) (a : Option Addr) (n cap : Nat) (L : List Ot.O) (w : World) (hL : L.length = n) (hn : n ≤ 1000000) (hc : n ≤ cap) (h : OptsAt w a L) :
    Calls Try.prog 16 #[.int .i64 P, .slice a n cap] w fun e w' => ToldRes w w' e (Ad.read P L) := by
  obtain ⟨Z, hZ⟩ : ∃ Z, Ad.read P L = Z := ⟨_, rfl⟩
  rw [hZ]
  have HZ := Lib.hid hZ.symm
  have H := Lib.hid h
  have HL := Lib.hid hL
  clear h hL hZ
  have BW := Lib.hid (Below.chain (below_one w (.cells (acells Ad.z).toArray 35)) (below_one (w.alloc (.cells (acells Ad.z).toArray 35)) (.cells (acells Ad.z).toArray 35)))
  have T1 : Hid (TmAt ((w.alloc (.cells (acells Ad.z).toArray 35)).alloc (.cells (acells Ad.z).toArray 35)) (w.heap.size + 1) Ad.z) := by
    have := heap_alloc_new (w.alloc (.cells (acells Ad.z).toArray 35)) (.cells (acells Ad.z).toArray 35)
    rw [show (w.alloc (.cells (acells Ad.z).toArray 35)).heap.size = w.heap.size + 1 by simp] at this
    exact this
  have T0 : Hid (TmAt ((w.alloc (.cells (acells Ad.z).toArray 35)).alloc (.cells (acells Ad.z).toArray 35)) w.heap.size Ad.z) := by
    have := heap_alloc_new w (.cells (acells Ad.z).toArray 35)
    exact TmAt.next (w := w.alloc (.cells (acells Ad.z).toArray 35)) this (below_one _ _)
  have S2' : ((w.alloc (.cells (acells Ad.z).toArray 35)).alloc (.cells (acells Ad.z).toArray 35)).heap.size = w.heap.size + 2 := by simp
  go_enter Try.func16, Try.ntmps16
  go_wp2_with (refine wpList_store_ad rfl _ _ rfl (w.heap.size + 1) Ad.z _ rfl rfl T1 rfl ?_; show wpList _ _ _ _ _ (((w.alloc (.cells (acells Ad.z).toArray 35)).alloc (.cells (acells Ad.z).toArray 35)).setRow (w.heap.size + 1) (acells Ad.z).toArray); rw [setRow_self _ _ _ _ _ T1]; generalize ((w.alloc (.cells (acells Ad.z).toArray 35)).alloc (.cells (acells Ad.z).toArray 35)) = W2 at BW T1 T0 S2' ⊢)
  have hs2 : w.heap.size + 1 < W2.heap.size := by omega
  clear S2'
  go_loopw [7] (fun i wr => ∃ k : Nat, i = .int .i64 (k : Int) ∧ k ≤ n ∧ Hid (Ad.okl P (L.take k)) ∧ Hid (TmAt wr (w.heap.size + 1) (Ad.told (L.take k))) ∧ Hid (TmAt wr w.heap.size Ad.z) ∧ Below w.heap.size w wr) (fun i _ => n - (intOf i).toNat)
  case atStart => exact ⟨0, rfl, Nat.zero_le _, by rw [List.take_zero]; exact Ad.okl_nil P, by rw [List.take_zero]; exact T1, T0, BW.out⟩
  case round =>
    obtain ⟨k, rfl, hk, HO, HT, HZ0, hbw⟩ := hrel
    by_cases hlt : (k : Int) < (n : Int)
    · have hkc : k ≤ cap := by omega
      have hkn : k < n := by omega
      have hkL : k < L.length := by rw [HL.out]; omega
      obtain ⟨b, off, q, d, rfl, r1, hb1⟩ := H.out.at k hkL
      have HST := Lib.hid (Ad.told_step hkL)
      have HOS := Lib.hid (fun hr hf => Ad.okl_step P hkL HO.out hr hf)
      have HWR := Lib.hid (Ad.okl_wrong P hkL)
      have HAG := Lib.hid (Ad.okl_again P hkL)
      clear HO
      generalize L[k] = r at *
      generalize Ad.told (L.take k) = tk at *
      obtain ⟨m, hm⟩ : ∃ m, r.data.length = m := ⟨_, rfl⟩
      have RG0 := (r1.next hb1 hbw).range
      rw [hm] at RG0
      have RG2 := Lib.hid RG0
      have hgl := HT.out.lt
      clear RG0
      by_cases hr : Ad.right P r = true
      · by_cases hf : ∃ x ∈ L.take k, x.ty = r.ty
        · have hZ : Z = (Ad.z, false) := HZ.out.trans (Ad.read_no P (HAG.out hf))
          subst hZ
          obtain ⟨j, hj⟩ := find_again (L.take k) r.ty hf
          have HJ := Lib.hid (fun W (hB : Below w.heap.size w W) => hj (some ⟨b, off, none⟩) k cap W (by rw [List.length_take]; omega) (by omega) ((H.out.next hB).take k))
          clear hj hf HZ HWR HAG HOS HST
          go_wp2_with (refine wpList_load_mid rfl 24 (.tmp 20) rfl b (off + k * 2) rfl (ocells r (.slice q m d)) _ RG2.out Try.underlying24 rfl (infoOptN _ _) ?_; simp only [ocells])
          have BA := Lib.hid (Below.chain hbw (below_one wr (.cells #[.int .i64 r.ty, .slice q m d] 24)).drew)
          have RG : (wr.alloc (.cells #[.int .i64 r.ty, .slice q m d] 24)).drew.rangeAt wr.heap.size 0 (ocells r (.slice q m d)) := by
            intro j u hu
            rw [Nat.zero_add]
            rw [show (wr.alloc (.cells #[.int .i64 r.ty, .slice q m d] 24)).drew.cell? ⟨wr.heap.size, j, none⟩ = (wr.alloc (.cells #[.int .i64 r.ty, .slice q m d] 24)).cell? ⟨wr.heap.size, j, none⟩ from rfl, cell_of_row _ _ _ _ _ _ (heap_alloc_new wr _)]
            simpa [ocells] using hu
          have hs : wr.heap.size < (wr.alloc (.cells #[.int .i64 r.ty, .slice q m d] 24)).drew.heap.size := by show wr.heap.size < (wr.alloc _).heap.size; simp
          have HTA := Lib.hid (HT.out.next (below_one wr (.cells #[.int .i64 r.ty, .slice q m d] 24)).drew)
          have HZA := Lib.hid (HZ0.out.next (below_one wr (.cells #[.int .i64 r.ty, .slice q m d] 24)).drew)
          refine held_start (S := fun W => W.rangeAt wr.heap.size 0 (ocells r (.slice q m d))) 13 (by kernel_rfl) rfl ?_
          generalize (wr.alloc (.cells #[.int .i64 r.ty, .slice q m d] 24)).drew = WA at *
          have RR := Lib.hid (r1.next hb1 BA.out).row
          refine held_take 0 (v := ?_) rfl (by kernel_rfl) (by kernel_rfl) (by kernel_rfl) (fun _ _ _ h => h) (by assumption) (by rfl) ?_ ?_
          rotate_left
          · (intro W hW; go_simp; try with_reducible rfl)
          simp only [Act.put, List.setIfInBounds_toArray, List.set_cons_zero, List.set_cons_succ]
          refine held_take 1 (v := .agg (ocells r (.slice q m d)).toArray) rfl (by kernel_rfl) (by kernel_rfl) (by kernel_rfl) (fun _ _ _ h => h) (by assumption) (by rfl) (fun W hW => run_load_mid (.tmp 8) rfl wr.heap.size 0 rfl r q m d hW) ?_
          simp only [Act.put, List.setIfInBounds_toArray, List.set_cons_zero, List.set_cons_succ]
          refine held_call 2 (f := 13) (args := #[.int .i64 P, .agg (ocells r (.slice q m d)).toArray]) rfl (by kernel_rfl) (by rfl) (by go_simp) ?_
          refine (refRight_any P r q m d WA hm RR.out).mono ?_
          rintro e w1 ⟨rfl, b1⟩
          have hR1 : w1.rangeAt wr.heap.size 0 (ocells r (.slice q m d)) := range_next RG hs b1
          refine ⟨_, rfl, hR1, ?_⟩
          simp only [Act.put, List.setIfInBounds_toArray, List.set_cons_zero, List.set_cons_succ]
          have B1 := Lib.hid (Below.chain BA.out b1)
          have HT1 := Lib.hid (HTA.out.next b1)
          have HZ1 := Lib.hid (HZA.out.next b1)
          clear RG hs b1 HTA HZA RR BA HT HZ0
          rw [hr]
          refine held_take 3 (v := ?_) rfl (by kernel_rfl) (by kernel_rfl) (by kernel_rfl) (fun _ _ _ h => h) (by assumption) (by rfl) ?_ ?_
          rotate_left
          · (intro W hW; go_simp; try with_reducible rfl)
          simp only [Act.put, List.setIfInBounds_toArray, List.set_cons_zero, List.set_cons_succ]
          refine held_take 4 (v := ?_) rfl (by kernel_rfl) (by kernel_rfl) (by kernel_rfl) (fun _ _ _ h => h) (by assumption) (by rfl) ?_ ?_
          rotate_left
          · (intro W hW; go_simp; try with_reducible rfl)
          simp only [Act.put, List.setIfInBounds_toArray, List.set_cons_zero, List.set_cons_succ]
          refine held_take 5 (v := ?_) rfl (by kernel_rfl) (by kernel_rfl) (by kernel_rfl) (fun _ _ _ h => h) (by assumption) (by rfl) ?_ ?_
          rotate_left
          · (intro W hW; go_simp; try with_reducible rfl)
          simp only [Act.put, List.setIfInBounds_toArray, List.set_cons_zero, List.set_cons_succ]
          refine held_take 6 (v := ?_) rfl (by kernel_rfl) (by kernel_rfl) (by kernel_rfl) (fun _ _ _ h => h) (by assumption) (by rfl) ?_ ?_
          rotate_left
          · (intro W hW; go_simp; try with_reducible rfl)
          simp only [Act.put, List.setIfInBounds_toArray, List.set_cons_zero, List.set_cons_succ]
          refine held_take 7 (v := ?_) rfl (by kernel_rfl) (by kernel_rfl) (by kernel_rfl) (fun _ _ _ h => h) (by assumption) (by rfl) ?_ ?_
          rotate_left
          · (intro W hW; go_simp; try with_reducible rfl)
          simp only [Act.put, List.setIfInBounds_toArray, List.set_cons_zero, List.set_cons_succ]
          refine held_take 8 (v := ?_) rfl (by kernel_rfl) (by kernel_rfl) (by kernel_rfl) (fun _ _ _ h => h) (by assumption) (by rfl) ?_ ?_
          rotate_left
          · (intro W hW; go_simp; try with_reducible rfl)
          simp only [Act.put, List.setIfInBounds_toArray, List.set_cons_zero, List.set_cons_succ]
          refine held_take 9 (v := ?_) rfl (by kernel_rfl) (by kernel_rfl) (by kernel_rfl) (fun _ _ _ h => h) (by assumption) (by rfl) ?_ ?_
          rotate_left
          · (intro W hW; have e0 : W.cell? ⟨wr.heap.size, 0, none⟩ = some (.int .i64 r.ty) := hW 0 _ rfl; go_simp; try with_reducible rfl)
          simp only [Act.put, List.setIfInBounds_toArray, List.set_cons_zero, List.set_cons_succ]
          refine held_call 10 (f := 24) (args := #[.slice (some ⟨b, off, none⟩) k cap, .int .i64 r.ty]) rfl (by kernel_rfl) (by rfl) (by go_simp) ?_
          refine (HJ.out w1 B1.out).mono ?_
          rintro e w2 ⟨rfl, h2⟩; rw [h2]; clear h2
          refine ⟨_, rfl, hR1, ?_⟩
          simp only [Act.put, List.setIfInBounds_toArray, List.set_cons_zero, List.set_cons_succ]
          refine held_take 11 (v := ?_) rfl (by kernel_rfl) (by kernel_rfl) (by kernel_rfl) (fun _ _ _ h => h) (by assumption) (by rfl) ?_ ?_
          rotate_left
          · (intro W hW; go_simp; try with_reducible rfl)
          simp only [Act.put, List.setIfInBounds_toArray, List.set_cons_zero, List.set_cons_succ]
          refine held_take 12 (v := ?_) rfl (by kernel_rfl) (by kernel_rfl) (by kernel_rfl) (fun _ _ _ h => h) (by assumption) (by rfl) ?_ ?_
          rotate_left
          · (intro W hW; go_simp; try with_reducible rfl)
          simp only [Act.put, List.setIfInBounds_toArray, List.set_cons_zero, List.set_cons_succ]
          refine held_done (by kernel_rfl) ?_
          go_wp2_with (refine wpList_store_ad rfl _ _ rfl w.heap.size Ad.z _ rfl rfl HZ1.out rfl ?_)
          exact bodyPost_ret (results_cell_tmp_tm Try.results16 _ _ _ Ad.z false rfl rfl (setRow_heap _ _ _ _ _ _ HZ1.out)) rfl ⟨rfl, below_setRow B1.out (Nat.le_refl _) _⟩
        · have hf2 : ∀ x ∈ L.take k, x.ty ≠ r.ty := fun x hx e => hf ⟨x, hx, e⟩
          have HOK := Lib.hid (HOS.out hr hf2)
          have HJ := Lib.hid (fun W (hB : Below w.heap.size w W) => find_first (some ⟨b, off, none⟩) k cap (L.take k) r.ty W (by rw [List.length_take]; omega) (by omega) ((H.out.next hB).take k) hf2)
          clear hf hf2 HZ HWR HAG HOS
          have HR := Lib.hid hr
          have hkn := Ad.right_known P hr
          go_wp2_with (refine wpList_load_mid rfl 24 (.tmp 20) rfl b (off + k * 2) rfl (ocells r (.slice q m d)) _ RG2.out Try.underlying24 rfl (infoOptN _ _) ?_; simp only [ocells])
          have BA := Lib.hid (Below.chain hbw (below_one wr (.cells #[.int .i64 r.ty, .slice q m d] 24)).drew)
          have RG : (wr.alloc (.cells #[.int .i64 r.ty, .slice q m d] 24)).drew.rangeAt wr.heap.size 0 (ocells r (.slice q m d)) := by
            intro j u hu
            rw [Nat.zero_add]
            rw [show (wr.alloc (.cells #[.int .i64 r.ty, .slice q m d] 24)).drew.cell? ⟨wr.heap.size, j, none⟩ = (wr.alloc (.cells #[.int .i64 r.ty, .slice q m d] 24)).cell? ⟨wr.heap.size, j, none⟩ from rfl, cell_of_row _ _ _ _ _ _ (heap_alloc_new wr _)]
            simpa [ocells] using hu
          have hs : wr.heap.size < (wr.alloc (.cells #[.int .i64 r.ty, .slice q m d] 24)).drew.heap.size := by show wr.heap.size < (wr.alloc _).heap.size; simp
          have HTA := Lib.hid (HT.out.next (below_one wr (.cells #[.int .i64 r.ty, .slice q m d] 24)).drew)
          have HZA := Lib.hid (HZ0.out.next (below_one wr (.cells #[.int .i64 r.ty, .slice q m d] 24)).drew)
          refine held_start (S := fun W => W.rangeAt wr.heap.size 0 (ocells r (.slice q m d))) 13 (by kernel_rfl) rfl ?_
          generalize (wr.alloc (.cells #[.int .i64 r.ty, .slice q m d] 24)).drew = WA at *
          have RR := Lib.hid (r1.next hb1 BA.out).row
          refine held_take 0 (v := ?_) rfl (by kernel_rfl) (by kernel_rfl) (by kernel_rfl) (fun _ _ _ h => h) (by assumption) (by rfl) ?_ ?_
          rotate_left
          · (intro W hW; go_simp; try with_reducible rfl)
          simp only [Act.put, List.setIfInBounds_toArray, List.set_cons_zero, List.set_cons_succ]
          refine held_take 1 (v := .agg (ocells r (.slice q m d)).toArray) rfl (by kernel_rfl) (by kernel_rfl) (by kernel_rfl) (fun _ _ _ h => h) (by assumption) (by rfl) (fun W hW => run_load_mid (.tmp 8) rfl wr.heap.size 0 rfl r q m d hW) ?_
          simp only [Act.put, List.setIfInBounds_toArray, List.set_cons_zero, List.set_cons_succ]
          refine held_call 2 (f := 13) (args := #[.int .i64 P, .agg (ocells r (.slice q m d)).toArray]) rfl (by kernel_rfl) (by rfl) (by go_simp) ?_
          refine (refRight_any P r q m d WA hm RR.out).mono ?_
          rintro e w1 ⟨rfl, b1⟩
          have hR1 : w1.rangeAt wr.heap.size 0 (ocells r (.slice q m d)) := range_next RG hs b1
          refine ⟨_, rfl, hR1, ?_⟩
          simp only [Act.put, List.setIfInBounds_toArray, List.set_cons_zero, List.set_cons_succ]
          have B1 := Lib.hid (Below.chain BA.out b1)
          have HT1 := Lib.hid (HTA.out.next b1)
          have HZ1 := Lib.hid (HZA.out.next b1)
          clear RG hs b1 HTA HZA RR BA HT HZ0
          rw [hr]
          clear hr
          refine held_take 3 (v := ?_) rfl (by kernel_rfl) (by kernel_rfl) (by kernel_rfl) (fun _ _ _ h => h) (by assumption) (by rfl) ?_ ?_
          rotate_left
          · (intro W hW; go_simp; try with_reducible rfl)
          simp only [Act.put, List.setIfInBounds_toArray, List.set_cons_zero, List.set_cons_succ]
          refine held_take 4 (v := ?_) rfl (by kernel_rfl) (by kernel_rfl) (by kernel_rfl) (fun _ _ _ h => h) (by assumption) (by rfl) ?_ ?_
          rotate_left
          · (intro W hW; go_simp; try with_reducible rfl)
          simp only [Act.put, List.setIfInBounds_toArray, List.set_cons_zero, List.set_cons_succ]
          refine held_take 5 (v := ?_) rfl (by kernel_rfl) (by kernel_rfl) (by kernel_rfl) (fun _ _ _ h => h) (by assumption) (by rfl) ?_ ?_
          rotate_left
          · (intro W hW; go_simp; try with_reducible rfl)
          simp only [Act.put, List.setIfInBounds_toArray, List.set_cons_zero, List.set_cons_succ]
          refine held_take 6 (v := ?_) rfl (by kernel_rfl) (by kernel_rfl) (by kernel_rfl) (fun _ _ _ h => h) (by assumption) (by rfl) ?_ ?_
          rotate_left
          · (intro W hW; go_simp; try with_reducible rfl)
          simp only [Act.put, List.setIfInBounds_toArray, List.set_cons_zero, List.set_cons_succ]
          refine held_take 7 (v := ?_) rfl (by kernel_rfl) (by kernel_rfl) (by kernel_rfl) (fun _ _ _ h => h) (by assumption) (by rfl) ?_ ?_
          rotate_left
          · (intro W hW; go_simp; try with_reducible rfl)
          simp only [Act.put, List.setIfInBounds_toArray, List.set_cons_zero, List.set_cons_succ]
          refine held_take 8 (v := ?_) rfl (by kernel_rfl) (by kernel_rfl) (by kernel_rfl) (fun _ _ _ h => h) (by assumption) (by rfl) ?_ ?_
          rotate_left
          · (intro W hW; go_simp; try with_reducible rfl)
          simp only [Act.put, List.setIfInBounds_toArray, List.set_cons_zero, List.set_cons_succ]
          refine held_take 9 (v := ?_) rfl (by kernel_rfl) (by kernel_rfl) (by kernel_rfl) (fun _ _ _ h => h) (by assumption) (by rfl) ?_ ?_
          rotate_left
          · (intro W hW; have e0 : W.cell? ⟨wr.heap.size, 0, none⟩ = some (.int .i64 r.ty) := hW 0 _ rfl; go_simp; try with_reducible rfl)
          simp only [Act.put, List.setIfInBounds_toArray, List.set_cons_zero, List.set_cons_succ]
          refine held_call 10 (f := 24) (args := #[.slice (some ⟨b, off, none⟩) k cap, .int .i64 r.ty]) rfl (by kernel_rfl) (by rfl) (by go_simp) ?_
          refine (HJ.out w1 B1.out).mono ?_
          rintro e w2 ⟨rfl, h2⟩; rw [h2]; clear h2
          refine ⟨_, rfl, hR1, ?_⟩
          simp only [Act.put, List.setIfInBounds_toArray, List.set_cons_zero, List.set_cons_succ]
          refine held_take 11 (v := ?_) rfl (by kernel_rfl) (by kernel_rfl) (by kernel_rfl) (fun _ _ _ h => h) (by assumption) (by rfl) ?_ ?_
          rotate_left
          · (intro W hW; go_simp; try with_reducible rfl)
          simp only [Act.put, List.setIfInBounds_toArray, List.set_cons_zero, List.set_cons_succ]
          refine held_take 12 (v := ?_) rfl (by kernel_rfl) (by kernel_rfl) (by kernel_rfl) (fun _ _ _ h => h) (by assumption) (by rfl) ?_ ?_
          rotate_left
          · (intro W hW; go_simp; try with_reducible rfl)
          simp only [Act.put, List.setIfInBounds_toArray, List.set_cons_zero, List.set_cons_succ]
          refine held_done (by kernel_rfl) ?_
          have k0 : w1.cell? ⟨wr.heap.size, 0, none⟩ = some (.int .i64 r.ty) := hR1 0 _ rfl
          have k1 : w1.cell? ⟨wr.heap.size, 1, none⟩ = some (.slice q m d) := hR1 1 _ rfl
          clear hR1 HJ RG2
          rcases Ad.known_cases P hkn with ⟨rfl, h1⟩ | ⟨rfl, ht⟩ <;> clear hkn
          · have hl8 := Ad.right_len HR.out
            rw [if_pos h1] at hl8
            obtain ⟨y, hy⟩ := Ad.eight_of hl8
            have hm8 : m = 8 := by omega
            subst hm8
            have HP : Hid (Ad.put1 tk r = Ad.idTo tk y 8) := by
              show _ = _
              simp only [Ad.put1, if_pos h1, hy]
              rfl
            have HROW := Lib.hid (fun W (hB : Below w.heap.size w W) => (hy ▸ (r1.next hb1 hB).row : RowAt W q d y.list))
            obtain ⟨bq, oq, rfl⟩ := r1.row.some (by omega)
            rw [h1] at k0
            have hgo : wr.heap.size < w1.heap.size := World.block_lt_of_cell? w1 _ k0
            clear r1 hl8 hy h1 hm HR
            generalize wr.heap.size = go at *
            have k3 : w1.cell? ⟨w.heap.size + 1, 28, none⟩ = some (.bool tk.hasId) := HT1.out.cell 28
            have f3 := HT1.out.frozen 28
            have T2 := Lib.hid (HT1.out.set 28 (.bool true) (Ad.idTo tk y 0) rfl)
            have G2 := Lib.hid (grown_cell w1 (w.heap.size + 1) 28 (.bool true))
            go_wp2
            generalize w1.setCell ⟨w.heap.size + 1, 28, none⟩ (.bool true) = w2 at *
            clear k3 f3 hbw wr
            go_loopw [9] (fun i W => ∃ j : Nat, i = .int .i64 (j : Int) ∧ j ≤ 8 ∧ Hid (TmAt W (w.heap.size + 1) (Ad.idTo tk y j)) ∧ Hid (w1.grownBy W (some (w.heap.size + 1)))) (fun i _ => 8 - (intOf i).toNat)
            case atStart => exact ⟨0, rfl, by omega, T2.out, G2.out⟩
            case round =>
              obtain ⟨j, rfl, hj, HTj, HGj⟩ := hrel
              have BJ := Below.grown B1.out HGj.out B1.out.size (fun k e => by cases e; omega)
              by_cases hlt8 : (j : Int) < 8
              · have kD := grown_keep HGj.out hgo (by omega) k1
                have hrow := HROW.out _ BJ
                have hj8 : j = 0 ∨ j = 1 ∨ j = 2 ∨ j = 3 ∨ j = 4 ∨ j = 5 ∨ j = 6 ∨ j = 7 := by omega
                clear T2 G2 hlt8 hj
                rcases hj8 with rfl | rfl | rfl | rfl | rfl | rfl | rfl | rfl
                · skip
                  have q0 : wr.cell? ⟨bq, oq, none⟩ = some (.int .u8 (y.a.toNat : Int)) := hrow.cell _ rfl 0 _ rfl
                  have k9 : wr.cell? ⟨w.heap.size + 1, 29, none⟩ = some (.int .u8 ((Ad.mix y tk.id 0).a.toNat : Int)) := HTj.out.cell 29
                  have f9 := HTj.out.frozen 29
                  have T9 := Lib.hid (HTj.out.set 29 (.int .u8 (y.a.toNat : Int)) (Ad.idTo tk y 1) rfl)
                  have G9 := Lib.hid (grown_trans HGj.out (grown_cell _ _ 29 (.int .u8 (y.a.toNat : Int))))
                  clear hrow BJ
                  go_wp2
                  go_roundw
                  case rel => exact ⟨1, rfl, by omega, T9.out, G9.out⟩
                  case measure => simp [intOf]
                · skip
                  have q0 : wr.cell? ⟨bq, oq + 1, none⟩ = some (.int .u8 (y.b.toNat : Int)) := hrow.cell _ rfl 1 _ rfl
                  have k9 : wr.cell? ⟨w.heap.size + 1, 30, none⟩ = some (.int .u8 ((Ad.mix y tk.id 1).b.toNat : Int)) := HTj.out.cell 30
                  have f9 := HTj.out.frozen 30
                  have T9 := Lib.hid (HTj.out.set 30 (.int .u8 (y.b.toNat : Int)) (Ad.idTo tk y 2) rfl)
                  have G9 := Lib.hid (grown_trans HGj.out (grown_cell _ _ 30 (.int .u8 (y.b.toNat : Int))))
                  clear hrow BJ
                  go_wp2
                  go_roundw
                  case rel => exact ⟨2, rfl, by omega, T9.out, G9.out⟩
                  case measure => simp [intOf]
                · skip
                  have q0 : wr.cell? ⟨bq, oq + 2, none⟩ = some (.int .u8 (y.c.toNat : Int)) := hrow.cell _ rfl 2 _ rfl
                  have k9 : wr.cell? ⟨w.heap.size + 1, 31, none⟩ = some (.int .u8 ((Ad.mix y tk.id 2).c.toNat : Int)) := HTj.out.cell 31
                  have f9 := HTj.out.frozen 31
                  have T9 := Lib.hid (HTj.out.set 31 (.int .u8 (y.c.toNat : Int)) (Ad.idTo tk y 3) rfl)
                  have G9 := Lib.hid (grown_trans HGj.out (grown_cell _ _ 31 (.int .u8 (y.c.toNat : Int))))
                  clear hrow BJ
                  go_wp2
                  go_roundw
                  case rel => exact ⟨3, rfl, by omega, T9.out, G9.out⟩
                  case measure => simp [intOf]
                · skip
                  have q0 : wr.cell? ⟨bq, oq + 3, none⟩ = some (.int .u8 (y.d.toNat : Int)) := hrow.cell _ rfl 3 _ rfl
                  have k9 : wr.cell? ⟨w.heap.size + 1, 32, none⟩ = some (.int .u8 ((Ad.mix y tk.id 3).d.toNat : Int)) := HTj.out.cell 32
                  have f9 := HTj.out.frozen 32
                  have T9 := Lib.hid (HTj.out.set 32 (.int .u8 (y.d.toNat : Int)) (Ad.idTo tk y 4) rfl)
                  have G9 := Lib.hid (grown_trans HGj.out (grown_cell _ _ 32 (.int .u8 (y.d.toNat : Int))))
                  clear hrow BJ
                  go_wp2
                  go_roundw
                  case rel => exact ⟨4, rfl, by omega, T9.out, G9.out⟩
                  case measure => simp [intOf]
                · skip
                  have q0 : wr.cell? ⟨bq, oq + 4, none⟩ = some (.int .u8 (y.e.toNat : Int)) := hrow.cell _ rfl 4 _ rfl
                  have k9 : wr.cell? ⟨w.heap.size + 1, 33, none⟩ = some (.int .u8 ((Ad.mix y tk.id 4).e.toNat : Int)) := HTj.out.cell 33
                  have f9 := HTj.out.frozen 33
                  have T9 := Lib.hid (HTj.out.set 33 (.int .u8 (y.e.toNat : Int)) (Ad.idTo tk y 5) rfl)
                  have G9 := Lib.hid (grown_trans HGj.out (grown_cell _ _ 33 (.int .u8 (y.e.toNat : Int))))
                  clear hrow BJ
                  go_wp2
                  go_roundw
                  case rel => exact ⟨5, rfl, by omega, T9.out, G9.out⟩
                  case measure => simp [intOf]
                · skip
                  have q0 : wr.cell? ⟨bq, oq + 5, none⟩ = some (.int .u8 (y.f.toNat : Int)) := hrow.cell _ rfl 5 _ rfl
                  have k9 : wr.cell? ⟨w.heap.size + 1, 34, none⟩ = some (.int .u8 ((Ad.mix y tk.id 5).f.toNat : Int)) := HTj.out.cell 34
                  have f9 := HTj.out.frozen 34
                  have T9 := Lib.hid (HTj.out.set 34 (.int .u8 (y.f.toNat : Int)) (Ad.idTo tk y 6) rfl)
                  have G9 := Lib.hid (grown_trans HGj.out (grown_cell _ _ 34 (.int .u8 (y.f.toNat : Int))))
                  clear hrow BJ
                  go_wp2
                  go_roundw
                  case rel => exact ⟨6, rfl, by omega, T9.out, G9.out⟩
                  case measure => simp [intOf]
                · skip
                  have q0 : wr.cell? ⟨bq, oq + 6, none⟩ = some (.int .u8 (y.g.toNat : Int)) := hrow.cell _ rfl 6 _ rfl
                  have k9 : wr.cell? ⟨w.heap.size + 1, 35, none⟩ = some (.int .u8 ((Ad.mix y tk.id 6).g.toNat : Int)) := HTj.out.cell 35
                  have f9 := HTj.out.frozen 35
                  have T9 := Lib.hid (HTj.out.set 35 (.int .u8 (y.g.toNat : Int)) (Ad.idTo tk y 7) rfl)
                  have G9 := Lib.hid (grown_trans HGj.out (grown_cell _ _ 35 (.int .u8 (y.g.toNat : Int))))
                  clear hrow BJ
                  go_wp2
                  go_roundw
                  case rel => exact ⟨7, rfl, by omega, T9.out, G9.out⟩
                  case measure => simp [intOf]
                · skip
                  have q0 : wr.cell? ⟨bq, oq + 7, none⟩ = some (.int .u8 (y.h.toNat : Int)) := hrow.cell _ rfl 7 _ rfl
                  have k9 : wr.cell? ⟨w.heap.size + 1, 36, none⟩ = some (.int .u8 ((Ad.mix y tk.id 7).h.toNat : Int)) := HTj.out.cell 36
                  have f9 := HTj.out.frozen 36
                  have T9 := Lib.hid (HTj.out.set 36 (.int .u8 (y.h.toNat : Int)) (Ad.idTo tk y 8) rfl)
                  have G9 := Lib.hid (grown_trans HGj.out (grown_cell _ _ 36 (.int .u8 (y.h.toNat : Int))))
                  clear hrow BJ
                  go_wp2
                  go_roundw
                  case rel => exact ⟨8, rfl, by omega, T9.out, G9.out⟩
                  case measure => simp [intOf]
              · obtain rfl : j = 8 := by omega
                have BB := Lib.hid BJ
                have HTT := Lib.hid HTj.out
                have HZZ := Lib.hid (HZ1.out.kept HGj.out (by omega))
                clear T2 G2 BJ
                go_wp2
                go_roundw
                case rel =>
                  refine ⟨k + 1, by simp, by omega, HOK.out, ?_, HZZ.out, BB.out⟩
                  show TmAt _ _ _
                  rw [HST.out, HP.out]; exact HTT.out
                case measure => simp [intOf]; omega
          · have hl4 := Ad.right_len HR.out
            rw [if_neg (by omega)] at hl4
            obtain ⟨y, hy⟩ := Ad.four_of hl4
            have hm4 : m = 4 := by omega
            subst hm4
            have HPY : Hid (Ad.put1 tk r = Ad.put1 tk ⟨r.ty, y.list⟩) := by
              show _ = _
              rw [← hy]
            have hrow : RowAt w1 q d y.list := hy ▸ (r1.next hb1 B1.out).row
            obtain ⟨bq, oq, rfl⟩ := r1.row.some (by omega)
            have hgo : wr.heap.size < w1.heap.size := World.block_lt_of_cell? w1 _ k0
            have a0 : w1.cell? ⟨bq, oq, none⟩ = some (.int .u8 (y.a.toNat : Int)) := hrow.cell _ rfl 0 _ rfl
            have a1 : w1.cell? ⟨bq, oq + 1, none⟩ = some (.int .u8 (y.b.toNat : Int)) := hrow.cell _ rfl 1 _ rfl
            have a2 : w1.cell? ⟨bq, oq + 2, none⟩ = some (.int .u8 (y.c.toNat : Int)) := hrow.cell _ rfl 2 _ rfl
            have a3 : w1.cell? ⟨bq, oq + 3, none⟩ = some (.int .u8 (y.d.toNat : Int)) := hrow.cell _ rfl 3 _ rfl
            clear r1 hl4 hy hm HR hrow
            generalize wr.heap.size = go at *
            go_wp2_with fail
            have hD : w1.drew.cell? ⟨go, 1, none⟩ = some (.slice (some ⟨bq, oq, none⟩) 4 d) ∧ w1.drew.cell? ⟨bq, oq, none⟩ = some (.int .u8 (y.a.toNat : Int)) ∧ w1.drew.cell? ⟨bq, oq + 1, none⟩ = some (.int .u8 (y.b.toNat : Int)) ∧ w1.drew.cell? ⟨bq, oq + 2, none⟩ = some (.int .u8 (y.c.toNat : Int)) ∧ w1.drew.cell? ⟨bq, oq + 3, none⟩ = some (.int .u8 (y.d.toNat : Int)) := ⟨k1, a0, a1, a2, a3⟩
            have kD : w1.drew.cell? ⟨go, 0, none⟩ = some (.int .i64 r.ty) := k0
            have TD : Hid (TmAt w1.drew (w.heap.size + 1) tk) := HT1.out
            have ZD : Hid (TmAt w1.drew w.heap.size Ad.z) := HZ1.out
            have BD := Lib.hid B1.out.drew
            have sD : go < w1.drew.heap.size := hgo
            refine held_start (S := fun W => W.cell? ⟨go, 1, none⟩ = some (.slice (some ⟨bq, oq, none⟩) 4 d) ∧ W.cell? ⟨bq, oq, none⟩ = some (.int .u8 (y.a.toNat : Int)) ∧ W.cell? ⟨bq, oq + 1, none⟩ = some (.int .u8 (y.b.toNat : Int)) ∧ W.cell? ⟨bq, oq + 2, none⟩ = some (.int .u8 (y.c.toNat : Int)) ∧ W.cell? ⟨bq, oq + 3, none⟩ = some (.int .u8 (y.d.toNat : Int))) 19 (by kernel_rfl) rfl ?_
            generalize w1.drew = WD at *
            clear k0 k1 a0 a1 a2 a3 HT1 HZ1 B1 hgo hbw
            refine held_take 0 (v := ?_) rfl (by kernel_rfl) (by kernel_rfl) (by kernel_rfl) (fun _ _ _ h => h) (by assumption) (by rfl) ?_ ?_
            rotate_left
            · (intro W hW; go_simp; try with_reducible rfl)
            simp only [Act.put, List.setIfInBounds_toArray, List.set_cons_zero, List.set_cons_succ]
            refine held_take 1 (v := ?_) rfl (by kernel_rfl) (by kernel_rfl) (by kernel_rfl) (fun _ _ _ h => h) (by assumption) (by rfl) ?_ ?_
            rotate_left
            · (intro W hW; have e0 := hW.1; go_simp; try with_reducible rfl)
            simp only [Act.put, List.setIfInBounds_toArray, List.set_cons_zero, List.set_cons_succ]
            refine held_take 2 (v := ?_) rfl (by kernel_rfl) (by kernel_rfl) (by kernel_rfl) (fun _ _ _ h => h) (by assumption) (by rfl) ?_ ?_
            rotate_left
            · (intro W hW; go_simp; try with_reducible rfl)
            simp only [Act.put, List.setIfInBounds_toArray, List.set_cons_zero, List.set_cons_succ]
            refine held_take 3 (v := ?_) rfl (by kernel_rfl) (by kernel_rfl) (by kernel_rfl) (fun _ _ _ h => h) (by assumption) (by rfl) ?_ ?_
            rotate_left
            · (intro W hW; have e0 := hW.2.1; go_simp; try with_reducible rfl)
            simp only [Act.put, List.setIfInBounds_toArray, List.set_cons_zero, List.set_cons_succ]
            refine held_take 4 (v := ?_) rfl (by kernel_rfl) (by kernel_rfl) (by kernel_rfl) (fun _ _ _ h => h) (by assumption) (by rfl) ?_ ?_
            rotate_left
            · (intro W hW; go_simp; try with_reducible rfl)
            simp only [Act.put, List.setIfInBounds_toArray, List.set_cons_zero, List.set_cons_succ]
            refine held_take 5 (v := ?_) rfl (by kernel_rfl) (by kernel_rfl) (by kernel_rfl) (fun _ _ _ h => h) (by assumption) (by rfl) ?_ ?_
            rotate_left
            · (intro W hW; have e0 := hW.1; go_simp; try with_reducible rfl)
            simp only [Act.put, List.setIfInBounds_toArray, List.set_cons_zero, List.set_cons_succ]
            refine held_take 6 (v := ?_) rfl (by kernel_rfl) (by kernel_rfl) (by kernel_rfl) (fun _ _ _ h => h) (by assumption) (by rfl) ?_ ?_
            rotate_left
            · (intro W hW; go_simp; try with_reducible rfl)
            simp only [Act.put, List.setIfInBounds_toArray, List.set_cons_zero, List.set_cons_succ]
            refine held_take 7 (v := ?_) rfl (by kernel_rfl) (by kernel_rfl) (by kernel_rfl) (fun _ _ _ h => h) (by assumption) (by rfl) ?_ ?_
            rotate_left
            · (intro W hW; have e0 := hW.2.2.1; go_simp; try with_reducible rfl)
            simp only [Act.put, List.setIfInBounds_toArray, List.set_cons_zero, List.set_cons_succ]
            refine held_take 8 (v := ?_) rfl (by kernel_rfl) (by kernel_rfl) (by kernel_rfl) (fun _ _ _ h => h) (by assumption) (by rfl) ?_ ?_
            rotate_left
            · (intro W hW; go_simp; try with_reducible rfl)
            simp only [Act.put, List.setIfInBounds_toArray, List.set_cons_zero, List.set_cons_succ]
            refine held_take 9 (v := ?_) rfl (by kernel_rfl) (by kernel_rfl) (by kernel_rfl) (fun _ _ _ h => h) (by assumption) (by rfl) ?_ ?_
            rotate_left
            · (intro W hW; have e0 := hW.1; go_simp; try with_reducible rfl)
            simp only [Act.put, List.setIfInBounds_toArray, List.set_cons_zero, List.set_cons_succ]
            refine held_take 10 (v := ?_) rfl (by kernel_rfl) (by kernel_rfl) (by kernel_rfl) (fun _ _ _ h => h) (by assumption) (by rfl) ?_ ?_
            rotate_left
            · (intro W hW; go_simp; try with_reducible rfl)
            simp only [Act.put, List.setIfInBounds_toArray, List.set_cons_zero, List.set_cons_succ]
            refine held_take 11 (v := ?_) rfl (by kernel_rfl) (by kernel_rfl) (by kernel_rfl) (fun _ _ _ h => h) (by assumption) (by rfl) ?_ ?_
            rotate_left
            · (intro W hW; have e0 := hW.2.2.2.1; go_simp; try with_reducible rfl)
            simp only [Act.put, List.setIfInBounds_toArray, List.set_cons_zero, List.set_cons_succ]
            refine held_take 12 (v := ?_) rfl (by kernel_rfl) (by kernel_rfl) (by kernel_rfl) (fun _ _ _ h => h) (by assumption) (by rfl) ?_ ?_
            rotate_left
            · (intro W hW; go_simp; try with_reducible rfl)
            simp only [Act.put, List.setIfInBounds_toArray, List.set_cons_zero, List.set_cons_succ]
            refine held_take 13 (v := ?_) rfl (by kernel_rfl) (by kernel_rfl) (by kernel_rfl) (fun _ _ _ h => h) (by assumption) (by rfl) ?_ ?_
            rotate_left
            · (intro W hW; have e0 := hW.1; go_simp; try with_reducible rfl)
            simp only [Act.put, List.setIfInBounds_toArray, List.set_cons_zero, List.set_cons_succ]
            refine held_take 14 (v := ?_) rfl (by kernel_rfl) (by kernel_rfl) (by kernel_rfl) (fun _ _ _ h => h) (by assumption) (by rfl) ?_ ?_
            rotate_left
            · (intro W hW; go_simp; try with_reducible rfl)
            simp only [Act.put, List.setIfInBounds_toArray, List.set_cons_zero, List.set_cons_succ]
            refine held_take 15 (v := ?_) rfl (by kernel_rfl) (by kernel_rfl) (by kernel_rfl) (fun _ _ _ h => h) (by assumption) (by rfl) ?_ ?_
            rotate_left
            · (intro W hW; have e0 := hW.2.2.2.2; go_simp; try with_reducible rfl)
            simp only [Act.put, List.setIfInBounds_toArray, List.set_cons_zero, List.set_cons_succ]
            refine held_take 16 (v := ?_) rfl (by kernel_rfl) (by kernel_rfl) (by kernel_rfl) (fun _ _ _ h => h) (by assumption) (by rfl) ?_ ?_
            rotate_left
            · (intro W hW; go_simp; try with_reducible rfl)
            simp only [Act.put, List.setIfInBounds_toArray, List.set_cons_zero, List.set_cons_succ]
            have b17 := below_one WD (.cells #[.int .u8 0, .int .u8 0, .int .u8 0, .int .u8 0] 30)
            have h17 := heap_alloc_new WD (.cells #[.int .u8 0, .int .u8 0, .int .u8 0, .int .u8 0] 30)
            have n17 : ∀ {g i v}, WD.cell? ⟨g, i, none⟩ = some v → (WD.alloc (.cells #[.int .u8 0, .int .u8 0, .int .u8 0, .int .u8 0] 30)).cell? ⟨g, i, none⟩ = some v := fun h => (b17.cell (p := ⟨_, _, none⟩) (World.block_lt_of_cell? WD _ h)).trans h
            have m17 : ∀ {g i v}, WD.cell? ⟨g, i, none⟩ = some v → ((WD.alloc (.cells #[.int .u8 0, .int .u8 0, .int .u8 0, .int .u8 0] 30)).setRow WD.heap.size (cells4 y).toArray).cell? ⟨g, i, none⟩ = some v := fun h => by
              rw [cell_setRow_other _ _ _ _ (Nat.ne_of_lt (World.block_lt_of_cell? WD _ h))]
              exact n17 h
            have S17 := (⟨n17 hD.1, n17 hD.2.1, n17 hD.2.2.1, n17 hD.2.2.2.1, n17 hD.2.2.2.2⟩ : _ ∧ _ ∧ _ ∧ _ ∧ _)
            have S18 := (⟨m17 hD.1, m17 hD.2.1, m17 hD.2.2.1, m17 hD.2.2.2.1, m17 hD.2.2.2.2⟩ : _ ∧ _ ∧ _ ∧ _ ∧ _)
            have k18 := m17 kD
            have B18 := Lib.hid (Below.chain BD.out (below_setRow b17 (Nat.le_refl _) (cells4 y).toArray))
            have T18 := Lib.hid (TD.out.next (below_setRow b17 (Nat.le_refl _) (cells4 y).toArray))
            have Z18 := Lib.hid (ZD.out.next (below_setRow b17 (Nat.le_refl _) (cells4 y).toArray))
            have G18 : ((WD.alloc (.cells #[.int .u8 0, .int .u8 0, .int .u8 0, .int .u8 0] 30)).setRow WD.heap.size (cells4 y).toArray).heap[WD.heap.size]? = some (.cells (cells4 y).toArray 30 (0, 0)) := setRow_heap _ _ _ _ _ _ h17
            refine held_makes 17 (v := .pointer (some ⟨WD.heap.size, 0, none⟩)) (w' := WD.alloc (.cells #[.int .u8 0, .int .u8 0, .int .u8 0, .int .u8 0] 30)) rfl (by kernel_rfl) (by rfl) (by go_simp) S17 ?_
            simp only [Act.put, List.setIfInBounds_toArray, List.set_cons_zero, List.set_cons_succ]
            refine held_one 18 rfl (by kernel_rfl) (by rfl) ?_
            refine wp_store_row 30 (.tmp 10) (.tmp 67) rfl WD.heap.size (cells4 y).toArray rfl rfl 30 #[.int .u8 0, .int .u8 0, .int .u8 0, .int .u8 0] h17 info4 rfl (cells4_one y) ?_
            refine ⟨S18, ?_⟩
            simp only [Act.put]
            refine held_done (by kernel_rfl) ?_
            have s18 : ((WD.alloc (.cells #[.int .u8 0, .int .u8 0, .int .u8 0, .int .u8 0] 30)).setRow WD.heap.size (cells4 y).toArray).heap.size = WD.heap.size + 1 := by simp
            have hga : w.heap.size + 1 < WD.heap.size := TD.out.lt
            clear S17 S18 n17 m17 b17 h17 TD ZD BD hD kD
            generalize (WD.alloc (.cells #[.int .u8 0, .int .u8 0, .int .u8 0, .int .u8 0] 30)).setRow WD.heap.size (cells4 y).toArray = w4 at *
            generalize WD.heap.size = gw at *
            rcases ht with h1 | h1 | h1 | h1 | h1 | h1 <;> rw [h1] at k18 HPY <;> clear h1
            · have c5 : w4.cell? ⟨w.heap.size + 1, 5, none⟩ = some (.bool tk.hasVj) := T18.out.cell 5
              have f5 := T18.out.frozen 5
              have T5 := T18.out.set 5 (.bool true) { tk with hasVj := true } rfl
              have c6 : (w4.setCell ⟨w.heap.size + 1, 5, none⟩ (.bool true)).cell? ⟨w.heap.size + 1, 6, none⟩ = some (.int .i64 tk.slots) := T5.cell 6
              have f6 := T5.frozen 6
              have T6 := T5.set 6 (.int .i64 (y.c.toNat : Int)) { tk with hasVj := true, slots := (y.c.toNat : Nat) } rfl
              have c7 : ((w4.setCell ⟨w.heap.size + 1, 5, none⟩ (.bool true)).setCell ⟨w.heap.size + 1, 6, none⟩ (.int .i64 (y.c.toNat : Int))).cell? ⟨w.heap.size + 1, 7, none⟩ = some (.bool tk.vjId) := T6.cell 7
              have f7 := T6.frozen 7
              have T7 := Lib.hid (T6.set 7 (.bool ((y.d.toNat : Int) == 1)) { tk with hasVj := true, slots := (y.c.toNat : Nat), vjId := ((y.d.toNat : Int) == 1) } rfl)
              have g5 := grown_cell w4 (w.heap.size + 1) 5 (.bool true)
              have g6 := grown_trans g5 (grown_cell _ (w.heap.size + 1) 6 (.int .i64 (y.c.toNat : Int)))
              have g7 := grown_trans g6 (grown_cell _ (w.heap.size + 1) 7 (.bool ((y.d.toNat : Int) == 1)))
              have kc0 : w4.cell? ⟨gw, 2, none⟩ = some (.int .u8 (y.c.toNat : Int)) := cell_of_row _ _ _ _ _ _ G18
              have kd0 : w4.cell? ⟨gw, 3, none⟩ = some (.int .u8 (y.d.toNat : Int)) := cell_of_row _ _ _ _ _ _ G18
              have kc := grown_keep g5 (by omega) (by omega) kc0
              have kd := grown_keep g6 (by omega) (by omega) kd0
              have hyc := UInt8.toNat_lt y.c
              have hw1 : IntKind.i64.wrap (y.c.toNat : Int) = (y.c.toNat : Int) := by rw [IntKind.wrap_i64]; omega
              have Z7 := Lib.hid (Z18.out.kept g7 (by omega))
              have B7 := Lib.hid (Below.grown B18.out g7 B18.out.size (fun k e => by cases e; omega))
              have HV : Hid (Ad.put1 tk ⟨2, y.list⟩ = { tk with hasVj := true, slots := (y.c.toNat : Nat), vjId := ((y.d.toNat : Int) == 1) }) := by
                show _ = _
                rw [show ((y.d.toNat : Int) == 1) = decide (y.d = 1) from eq_byte y.d 1]; rfl
              clear g5 g6 g7 T5 T6 T18 G18 Z18 B18 kc0 kd0
              go_wp2
              go_roundw
              case rel =>
                refine ⟨k + 1, by simp, by omega, HOK.out, ?_, Z7.out, B7.out⟩
                show TmAt _ _ _
                rw [HST.out, HPY.out]; exact (HV.out ▸ T7.out)
              case measure => simp [intOf]; omega
            · skip
              have c0 : w4.cell? ⟨w.heap.size + 1, 0, none⟩ = some (.bool tk.hasIp) := T18.out.cell 0
              have f0 := T18.out.frozen 0
              have T5 := Lib.hid (T18.out.set 0 (.bool true) { tk with hasIp := true } rfl)
              have g5 := grown_cell w4 (w.heap.size + 1) 0 (.bool true)
              have k19 := grown_keep g5 (by omega) (by omega) k18
              have G5 := Lib.hid ((g5.block gw (by omega) (fun e => by have := Option.some.inj e; omega)).trans G18)
              have Z5 := Lib.hid (Z18.out.kept g5 (by omega))
              have B5 := Lib.hid (Below.grown B18.out g5 B18.out.size (fun k e => by cases e; omega))
              clear T18 G18 Z18 B18 g5
              go_wp2_with (first
                | (refine wpList_load_row rfl 30 (.tmp 10) rfl gw rfl 30 (cells4 y).toArray (0, 0) _ G5.out Try.underlying30 rfl info4 ?_)
                | (refine wpList_store_four rfl _ _ rfl (w.heap.size + 1) 1 _ { tk with hasIp := true, ip := y } y rfl rfl T5.out (by omega) rfl ?_; intro w9 T9 g9))
              go_roundw
              case rel =>
                refine ⟨k + 1, by simp, by omega, HOK.out, ?_, Z5.out.kept g9 (by omega), below_kept B5.out g9 B5.out.size (by omega)⟩
                show TmAt _ _ _
                rw [HST.out, HPY.out]; exact T9.out
              case measure => simp [intOf]; omega
            · skip
              have c0 : w4.cell? ⟨w.heap.size + 1, 8, none⟩ = some (.bool tk.d0) := T18.out.cell 8
              have f0 := T18.out.frozen 8
              have T5 := Lib.hid (T18.out.set 8 (.bool true) { tk with d0 := true } rfl)
              have g5 := grown_cell w4 (w.heap.size + 1) 8 (.bool true)
              have k19 := grown_keep g5 (by omega) (by omega) k18
              have G5 := Lib.hid ((g5.block gw (by omega) (fun e => by have := Option.some.inj e; omega)).trans G18)
              have Z5 := Lib.hid (Z18.out.kept g5 (by omega))
              have B5 := Lib.hid (Below.grown B18.out g5 B18.out.size (fun k e => by cases e; omega))
              clear T18 G18 Z18 B18 g5
              go_wp2_with (first
                | (refine wpList_load_row rfl 30 (.tmp 10) rfl gw rfl 30 (cells4 y).toArray (0, 0) _ G5.out Try.underlying30 rfl info4 ?_)
                | (refine wpList_store_four rfl _ _ rfl (w.heap.size + 1) 12 _ { tk with d0 := true, n0 := y } y rfl rfl T5.out (by omega) rfl ?_; intro w9 T9 g9))
              go_roundw
              case rel =>
                refine ⟨k + 1, by simp, by omega, HOK.out, ?_, Z5.out.kept g9 (by omega), below_kept B5.out g9 B5.out.size (by omega)⟩
                show TmAt _ _ _
                rw [HST.out, HPY.out]; exact T9.out
              case measure => simp [intOf]; omega
            · skip
              have c0 : w4.cell? ⟨w.heap.size + 1, 9, none⟩ = some (.bool tk.d1) := T18.out.cell 9
              have f0 := T18.out.frozen 9
              have T5 := Lib.hid (T18.out.set 9 (.bool true) { tk with d1 := true } rfl)
              have g5 := grown_cell w4 (w.heap.size + 1) 9 (.bool true)
              have k19 := grown_keep g5 (by omega) (by omega) k18
              have G5 := Lib.hid ((g5.block gw (by omega) (fun e => by have := Option.some.inj e; omega)).trans G18)
              have Z5 := Lib.hid (Z18.out.kept g5 (by omega))
              have B5 := Lib.hid (Below.grown B18.out g5 B18.out.size (fun k e => by cases e; omega))
              clear T18 G18 Z18 B18 g5
              go_wp2_with (first
                | (refine wpList_load_row rfl 30 (.tmp 10) rfl gw rfl 30 (cells4 y).toArray (0, 0) _ G5.out Try.underlying30 rfl info4 ?_)
                | (refine wpList_store_four rfl _ _ rfl (w.heap.size + 1) 16 _ { tk with d1 := true, n1 := y } y rfl rfl T5.out (by omega) rfl ?_; intro w9 T9 g9))
              go_roundw
              case rel =>
                refine ⟨k + 1, by simp, by omega, HOK.out, ?_, Z5.out.kept g9 (by omega), below_kept B5.out g9 B5.out.size (by omega)⟩
                show TmAt _ _ _
                rw [HST.out, HPY.out]; exact T9.out
              case measure => simp [intOf]; omega
            · skip
              have c0 : w4.cell? ⟨w.heap.size + 1, 10, none⟩ = some (.bool tk.d2) := T18.out.cell 10
              have f0 := T18.out.frozen 10
              have T5 := Lib.hid (T18.out.set 10 (.bool true) { tk with d2 := true } rfl)
              have g5 := grown_cell w4 (w.heap.size + 1) 10 (.bool true)
              have k19 := grown_keep g5 (by omega) (by omega) k18
              have G5 := Lib.hid ((g5.block gw (by omega) (fun e => by have := Option.some.inj e; omega)).trans G18)
              have Z5 := Lib.hid (Z18.out.kept g5 (by omega))
              have B5 := Lib.hid (Below.grown B18.out g5 B18.out.size (fun k e => by cases e; omega))
              clear T18 G18 Z18 B18 g5
              go_wp2_with (first
                | (refine wpList_load_row rfl 30 (.tmp 10) rfl gw rfl 30 (cells4 y).toArray (0, 0) _ G5.out Try.underlying30 rfl info4 ?_)
                | (refine wpList_store_four rfl _ _ rfl (w.heap.size + 1) 20 _ { tk with d2 := true, n2 := y } y rfl rfl T5.out (by omega) rfl ?_; intro w9 T9 g9))
              go_roundw
              case rel =>
                refine ⟨k + 1, by simp, by omega, HOK.out, ?_, Z5.out.kept g9 (by omega), below_kept B5.out g9 B5.out.size (by omega)⟩
                show TmAt _ _ _
                rw [HST.out, HPY.out]; exact T9.out
              case measure => simp [intOf]; omega
            · skip
              have c0 : w4.cell? ⟨w.heap.size + 1, 11, none⟩ = some (.bool tk.d3) := T18.out.cell 11
              have f0 := T18.out.frozen 11
              have T5 := Lib.hid (T18.out.set 11 (.bool true) { tk with d3 := true } rfl)
              have g5 := grown_cell w4 (w.heap.size + 1) 11 (.bool true)
              have k19 := grown_keep g5 (by omega) (by omega) k18
              have G5 := Lib.hid ((g5.block gw (by omega) (fun e => by have := Option.some.inj e; omega)).trans G18)
              have Z5 := Lib.hid (Z18.out.kept g5 (by omega))
              have B5 := Lib.hid (Below.grown B18.out g5 B18.out.size (fun k e => by cases e; omega))
              clear T18 G18 Z18 B18 g5
              go_wp2_with (first
                | (refine wpList_load_row rfl 30 (.tmp 10) rfl gw rfl 30 (cells4 y).toArray (0, 0) _ G5.out Try.underlying30 rfl info4 ?_)
                | (refine wpList_store_four rfl _ _ rfl (w.heap.size + 1) 24 _ { tk with d3 := true, n3 := y } y rfl rfl T5.out (by omega) rfl ?_; intro w9 T9 g9))
              go_roundw
              case rel =>
                refine ⟨k + 1, by simp, by omega, HOK.out, ?_, Z5.out.kept g9 (by omega), below_kept B5.out g9 B5.out.size (by omega)⟩
                show TmAt _ _ _
                rw [HST.out, HPY.out]; exact T9.out
              case measure => simp [intOf]; omega
      · rw [Bool.not_eq_true] at hr
        have hZ : Z = (Ad.z, false) := HZ.out.trans (Ad.read_no P (HWR.out hr))
        subst hZ
        clear HZ HWR HAG HOS HST
        go_wp2_with (refine wpList_load_mid rfl 24 (.tmp 20) rfl b (off + k * 2) rfl (ocells r (.slice q m d)) _ RG2.out Try.underlying24 rfl (infoOptN _ _) ?_; simp only [ocells])
        have BA := Lib.hid (Below.chain hbw (below_one wr (.cells #[.int .i64 r.ty, .slice q m d] 24)).drew)
        have RG : (wr.alloc (.cells #[.int .i64 r.ty, .slice q m d] 24)).drew.rangeAt wr.heap.size 0 (ocells r (.slice q m d)) := by
          intro j u hu
          rw [Nat.zero_add]
          rw [show (wr.alloc (.cells #[.int .i64 r.ty, .slice q m d] 24)).drew.cell? ⟨wr.heap.size, j, none⟩ = (wr.alloc (.cells #[.int .i64 r.ty, .slice q m d] 24)).cell? ⟨wr.heap.size, j, none⟩ from rfl, cell_of_row _ _ _ _ _ _ (heap_alloc_new wr _)]
          simpa [ocells] using hu
        have hs : wr.heap.size < (wr.alloc (.cells #[.int .i64 r.ty, .slice q m d] 24)).drew.heap.size := by show wr.heap.size < (wr.alloc _).heap.size; simp
        have HTA := Lib.hid (HT.out.next (below_one wr (.cells #[.int .i64 r.ty, .slice q m d] 24)).drew)
        have HZA := Lib.hid (HZ0.out.next (below_one wr (.cells #[.int .i64 r.ty, .slice q m d] 24)).drew)
        refine held_start (S := fun W => W.rangeAt wr.heap.size 0 (ocells r (.slice q m d))) 13 (by kernel_rfl) rfl ?_
        generalize (wr.alloc (.cells #[.int .i64 r.ty, .slice q m d] 24)).drew = WA at *
        have RR := Lib.hid (r1.next hb1 BA.out).row
        refine held_take 0 (v := ?_) rfl (by kernel_rfl) (by kernel_rfl) (by kernel_rfl) (fun _ _ _ h => h) (by assumption) (by rfl) ?_ ?_
        rotate_left
        · (intro W hW; go_simp; try with_reducible rfl)
        simp only [Act.put, List.setIfInBounds_toArray, List.set_cons_zero, List.set_cons_succ]
        refine held_take 1 (v := .agg (ocells r (.slice q m d)).toArray) rfl (by kernel_rfl) (by kernel_rfl) (by kernel_rfl) (fun _ _ _ h => h) (by assumption) (by rfl) (fun W hW => run_load_mid (.tmp 8) rfl wr.heap.size 0 rfl r q m d hW) ?_
        simp only [Act.put, List.setIfInBounds_toArray, List.set_cons_zero, List.set_cons_succ]
        refine held_call 2 (f := 13) (args := #[.int .i64 P, .agg (ocells r (.slice q m d)).toArray]) rfl (by kernel_rfl) (by rfl) (by go_simp) ?_
        refine (refRight_any P r q m d WA hm RR.out).mono ?_
        rintro e w1 ⟨rfl, b1⟩
        have hR1 : w1.rangeAt wr.heap.size 0 (ocells r (.slice q m d)) := range_next RG hs b1
        refine ⟨_, rfl, hR1, ?_⟩
        simp only [Act.put, List.setIfInBounds_toArray, List.set_cons_zero, List.set_cons_succ]
        have B1 := Lib.hid (Below.chain BA.out b1)
        have HT1 := Lib.hid (HTA.out.next b1)
        have HZ1 := Lib.hid (HZA.out.next b1)
        clear RG hs b1 HTA HZA RR BA HT HZ0
        rw [hr]
        refine held_take 3 (v := ?_) rfl (by kernel_rfl) (by kernel_rfl) (by kernel_rfl) (fun _ _ _ h => h) (by assumption) (by rfl) ?_ ?_
        rotate_left
        · (intro W hW; go_simp; try with_reducible rfl)
        simp only [Act.put, List.setIfInBounds_toArray, List.set_cons_zero, List.set_cons_succ]
        refine held_take 4 (v := ?_) rfl (by kernel_rfl) (by kernel_rfl) (by kernel_rfl) (fun _ _ _ h => h) (by assumption) (by rfl) ?_ ?_
        rotate_left
        · (intro W hW; go_simp; try with_reducible rfl)
        simp only [Act.put, List.setIfInBounds_toArray, List.set_cons_zero, List.set_cons_succ]
        refine held_skip 5 rfl (by kernel_rfl) (by kernel_rfl) (by kernel_rfl) (fun _ _ _ h => h) (by assumption) (by rfl) ?_
        simp only [Act.put, List.setIfInBounds_toArray, List.set_cons_zero, List.set_cons_succ]
        refine held_skip 6 rfl (by kernel_rfl) (by kernel_rfl) (by kernel_rfl) (fun _ _ _ h => h) (by assumption) (by rfl) ?_
        simp only [Act.put, List.setIfInBounds_toArray, List.set_cons_zero, List.set_cons_succ]
        refine held_skip 7 rfl (by kernel_rfl) (by kernel_rfl) (by kernel_rfl) (fun _ _ _ h => h) (by assumption) (by rfl) ?_
        simp only [Act.put, List.setIfInBounds_toArray, List.set_cons_zero, List.set_cons_succ]
        refine held_skip 8 rfl (by kernel_rfl) (by kernel_rfl) (by kernel_rfl) (fun _ _ _ h => h) (by assumption) (by rfl) ?_
        simp only [Act.put, List.setIfInBounds_toArray, List.set_cons_zero, List.set_cons_succ]
        refine held_skip 9 rfl (by kernel_rfl) (by kernel_rfl) (by kernel_rfl) (fun _ _ _ h => h) (by assumption) (by rfl) ?_
        simp only [Act.put, List.setIfInBounds_toArray, List.set_cons_zero, List.set_cons_succ]
        refine held_skip 10 rfl (by kernel_rfl) (by kernel_rfl) (by kernel_rfl) (fun _ _ _ h => h) (by assumption) (by rfl) ?_
        simp only [Act.put, List.setIfInBounds_toArray, List.set_cons_zero, List.set_cons_succ]
        refine held_skip 11 rfl (by kernel_rfl) (by kernel_rfl) (by kernel_rfl) (fun _ _ _ h => h) (by assumption) (by rfl) ?_
        simp only [Act.put, List.setIfInBounds_toArray, List.set_cons_zero, List.set_cons_succ]
        refine held_take 12 (v := ?_) rfl (by kernel_rfl) (by kernel_rfl) (by kernel_rfl) (fun _ _ _ h => h) (by assumption) (by rfl) ?_ ?_
        rotate_left
        · (intro W hW; go_simp; try with_reducible rfl)
        simp only [Act.put, List.setIfInBounds_toArray, List.set_cons_zero, List.set_cons_succ]
        refine held_done (by kernel_rfl) ?_
        go_wp2_with (refine wpList_store_ad rfl _ _ rfl w.heap.size Ad.z _ rfl rfl HZ1.out rfl ?_)
        exact bodyPost_ret (results_cell_tmp_tm Try.results16 _ _ _ Ad.z false rfl rfl (setRow_heap _ _ _ _ _ _ HZ1.out)) rfl ⟨rfl, below_setRow B1.out (Nat.le_refl _) _⟩
    · have hall : L.take k = L := List.take_of_length_le (by rw [HL.out]; omega)
      rw [hall] at HO HT
      have hZ : Z = (Ad.told L, true) := HZ.out.trans (Ad.read_yes P HO.out)
      obtain ⟨tl, htl⟩ : ∃ tl, Ad.told L = tl := ⟨_, rfl⟩
      rw [htl] at hZ HT
      subst hZ
      have B2 := Lib.hid hbw
      clear htl hall HZ HO hbw
      go_wp2_with (first
        | (refine wpList_load_row rfl 35 (.tmp 6) rfl (w.heap.size + 1) rfl 35 (acells tl).toArray (0, 0) _ HT.out Try.underlying35 rfl infoAd ?_)
        | (refine wpList_store_ad rfl _ _ rfl w.heap.size tl _ rfl rfl HZ0.out rfl ?_))
      exact bodyPost_ret (results_cell_tmp_tm Try.results16 _ _ _ tl true rfl rfl (setRow_heap _ _ _ _ _ _ HZ0.out)) rfl ⟨rfl, below_setRow B2.out (Nat.le_refl _) _⟩
end Go.Proofs.Ytacnlancncmpmaa
