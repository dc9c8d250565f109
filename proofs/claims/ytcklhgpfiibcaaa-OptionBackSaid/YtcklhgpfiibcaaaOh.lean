/- Contract of the document's Put, of options that may be. -/
import Derived.Test.YtcklhgpfiibcaaaOg
namespace Go.Proofs.Ytcklhgpfiibcaaa
open Go.RowKit

set_option maxRecDepth 100000 in
set_option maxHeartbeats 1000000 in
theorem refPut_any (a : Option Addr) (n cap : Nat) (L : List Ot.O) (w : World) (hL : L.length = n) (hn : n ≤ 3000) (hf : Ot.fine L) (h : OptsAt w a L) :
    Calls Try.prog 13 #[.slice a n cap] w fun e w' => ∃ v, e = .returned v ∧ w'.ownsRow w.heap.size 5 1 v (Ot.bytes L).length (Lib.byteCells (Ot.bytes L)) ∧ Below w.heap.size w w' := by
  have H := Lib.hid h
  have HL := Lib.hid hL
  have HF := Lib.hid hf
  clear h hL hf
  go_enter Try.func13, Try.ntmps13
  go_wp2
  go_loopw [3, 4] (fun v i wr => ∃ (k m c : Nat) (p : Option Addr), i = .int .i64 (k : Int) ∧ k ≤ n ∧ v = .slice p m c ∧ Own w wr p m c (Ot.bytes (L.take k))) (fun _ i _ => n - (intOf i).toNat)
  case atStart => exact ⟨0, 0, 0, none, rfl, Nat.zero_le _, rfl, own_nil _⟩
  case round =>
    obtain ⟨k, mo, co, po, rfl, hk, rfl, ho⟩ := hrel
    by_cases hlt : (k : Int) < (n : Int)
    · have hkn : k < n := by omega
      have hkL : k < L.length := by rw [HL.out]; omega
      obtain ⟨b, off, q, d, rfl, r0, hbW⟩ := H.out.at k hkL
      have hstep := Ot.bytes_step L k hkL
      have hbl := bytes_len L k (fun x hx => HF.out x (List.mem_of_mem_take hx)) (by omega)
      have hmay := Ot.may_of L[k] (HF.out _ (List.getElem_mem hkL))
      rw [ho.len] at hbl
      generalize L[k] = r at *
      obtain ⟨m, hm⟩ : ∃ m, r.data.length = m := ⟨_, rfl⟩
      have h1 := hmay.lo
      have h2 := hmay.hi
      have h3 := hmay.le
      have hy := byte_ty r.ty h1 h2
      have hz := byte_len' r.data.length h3
      have hone : Ot.one r = [UInt8.ofNat r.ty.toNat, UInt8.ofNat (2 + r.data.length)] ++ r.data := rfl
      rw [hone] at hstep
      rw [hm] at h3 hz hstep
      generalize UInt8.ofNat r.ty.toNat = y at *
      generalize UInt8.ofNat (2 + m) = z at *
      have hw1 : IntKind.u8.wrap r.ty = r.ty := by rw [IntKind.wrap_u8]; omega
      have hw0 : IntKind.i64.wrap ((m : Int) + 2) = (m : Int) + 2 := by rw [IntKind.wrap_i64]; omega
      have hw2 : IntKind.u8.wrap ((m : Int) + 2) = (m : Int) + 2 := by rw [IntKind.wrap_u8]; omega
      obtain ⟨m2, hm2⟩ : ∃ m2, mo + 2 = m2 := ⟨_, rfl⟩
      obtain ⟨m3, hm3⟩ : ∃ m3, m2 + m = m3 := ⟨_, rfl⟩
      have hl1 : m2 ≤ 1000000 := by omega
      have hl2 : m3 ≤ 1000000 := by omega
      have HST := Lib.hid hstep
      have HM := Lib.hid hm
      have HM2 := Lib.hid hm2
      have HM3 := Lib.hid hm3
      have HY := Lib.hid hy
      have HZ := Lib.hid hz
      have ho' := ho.next ((Below.refl _ _).drew : Below wr.heap.size wr wr.drew)
      have cells : ∀ W, Below w.heap.size w W → W.cell? ⟨b, off + k * 2, none⟩ = some (.int .i64 r.ty) ∧ W.cell? ⟨b, off + k * 2 + 1, none⟩ = some (.slice q m d) := fun W hB => by
        have r1 := r0.next hbW hB
        exact ⟨r1.ty, by rw [← HM.out]; exact r1.data⟩
      have CE := Lib.hid cells
      clear hstep hm hm2 hm3 hy hz hmay hone cells
      go_wp2_with fail
      refine held_start (S := fun W => W.cell? ⟨b, off + k * 2, none⟩ = some (.int .i64 r.ty) ∧ W.cell? ⟨b, off + k * 2 + 1, none⟩ = some (.slice q m d)) 18 (by kernel_rfl) rfl ?_
      generalize wr.drew = Wd at *
      have hS := CE.out _ ho'.bel
      clear ho
      refine held_take 0 (v := ?_) rfl (by kernel_rfl) (by kernel_rfl) (by kernel_rfl) (fun _ _ _ h => h) (by assumption) (by rfl) ?_ ?_
      rotate_left
      · (intro W hW; go_simp; try with_reducible rfl)
      simp only [Act.put, List.setIfInBounds_toArray, List.set_cons_zero, List.set_cons_succ]
      refine held_take 1 (v := ?_) rfl (by kernel_rfl) (by kernel_rfl) (by kernel_rfl) (fun _ _ _ h => h) (by assumption) (by rfl) ?_ ?_
      rotate_left
      · (intro W hW; go_simp; try with_reducible rfl)
      simp only [Act.put, List.setIfInBounds_toArray, List.set_cons_zero, List.set_cons_succ]
      refine held_take 2 (v := ?_) rfl (by kernel_rfl) (by kernel_rfl) (by kernel_rfl) (fun _ _ _ h => h) (by assumption) (by rfl) ?_ ?_
      rotate_left
      · (intro W hW; go_simp; try with_reducible rfl)
      simp only [Act.put, List.setIfInBounds_toArray, List.set_cons_zero, List.set_cons_succ]
      refine held_take 3 (v := ?_) rfl (by kernel_rfl) (by kernel_rfl) (by kernel_rfl) (fun _ _ _ h => h) (by assumption) (by rfl) ?_ ?_
      rotate_left
      · (intro W hW; go_simp; try with_reducible rfl)
      simp only [Act.put, List.setIfInBounds_toArray, List.set_cons_zero, List.set_cons_succ]
      refine held_take 4 (v := ?_) rfl (by kernel_rfl) (by kernel_rfl) (by kernel_rfl) (fun _ _ _ h => h) (by assumption) (by rfl) ?_ ?_
      rotate_left
      · (intro W hW; go_simp; try with_reducible rfl)
      simp only [Act.put, List.setIfInBounds_toArray, List.set_cons_zero, List.set_cons_succ]
      refine held_take 5 (v := ?_) rfl (by kernel_rfl) (by kernel_rfl) (by kernel_rfl) (fun _ _ _ h => h) (by assumption) (by rfl) ?_ ?_
      rotate_left
      · (intro W hW; have hc := hW.1; go_simp; try with_reducible rfl)
      simp only [Act.put, List.setIfInBounds_toArray, List.set_cons_zero, List.set_cons_succ]
      refine held_take 6 (v := ?_) rfl (by kernel_rfl) (by kernel_rfl) (by kernel_rfl) (fun _ _ _ h => h) (by assumption) (by rfl) ?_ ?_
      rotate_left
      · (intro W hW; go_simp; try with_reducible rfl)
      simp only [Act.put, List.setIfInBounds_toArray, List.set_cons_zero, List.set_cons_succ]
      refine held_take 7 (v := ?_) rfl (by kernel_rfl) (by kernel_rfl) (by kernel_rfl) (fun _ _ _ h => h) (by assumption) (by rfl) ?_ ?_
      rotate_left
      · (intro W hW; go_simp; try with_reducible rfl)
      simp only [Act.put, List.setIfInBounds_toArray, List.set_cons_zero, List.set_cons_succ]
      refine held_take 8 (v := ?_) rfl (by kernel_rfl) (by kernel_rfl) (by kernel_rfl) (fun _ _ _ h => h) (by assumption) (by rfl) ?_ ?_
      rotate_left
      · (intro W hW; go_simp; try with_reducible rfl)
      simp only [Act.put, List.setIfInBounds_toArray, List.set_cons_zero, List.set_cons_succ]
      refine held_take 9 (v := ?_) rfl (by kernel_rfl) (by kernel_rfl) (by kernel_rfl) (fun _ _ _ h => h) (by assumption) (by rfl) ?_ ?_
      rotate_left
      · (intro W hW; go_simp; try with_reducible rfl)
      simp only [Act.put, List.setIfInBounds_toArray, List.set_cons_zero, List.set_cons_succ]
      refine held_take 10 (v := ?_) rfl (by kernel_rfl) (by kernel_rfl) (by kernel_rfl) (fun _ _ _ h => h) (by assumption) (by rfl) ?_ ?_
      rotate_left
      · (intro W hW; go_simp; try with_reducible rfl)
      simp only [Act.put, List.setIfInBounds_toArray, List.set_cons_zero, List.set_cons_succ]
      refine held_take 11 (v := ?_) rfl (by kernel_rfl) (by kernel_rfl) (by kernel_rfl) (fun _ _ _ h => h) (by assumption) (by rfl) ?_ ?_
      rotate_left
      · (intro W hW; have hc := hW.2; go_simp; try with_reducible rfl)
      simp only [Act.put, List.setIfInBounds_toArray, List.set_cons_zero, List.set_cons_succ]
      refine held_take 12 (v := ?_) rfl (by kernel_rfl) (by kernel_rfl) (by kernel_rfl) (fun _ _ _ h => h) (by assumption) (by rfl) ?_ ?_
      rotate_left
      · (intro W hW; go_simp; try with_reducible rfl)
      simp only [Act.put, List.setIfInBounds_toArray, List.set_cons_zero, List.set_cons_succ]
      refine held_take 13 (v := ?_) rfl (by kernel_rfl) (by kernel_rfl) (by kernel_rfl) (fun _ _ _ h => h) (by assumption) (by rfl) ?_ ?_
      rotate_left
      · (intro W hW; go_simp; try with_reducible rfl)
      simp only [Act.put, List.setIfInBounds_toArray, List.set_cons_zero, List.set_cons_succ]
      refine held_take 14 (v := ?_) rfl (by kernel_rfl) (by kernel_rfl) (by kernel_rfl) (fun _ _ _ h => h) (by assumption) (by rfl) ?_ ?_
      rotate_left
      · (intro W hW; go_simp; try with_reducible rfl)
      simp only [Act.put, List.setIfInBounds_toArray, List.set_cons_zero, List.set_cons_succ]
      have bB := below_one Wd (.cells #[.int .u8 r.ty, .int .u8 ((m : Int) + 2)] 5)
      have hrow2 := two_built Wd y z r.ty ((m : Int) + 2) HY.out HZ.out
      have hO2 := ho'.next bB
      have hS2 := CE.out _ hO2.bel
      refine held_makes 15 (v := .slice (some ⟨Wd.heap.size, 0, none⟩) 2 2) (w' := Wd.alloc (.cells #[.int .u8 r.ty, .int .u8 ((m : Int) + 2)] 5)) rfl (by kernel_rfl) (by rfl) (by go_simp) hS2 ?_
      simp only [Act.put, List.setIfInBounds_toArray, List.set_cons_zero, List.set_cons_succ]
      generalize Wd.alloc (.cells #[.int .u8 r.ty, .int .u8 ((m : Int) + 2)] 5) = W2 at *
      refine held_one 16 rfl (by kernel_rfl) (by rfl) ?_
      refine wp_append_row (.tmp 11) (.tmp 26) rfl w.heap.size (.slice po mo co) mo _ rfl hO2.own (some ⟨Wd.heap.size, 0, none⟩) 2 2 [y, z] rfl rfl hrow2 (by omega) hO2.bel.size ?_
      intro v5 W5 o5 g5
      obtain ⟨p5, c5, rfl⟩ := own_slice o5
      have O5 : Own w W5 p5 m2 c5 (Ot.bytes (L.take k) ++ [y, z]) := by
        rw [← HM2.out]
        exact ⟨step_len hO2.len rfl, by rw [Lib.byteCells_append]; exact o5, Below.grown hO2.bel g5 hO2.bel.size (fun k hk => (hO2.own.lt k hk).1)⟩
      rw [HM2.out]
      have hS5 := CE.out _ O5.bel
      refine ⟨hS5, ?_⟩
      simp only [Act.put, List.setIfInBounds_toArray, List.set_cons_zero, List.set_cons_succ]
      refine held_take 17 (v := ?_) rfl (by kernel_rfl) (by kernel_rfl) (by kernel_rfl) (fun _ _ _ h => h) (by assumption) (by rfl) ?_ ?_
      rotate_left
      · (intro W hW; go_simp; try with_reducible rfl)
      simp only [Act.put, List.setIfInBounds_toArray, List.set_cons_zero, List.set_cons_succ]
      refine held_done (by kernel_rfl) ?_
      have k51 := hS5.2
      have ROW5 := Lib.hid (r0.row.next O5.bel)
      clear o5 g5 hO2 ho' hrow2 hS hS2 hS5 bB CE r0
      go_wp2_with (at_builtin; refine wpList_append_keep rfl (.tmp 28) (.tmp 33) rfl p5 m2 c5 m3 _ rfl O5 q m d r.data rfl HM.out ROW5.out HM3.out hl2 ?_; intro p6 c6 W6 O6 s6 j6)
      have O6' : Own w W6 p6 m3 c6 (Ot.bytes (L.take (k + 1))) := by rw [HST.out, ← List.append_assoc]; exact O6
      go_roundw
      case rel => exact ⟨k + 1, m3, c6, p6, by simp, by omega, rfl, O6'⟩
      case measure => simp [intOf]; omega
    · have hkn : k = n := by omega
      subst hkn
      have hall : L.take k = L := List.take_of_length_le (by rw [HL.out]; exact Nat.le_refl _)
      rw [hall] at ho
      have hl := ho.len
      have hO := Lib.hid ho
      clear ho
      go_wp2
      go_ret
      exact ⟨.slice po mo co, rfl, by first | exact hO.out.own | (rw [hl]; exact hO.out.own), hO.out.bel⟩
end Go.Proofs.Ytcklhgpfiibcaaa
