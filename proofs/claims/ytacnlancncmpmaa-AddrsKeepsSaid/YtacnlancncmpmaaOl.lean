/- Contract of Twice, by a map of the Types that were seen. -/
import Derived.Test.YtacnlancncmpmaaOd
import Derived.Maps.OwnSet
import Derived.Maps.Views
namespace Go.Proofs.Ytacnlancncmpmaa.S12
open Go.RowKit Go.Maps

theorem lawInt : Keyed Try.prog 3 := int_keyed Try.underlying3
theorem zeroBool (w : World) : (zeroValue 4).run Try.prog w = .ok (.bool false) w := by kernel_rfl
theorem plainElem_bool_inv {P : Program} {e : TypeId} (he : P.underlying e = some .bool) {v : Value} {z : DataW Unit × List MemPlace} (h : plainElem P e v = some z) : ∃ x, v = .bool x ∧ z = (.lit (.bool x), []) := by
  unfold plainElem at h
  rw [he] at h
  cases v <;> simp at h
  subst h
  exact ⟨_, rfl, rfl⟩
/-- The Types that stand in a map, each with true. -/
def Seen (D : DataW Unit) (l : List Int) : Prop := ∀ t, D.atKey (.int .i64 t) (.lit (.bool false)) = .lit (.bool (decide (t ∈ l)))
theorem seen_none : Seen (.map []) [] := fun t => by simp [DataW.atKey]
theorem Seen.step {D : DataW Unit} {l : List Int} (hm : IsMap D) (h : Seen D l) (t : Int) : Seen (D.put (.int .i64 t) (.lit (.bool true))) (l ++ [t]) := fun s => by
  by_cases e : s = t
  · subst e
    rw [atKey_put_same hm (show WideAt.IsKeyLit (.int .i64 s) from trivial)]
    simp
  · rw [atKey_put_other (fun e' => e (by simpa using e')), h s]
    simp [e]
theorem seen_look {w : World} {g n : Nat} {D : DataW Unit} {l : List Int} (h : w.ownsMap Try.prog 3 (plainElem Try.prog 4) g n D) (hs : Seen D l) (t : Int) (hw : (Lit.int .i64 t).wf = true) : (Instr.lookup 53 (.map (some g)) (.int .i64 t) false).run Try.prog w = .ok (.bool (decide (t ∈ l))) w := by
  obtain ⟨v, ps, hrun, hv⟩ := h.lookup lawInt Try.underlying53 (zeroBool w) (plainElem_bool Try.underlying4 false) (keyOf_int_mk Try.underlying3 hw)
  obtain ⟨x, rfl, hx⟩ := plainElem_bool_inv Try.underlying4 hv
  simp only [Prod.mk.injEq] at hx
  rw [hs t] at hx
  simp only [DataW.lit.injEq, Lit.bool.injEq] at hx
  rw [hrun, hx.1]

theorem Ot.seen_step {L : List Ot.O} {k : Nat} (h : k < L.length) : (L.take (k + 1)).map Ot.O.ty = (L.take k).map Ot.O.ty ++ [L[k].ty] := by
  rw [List.take_succ_eq_append_getElem h, List.map_append]; rfl

set_option maxRecDepth 100000 in
set_option maxHeartbeats 1000000 in
theorem twice_any (a : Option Addr) (n cap : Nat) (L : List Ot.O) (w : World) (hL : L.length = n) (hn : n ≤ 1000000) (hw : ∀ x ∈ L, (Lit.int .i64 x.ty).wf = true) (h : OptsAt w a L) :
    Calls Try.prog 26 #[.slice a n cap] w fun e w' => e = .returned (.bool (Ot.twice L)) ∧ Below w.heap.size w w' := by
  obtain ⟨Z, hZ⟩ : ∃ Z, Ot.twice L = Z := ⟨_, rfl⟩
  rw [hZ]
  have HZ := Lib.hid hZ.symm
  have H := Lib.hid h
  have HL := Lib.hid hL
  have HW := Lib.hid hw
  have hmm := @run_makeMap Try.prog
  have HO := Lib.hid (World.ownsMap_made w Try.prog 3 (plainElem (H := Unit) Try.prog 4))
  have HB := Lib.hid (below_one w (.map #[] 0))
  clear h hL hZ hw
  go_enter Try.func26, Try.ntmps26
  go_wp2
  generalize w.alloc (.map #[] 0) = W0 at *
  go_loopw [9] (fun i wr => ∃ (k : Nat) (D : DataW Unit), i = .int .i64 (k : Int) ∧ k ≤ n ∧ ((L.take k).map Ot.O.ty).Nodup ∧ Hid (Seen D ((L.take k).map Ot.O.ty)) ∧ Hid (wr.ownsMap Try.prog 3 (plainElem Try.prog 4) w.heap.size k D) ∧ Below w.heap.size w wr) (fun i _ => n - (intOf i).toNat)
  case atStart => exact ⟨0, _, rfl, Nat.zero_le _, by simp, (seen_none : Seen (.map []) []), HO, HB.out⟩
  case round =>
    obtain ⟨k, D, rfl, hk, hp, HS, HM, hbw⟩ := hrel
    by_cases hlt : (k : Int) < (n : Int)
    · have hkn : k < n := by omega
      have hkL : k < L.length := by rw [HL.out]; omega
      obtain ⟨b, off, q, d, rfl, r1, hb1⟩ := (H.out.next hbw).at k hkL
      have hno := Ot.nodup_step hkL hp
      have hyes := Ot.twice_yes (l := L) (k := k) hkL
      have hst := Ot.seen_step (L := L) hkL
      have hwx := HW.out L[k] (List.getElem_mem hkL)
      generalize L[k] = r at *
      obtain ⟨m, hm⟩ : ∃ m, r.data.length = m := ⟨_, rfl⟩
      have RG := Lib.hid r1.range
      rw [hm] at RG
      have bA := below_one wr (.cells #[.int .i64 r.ty, .slice q m d] 24)
      have hg3 := heap_alloc_new wr (.cells #[.int .i64 r.ty, .slice q m d] 24)
      have k0 : (wr.alloc (.cells #[.int .i64 r.ty, .slice q m d] 24)).cell? ⟨wr.heap.size, 0, none⟩ = some (.int .i64 r.ty) := cell_of_row _ _ _ _ _ _ hg3
      have HM2 := HM.out.alloc (.cells #[.int .i64 r.ty, .slice q m d] 24)
      have hlook := seen_look HM2 HS.out r.ty hwx
      have HNO := Lib.hid hno
      have HYES := Lib.hid hyes
      have HST := Lib.hid hst
      have HB1 := Lib.hid (Below.chain hbw bA)
      have HM3 := Lib.hid HM2
      have HWX := Lib.hid hwx
      have hblt := HM.out.lt
      clear hno hyes hst hp r1 hm hbw bA HM hg3 HM2 hwx
      by_cases hin : r.ty ∈ (L.take k).map Ot.O.ty
      · rw [decide_eq_true hin] at hlook
        have hZ : Z = true := HZ.out.trans (HYES.out (by obtain ⟨x, hx, e⟩ := List.mem_map.1 hin; exact ⟨x, hx, e⟩))
        subst hZ
        clear hin HYES HNO HST HZ
        go_wp2_with (refine wpList_load_mid rfl 24 (.tmp 11) rfl b (off + k * 2) rfl (ocells r (.slice q m d)) _ RG.out Try.underlying24 rfl (infoOptN _ _) ?_; simp only [ocells])
        go_ret
        exact ⟨rfl, HB1.out⟩
      · rw [decide_eq_false hin] at hlook
        have hs := HNO.out (fun x hx e => hin (List.mem_map.2 ⟨x, hx, e⟩))
        have HS2 : Hid (Seen (D.put (.int .i64 r.ty) (.lit (.bool true))) ((L.take (k + 1)).map Ot.O.ty)) := by
          show Seen _ _
          rw [HST.out]
          exact Seen.step HM3.out.isMap HS.out r.ty
        clear hin HYES HNO HST HS
        go_wp2_with (first | (refine wpList_load_mid rfl 24 (.tmp 11) rfl b (off + k * 2) rfl (ocells r (.slice q m d)) _ RG.out Try.underlying24 rfl (infoOptN _ _) ?_; simp only [ocells]) | (at_mapUpdate; refine wpList_mapUpdate_own _ rfl _ _ _ 53 rfl 3 4 lawInt Try.underlying53 _ w.heap.size k D rfl HM3.out (by unfold maxLen; omega) _ _ _ rfl rfl (keyOf_int_mk Try.underlying3 HWX.out) _ [] (plainElem_bool Try.underlying4 true) ?_; intro w5 own5 gr5))
        go_roundw
        case rel => exact ⟨k + 1, _, by simp, by omega, hs, HS2, own5, Below.grown HB1.out gr5 HB1.out.size (fun j hj => by cases hj; exact Nat.le_refl _)⟩
        case measure => simp [intOf]; omega
    · have hall : L.take k = L := List.take_of_length_le (by rw [HL.out]; omega)
      rw [hall] at hp
      have hZ : Z = false := HZ.out.trans (Ot.twice_no L hp)
      subst hZ
      clear hall hp HZ
      go_wp2
      go_ret
      exact ⟨rfl, hbw⟩
end Go.Proofs.Ytacnlancncmpmaa.S12
