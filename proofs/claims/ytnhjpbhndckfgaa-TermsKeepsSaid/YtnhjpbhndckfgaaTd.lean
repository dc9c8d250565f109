/- Contracts of Read and Right. -/
import Derived.Test.YtnhjpbhndckfgaaTc
import Derived.Test.YtnhjpbhndckfgaaOc
import Derived.Deep.MidRow
namespace Go.Proofs.Ytnhjpbhndckfgaa
open Go.RowKit Go.Maps S2 S12

/-- Two results, the first one in a cell. -/
theorem results_cell_tmp_tm {fn : Func} {q p : Tmp} (h : fn.results = #[.cell p 32, .tmp q]) (tmps : Array Value) (w : World) (g : Nat) (t : Tm.T) (b : Bool)
    (hp : tmps.getD p undef = .pointer (some ⟨g, 0, none⟩)) (hq : tmps.getD q undef = .bool b) (hg : TmAt w g t) :
    (results fn tmps).run Try.prog w = .ok (.tuple #[.agg (tcells t).toArray, .bool b]) w := by
  have hp' : tmps[p]?.getD undef = .pointer (some ⟨g, 0, none⟩) := by simpa using hp
  have hq' : tmps[q]?.getD undef = .bool b := by simpa using hq
  simp [results, h, hp', hq', asAddr, run_loadVar_row w g 32 32 (tcells t).toArray (0, 0) _ hg Try.underlying32 rfl infoTm]
/-- The reader of a Type, called. -/
theorem reader_any (x : Ot.O) (g : Nat) (t : Tm.T) (p : Option Addr) (m c : Nat) (w : World) (hk : Tm.known x.ty = true) (hm : x.data.length = m) (hl : m ≤ 300000) (h : RowAt w p c x.data) (hT : TmAt w g t) :
    Calls Try.prog (rfun x.ty) #[.pointer (some ⟨g, 0, none⟩), .slice p m c] w fun e w' => RdRes w w' e g t x := by
  obtain ⟨ty, d⟩ := x
  simp only at hk hm h ⊢
  rcases Tm.known_cases hk with rfl | rfl | rfl | rfl | rfl | rfl | rfl
  · exact readMru_any g t p m c d w hm h hT
  · exact readAccm_any g t p m c d w hm h hT
  · exact readLogin_any g t p m c d w hm hl h hT
  · exact readQuality_any g t p m c d w hm hT
  · exact readMagic_any g t p m c d w hm h hT
  · exact readPfc_any g t p m c d w hm hT
  · exact readAcfc_any g t p m c d w hm hT
theorem reader_enter (t : Int) (hk : Tm.known t = true) (args : Array Value) (w : World) : (callFunc (rfun t) args).run Try.prog w = .ok (.enter (rfun t) args) w := by
  rcases Tm.known_cases hk with rfl | rfl | rfl | rfl | rfl | rfl | rfl
  · exact (by kernel_rfl : (callFunc 36 args).run Try.prog w = .ok (.enter 36 args) w)
  · exact (by kernel_rfl : (callFunc 37 args).run Try.prog w = .ok (.enter 37 args) w)
  · exact (by kernel_rfl : (callFunc 38 args).run Try.prog w = .ok (.enter 38 args) w)
  · exact (by kernel_rfl : (callFunc 39 args).run Try.prog w = .ok (.enter 39 args) w)
  · exact (by kernel_rfl : (callFunc 40 args).run Try.prog w = .ok (.enter 40 args) w)
  · exact (by kernel_rfl : (callFunc 41 args).run Try.prog w = .ok (.enter 41 args) w)
  · exact (by kernel_rfl : (callFunc 42 args).run Try.prog w = .ok (.enter 42 args) w)
theorem before_not {L : List Ot.O} {k : Nat} {t : Int} (h : ∀ x ∈ L.take k, x.ty ≠ t) : t ∉ (L.take k).map Ot.O.ty := fun e => by
  obtain ⟨x, hx, he⟩ := List.mem_map.1 e
  exact h x hx he
theorem before_in {L : List Ot.O} {k : Nat} {t : Int} (h : ∃ x ∈ L.take k, x.ty = t) : t ∈ (L.take k).map Ot.O.ty := by
  obtain ⟨x, hx, he⟩ := h
  exact List.mem_map.2 ⟨x, hx, he⟩
theorem types_step {L : List Ot.O} {k : Nat} (h : k < L.length) : (L.take (k + 1)).map Ot.O.ty = (L.take k).map Ot.O.ty ++ [L[k].ty] := by
  rw [List.take_succ_eq_append_getElem h, List.map_append]; rfl
/-- What Read tells. -/
def ToldRes (w w' : World) (e : Ending) (A : Tm.T × Bool) : Prop := e = .returned (.tuple #[.agg (tcells A.1).toArray, .bool A.2]) ∧ Below w.heap.size w w'

set_option maxRecDepth 100000 in
set_option maxHeartbeats 2000000 in
theorem read_any (a : Option Addr) (n cap : Nat) (L : List Ot.O) (w : World) (hL : L.length = n) (hn : n ≤ 1000000) (hd : ∀ x ∈ L, x.data.length ≤ 300000) (hw : ∀ x ∈ L, (Lit.int .i64 x.ty).wf = true) (h : OptsAt w a L) :
    Calls Try.prog 15 #[.slice a n cap] w fun e w' => ToldRes w w' e (Tm.read L) := by
  obtain ⟨Z, hZ⟩ : ∃ Z, Tm.read L = Z := ⟨_, rfl⟩
  rw [hZ]
  have HZ := Lib.hid hZ.symm
  have H := Lib.hid h
  have HL := Lib.hid hL
  have HD := Lib.hid hd
  have HW := Lib.hid hw
  clear h hL hZ hd hw
  go_enter Try.func15, Try.ntmps15
  go_wp2_with fail
  have BW := Lib.hid (Below.chain (below_one w (.cells (tcells Tm.z).toArray 32)) (below_one (w.alloc (.cells (tcells Tm.z).toArray 32)) (.cells (tcells Tm.z).toArray 32)))
  have T1 : Hid (TmAt ((w.alloc (.cells (tcells Tm.z).toArray 32)).alloc (.cells (tcells Tm.z).toArray 32)) (w.heap.size + 1) Tm.z) := by
    have := heap_alloc_new (w.alloc (.cells (tcells Tm.z).toArray 32)) (.cells (tcells Tm.z).toArray 32)
    rw [show (w.alloc (.cells (tcells Tm.z).toArray 32)).heap.size = w.heap.size + 1 by simp] at this
    exact this
  have T0 : Hid (TmAt ((w.alloc (.cells (tcells Tm.z).toArray 32)).alloc (.cells (tcells Tm.z).toArray 32)) w.heap.size Tm.z) := by
    have := heap_alloc_new w (.cells (tcells Tm.z).toArray 32)
    exact TmAt.next (w := w.alloc (.cells (tcells Tm.z).toArray 32)) this (below_one _ _)
  have S2' : ((w.alloc (.cells (tcells Tm.z).toArray 32)).alloc (.cells (tcells Tm.z).toArray 32)).heap.size = w.heap.size + 2 := by simp
  show Calls _ _ _ ((w.alloc (.cells (tcells Tm.z).toArray 32)).alloc (.cells (tcells Tm.z).toArray 32)) _
  generalize (w.alloc (.cells (tcells Tm.z).toArray 32)).alloc (.cells (tcells Tm.z).toArray 32) = W2 at BW T1 T0 S2' ⊢
  refine (readers_any W2).mono ?_
  rintro e w3 ⟨D0, rfl, hD, hl, b3⟩
  have T13 := Lib.hid (T1.out.next b3)
  have T03 := Lib.hid (T0.out.next b3)
  have B3 := Lib.hid (Below.chain BW.out b3)
  have HD0 := Lib.hid hD
  have HL0 := Lib.hid hl
  have hgm : w.heap.size + 1 < W2.heap.size := by omega
  clear b3 hD hl T1 T0 BW S2'
  generalize W2.heap.size = gm at *
  go_wp2
  go_loopw [13] (fun i wr => ∃ (k : Nat) (D : DataW Unit), i = .int .i64 (k : Int) ∧ k ≤ n ∧ Hid (Tm.okl (L.take k)) ∧ Hid (Left D ((L.take k).map Ot.O.ty)) ∧ Hid (LeftAt wr gm D) ∧ Hid (TmAt wr (w.heap.size + 1) (Tm.told (L.take k))) ∧ Hid (TmAt wr w.heap.size Tm.z) ∧ Below w.heap.size w wr) (fun i _ => n - (intOf i).toNat)
  case atStart => exact ⟨0, D0, rfl, Nat.zero_le _, by rw [List.take_zero]; exact Tm.okl_nil, by rw [List.take_zero]; exact HL0.out, HD0, by rw [List.take_zero]; exact T13.out, T03, B3.out⟩
  case round =>
    obtain ⟨k, D, rfl, hk, HO, HS, HM, HT, HZ0, hbw⟩ := hrel
    by_cases hlt : (k : Int) < (n : Int)
    · have hkn : k < n := by omega
      have hkL : k < L.length := by rw [HL.out]; omega
      obtain ⟨b, off, q, d, rfl, r1, hb1⟩ := (H.out.next hbw).at k hkL
      have hno : ¬ Tm.okl (L.take k ++ []) ∨ True := .inr trivial
      have HST := Lib.hid (Tm.told_step hkL)
      have HTS := Lib.hid (types_step hkL)
      have HOS := Lib.hid (fun hr hf => Tm.okl_step hkL HO.out hr hf)
      have HWR := Lib.hid (Tm.okl_wrong hkL)
      have HAG := Lib.hid (Tm.okl_again hkL)
      have HKN := Lib.hid (Tm.known_of_right L[k])
      have hwx := HW.out L[k] (List.getElem_mem hkL)
      have hdx := HD.out L[k] (List.getElem_mem hkL)
      clear hno HO
      generalize L[k] = r at *
      generalize Tm.told (L.take k) = tk at *
      obtain ⟨m, hm⟩ : ∃ m, r.data.length = m := ⟨_, rfl⟩
      have RG := Lib.hid r1.range
      rw [hm] at RG hdx
      have bA := below_one wr (.cells #[.int .i64 r.ty, .slice q m d] 24)
      have hg3 := heap_alloc_new wr (.cells #[.int .i64 r.ty, .slice q m d] 24)
      have k0 : (wr.alloc (.cells #[.int .i64 r.ty, .slice q m d] 24)).cell? ⟨wr.heap.size, 0, none⟩ = some (.int .i64 r.ty) := cell_of_row _ _ _ _ _ _ hg3
      have k1 : (wr.alloc (.cells #[.int .i64 r.ty, .slice q m d] 24)).cell? ⟨wr.heap.size, 1, none⟩ = some (.slice q m d) := cell_of_row _ _ _ _ _ _ hg3
      have HM2 : LeftAt (wr.alloc (.cells #[.int .i64 r.ty, .slice q m d] 24)) gm D := World.ownsMap.alloc HM.out _
      have HT2 := HT.out.next bA
      have HZ2 := HZ0.out.next bA
      have hgl := HM.out.lt
      have hR2 := r1.row.next bA
      have B2 := Lib.hid (Below.chain hbw bA)
      by_cases hin : Tm.known r.ty = true ∧ ∀ x ∈ L.take k, x.ty ≠ r.ty
      · have hlook := look_in HM2 HS.out r.ty hwx hin.1 (before_not hin.2)
        have c1 := reader_any r (w.heap.size + 1) tk q m d _ hin.1 hm hdx hR2 HT2
        have hcf := reader_enter r.ty hin.1
        have HIN := Lib.hid hin.2
        have HG3 := Lib.hid hg3
        have HMM := Lib.hid HM2
        have HZZ := Lib.hid HZ2
        have HWX := Lib.hid hwx
        clear hin bA hg3 HM2 HT2 HZ2 hR2 HM HT HZ0 hbw r1 hm hwx HKN
        generalize rfun r.ty = F at hlook c1 hcf
        by_cases hr : Tm.right r = true
        · have C1 := Lib.hid c1
          have HR := Lib.hid hr
          clear c1 hr HWR HAG
          go_wp2_with (first
            | (refine wpList_load_mid rfl 24 (.tmp 15) rfl b (off + k * 2) rfl (ocells r (.slice q m d)) _ RG.out Try.underlying24 rfl (infoOptN _ _) ?_; simp only [ocells])
            | (refine C1.out.mono ?_; rintro e w5 ⟨rfl, g5, t', T5, ht⟩; rw [HR.out]
               have k5 : w5.cell? ⟨wr.heap.size, 0, none⟩ = some (.int .i64 r.ty) := (cell_of_row _ _ _ _ _ _ ((g5.block wr.heap.size (by simp) (by simp; omega)).trans HG3.out)))
            | (at_delete; refine wpList_delete_own _ rfl _ _ 48 3 rfl 46 lawInt Try.underlying48 funcElem gm 7 D rfl (World.ownsMap.kept HMM.out g5 (by simp; omega)) _ _ rfl (keyOf_int_mk Try.underlying3 HWX.out) ?_; intro w6 own6 gr6))
          go_roundw
          case rel =>
            refine ⟨k + 1, _, by simp, by omega, HOS.out HR.out HIN.out, ?_, own6, ?_, ?_, ?_⟩
            · show Left _ _
              rw [HTS.out]; exact HS.out.drop _
            · show TmAt _ _ _
              rw [HST.out, ← ht HR.out]; exact T5.kept gr6.grown (by omega)
            · exact (HZZ.out.kept g5 (by omega)).kept gr6.grown (by omega)
            · exact Below.grown (Below.grown B2.out g5 B2.out.size (fun j hj => by cases hj; omega)) gr6.grown (Nat.le_trans B2.out.size g5.size) (fun j hj => by cases hj; omega)
          case measure => simp [intOf]; omega
        · rw [Bool.not_eq_true] at hr
          have C1 := Lib.hid c1
          have HR := Lib.hid hr
          have hZ : Z = (Tm.z, false) := HZ.out.trans (Tm.read_no (HWR.out hr))
          subst hZ
          clear c1 hr HWR HAG HZ
          go_wp2_with (first
            | (refine wpList_load_mid rfl 24 (.tmp 15) rfl b (off + k * 2) rfl (ocells r (.slice q m d)) _ RG.out Try.underlying24 rfl (infoOptN _ _) ?_; simp only [ocells])
            | (refine C1.out.mono ?_; rintro e w5 ⟨rfl, g5, t', T5, ht⟩; rw [HR.out])
            | (refine wpList_store_tm rfl _ _ rfl w.heap.size Tm.z _ rfl rfl (HZZ.out.kept g5 (by omega)) rfl ?_))
          exact bodyPost_ret (results_cell_tmp_tm Try.results15 _ _ _ Tm.z false rfl rfl (setRow_heap _ _ _ _ _ _ (HZZ.out.kept g5 (by omega)))) rfl ⟨rfl, below_setRow (Below.grown B2.out g5 B2.out.size (fun j hj => by cases hj; omega)) (Nat.le_refl _) _⟩
      · have hout : Tm.known r.ty = false ∨ r.ty ∈ (L.take k).map Ot.O.ty := by
          by_cases e1 : Tm.known r.ty = true
          · right
            by_cases e2 : ∃ x ∈ L.take k, x.ty = r.ty
            · exact before_in e2
            · exact absurd ⟨e1, fun x hx e => e2 ⟨x, hx, e⟩⟩ hin
          · left; simpa using e1
        have hZ : Z = (Tm.z, false) := by
          refine HZ.out.trans (Tm.read_no ?_)
          rcases hout with e | e
          · exact HWR.out (HKN.out e)
          · obtain ⟨x, hx, he⟩ := List.mem_map.1 e
            exact HAG.out ⟨x, hx, he⟩
        subst hZ
        obtain ⟨v, hlook⟩ := look_out HM2 HS.out r.ty hwx hout
        have HZZ := Lib.hid HZ2
        clear hin hout bA hg3 HM2 HT2 HZ2 hR2 HM HT HZ0 hbw r1 hm hwx HKN HWR HAG HZ
        go_wp2_with (first
          | (refine wpList_load_mid rfl 24 (.tmp 15) rfl b (off + k * 2) rfl (ocells r (.slice q m d)) _ RG.out Try.underlying24 rfl (infoOptN _ _) ?_; simp only [ocells])
          | (refine wpList_store_tm rfl _ _ rfl w.heap.size Tm.z _ rfl rfl HZZ.out rfl ?_))
        exact bodyPost_ret (results_cell_tmp_tm Try.results15 _ _ _ Tm.z false rfl rfl (setRow_heap _ _ _ _ _ _ HZZ.out)) rfl ⟨rfl, below_setRow B2.out (Nat.le_refl _) _⟩
    · have hall : L.take k = L := List.take_of_length_le (by rw [HL.out]; omega)
      rw [hall] at HO HT
      have hZ : Z = (Tm.told L, true) := HZ.out.trans (Tm.read_yes HO.out)
      obtain ⟨tl, htl⟩ : ∃ tl, Tm.told L = tl := ⟨_, rfl⟩
      rw [htl] at hZ HT
      subst hZ
      clear htl
      have B2 := Lib.hid hbw
      clear hall HZ HO HS HM hbw
      go_wp2_with (first
        | (refine wpList_load_row rfl 32 (.tmp 4) rfl (w.heap.size + 1) rfl 32 (tcells tl).toArray (0, 0) _ HT.out Try.underlying32 rfl infoTm ?_)
        | (refine wpList_store_tm rfl _ _ rfl w.heap.size tl _ rfl rfl HZ0.out rfl ?_))
      exact bodyPost_ret (results_cell_tmp_tm Try.results15 _ _ _ tl true rfl rfl (setRow_heap _ _ _ _ _ _ HZ0.out)) rfl ⟨rfl, below_setRow B2.out (Nat.le_refl _) _⟩
end Go.Proofs.Ytnhjpbhndckfgaa
