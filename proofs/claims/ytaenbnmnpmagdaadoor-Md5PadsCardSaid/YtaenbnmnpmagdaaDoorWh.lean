/- Contracts of the document's Bytes, of hex and of awake. -/
import Derived.Test.YtaenbnmnpmagdaaDoorWg
import Derived.Lib.SlBytesConst
namespace Go.Proofs.YtaenbnmnpmagdaaDoor
open Go.RowKit
namespace Dg
def sg (d : Nat) : UInt8 := if d < 10 then (48 + d).toUInt8 else (87 + d).toUInt8
def hexs (xs : List UInt8) : List UInt8 := xs.flatMap fun c => [sg (c.toNat / 16), sg (c.toNat % 16)]
theorem hexs_length (xs : List UInt8) : (hexs xs).length = 2 * xs.length := by
  induction xs with
  | nil => rfl
  | cons c t ih => simp [hexs] at ih ⊢; omega
theorem hexs_snoc (xs : List UInt8) (k : Nat) (h : k < xs.length) : hexs (xs.take (k + 1)) = hexs (xs.take k) ++ [sg (xs[k].toNat / 16), sg (xs[k].toNat % 16)] := by
  rw [List.take_succ_eq_append_getElem h, hexs, List.flatMap_append]; simp only [List.flatMap_cons, List.flatMap_nil, List.append_nil]; rfl
end Dg
theorem below_drewN' {B : Nat} {a w : World} (h : Below B a w) (n : Nat) : Below B a (w.drewN n) := h.trans ⟨rfl, rfl, rfl, Nat.le_refl _, fun _ _ => rfl⟩
theorem sl16_fin : ∀ d : Fin 16, (⟨#[48, 49, 50, 51, 52, 53, 54, 55, 56, 57, 97, 98, 99, 100, 101, 102]⟩ : ByteArray).extract d.val (d.val + 1) = ⟨#[Dg.sg d.val]⟩ := by decide +kernel
theorem sl16 (d : Nat) (h : d < 16) : (⟨#[48, 49, 50, 51, 52, 53, 54, 55, 56, 57, 97, 98, 99, 100, 101, 102]⟩ : ByteArray).extract d (d + 1) = ⟨#[Dg.sg d]⟩ := sl16_fin ⟨d, h⟩
theorem cat_snoc (l : List UInt8) (c : UInt8) : (⟨l.toArray⟩ : ByteArray) ++ ⟨#[c]⟩ = ⟨(l ++ [c]).toArray⟩ := by
  apply ByteArray.ext
  simp

set_option maxHeartbeats 1000000 in
set_option maxRecDepth 100000 in
theorem refBytes_some (b off cap : Nat) (xs : List UInt8) (w : World) (hl : xs.length ≤ 100000) (hb : b < w.heap.size) (hc : ∀ j (h : j < xs.length), w.cell? ⟨b, off + j, none⟩ = some (.int .u8 (xs[j].toNat : Int))) :
    Calls Tryd.prog 19 #[.slice (some ⟨b, off, none⟩) xs.length cap] w fun e w' => e = .returned (.string ⟨(Dg.hexs xs).toArray⟩) ∧ Below w.heap.size w w' := by
  have Hc := Lib.hid hc
  clear hc
  go_enter Tryd.func19, Tryd.ntmps19
  go_wp2
  go_loopw [3, 4] (fun ss i wr => ∃ k : Nat, k ≤ xs.length ∧ i = .int .i64 (k : Int) ∧ ss = .string ⟨(Dg.hexs (xs.take k)).toArray⟩ ∧ Below w.heap.size w wr) (fun _ i _ => xs.length - (intOf i).toNat)
  case atStart => exact ⟨0, Nat.zero_le _, rfl, rfl, Below.refl _ _⟩
  case round =>
    obtain ⟨k, hk, rfl, rfl, hbw⟩ := hrel
    have hal : (Dg.hexs (xs.take k)).length ≤ 200000 := by rw [Dg.hexs_length, List.length_take]; omega
    by_cases hlt : (k : Int) < (xs.length : Int)
    · have hk' : k < xs.length := by omega
      have hcell : wr.cell? ⟨b, off + k, none⟩ = some (.int .u8 (xs[k].toNat : Int)) := by rw [hbw.cell (p := ⟨b, off + k, none⟩) hb]; exact Hc.out k hk'
      have hlo : (xs[k].toNat : Int) < 256 := by have := xs[k].toNat_lt; omega
      have g1 : (0 : Int) ≤ (xs[k].toNat : Int) / 16 := by omega
      have g2 : (xs[k].toNat : Int) / 16 < 16 := by omega
      have g4 : (0 : Int) ≤ (xs[k].toNat : Int) % 16 := by omega
      have g5 : (xs[k].toNat : Int) % 16 < 16 := by omega
      have s1 := sl16 (xs[k].toNat / 16) (by omega)
      have s2 := sl16 (xs[k].toNat % 16) (by omega)
      go_wp2
      go_quiet (fail)
      go_wp2
      go_roundw
      case rel => exact ⟨k + 1, by omega, by go_num, by rw [cat_snoc, cat_snoc, Dg.hexs_snoc xs k hk', List.append_assoc]; rfl, below_drewN' hbw _⟩
      case measure => simp [intOf]; omega
    · have hkl : k = xs.length := by omega
      subst hkl
      go_wp2
      go_ret
      exact ⟨rfl, hbw⟩


theorem bc_cell {w : World} {g : Nat} {l : List UInt8} {ty : TypeId} (h : w.heap[g]? = some (.cells (Lib.byteCells l).toArray ty (0, 0))) (i : Nat) (hi : i < l.length) : w.cell? ⟨g, i, none⟩ = some (.int .u8 (l[i].toNat : Int)) := by
  rw [cell_of_row _ _ _ _ _ _ h]
  simp only [List.getElem?_toArray, Lib.byteCells, List.getElem?_map]
  rw [List.getElem?_eq_getElem hi]; rfl
set_option maxHeartbeats 1000000 in
theorem hex_any (d : List UInt8) (w : World) (hd : d.length = 16) :
    Calls Tryd.prog 10 #[.agg (Lib.byteCells d).toArray] w fun e w' => e = .returned (.string ⟨(Dg.hexs d).toArray⟩) ∧ Below w.heap.size w w' := by
  obtain ⟨C, hC⟩ : ∃ C, C = (Lib.byteCells d).toArray := ⟨_, rfl⟩
  rw [← hC]
  have H := refBytes_some w.heap.size 0 16 d (w.alloc (.cells C 24)) (by omega) (by simp) (fun j hj => by rw [Nat.zero_add]; exact bc_cell (ty := 24) (by rw [heap_alloc_new, hC]) j hj)
  rw [hd] at H
  have HH := Lib.hid H
  clear H hC
  go_enter Tryd.func10, Tryd.ntmps10
  go_wp2_with fail
  refine HH.out.mono ?_
  rintro e w1 ⟨rfl, b1⟩
  go_wp2
  go_ret
  exact ⟨rfl, below_alloc b1⟩

theorem sumNone (w : World) (ht : Tabs w) : Calls Tryd.prog 8 #[.slice none 0 0] w fun e w' => e = .returned (.agg (Lib.byteCells (Md.sum [])).toArray) ∧ Below w.heap.size w w' :=
  sum_any none 0 0 [] [] w rfl rfl (by simp) (by simp) (.inl rfl) ht
theorem sumAbc (w : World) (ht : Tabs w) : Calls Tryd.prog 8 #[.slice (some ⟨w.heap.size + 1, 0, none⟩) 1 1] ((w.alloc (.cells #[.int .u8 97, .int .u8 98, .int .u8 99] 5 (3, 4))).alloc (.cells #[.slice (some ⟨w.heap.size, 0, none⟩) 3 3] 22)) fun e w' => e = .returned (.agg (Lib.byteCells (Md.sum [97, 98, 99])).toArray) ∧ Below w.heap.size w w' := by
  have h := sum_any (some ⟨(w.alloc (.cells #[.int .u8 97, .int .u8 98, .int .u8 99] 5 (3, 4))).heap.size, 0, none⟩) 1 1 [[97, 98, 99]] [97, 98, 99] _ rfl rfl (by simp) (by simp) (parts_one rfl (rowAt_built w [97, 98, 99] 3 _ rfl rfl (by omega) (3, 4))) (ht.next (((Below.refl _ _).alloc (Nat.le_refl _) _).alloc (by simp) _))
  rw [show (w.alloc (.cells #[.int .u8 97, .int .u8 98, .int .u8 99] 5 (3, 4))).heap.size = w.heap.size + 1 by simp] at h
  refine h.mono ?_
  rintro e w' ⟨rfl, b⟩
  exact ⟨rfl, below_alloc (below_alloc b)⟩
theorem hexNone (w : World) : Calls Tryd.prog 10 #[.agg (Lib.byteCells (Md.sum [])).toArray] w fun e w' => e = .returned (.string ⟨#[100, 52, 49, 100, 56, 99, 100, 57, 56, 102, 48, 48, 98, 50, 48, 52, 101, 57, 56, 48, 48, 57, 57, 56, 101, 99, 102, 56, 52, 50, 55, 101]⟩) ∧ Below w.heap.size w w' := by
  rw [Md.sum_nil]; exact hex_any _ w rfl
theorem hexAbc (w : World) : Calls Tryd.prog 10 #[.agg (Lib.byteCells (Md.sum [97, 98, 99])).toArray] w fun e w' => e = .returned (.string ⟨#[57, 48, 48, 49, 53, 48, 57, 56, 51, 99, 100, 50, 52, 102, 98, 48, 100, 54, 57, 54, 51, 102, 55, 100, 50, 56, 101, 49, 55, 102, 55, 50]⟩) ∧ Below w.heap.size w w' := by
  rw [Md.sum_abc]; exact hex_any _ w rfl

set_option maxHeartbeats 2000000 in
set_option maxRecDepth 100000 in
theorem awake_any (w : World) (ht : Tabs w) : Calls Tryd.prog 7 #[] w fun e w' => e = .returned (.bool true) ∧ Below w.heap.size w w' := by
  have kc := fun (w : World) (C : Array Value) (n c : Nat) => Lib.run_convert_bytes_const (P := Tryd.prog) w 22 5 C n c Tryd.underlying22 Tryd.underlying5
  have HT := Lib.hid ht
  clear ht
  obtain ⟨D0, h0⟩ : ∃ D, D = (Lib.byteCells (Md.sum [])).toArray := ⟨_, rfl⟩
  obtain ⟨D1, h1⟩ : ∃ D, D = (Lib.byteCells (Md.sum [97, 98, 99])).toArray := ⟨_, rfl⟩
  have H0 := Lib.hid h0
  have H1 := Lib.hid h1
  clear h0 h1
  go_enter Tryd.func7, Tryd.ntmps7
  go_wp2_with fail
  refine (sumNone _ HT.out).mono ?_
  rintro e w1 ⟨rfl, b1⟩
  rw [← H0.out]
  go_wp2_with fail
  rw [H0.out]
  refine (hexNone _).mono ?_
  rintro e w2 ⟨rfl, b2⟩
  rw [← H0.out]
  have T2 := Lib.hid ((HT.out.next b1).next b2)
  go_wp2_with fail
  refine (sumAbc _ T2.out).mono ?_
  rintro e w3 ⟨rfl, b3⟩
  rw [← H1.out]
  go_wp2_with fail
  rw [H1.out]
  refine (hexAbc _).mono ?_
  rintro e w4 ⟨rfl, b4⟩
  rw [← H1.out]
  go_wp2
  go_ret
  exact ⟨rfl, Below.chain (Below.chain (Below.chain b1 b2) b3) b4⟩
end Go.Proofs.YtaenbnmnpmagdaaDoor
