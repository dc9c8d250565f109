/- Contract of digest. -/
import Derived.Test.YtjalhlofpoknoaaDoorM3Wd
namespace Go.Proofs.YtjalhlofpoknoaaDoor.S3
open Go.RowKit
namespace Md
def St.list (s : St) : List Nat := [s.a, s.b, s.c, s.d]
theorem St.list_get (s : St) (i : Nat) (h : i < 4) : s.list[i]? = some (s.get i) := by
  have : i = 0 ∨ i = 1 ∨ i = 2 ∨ i = 3 := by omega
  rcases this with rfl | rfl | rfl | rfl <;> rfl
def dpart (s : St) (k : Nat) : List UInt8 := (List.range 16).map fun i => if i < k then dg (s.get (i / 4)) (i % 4) else 0
theorem dpart_length (s : St) (k : Nat) : (dpart s k).length = 16 := by simp [dpart]
theorem dpart_zero (s : St) : dpart s 0 = List.replicate 16 0 := rfl
theorem dpart_all (s : St) : dpart s 16 = digest s := by
  apply List.ext_getElem
  · simp [dpart, digest]
  · intro i h1 h2
    have : i < 16 := by simpa [dpart] using h1
    simp [dpart, digest, this]
theorem dpart_set (s : St) (k : Nat) : (dpart s k).set k (dg (s.get (k / 4)) (k % 4)) = dpart s (k + 1) := by
  apply List.ext_getElem
  · simp [dpart]
  · intro i h1 h2
    rw [List.getElem_set]
    simp only [dpart, List.getElem_map, List.getElem_range]
    by_cases e : k = i
    · subst e; rw [if_pos rfl, if_pos (by omega)]
    · rw [if_neg e]
      by_cases h : i < k
      · rw [if_pos h, if_pos (by omega)]
      · rw [if_neg h, if_neg (by omega)]
theorem digest_length (s : St) : (digest s).length = 16 := by simp [digest]
end Md
theorem heap3_new (w : World) (A B C : Obj) : (((w.alloc A).alloc B).alloc C).heap[w.heap.size + 1 + 1]? = some C := by
  rw [show w.heap.size + 1 + 1 = ((w.alloc A).alloc B).heap.size by simp]; exact heap_alloc_new _ _
theorem heap3_mid (w : World) (A B C : Obj) : (((w.alloc A).alloc B).alloc C).heap[w.heap.size + 1]? = some B := by
  rw [heap_alloc_old _ _ (by simp)]; exact heap_alloc2_new _ _ _
theorem heap3_old (w : World) (A B C : Obj) : (((w.alloc A).alloc B).alloc C).heap[w.heap.size]? = some A := by
  rw [heap_alloc_old _ _ (by simp; omega)]; exact heap_alloc2_old _ _ _
theorem bc_one (l : List UInt8) : (Lib.byteCells l).toArray.all (·.oneCell') = true := by
  rw [List.all_toArray]
  simp [Lib.byteCells, Value.oneCell']

set_option maxHeartbeats 1000000 in
theorem digest_any (s : Md.St) (w : World) (_hf : s.fine) :
    Calls Tryd.prog 29 #[.agg (Md.uc s.list).toArray] w fun e w' => e = .returned (.agg (Lib.byteCells (Md.digest s)).toArray) ∧ Below w.heap.size w w' := by
  obtain ⟨C, hC⟩ : ∃ C, C = (Md.uc s.list).toArray := ⟨_, rfl⟩
  rw [← hC]
  have HC := Lib.hid hC
  clear hC
  go_enter Tryd.func29, Tryd.ntmps29
  go_wp2
  go_loopw [4, 5] (fun _ i wr => ∃ k : Nat, k ≤ 16 ∧ i = .int .i64 (k : Int) ∧ wr.heap[w.heap.size + 1 + 1]? = some (.cells (Lib.byteCells (Md.dpart s k)).toArray 38 (0, 0)) ∧ wr.heap[w.heap.size + 1]? = some (.cells (Lib.byteCells (Md.dpart s 0)).toArray 38 (0, 0)) ∧ wr.heap[w.heap.size]? = some (.cells C 56 (0, 0)) ∧ Below w.heap.size w wr) (fun _ i _ => 16 - (intOf i).toNat)
  case atStart =>
    have hz : (Lib.byteCells (Md.dpart s 0)).toArray = #[.int .u8 0, .int .u8 0, .int .u8 0, .int .u8 0, .int .u8 0, .int .u8 0, .int .u8 0, .int .u8 0, .int .u8 0, .int .u8 0, .int .u8 0, .int .u8 0, .int .u8 0, .int .u8 0, .int .u8 0, .int .u8 0] := by rw [Md.dpart_zero]; rfl
    refine ⟨0, by omega, rfl, ?_, ?_, ?_, (((Below.refl _ _).alloc (Nat.le_refl _) _).alloc (by simp) _).alloc (by simp; omega) _⟩
    · rw [hz]; exact heap3_new _ _ _ _
    · rw [hz]; exact heap3_mid _ _ _ _
    · exact heap3_old _ _ _ _
  case round =>
    obtain ⟨k, hk, rfl, hx, hz, hs, hbw⟩ := hrel
    by_cases hlt : (k : Int) < 16
    · have hst := Md.dpart_set s k
      obtain ⟨q, hq⟩ : ∃ q, q = k / 4 := ⟨_, rfl⟩
      obtain ⟨r, hr⟩ : ∃ r, r = k % 4 := ⟨_, rfl⟩
      rw [← hq, ← hr] at hst
      obtain ⟨m, hm⟩ : ∃ m, m = s.get q := ⟨_, rfl⟩
      have hcs : wr.cell? ⟨w.heap.size, q, none⟩ = some (.int .u32 (m : Int)) := by
        rw [cell_of_row _ _ _ _ _ _ hs, HC.out]
        simp only [List.getElem?_toArray, Md.uc, List.getElem?_map]
        rw [Md.St.list_get _ _ (by omega), hm]; rfl
      obtain ⟨old, hcx⟩ : ∃ u, wr.cell? ⟨w.heap.size + 1 + 1, k, none⟩ = some u := by
        rw [cell_of_row _ _ _ _ _ _ hx]
        exact ⟨_, Array.getElem?_eq_getElem (by simp [Lib.byteCells_length, Md.dpart_length]; omega)⟩
      have hfz := frozen_of_row wr (w.heap.size + 1 + 1) k _ 38 hx
      have hd := Md.dg_int m r
      rw [← hm] at hst
      have Hst := Lib.hid hst
      have Hx := Lib.hid hx
      have Hz := Lib.hid hz
      have Hs := Lib.hid hs
      have Hd := Lib.hid hd
      clear hst hm hx hz hs hd
      have hqi : (k : Int) / 4 = (q : Int) := by omega
      have hri : (k : Int) % 4 = (r : Int) := by omega
      have hq16 : (q : Int) < 4 := by omega
      have hr4 : (r : Int) < 4 := by omega
      have hw8 : IntKind.i64.wrap (8 * (r : Int)) = 8 * (r : Int) := by rw [IntKind.wrap_i64]; omega
      have hk0 : ¬ 8 * (r : Int) < 0 := by omega
      clear hq hr
      go_wp2
      go_roundw
      case rel =>
        refine ⟨k + 1, by omega, by go_num, ?_, ?_, ?_, hbw.setCell (by simp; omega) _⟩
        · rw [Hd.out, heap_setCell_same _ _ _ _ _ _ Hx.out, ← Hst.out, cells_set]
          simp
        · rw [heap_setCell_other _ _ _ _ (by simp)]; exact Hz.out
        · rw [heap_setCell_other _ _ _ _ (by show w.heap.size ≠ w.heap.size + 1 + 1; omega)]; exact Hs.out
      case measure => simp [intOf]; omega
    · have hk64 : k = 16 := by omega
      subst hk64
      rw [Md.dpart_all] at hx
      have hsz : (Tryd.prog.info? 38).map (·.size) = some (Lib.byteCells (Md.digest s)).toArray.size := by rw [info24, List.size_toArray, Lib.byteCells_length, Md.digest_length]
      have hold : (Lib.byteCells (Md.dpart s 0)).toArray.size = (Lib.byteCells (Md.digest s)).toArray.size := by simp [Lib.byteCells_length, Md.digest_length, Md.dpart_length]
      have Hsz := Lib.hid hsz
      have Hold := Lib.hid hold
      have Hx := Lib.hid hx
      have Hz := Lib.hid hz
      clear hsz hold hx hz hs
      go_wp2_with (first | (refine wpList_load_row rfl 38 _ rfl (w.heap.size + 1 + 1) rfl 38 _ _ _ Hx.out Tryd.underlying38 rfl Hsz.out ?_) | (refine wpList_store_row rfl 38 _ _ rfl (w.heap.size + 1) _ rfl rfl 38 _ Hz.out Hsz.out Hold.out (bc_one _) ?_))
      refine bodyPost_ret (v := .agg (Lib.byteCells (Md.digest s)).toArray) ?_ rfl ⟨rfl, ?_⟩
      · exact results_cell_row Tryd.results29 _ _ (w.heap.size + 1) 38 _ _ _ rfl (setRow_heap _ _ _ _ _ _ Hz.out) Tryd.underlying38 rfl Hsz.out
      · exact below_setRow hbw (by omega) _
end Go.Proofs.YtjalhlofpoknoaaDoor.S3
