/- The walk of Md5Keeps. -/
import Derived.Test.YtaenbnmnpmagdaaDoorPartsWalk
import Derived.Laws.CopyOwn
namespace Go.Proofs.YtaenbnmnpmagdaaDoor
open Go.RowKit

namespace Md
/-- The room: the text, then k sevens. -/
def rk (xs : List UInt8) (k : Nat) : List UInt8 := xs ++ (List.replicate k 7 ++ List.replicate (100 - k) 0)
theorem rk_length (xs : List UInt8) (k : Nat) (h : k ≤ 100) : (rk xs k).length = xs.length + 100 := by simp [rk]; omega
theorem rk_set (xs : List UInt8) (k : Nat) (h : k < 100) : (rk xs k).set (xs.length + k) 7 = rk xs (k + 1) := by
  unfold rk
  rw [List.set_append_right _ _ (by omega), Nat.add_sub_cancel_left, List.set_append_right _ _ (by simp)]
  rw [show 100 - k = (100 - (k + 1)) + 1 by omega, List.replicate_succ, List.length_replicate, Nat.sub_self, List.set_cons_zero, List.replicate_succ' (n := k)]
  simp
theorem rk_take (xs : List UInt8) (k : Nat) : (rk xs k).take xs.length = xs := by simp [rk]
theorem rk_get (xs : List UInt8) (l : Nat) (h1 : xs.length ≤ l) (h2 : l < xs.length + 100) : (rk xs 100)[l]? = some 7 := by
  unfold rk
  rw [List.getElem?_append_right h1, List.getElem?_append_left (by simp; omega), List.getElem?_replicate, if_pos (by omega)]
end Md
theorem heap_keep {w w' : World} {g : Nat} {o : Obj} (h : w.heap[g]? = some o) (hb : Below w.heap.size w w') : w'.heap[g]? = some o := by
  rw [hb.block g (Array.getElem?_eq_some_iff.1 h).1]; exact h
/-- A block of bytes. -/
def RoomAt (w : World) (g : Nat) (R : List UInt8) : Prop := w.heap[g]? = some (.cells (Lib.byteCells R).toArray 5 (0, 0))
theorem RoomAt.row {w : World} {g : Nat} {R : List UInt8} (h : RoomAt w g R) (n : Nat) (hn : R.length = n) (hm : n ≤ 100000) : RowAt w (some ⟨g, 0, none⟩) n R := by
  subst hn
  refine ⟨Nat.le_refl _, by unfold maxLen; omega, (fun e => by cases e), fun ad e j u hu => ?_⟩
  cases e
  rw [Go.WideShapes.add_plain, cell_of_row _ _ _ _ _ _ h, Nat.zero_add]
  simpa using hu
theorem room_made {w : World} {base g n : Nat} (h : w.ownsRow base 5 1 (.slice (some ⟨g, 0, none⟩) n n) n (madeCells (Value.int .u8 0).cells (n * 1)).toList) : RoomAt w g (List.replicate n 0) := by
  have e : Lib.byteCells (List.replicate n 0) = (madeCells (Value.int .u8 0).cells (n * 1)).toList := by
    rw [Nat.mul_one, show (Value.int .u8 0).cells = #[.int .u8 0] from rfl, toList_madeCells_one]; simp [Lib.byteCells]
  rw [← e] at h
  rcases h.2 with ⟨h1, _⟩ | ⟨g', cap, cur, h1, _, h2, _, _, h3, h4⟩
  · cases h1
  · cases h1
    unfold RoomAt
    rw [h2]
    have h5 : cur.toList = Lib.byteCells (List.replicate n 0) := by
      rw [← h4, List.take_of_length_le (by simp [h3])]
    rw [← h5]
theorem byteCells_splice (Z xs : List UInt8) : splice (Lib.byteCells Z) 0 (Lib.byteCells xs) = Lib.byteCells (xs ++ Z.drop xs.length) := by
  unfold splice
  rw [List.take_zero, List.nil_append, Nat.zero_add, Lib.byteCells_length, Lib.byteCells_append]
  simp [Lib.byteCells, List.map_drop]
theorem info5s : (Tryd.prog.info? 5).map (·.size) = some 1 := by kernel_rfl

theorem wpList_copy_room {w w0 : World} {ops : Array Oper} {rest : List Oper} {o : Oper} {act : Act} {Q : Exit → Act → World → Prop} (hgd : o.guard = none) (d s : Operand)
    (ho : o.op = .call { callee := .builtin .copy, args := #[d, s], argTypes := #[22, 22] }) (g n : Nat) (a : Option Addr) (m cap : Nat) (xs : List UInt8) (hd : act.eval d = .slice (some ⟨g, 0, none⟩) n n) (hs : act.eval s = .slice a m cap) (hm : xs.length = m)
    (Z : List UInt8) (hroom : RoomAt w g Z) (hZ : Z.length = n) (hle : xs.length ≤ n) (hrow : RowAt w a cap xs) (B : Nat) (hb : Below B w0 w) (hBg : B ≤ g)
    (h : ∀ w', RoomAt w' g (xs ++ Z.drop xs.length) → Below B w0 w' → wpList Tryd.prog ops Q rest (act.put o.dst (goInt m)) w') : wpList Tryd.prog ops Q (o :: rest) act w := by
  subst hm
  refine wpList_copy_splice hgd d s 22 22 ho 5 Tryd.underlying22 info5s _ a n n xs.length cap hd hs g 0 (Lib.byteCells Z) 5 hroom (Lib.byteCells xs) ?_ ?_ ?_ (cells_one xs) B w0 hb hBg ?_
  · rw [Lib.byteCells_length]; exact (Nat.min_eq_left hle).symm
  · intro hp
    refine ⟨rfl, ?_⟩
    cases a with
    | none =>
      have h1 := hrow.nil rfl
      have h2 := hrow.le
      rw [Lib.byteCells_length] at hp
      omega
    | some ad => exact ⟨ad, rfl, fun j v hv => hrow.cell ad rfl j v hv⟩
  · rw [Lib.byteCells_length, Lib.byteCells_length]; omega
  · intro w' h1 h2
    rw [byteCells_splice] at h1
    rw [Lib.byteCells_length]
    exact h w' h1 h2

set_option maxHeartbeats 2000000 in
set_option maxRecDepth 100000 in
theorem keeps_main (a : Option Addr) (cap : Nat) (xs : List UInt8) (w : World) (hl : xs.length ≤ 2000) (h : RowAt w a cap xs) (ht : Tabs w) :
    Calls Tryd.prog 6 #[.slice a xs.length cap] w fun e w' => e = .returned (.bool true) ∧ Below w.heap.size w w' := by
  obtain ⟨i0, hi, hz0, hz1, hz2⟩ := info_parts info5
  have HR := Lib.hid h
  have HT := Lib.hid ht
  have hcap := h.le
  clear h ht
  have hg : ¬ 2000 < (xs.length : Int) := by omega
  obtain ⟨n, hn⟩ : ∃ n, n = xs.length + 100 := ⟨_, rfl⟩
  have hni : (xs.length : Int) + 100 = (n : Int) := by omega
  have hZ : Hid ((List.replicate n (0 : UInt8)).length = n) := by show _ = _; simp
  have hle : Hid (xs.length ≤ n) := by show _ ≤ _; omega
  have hzr : xs ++ (List.replicate n (0 : UInt8)).drop xs.length = Md.rk xs 0 := by unfold Md.rk; rw [List.drop_replicate, hn]; simp
  have Hzr := Lib.hid hzr
  have Hn := Lib.hid hn
  clear hn hzr
  go_enter Tryd.func6, Tryd.ntmps6
  go_wp2_with fail
  refine (awake_any _ HT.out).mono ?_
  rintro e w1 ⟨rfl, b1⟩
  have HR1 := Lib.hid (HR.out.next b1)
  go_wp2_with (first | (at_make; refine wpList_make_full _ rfl _ _ 22 rfl w1.heap.size 5 i0 (.int .u8 0) 1 Tryd.underlying22 hi hz0 hz1 .i64 .i64 _ _ n rfl rfl (by omega) (by omega) (by rw [hz2]; have := Hn.out; omega) (by have := Hn.out; unfold maxLen; omega) (Nat.le_refl _) ?_; intro w2 o2 g2; have hb2 : Below w1.heap.size w1 w2 := (Below.refl _ _).grown g2 (Nat.le_refl _) (fun k h => by cases h); have hr2 := Lib.hid (room_made o2); have HR2 := Lib.hid (HR1.out.next hb2); clear o2 g2) | (refine wpList_copy_room rfl _ _ rfl w1.heap.size n a xs.length cap xs rfl rfl rfl _ hr2.out hZ.out hle.out HR2.out w1.heap.size hb2 (Nat.le_refl _) ?_; intro w3 h3 b3))
  rw [Hzr.out] at h3
  obtain ⟨g, hgw⟩ : ∃ g, g = w1.heap.size := ⟨_, rfl⟩
  rw [← hgw] at h3 ⊢
  have hgl : w1.heap.size ≤ g := by omega
  clear hgw
  go_loopw [4] (fun i wr => ∃ k : Nat, k ≤ 100 ∧ i = .int .i64 ((xs.length + k : Nat) : Int) ∧ RoomAt wr g (Md.rk xs k) ∧ Below w1.heap.size w1 wr) (fun i _ => n - (intOf i).toNat)
  case atStart => exact ⟨0, by omega, rfl, h3, b3⟩
  case round =>
    obtain ⟨k, hk, rfl, hrm, hbw⟩ := hrel
    obtain ⟨l, hl2⟩ : ∃ l, l = xs.length + k := ⟨_, rfl⟩
    rw [← hl2]
    by_cases hlt : (l : Int) < (n : Int)
    · have hk1 : k < 100 := by omega
      have hst := Md.rk_set xs k hk1
      have hrl := Md.rk_length xs k hk
      rw [← hl2] at hst
      obtain ⟨old, hcx⟩ : ∃ u, wr.cell? ⟨g, l, none⟩ = some u := by
        rw [cell_of_row _ _ _ _ _ _ hrm]
        exact ⟨_, Array.getElem?_eq_getElem (by simp [Lib.byteCells_length, hrl]; omega)⟩
      have hfz := frozen_of_row wr g l _ 5 hrm
      have Hst := Lib.hid hst
      have Hrm := Lib.hid hrm
      have Hl2 := Lib.hid hl2
      clear hst hrl hrm hl2
      go_wp2
      go_roundw
      case rel =>
        refine ⟨k + 1, by omega, by have := Hl2.out; congr 1; omega, ?_, hbw.setCell (by simp; omega) _⟩
        unfold RoomAt
        rw [heap_setCell_same _ _ _ _ _ _ Hrm.out, ← Hst.out, cells_set]
        simp
      case measure => have := Hl2.out; simp [intOf]; omega
    · have hk1 : k = 100 := by omega
      subst hk1
      have hrow := hrm.row n (by rw [Md.rk_length xs 100 (by omega)]; exact Hn.out.symm) (by have := Hn.out; omega)
      have hroh := hrow.head xs.length
      rw [Md.rk_take] at hroh
      obtain ⟨D, hD⟩ : ∃ D, D = (Lib.byteCells (Md.sum xs)).toArray := ⟨_, rfl⟩
      have S1 := Lib.hid (sum_parts xs [xs] 1 D hD (by simp) rfl (by omega) (by omega))
      have heq : ∀ w, (Op.equalIn 10000 24 (.agg D) (.agg D)).run Tryd.prog w = .ok true w := fun w => by rw [hD]; exact eql_digest _ (sum_length _) w
      have Hsz : Hid ((Tryd.prog.info? 24).map (·.size) = some D.size) := by show _ = _; rw [hD, info24, List.size_toArray, Lib.byteCells_length, sum_length]
      have HD1 : Hid (D.all (·.oneCell') = true) := by show _ = _; rw [hD]; exact bc_one _
      have HDs : Hid (z24.size = D.size) := by
        have h : D.size = 16 := by rw [hD, List.size_toArray, Lib.byteCells_length, sum_length]
        show _ = _
        rw [h]; rfl
      have hgu := guard24
      have HP := Lib.hid (parts_one rfl hroh)
      have HT3 := Lib.hid (((HT.out.next b1).next hbw).next ((Below.refl _ _).alloc (Nat.le_refl _) (.cells #[.slice (some ⟨g, 0, none⟩) xs.length n] 22)))
      have HB3 := Lib.hid (Below.chain (Below.chain b1 hbw) ((Below.refl _ _).alloc (Nat.le_refl _) (.cells #[.slice (some ⟨g, 0, none⟩) xs.length n] 22)))
      have Hrm := Lib.hid hrm
      have HRw := Lib.hid (HR1.out.next hbw)
      have hbw4 : Hid (Below wr.heap.size wr (wr.alloc (.cells #[.slice (some ⟨g, 0, none⟩) xs.length n] 22))) := (Below.refl _ _).alloc (Nat.le_refl _) _
      have hln : (xs.length : Int) ≤ (n : Int) := by omega
      clear hD hrow hroh hrm hl2 h3 b3 hbw hgl
      go_wp2_with fail
      refine (S1.out _ _ HP.out HT3.out).mono ?_
      rintro e w5 ⟨rfl, b5⟩
      have hrm5 := Lib.hid (show RoomAt w5 g (Md.rk xs 100) from heap_keep (heap_keep Hrm.out hbw4.out) b5)
      have hR5 := Lib.hid ((HRw.out.next hbw4.out).next b5)
      have hT5 := Lib.hid (HT3.out.next b5)
      have hB5 := Lib.hid (Below.chain HB3.out b5)
      go_wp2_with (refine wpList_store_row rfl 24 _ _ rfl w5.heap.size D rfl rfl 24 z24 (heap_alloc_new _ _) Hsz.out HDs.out HD1.out ?_)
      obtain ⟨gx, hgx⟩ : ∃ g, g = w5.heap.size := ⟨_, rfl⟩
      have b6 : Below w5.heap.size w5 ((w5.alloc (.cells #[.int .u8 0, .int .u8 0, .int .u8 0, .int .u8 0, .int .u8 0, .int .u8 0, .int .u8 0, .int .u8 0, .int .u8 0, .int .u8 0, .int .u8 0, .int .u8 0, .int .u8 0, .int .u8 0, .int .u8 0, .int .u8 0] 24)).setRow w5.heap.size D) := below_setRow ((Below.refl _ _).alloc (Nat.le_refl _) _) (Nat.le_refl _) _
      have hx6 : ((w5.alloc (.cells #[.int .u8 0, .int .u8 0, .int .u8 0, .int .u8 0, .int .u8 0, .int .u8 0, .int .u8 0, .int .u8 0, .int .u8 0, .int .u8 0, .int .u8 0, .int .u8 0, .int .u8 0, .int .u8 0, .int .u8 0, .int .u8 0] 24)).setRow w5.heap.size D).heap[gx]? = some (.cells D 24 (0, 0)) := by
        rw [hgx]; exact setRow_heap _ _ _ _ _ _ (heap_alloc_new _ _)
      have hrm6 := Lib.hid (show RoomAt _ g (Md.rk xs 100) from heap_keep hrm5.out b6)
      have hR6 := Lib.hid (hR5.out.next b6)
      have hT6 := Lib.hid (hT5.out.next b6)
      have hB6 := Lib.hid (Below.chain hB5.out b6)
      have Hx6 := Lib.hid hx6
      clear b6 hx6
      generalize (w5.alloc (.cells #[.int .u8 0, .int .u8 0, .int .u8 0, .int .u8 0, .int .u8 0, .int .u8 0, .int .u8 0, .int .u8 0, .int .u8 0, .int .u8 0, .int .u8 0, .int .u8 0, .int .u8 0, .int .u8 0, .int .u8 0, .int .u8 0] 24)).setRow w5.heap.size D = wq at hrm6 hR6 hT6 hB6 Hx6 ⊢
      rw [← hgx]
      clear hgx
      go_loop [6] (fun i => ∃ k : Nat, xs.length ≤ k ∧ k ≤ n ∧ i = .int .i64 (k : Int)) (fun i => n - (intOf i).toNat)
      case atStart => exact ⟨xs.length, Nat.le_refl _, hle.out, rfl⟩
      case round =>
        obtain ⟨k, hk1, hk2, rfl⟩ := hrel
        by_cases hlt2 : (k : Int) < (n : Int)
        · have hcell : wq.cell? ⟨g, k, none⟩ = some (.int .u8 7) := by
            rw [cell_of_row _ _ _ _ _ _ hrm6.out]
            simp only [List.getElem?_toArray, Lib.byteCells, List.getElem?_map]
            rw [Md.rk_get xs k hk1 (by have := Hn.out; omega)]; rfl
          go_wp2
          go_round
          case rel => exact ⟨k + 1, by omega, by omega, by go_num⟩
          case measure => simp [intOf]; omega
        · have hrow := hrm6.out.row n (by rw [Md.rk_length xs 100 (by omega)]; exact Hn.out.symm) (by have := Hn.out; omega)
          have hroh := hrow.head xs.length
          rw [Md.rk_take] at hroh
          have hdr : Below wq.heap.size wq wq.drew := (Below.refl _ _).drew
          have HS := Lib.hid (And.intro (hroh.next hdr) (And.intro (hR6.out.next hdr) (heap_keep Hx6.out hdr)))
          have HTr := Lib.hid (hT6.out.next hdr)
          have HBr := Lib.hid (Below.chain hB6.out hdr)
          clear hrow hroh hdr
          go_wp2
          have hS0 := HS.out
          refine held_start (S := fun W => RowAt W (some ⟨g, 0, none⟩) n xs ∧ RowAt W a cap xs ∧ W.heap[gx]? = some (.cells D 24 (0, 0))) 16 (by kernel_rfl) rfl ?_
          refine held_take 0 (v := ?_) rfl (by kernel_rfl) (by kernel_rfl) (by kernel_rfl) (fun _ _ _ h => h) (by assumption) (by rfl) ?_ ?_
          rotate_left
          · (intro W hW; go_simp; try with_reducible rfl)
          simp only [Act.put, List.setIfInBounds_toArray, List.set_cons_zero, List.set_cons_succ]
          refine held_take 1 (v := ?_) rfl (by kernel_rfl) (by kernel_rfl) (by kernel_rfl) (fun _ _ _ h => h) (by assumption) (by rfl) ?_ ?_
          rotate_left
          · (intro W hW; go_simp; try with_reducible rfl)
          simp only [Act.put, List.setIfInBounds_toArray, List.set_cons_zero, List.set_cons_succ]
          refine held_take 2 (v := ?_) rfl (by kernel_rfl) (by kernel_rfl) (by kernel_rfl) (fun _ _ _ h => h) (by assumption) (by rfl) ?_ ?_
          rotate_left
          · (intro W hW; go_simp; try with_reducible rfl)
          simp only [Act.put, List.setIfInBounds_toArray, List.set_cons_zero, List.set_cons_succ]
          refine held_take 3 (v := .slice (some ⟨g, 0, none⟩) xs.length n) rfl (by kernel_rfl) (by kernel_rfl) (by kernel_rfl) (fun _ _ _ h => h) (by assumption) (by rfl) ?_ ?_
          · (intro W hW; go_simp)
          simp only [Act.put, List.setIfInBounds_toArray, List.set_cons_zero, List.set_cons_succ]
          refine held_take 4 (v := .string ⟨xs.toArray⟩) rfl (by kernel_rfl) (by kernel_rfl) (by kernel_rfl) (fun _ _ _ h => h) (by assumption) (by rfl) ?_ ?_
          · (intro W hW; have hcv := conv_row (n := xs.length) rfl hW.1; go_simp)
          simp only [Act.put, List.setIfInBounds_toArray, List.set_cons_zero, List.set_cons_succ]
          refine held_take 5 (v := ?_) rfl (by kernel_rfl) (by kernel_rfl) (by kernel_rfl) (fun _ _ _ h => h) (by assumption) (by rfl) ?_ ?_
          rotate_left
          · (intro W hW; go_simp; try with_reducible rfl)
          simp only [Act.put, List.setIfInBounds_toArray, List.set_cons_zero, List.set_cons_succ]
          refine held_take 6 (v := .string ⟨xs.toArray⟩) rfl (by kernel_rfl) (by kernel_rfl) (by kernel_rfl) (fun _ _ _ h => h) (by assumption) (by rfl) ?_ ?_
          · (intro W hW; have hcv := conv_row (n := xs.length) rfl hW.2.1; go_simp)
          simp only [Act.put, List.setIfInBounds_toArray, List.set_cons_zero, List.set_cons_succ]
          refine held_take 7 (v := .bool true) rfl (by kernel_rfl) (by kernel_rfl) (by kernel_rfl) (fun _ _ _ h => h) (by assumption) (by rfl) ?_ ?_
          · (intro W hW; go_simp)
          simp only [Act.put, List.setIfInBounds_toArray, List.set_cons_zero, List.set_cons_succ]
          refine held_take 8 (v := ?_) rfl (by kernel_rfl) (by kernel_rfl) (by kernel_rfl) (fun _ _ _ h => h) (by assumption) (by rfl) ?_ ?_
          rotate_left
          · (intro W hW; go_simp; try with_reducible rfl)
          simp only [Act.put, List.setIfInBounds_toArray, List.set_cons_zero, List.set_cons_succ]
          refine held_take 9 (v := .agg D) rfl (by kernel_rfl) (by kernel_rfl) (by kernel_rfl) (fun _ _ _ h => h) (by assumption) (by rfl) (fun W hW => run_load_row 24 _ rfl gx rfl 24 _ _ _ hW.2.2 Tryd.underlying24 rfl Hsz.out) ?_
          simp only [Act.put, List.setIfInBounds_toArray, List.set_cons_zero, List.set_cons_succ]
          refine held_take 10 (v := ?_) rfl (by kernel_rfl) (by kernel_rfl) (by kernel_rfl) (fun _ _ _ h => h) (by assumption) (by rfl) ?_ ?_
          rotate_left
          · (intro W hW; go_simp; try with_reducible rfl)
          simp only [Act.put, List.setIfInBounds_toArray, List.set_cons_zero, List.set_cons_succ]
          have hS := HS.out
          have hb8 : Below wq.drew.heap.size wq.drew (wq.drew.alloc (.cells #[.slice a xs.length cap] 22)) := (Below.refl _ _).alloc (Nat.le_refl _) _
          have HS8 := Lib.hid (And.intro (hS.1.next hb8) (And.intro (hS.2.1.next hb8) (heap_keep hS.2.2 hb8)))
          have HP8 := Lib.hid (parts_one rfl hS.2.1)
          have HT8 := Lib.hid (HTr.out.next hb8)
          have HB8 := Lib.hid (Below.chain HBr.out hb8)
          refine held_makes 11 (v := .slice (some ⟨wq.drew.heap.size, 0, none⟩) 1 1) (w' := wq.drew.alloc (.cells #[.slice a xs.length cap] 22)) rfl (by kernel_rfl) (by rfl) (by go_simp) HS8.out ?_
          simp only [Act.put, List.setIfInBounds_toArray, List.set_cons_zero, List.set_cons_succ]
          generalize wq.drew.alloc (.cells #[.slice a xs.length cap] 22) = w8 at HS8 HP8 HT8 HB8 ⊢
          generalize wq.drew.heap.size = g1 at HP8 ⊢
          refine held_call 12 (f := 8) (args := #[.slice (some ⟨g1, 0, none⟩) 1 1]) rfl (by kernel_rfl) (by rfl) (by go_simp) ?_
          refine (S1.out _ _ HP8.out HT8.out).mono ?_
          rintro e w9 ⟨rfl, b9⟩
          have hS9 := And.intro (HS8.out.1.next b9) (And.intro (HS8.out.2.1.next b9) (heap_keep HS8.out.2.2 b9))
          refine ⟨_, rfl, hS9, ?_⟩
          simp only [Act.put, List.setIfInBounds_toArray, List.set_cons_zero, List.set_cons_succ]
          refine held_take 13 (v := .bool true) rfl (by kernel_rfl) (by kernel_rfl) (by kernel_rfl) (fun _ _ _ h => h) (by assumption) (by rfl) ?_ ?_
          · (intro W hW; go_simp)
          simp only [Act.put, List.setIfInBounds_toArray, List.set_cons_zero, List.set_cons_succ]
          refine held_take 14 (v := ?_) rfl (by kernel_rfl) (by kernel_rfl) (by kernel_rfl) (fun _ _ _ h => h) (by assumption) (by rfl) ?_ ?_
          rotate_left
          · (intro W hW; go_simp; try with_reducible rfl)
          simp only [Act.put, List.setIfInBounds_toArray, List.set_cons_zero, List.set_cons_succ]
          refine held_take 15 (v := ?_) rfl (by kernel_rfl) (by kernel_rfl) (by kernel_rfl) (fun _ _ _ h => h) (by assumption) (by rfl) ?_ ?_
          rotate_left
          · (intro W hW; go_simp; try with_reducible rfl)
          simp only [Act.put, List.setIfInBounds_toArray, List.set_cons_zero, List.set_cons_succ]
          refine held_done (by kernel_rfl) ?_
          go_wp2
          go_ret
          exact ⟨rfl, Below.chain HB8.out b9⟩

set_option maxHeartbeats 1000000 in
theorem keeps_long (a : Option Addr) (cap : Nat) (xs : List UInt8) (w : World) (hl : 2000 < xs.length) (ht : Tabs w) :
    Calls Tryd.prog 6 #[.slice a xs.length cap] w fun e w' => e = .returned (.bool true) ∧ Below w.heap.size w w' := by
  have HT := Lib.hid ht
  clear ht
  have hg : 2000 < (xs.length : Int) := by omega
  go_enter Tryd.func6, Tryd.ntmps6
  go_wp2_with fail
  refine (awake_any _ HT.out).mono ?_
  rintro e w1 ⟨rfl, b1⟩
  go_wp2_with fail
  refine (awake_any _ (HT.out.next b1)).mono ?_
  rintro e w2 ⟨rfl, b2⟩
  go_wp2
  go_ret
  exact ⟨rfl, Below.chain b1 b2⟩
theorem keeps_walk (a : Option Addr) (cap n : Nat) (xs : List UInt8) (w : World) (hn : xs.length = n) (h : RowAt w a cap xs) (ht : Tabs w) :
    Calls Tryd.prog 6 #[.slice a n cap] w fun e w' => e = .returned (.bool true) ∧ Below w.heap.size w w' := by
  subst hn
  by_cases hl : xs.length ≤ 2000
  · exact keeps_main a cap xs w hl h ht
  · exact keeps_long a cap xs w (by omega) ht
end Go.Proofs.YtaenbnmnpmagdaaDoor
