/- Contracts of words and digest. -/
import Derived.Test.YtjalhlofpoknoaaDoorM3Wc
import Derived.Deep.WholeRow
namespace Go.Proofs.YtjalhlofpoknoaaDoor.S3
open Go.RowKit
namespace Md
theorem val_snoc : ∀ (l : List UInt8) (x : UInt8), val (l ++ [x]) = val l + x.toNat * 256 ^ l.length
  | [], x => by simp [val]
  | y :: l, x => by
    have h := val_snoc l x
    simp only [List.cons_append, val, h, List.length_cons, Nat.pow_succ]
    have e : x.toNat * (256 ^ l.length * 256) = 256 * (x.toNat * 256 ^ l.length) := by
      rw [← Nat.mul_assoc, Nat.mul_comm]
    omega
theorem val_lt : ∀ l : List UInt8, val l < 256 ^ l.length
  | [] => by simp [val]
  | x :: l => by
    have h := val_lt l
    have hx := x.toNat_lt
    simp only [val, List.length_cons, Nat.pow_succ]
    omega
def uc (l : List Nat) : List Value := l.map fun (n : Nat) => Value.int .u32 (n : Int)
theorem uc_length (l : List Nat) : (uc l).length = l.length := by simp [uc]
theorem uc_set (l : List Nat) (i n : Nat) : uc (l.set i n) = (uc l).set i (.int .u32 (n : Int)) := by simp [uc, List.map_set]
theorem words_length (b : List UInt8) : (words b).length = 16 := by simp [words]
theorem words_get (b : List UInt8) (j : Nat) (h : j < 16) : (words b)[j]? = some (val ((b.drop (4 * j)).take 4)) := by
  simp [words, h]
theorem words_nil : words [] = List.replicate 16 0 := by decide
/-- The bytes of a word that are there already. -/
def wpart (b : List UInt8) (k : Nat) : List UInt8 := ((b.take k).drop (4 * (k / 4))).take 4
theorem wpart_length (b : List UInt8) (k : Nat) (h : k ≤ b.length) : (wpart b k).length = k % 4 := by simp [wpart]; omega
theorem wpart_next (b : List UInt8) (k : Nat) (hk : k < b.length) : ((b.take (k + 1)).drop (4 * (k / 4))).take 4 = wpart b k ++ [b[k]] := by
  have hl := wpart_length b k (by omega)
  apply List.ext_getElem?
  intro i
  rw [List.getElem?_append, hl]
  simp only [wpart, List.getElem?_take, List.getElem?_drop]
  by_cases h1 : i < k % 4
  · rw [if_pos (by omega), if_pos (by omega), if_pos h1, if_pos (by omega), if_pos (by omega)]
  · rw [if_neg h1]
    by_cases h2 : i = k % 4
    · rw [if_pos (by omega), if_pos (by omega), h2, Nat.sub_self, show 4 * (k / 4) + k % 4 = k by omega, List.getElem?_eq_getElem hk]; rfl
    · have h3 : [b[k]][i - k % 4]? = none := List.getElem?_eq_none (by simp; omega)
      rw [h3]
      by_cases h4 : i < 4
      · rw [if_pos h4, if_neg (by omega)]
      · rw [if_neg h4]
theorem wpart_other (b : List UInt8) (k j : Nat) (h : k / 4 ≠ j) : ((b.take (k + 1)).drop (4 * j)).take 4 = ((b.take k).drop (4 * j)).take 4 := by
  apply List.ext_getElem?
  intro i
  simp only [List.getElem?_take, List.getElem?_drop]
  by_cases h4 : i < 4
  · rw [if_pos h4, if_pos h4]
    by_cases h1 : 4 * j + i < k
    · rw [if_pos (by omega), if_pos h1]
    · rw [if_neg (by omega), if_neg h1]
  · rw [if_neg h4, if_neg h4]
theorem words_step (b : List UInt8) (k : Nat) (hk : k < b.length) :
    words (b.take (k + 1)) = (words (b.take k)).set (k / 4) (val (wpart b k) + b[k].toNat * 256 ^ (k % 4)) := by
  apply List.ext_getElem?
  intro j
  rw [List.getElem?_set, words_length]
  by_cases hj : j < 16
  · rw [words_get _ j hj]
    by_cases e : k / 4 = j
    · rw [if_pos e, if_pos (by omega), ← e, wpart_next b k hk, val_snoc, wpart_length b k (by omega)]
    · rw [if_neg e, words_get _ j hj, wpart_other b k j e]
  · rw [List.getElem?_eq_none (by rw [words_length]; omega)]
    by_cases e : k / 4 = j
    · rw [if_pos e, if_neg (by omega)]
    · rw [if_neg e, List.getElem?_eq_none (by rw [words_length]; omega)]
theorem or_join32 (a : Nat) (x : UInt8) (k : Nat) (hk : k < 4) (ha : a < 256 ^ k) : bits .or .u32 (a : Int) ((x.toNat * 256 ^ k : Nat) : Int) = ((a + x.toNat * 256 ^ k : Nat) : Int) := by
  have hx := x.toNat_lt
  have h0 : (256 : Nat) ^ (k + 1) ≤ 256 ^ 4 := Nat.pow_le_pow_right (by omega) (by omega)
  have h1 : x.toNat * 256 ^ k < 256 * 256 ^ k := Nat.mul_lt_mul_of_pos_right hx (Nat.pow_pos (by omega))
  rw [Nat.pow_succ, Nat.mul_comm] at h0
  have h3 : (256 : Nat) ^ 4 = 4294967296 := rfl
  have h4 : 256 ^ k ≤ 256 * 256 ^ k := by omega
  rw [or32 _ _ (by omega) (by omega)]
  have ha' := ha
  rw [pow_eq] at ha'
  have e := Nat.two_pow_add_eq_or_of_lt ha' x.toNat
  rw [← pow_eq] at e
  rw [Nat.or_comm, Nat.mul_comm, ← e, Nat.add_comm]
theorem shl32 (x : UInt8) (r : Nat) (hr : r < 4) : (x.toNat : Int) % 4294967296 * 2 ^ (8 * r) % 4294967296 = ((x.toNat * 256 ^ r : Nat) : Int) := by
  have hx := x.toNat_lt
  have h1 : x.toNat * 256 ^ r < 256 * 256 ^ r := Nat.mul_lt_mul_of_pos_right hx (Nat.pow_pos (by omega))
  have h0 : (256 : Nat) ^ (r + 1) ≤ 256 ^ 4 := Nat.pow_le_pow_right (by omega) (by omega)
  rw [Nat.pow_succ, Nat.mul_comm] at h0
  have h3 : (256 : Nat) ^ 4 = 4294967296 := rfl
  have e : (x.toNat : Int) % 4294967296 * 2 ^ (8 * r) = ((x.toNat * 256 ^ r : Nat) : Int) := by
    rw [pow_eq, show (x.toNat : Int) % 4294967296 = (x.toNat : Int) by omega]; simp
  rw [e]
  omega
end Md

theorem Md.uc_one (l : List Nat) : (Md.uc l).toArray.all (·.oneCell') = true := by
  rw [List.all_toArray]
  simp [Md.uc, Value.oneCell']
theorem info39 : (Tryd.prog.info? 58).map (·.size) = some 16 := by kernel_rfl
theorem info37 : (Tryd.prog.info? 56).map (·.size) = some 4 := by kernel_rfl
theorem info24 : (Tryd.prog.info? 38).map (·.size) = some 16 := by kernel_rfl
theorem below_setRow {w w' : World} {B g : Nat} (h : Below B w w') (hg : B ≤ g) (cs : Array Value) : Below B w (w'.setRow g cs) :=
  ⟨h.os, h.tape, h.output, by rw [setRow_size]; exact h.size, fun k hk => by rw [setRow_other _ _ _ _ (by omega)]; exact h.block k hk⟩

set_option maxHeartbeats 1000000 in
theorem words_any (b off cap : Nat) (xs : List UInt8) (w : World) (hl : xs.length = 64) (hb : b < w.heap.size) (hc : ∀ j (h : j < xs.length), w.cell? ⟨b, off + j, none⟩ = some (.int .u8 (xs[j].toNat : Int))) :
    Calls Tryd.prog 28 #[.slice (some ⟨b, off, none⟩) 64 cap] w fun e w' => e = .returned (.agg (Md.uc (Md.words xs)).toArray) ∧ Below w.heap.size w w' := by
  have Hc := Lib.hid hc
  clear hc
  have Hl := Lib.hid hl
  clear hl
  go_enter Tryd.func28, Tryd.ntmps28
  go_wp2
  go_loopw [4, 5, 8] (fun _ _ i wr => ∃ k : Nat, k ≤ 64 ∧ i = .int .i64 (k : Int) ∧ wr.heap[w.heap.size + 1]? = some (.cells (Md.uc (Md.words (xs.take k))).toArray 58 (0, 0)) ∧ wr.heap[w.heap.size]? = some (.cells (Md.uc (Md.words [])).toArray 58 (0, 0)) ∧ Below w.heap.size w wr) (fun _ _ i _ => 64 - (intOf i).toNat)
  case atStart =>
    refine ⟨0, by omega, rfl, ?_, ?_, ((Below.refl _ _).alloc (Nat.le_refl _) _).alloc (by simp) _⟩
    · rw [List.take_zero, heap_alloc2_new]; rfl
    · rw [heap_alloc2_old]; rfl
  case round =>
    obtain ⟨k, hk, rfl, hx, hz, hbw⟩ := hrel
    by_cases hlt : (k : Int) < 64
    · have hk' : k < xs.length := by rw [Hl.out]; omega
      have hcell : wr.cell? ⟨b, off + k, none⟩ = some (.int .u8 (xs[k].toNat : Int)) := by rw [hbw.cell (p := ⟨b, off + k, none⟩) hb]; exact Hc.out k hk'
      obtain ⟨x, hxx⟩ : ∃ x, x = xs[k] := ⟨_, rfl⟩
      have hst := Md.words_step xs k hk'
      have hwl := Md.wpart_length xs k (by omega)
      have hvl := Md.val_lt (Md.wpart xs k)
      rw [hwl] at hvl
      have hor := Md.or_join32 _ x (k % 4) (by omega) hvl
      rw [← hxx] at hcell hst
      obtain ⟨m, hm⟩ : ∃ m, m = Md.val (Md.wpart xs k) := ⟨_, rfl⟩
      rw [← hm] at hst hor
      have hcx : wr.cell? ⟨w.heap.size + 1, k / 4, none⟩ = some (.int .u32 (m : Int)) := by
        rw [cell_of_row _ _ _ _ _ _ hx]
        simp only [List.getElem?_toArray, Md.uc, List.getElem?_map]
        rw [Md.words_get _ _ (by omega), hm]; rfl
      have hfz := frozen_of_row wr (w.heap.size + 1) (k / 4) _ 58 hx
      have Hst := Lib.hid hst
      have Hor := Lib.hid hor
      have Hx := Lib.hid hx
      have Hz := Lib.hid hz
      clear hst hor hm hwl hvl hx hz hxx
      obtain ⟨q, hq⟩ : ∃ q, q = k / 4 := ⟨_, rfl⟩
      obtain ⟨r, hr⟩ : ∃ r, r = k % 4 := ⟨_, rfl⟩
      rw [← hq] at hcx hfz Hst
      rw [← hr] at Hor Hst
      have hqi : (k : Int) / 4 = (q : Int) := by omega
      have hri : (k : Int) % 4 = (r : Int) := by omega
      have hq16 : (q : Int) < 16 := by omega
      have hr4 : (r : Int) < 4 := by omega
      have hw8 : IntKind.i64.wrap (8 * (r : Int)) = 8 * (r : Int) := by rw [IntKind.wrap_i64]; omega
      have hk0 : ¬ 8 * (r : Int) < 0 := by omega
      clear hq hr
      go_wp2
      go_region
      go_wp2
      go_roundw
      case rel =>
        refine ⟨k + 1, by omega, by go_num, ?_, ?_, (hbw.setCell (by simp) _).drew⟩
        · rw [Md.shl32 x r (by omega), Hor.out, heap_drew, heap_setCell_same _ _ _ _ _ _ Hx.out, Hst.out, Md.uc_set]
          simp
        · rw [heap_drew, heap_setCell_other _ _ _ _ (by simp)]; exact Hz.out
      case measure => simp [intOf]; omega
    · have hk64 : k = 64 := by omega
      subst hk64
      rw [List.take_of_length_le (by rw [Hl.out]; omega)] at hx
      have hsz : (Tryd.prog.info? 58).map (·.size) = some (Md.uc (Md.words xs)).toArray.size := by rw [info39, List.size_toArray, Md.uc_length, Md.words_length]
      have hold : (Md.uc (Md.words [])).toArray.size = (Md.uc (Md.words xs)).toArray.size := by simp [Md.uc_length, Md.words_length]
      have Hsz := Lib.hid hsz
      have Hold := Lib.hid hold
      have Hx := Lib.hid hx
      have Hz := Lib.hid hz
      clear hsz hold hx hz
      go_wp2_with (first | (refine wpList_load_row rfl 58 _ rfl (w.heap.size + 1) rfl 58 _ _ _ Hx.out Tryd.underlying58 rfl Hsz.out ?_) | (refine wpList_store_row rfl 58 _ _ rfl w.heap.size _ rfl rfl 58 _ Hz.out Hsz.out Hold.out (Md.uc_one _) ?_))
      refine bodyPost_ret (v := .agg (Md.uc (Md.words xs)).toArray) ?_ rfl ⟨rfl, ?_⟩
      · exact results_cell_row Tryd.results28 _ _ w.heap.size 58 _ _ _ rfl (setRow_heap _ _ _ _ _ _ Hz.out) Tryd.underlying58 rfl Hsz.out
      · exact below_setRow hbw (Nat.le_refl _) _
end Go.Proofs.YtjalhlofpoknoaaDoor.S3
