/- The memory of the document's Sum. -/
import Derived.Test.YtjalhlofpoknoaaDoorM3Ra
import Derived.Test.YtjalhlofpoknoaaDoorM3Sinc
namespace Go.Proofs.YtjalhlofpoknoaaDoor.S3
open Go.RowKit

theorem hA (w : World) (o : Obj) (i : Nat) (h : i = w.heap.size) : (w.alloc o).heap[i]? = some o := by subst h; exact heap_alloc_new _ _
def pRow (a b c d : Int) : Obj := .cells #[.int .i64 a, .int .i64 b, .int .i64 c, .int .i64 d] 3
def pTab (g : Nat) : Obj := .cells #[.slice (some ⟨g, 0, none⟩) 4 4, .slice (some ⟨g + 1, 0, none⟩) 4 4, .slice (some ⟨g + 1 + 1, 0, none⟩) 4 4, .slice (some ⟨g + 1 + 1 + 1, 0, none⟩) 4 4] 48
def hRow : Obj := .cells #[.int .u32 1732584193, .int .u32 4023233417, .int .u32 2562383102, .int .u32 271733878] 46
/-- The memory of the document's Sum, when its lists are laid. -/
def refW (w : World) : World := (((((w.alloc hRow).alloc (pRow 7 12 17 22)).alloc (pRow 5 9 14 20)).alloc (pRow 4 11 16 23)).alloc (pRow 6 10 15 21)).alloc (pTab (w.heap.size + 1))

/-- What is laid there. -/
structure RefAt (w : World) (g0 gp gh : Nat) (s : Md.St) (a : Option Addr) (c : Nat) (t : List UInt8) (W : World) : Prop where
  st : W.heap[gh]? = some (.cells (Md.uc s.list).toArray 46 (0, 0))
  pl : ∀ q, q < 4 → W.cell? ⟨gp, q, none⟩ = some (.slice (some ⟨g0 + q, 0, none⟩) 4 4)
  pt : ∀ q r, q < 4 → r < 4 → W.cell? ⟨g0 + q, r, none⟩ = some (.int .i64 (Md.T.getD (4 * q + r) 0 : Nat))
  rs : W.heap[w.heap.size]? = some (.cells z24 38 (0, 0))
  tx : RowAt W a c t
  tg : Trig W
  bl : Below w.heap.size w W
theorem cell_keep {w w' : World} {p : Addr} {v : Value} (h : w.cell? p = some v) (hb : Below w.heap.size w w') : w'.cell? p = some v := by
  rw [hb.cell (World.block_lt_of_cell? w _ h)]; exact h
theorem hkeep {w w' : World} {g : Nat} {o : Obj} (h : w.heap[g]? = some o) (hb : Below w.heap.size w w') : w'.heap[g]? = some o := by
  rw [hb.block g (Array.getElem?_eq_some_iff.1 h).1]; exact h
theorem RefAt.next {w W W' : World} {g0 gp gh : Nat} {s : Md.St} {a : Option Addr} {c : Nat} {t : List UInt8} (h : RefAt w g0 gp gh s a c t W) (hb : Below W.heap.size W W') : RefAt w g0 gp gh s a c t W' :=
  ⟨hkeep h.st hb, fun q hq => cell_keep (h.pl q hq) hb, fun q r hq hr => cell_keep (h.pt q r hq hr) hb, hkeep h.rs hb, h.tx.next hb, h.tg.next hb, Below.chain h.bl hb⟩
theorem refW_below (w : World) : Below w.heap.size w (refW w) := by
  unfold refW
  exact ((((((Below.refl _ _).alloc (Nat.le_refl _) _).alloc (by simp) _).alloc (by simp; omega) _).alloc (by simp; omega) _).alloc (by simp; omega) _).alloc (by simp; omega) _
theorem refW_0 (w : World) : (refW w).heap[w.heap.size]? = some hRow := by
  unfold refW
  iterate 5 rw [heap_alloc_old _ _ (by simp <;> omega)]
  exact hA _ _ _ rfl
theorem refW_1 (w : World) : (refW w).heap[w.heap.size + 1 + 0]? = some (pRow 7 12 17 22) := by
  unfold refW
  iterate 4 rw [heap_alloc_old _ _ (by simp <;> omega)]
  exact hA _ _ _ (by simp)
theorem refW_2 (w : World) : (refW w).heap[w.heap.size + 1 + 1]? = some (pRow 5 9 14 20) := by
  unfold refW
  iterate 3 rw [heap_alloc_old _ _ (by simp <;> omega)]
  exact hA _ _ _ (by simp)
theorem refW_3 (w : World) : (refW w).heap[w.heap.size + 1 + 2]? = some (pRow 4 11 16 23) := by
  unfold refW
  iterate 2 rw [heap_alloc_old _ _ (by simp <;> omega)]
  exact hA _ _ _ (by simp)
theorem refW_4 (w : World) : (refW w).heap[w.heap.size + 1 + 3]? = some (pRow 6 10 15 21) := by
  unfold refW
  rw [heap_alloc_old _ _ (by simp <;> omega)]
  exact hA _ _ _ (by simp)
theorem refW_5 (w : World) : (refW w).heap[w.heap.size + 5]? = some (pTab (w.heap.size + 1)) := by
  unfold refW
  exact hA _ _ _ (by simp)
theorem refW_pl (w : World) (q : Nat) (hq : q < 4) : (refW w).cell? ⟨w.heap.size + 5, q, none⟩ = some (.slice (some ⟨w.heap.size + 1 + q, 0, none⟩) 4 4) := by
  rw [cell_of_row _ _ _ _ _ _ (refW_5 w)]
  have : q = 0 ∨ q = 1 ∨ q = 2 ∨ q = 3 := by omega
  rcases this with rfl | rfl | rfl | rfl <;> rfl
theorem refW_pt (w : World) (q r : Nat) (hq : q < 4) (hr : r < 4) : (refW w).cell? ⟨w.heap.size + 1 + q, r, none⟩ = some (.int .i64 (Md.T.getD (4 * q + r) 0 : Nat)) := by
  have h1 : q = 0 ∨ q = 1 ∨ q = 2 ∨ q = 3 := by omega
  have h2 : r = 0 ∨ r = 1 ∨ r = 2 ∨ r = 3 := by omega
  rcases h1 with rfl | rfl | rfl | rfl
  · rw [cell_of_row _ _ _ _ _ _ (refW_1 w)]; rcases h2 with rfl | rfl | rfl | rfl <;> rfl
  · rw [cell_of_row _ _ _ _ _ _ (refW_2 w)]; rcases h2 with rfl | rfl | rfl | rfl <;> rfl
  · rw [cell_of_row _ _ _ _ _ _ (refW_3 w)]; rcases h2 with rfl | rfl | rfl | rfl <;> rfl
  · rw [cell_of_row _ _ _ _ _ _ (refW_4 w)]; rcases h2 with rfl | rfl | rfl | rfl <;> rfl
theorem refW_at {w w2 : World} {a : Option Addr} {c : Nat} {t : List UInt8} (hrs : w2.heap[w.heap.size]? = some (.cells z24 38 (0, 0))) (htx : RowAt w2 a c t) (htg : Trig w2) (hbl : Below w.heap.size w w2) :
    RefAt w (w2.heap.size + 1) (w2.heap.size + 5) w2.heap.size Md.init a c t (refW w2) :=
  ⟨refW_0 w2, refW_pl w2, refW_pt w2, hkeep hrs (refW_below w2), htx.next (refW_below w2), htg.next (refW_below w2), Below.chain hbl (refW_below w2)⟩

namespace Md
theorem val_drop (V : List UInt8) (d : Nat) (h : d < V.length) : val (V.drop d) = val (V.drop (d + 1)) * 256 + (V.getD d 0).toNat := by
  rw [List.drop_eq_getElem_cons h, val, List.getD_eq_getElem?_getD, List.getElem?_eq_getElem h, Option.getD_some]; omega
theorem val_small (V : List UInt8) (d : Nat) (h : V.length = 4) : val (V.drop (d + 1)) < 16777216 := by
  have h1 := val_lt (V.drop (d + 1))
  have h2 : 256 ^ (V.drop (d + 1)).length ≤ 256 ^ 3 := Nat.pow_le_pow_right (by omega) (by simp; omega)
  have h3 : (256 : Nat) ^ 3 = 16777216 := rfl
  omega
/-- The bytes of a block's word. -/
def wd (X : List UInt8) (l k : Nat) : List UInt8 := (X.drop (l + 4 * k)).take 4
theorem wd_words (X : List UInt8) (l k : Nat) (hk : k < 16) : (words ((X.drop l).take 64)).getD k 0 = val (wd X l k) := by
  rw [List.getD_eq_getElem?_getD, words_get _ k hk, wd, Option.getD_some]
  congr 1
  apply List.ext_getElem?
  intro i
  simp only [List.getElem?_take, List.getElem?_drop]
  by_cases h : i < 4
  · rw [if_pos h, if_pos h, if_pos (by omega), Nat.add_assoc]
  · rw [if_neg h, if_neg h]
theorem wd_length (X : List UInt8) (l k : Nat) (h : l + 4 * k + 4 ≤ X.length) : (wd X l k).length = 4 := by simp [wd]; omega
theorem wd_get (X : List UInt8) (l k d : Nat) (hd : d < 4) : (wd X l k).getD d 0 = X.getD (l + 4 * k + d) 0 := by
  rw [List.getD_eq_getElem?_getD, List.getD_eq_getElem?_getD, wd, List.getElem?_take, if_pos hd, List.getElem?_drop]
end Md
/-- A byte of a row. -/
theorem RowAt.byte {w : World} {b o c : Nat} {X : List UInt8} (h : RowAt w (some ⟨b, o, none⟩) c X) (i : Nat) (hi : i < X.length) : w.cell? ⟨b, o + i, none⟩ = some (.int .u8 ((X.getD i 0).toNat : Int)) := by
  have h9 := h.cell _ rfl i (.int .u8 ((X.getD i 0).toNat : Int)) (by
    simp only [Lib.byteCells, List.getElem?_map]
    rw [List.getD_eq_getElem?_getD, List.getElem?_eq_getElem hi]; rfl)
  rwa [Go.WideShapes.add_plain] at h9
theorem below_drewN' {B : Nat} {a w : World} (h : Below B a w) (n : Nat) : Below B a (w.drewN n) := h.trans ⟨rfl, rfl, rfl, Nat.le_refl _, fun _ _ => rfl⟩
end Go.Proofs.YtjalhlofpoknoaaDoor.S3
