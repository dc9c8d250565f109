/- Contract of octet's Cut. -/
import Derived.Test.YtbmlacmpiaklpaaDoorWc
namespace Go.Proofs.YtbmlacmpiaklpaaDoor
open Go.RowKit

theorem RowAt.cut {w : World} {a : Option Addr} {c : Nat} {xs : List UInt8} (h : RowAt w a c xs) (l r : Nat) (hlr : l ≤ r) (hr : r ≤ xs.length) : RowAt w (if c = l then a else a.map (·.add l)) (c - l) ((xs.take r).drop l) := by
  have h1 := h.le
  have h2 := h.max
  refine ⟨by simp; omega, by omega, fun e => ?_, fun ad e j u hu => ?_⟩
  · split at e
    · have := h.nil e; omega
    · cases a with
      | none => have := h.nil rfl; omega
      | some x => simp at e
  · have hj : j < r - l := by
      have := (List.getElem?_eq_some_iff.1 hu).1
      rw [Lib.byteCells_length] at this
      simp at this
      omega
    split at e
    · omega
    · cases a with
      | none => simp at e
      | some x =>
        simp at e
        subst e
        have hu2 : (Lib.byteCells xs)[l + j]? = some u := by
          simp only [Lib.byteCells, List.getElem?_map, List.getElem?_drop, List.getElem?_take] at hu ⊢
          rw [if_pos (by omega)] at hu
          exact hu
        have h3 := h.cell x rfl (l + j) u hu2
        have h0 := h.cell x rfl 0 _ (List.getElem?_eq_getElem (by rw [Lib.byteCells_length]; omega))
        obtain ⟨b, off, spot⟩ := x
        have hspot : spot = none := by simpa [Addr.add] using World.cell?_spot h0
        subst hspot
        rw [Go.WideShapes.add_plain] at h3 ⊢
        rw [Go.WideShapes.add_plain, Nat.add_assoc]
        exact h3

theorem ownsRow_lower {w : World} {base base' : Nat} {e : TypeId} {size : Nat} {v : Value} {n : Nat} {xs : List Value} (h : w.ownsRow base e size v n xs) (hb : base' ≤ base) : w.ownsRow base' e size v n xs := by
  refine ⟨h.1, ?_⟩
  rcases h.2 with h2 | ⟨g, cap, cur, a, b, c⟩
  · exact .inl h2
  · exact .inr ⟨g, cap, cur, a, Nat.le_trans hb b, c⟩
theorem below_alloc {w w' : World} {o : Obj} (h : Below (w.alloc o).heap.size (w.alloc o) w') : Below w.heap.size w w' := ((Below.refl _ _).alloc (Nat.le_refl _) _).trans (h.mono (by simp))

theorem parts_one {w : World} {p : Option Addr} {c n : Nat} {ys : List UInt8} (hn : ys.length = n) (h : RowAt w p c ys) : PartsAt (w.alloc (.cells #[.slice p n c] 25)) (some ⟨w.heap.size, 0, none⟩) [ys] := by
  subst hn
  refine .inr ⟨w.heap.size, 0, rfl, by simp, fun j hj => ?_⟩
  have : j = 0 := by simpa using hj
  subst this
  exact ⟨p, c, by simp only [World.cell?, heap_alloc_new]; rfl, h.next ((Below.refl _ _).alloc (Nat.le_refl _) _)⟩

theorem cut_bad (a : Option Addr) (len cap : Nat) (l m : Int) (w : World) (hm : len ≤ 300000) (hl : -9223372036854775808 ≤ l) (hl2 : l ≤ 9223372036854775807) (h : l < 0 ∨ m < 0 ∨ (len : Int) - l < m) :
    Calls Tryd.prog 25 #[.slice a len cap, .int .i64 l, .int .i64 m] w fun e w' => e = .returned (.tuple #[.slice none 0 0, .bool false]) ∧ w' = w := by
  by_cases h1 : l < 0
  · go_enter Tryd.func25, Tryd.ntmps25
    go_wp2
    go_ret2
    exact ⟨rfl, rfl⟩
  · by_cases h2 : m < 0
    · go_enter Tryd.func25, Tryd.ntmps25
      go_wp2
      go_ret2
      exact ⟨rfl, rfl⟩
    · have h3 : (len : Int) - l < m := by omega
      clear h
      go_enter Tryd.func25, Tryd.ntmps25
      go_wp2
      go_ret2
      exact ⟨rfl, rfl⟩

set_option maxHeartbeats 1000000 in
theorem cut_good (a : Option Addr) (cap : Nat) (xs : List UInt8) (l m : Nat) (w : World) (hm : xs.length ≤ 300000) (hlm : l + m ≤ xs.length) (h : RowAt w a cap xs) :
    Calls Tryd.prog 25 #[.slice a xs.length cap, .int .i64 (l : Int), .int .i64 (m : Int)] w fun e w' => ∃ v, e = .returned (.tuple #[v, .bool true]) ∧ w'.ownsRow w.heap.size 5 1 v m (Lib.byteCells ((xs.drop l).take m)) ∧ Below w.heap.size w w' := by
  have hle := h.le
  have h1 : ¬ (l : Int) < 0 := by omega
  have h2 : ¬ (m : Int) < 0 := by omega
  have h3 : ¬ (xs.length : Int) - (l : Int) < (m : Int) := by omega
  have hcut := h.cut l (l + m) (by omega) hlm
  have hys : (xs.take (l + m)).drop l = (xs.drop l).take m := by rw [List.drop_take, Nat.add_sub_cancel_left]
  rw [hys] at hcut
  clear hys
  obtain ⟨ys, hy⟩ : ∃ ys, ys = (xs.drop l).take m := ⟨_, rfl⟩
  have hyl : ys.length = m := by rw [hy]; simp; omega
  rw [← hy] at hcut ⊢
  clear hy
  have hfl : [ys].flatten = ys := by simp
  have HF := Lib.hid hfl
  clear hfl
  by_cases hcl : cap = l
  · rw [if_pos hcl] at hcut
    have hm0 : m = 0 := by omega
    subst hm0
    subst hcl
    rw [Nat.sub_self] at hcut
    have Hcut := Lib.hid hcut
    clear hcut h
    go_enter Tryd.func25, Tryd.ntmps25
    go_wp2_with (go_at_call 22; refine (join_at _ 1 1 [ys] ys _ rfl HF.out (by simp) (by omega) (parts_one hyl Hcut.out)).mono ?_; rintro e w' ⟨v, rfl, o1, b1⟩)
    go_ret2
    exact ⟨v, rfl, hyl ▸ ownsRow_lower o1 (by simp), below_alloc b1⟩
  · rw [if_neg hcl] at hcut
    have Hcut := Lib.hid hcut
    clear hcut h
    go_enter Tryd.func25, Tryd.ntmps25
    go_wp2_with (go_at_call 22; refine (join_at _ 1 1 [ys] ys _ rfl HF.out (by simp) (by omega) (parts_one hyl Hcut.out)).mono ?_; rintro e w' ⟨v, rfl, o1, b1⟩)
    go_ret2
    exact ⟨v, rfl, hyl ▸ ownsRow_lower o1 (by simp), below_alloc b1⟩

/-- A slice that was built of bytes. -/
theorem rowAt_built (w : World) (xs : List UInt8) (n : Nat) (cs : Array Value) (hn : xs.length = n) (hcs : cs = (Lib.byteCells xs).toArray) (hm : n ≤ 300000) (fz : Nat × Nat) : RowAt (w.alloc (.cells cs 5 fz)) (some ⟨w.heap.size, 0, none⟩) n xs := by
  subst hcs
  subst hn
  refine ⟨Nat.le_refl _, by unfold maxLen; omega, (fun e => by cases e), fun ad e j u hu => ?_⟩
  cases e
  rw [Go.WideShapes.add_plain]
  simp only [World.cell?, heap_alloc_new]
  simpa using hu
theorem ownsRow_below {w w' : World} {base B : Nat} {e : TypeId} {size : Nat} {v : Value} {n : Nat} {xs : List Value} (h : w.ownsRow base e size v n xs) (hb : Below B w w') (hB : ∀ g, v.ownBlock = some g → g < B) : w'.ownsRow base e size v n xs := by
  obtain ⟨h1, h2⟩ := h
  refine ⟨h1, ?_⟩
  rcases h2 with h2 | ⟨g, cap, cur, a, b, c, d⟩
  · exact .inl h2
  · exact .inr ⟨g, cap, cur, a, b, by rw [hb.block g (hB g (by rw [a]; rfl))]; exact c, d⟩
theorem ownsRow_next {w w' : World} {base : Nat} {e : TypeId} {size : Nat} {v : Value} {n : Nat} {xs : List Value} (h : w.ownsRow base e size v n xs) (hb : Below w.heap.size w w') : w'.ownsRow base e size v n xs :=
  ownsRow_below h hb fun g hg => (h.lt g hg).2
theorem keeps_drewN {w : World} {a : Option Addr} {c : Nat} {xs : List UInt8} (h : RowAt w a c xs) (n : Nat) : RowAt (w.drewN n) a c xs := h.next ((Below.refl _ _).trans ⟨rfl, rfl, rfl, Nat.le_refl _, fun _ _ => rfl⟩)
theorem keeps_below {B : Nat} {a w : World} (h : Below B a w) (n : Nat) : Below B a (w.drewN n) := h.trans ⟨rfl, rfl, rfl, Nat.le_refl _, fun _ _ => rfl⟩

theorem RowAt.head {w : World} {a : Option Addr} {c : Nat} {xs : List UInt8} (h : RowAt w a c xs) (r : Nat) (hr : r ≤ xs.length) : RowAt w a c (xs.take r) := by
  refine ⟨by have := h.le; simp; omega, h.max, h.nil, fun ad e j u hu => h.cell ad e j u ?_⟩
  have hj : j < r := by
    have := (List.getElem?_eq_some_iff.1 hu).1
    rw [Lib.byteCells_length] at this
    simp at this
    omega
  simp only [Lib.byteCells, List.getElem?_map, List.getElem?_take, if_pos hj] at hu ⊢
  exact hu

/-- A slice of one's own stays when another one is written. -/
theorem row_kept {w w0 w' : World} {B B5 n m : Nat} {v v5 : Value} {xs ys : List UInt8} (hn : xs.length = n) (h : w.ownsRow B 5 1 v n (Lib.byteCells xs)) (h5 : w0.ownsRow B5 5 1 v5 m (Lib.byteCells ys)) (hB : w0.heap.size ≤ B) (hg : w.grownBy w' v5.ownBlock) :
    ∃ a c, v = .slice a n c ∧ RowAt w' a c xs := by
  refine rowAt_own hn (h.kept hg ?_)
  cases hv : v.ownBlock with
  | none => exact .inl rfl
  | some k =>
    right
    intro e
    have h1 := (h.lt k hv).1
    have h2 := (h5.lt k e.symm).2
    omega
theorem grownBy_trans {a b c : World} {r : Option Nat} (h : a.grownBy b r) (k : b.grownBy c r) : a.grownBy c r :=
  ⟨k.os.trans h.os, k.tape.trans h.tape, k.output.trans h.output, Nat.le_trans h.size k.size, fun i hi hr => (k.block i (Nat.lt_of_lt_of_le hi h.size) hr).trans (h.block i hi hr)⟩

end Go.Proofs.YtbmlacmpiaklpaaDoor
