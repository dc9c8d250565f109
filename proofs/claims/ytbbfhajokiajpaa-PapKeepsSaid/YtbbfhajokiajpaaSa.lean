/- Texts in memory; the method that reads a short text. -/
import Derived.Test.YtbbfhajokiajpaaBb
import Derived.Test.YtbbfhajokiajpaaPlainpp
import Derived.Lib.AppendStr
namespace Go.Proofs.Ytbbfhajokiajpaa
open Go.RowKit

theorem info9 : (Try.prog.info? 9).map (fun i => (i.zero, i.size, i.bytes)) = some (some (.string ⟨#[]⟩), 1, 16) := by kernel_rfl
theorem txt_size (xs : List UInt8) : (⟨xs.toArray⟩ : ByteArray).size = xs.length := rfl
theorem txt_cells (xs : List UInt8) : Lib.strCells ⟨xs.toArray⟩ = Lib.byteCells xs := rfl
theorem txt_of (s : ByteArray) : ∃ xs : List UInt8, s = ⟨xs.toArray⟩ := ⟨s.data.toList, by cases s; simp⟩
/-- Texts as values. -/
def strs (l : List (List UInt8)) : List Value := l.map fun s => .string ⟨s.toArray⟩
theorem strs_length (l : List (List UInt8)) : (strs l).length = l.length := by rw [strs, List.length_map]
theorem strs_one (l : List (List UInt8)) : ∀ u ∈ strs l, u.oneCell' = true := by
  intro u hu
  simp only [strs, List.mem_map] at hu
  obtain ⟨x, _, rfl⟩ := hu
  rfl
theorem strs_get {l : List (List UInt8)} {k : Nat} {s : List UInt8} (h : l[k]? = some s) : (strs l)[k]? = some (.string ⟨s.toArray⟩) := by rw [strs, List.getElem?_map, h]; rfl
theorem strs_append (l m : List (List UInt8)) : strs (l ++ m) = strs l ++ strs m := List.map_append
/-- Texts, wherever they lie. -/
def TxtsAt (w : World) (a : Option Addr) (l : List (List UInt8)) : Prop := l = [] ∨ ∃ b off, a = some ⟨b, off, none⟩ ∧ b < w.heap.size ∧ ∀ j s, l[j]? = some s → w.cell? ⟨b, off + j, none⟩ = some (.string ⟨s.toArray⟩)
theorem TxtsAt.next {w w' : World} {a : Option Addr} {l : List (List UInt8)} (h : TxtsAt w a l) (hb : Below w.heap.size w w') : TxtsAt w' a l := by
  rcases h with rfl | ⟨b, off, rfl, h1, h2⟩
  · exact .inl rfl
  · exact .inr ⟨b, off, rfl, Nat.lt_of_lt_of_le h1 hb.size, fun j s hs => by rw [hb.cell (p := ⟨b, off + j, none⟩) h1]; exact h2 j s hs⟩
theorem txtsAt_block {w : World} {g : Nat} {l : List (List UInt8)} {fr : Nat × Nat} {cs : Array Value} (e : cs = (strs l).toArray) (h : w.heap[g]? = some (.cells cs 9 fr)) : TxtsAt w (some ⟨g, 0, none⟩) l :=
  .inr ⟨g, 0, rfl, lt_of_block h, fun j s hs => by subst e; rw [cell_of_row _ _ _ _ _ _ h, Nat.zero_add, List.getElem?_toArray]; exact strs_get hs⟩

/-- append of a text onto bytes of one's own. -/
theorem wpList_append_txt {W0 w : World} {ops : Array Oper} {rest : List Oper} {o : Oper} {a : Act} {Q : Exit → Act → World → Prop} (hgd : o.guard = none) (sl x : Operand)
    (ho : o.op = .call { callee := .builtin .append, args := #[sl, x], argTypes := #[25, 9] })
    (p : Option Addr) (n c k : Nat) (xs : List UInt8) (hs : a.eval sl = .slice p n c) (hO : Own W0 w p n c xs)
    (s : List UInt8) (hx : a.eval x = .string ⟨s.toArray⟩) (hk : n + s.length = k) (h63 : k ≤ 1000000)
    (h : ∀ p' c' w', Own W0 w' p' k c' (xs ++ s) → wpList Try.prog ops Q rest (a.put o.dst (.slice p' k c')) w') : wpList Try.prog ops Q (o :: rest) a w := by
  obtain ⟨i0, hi, hz0, hz1, hz2⟩ := info_parts info5
  subst hk
  refine Lib.wpList_append_own_string w hgd sl x 25 9 ho W0.heap.size 5 i0 Try.underlying25 Try.underlying9 hi hz0 hz1 hz2 _ n _ hs hO.own ⟨s.toArray⟩ hx (by rw [txt_size]; unfold maxLen; omega) (by rw [txt_size]; omega) hO.bel.size ?_
  intro v' w' o2 g2 _
  rw [txt_size, txt_cells] at o2
  obtain ⟨p', c', rfl⟩ := own_slice o2
  exact h p' c' w' ⟨step_len hO.len rfl, by rw [Lib.byteCells_append]; exact o2, Below.grown hO.bel g2 hO.bel.size (fun k hk => (hO.own.lt k hk).1)⟩

theorem conv_nilU (w : World) : (convert 51 9 (.slice none 0 0)).run Try.prog w = .ok (.string ⟨#[]⟩) w := by kernel_rfl
theorem conv_rowU {w : World} {a : Option Addr} {c n : Nat} {xs : List UInt8} (hn : xs.length = n) (h : RowAt w a c xs) : (convert 51 9 (.slice a n c)).run Try.prog w = .ok (.string ⟨xs.toArray⟩) w := by
  subst hn
  cases a with
  | none =>
    have h0 := h.nil rfl
    have h1 := h.le
    have : xs = [] := List.eq_nil_of_length_eq_zero (by omega)
    subst this
    subst h0
    exact conv_nilU w
  | some ad => exact run_convert_bytes_back (P := Try.prog) w 51 9 5 ad c xs Try.underlying51 Try.underlying5 Try.underlying9 (fun j hj => h.cell ad rfl j _ (by simp [Lib.byteCells, hj]))
/-- A list that is not read yet, in a block of its own. -/
def RestAt (w : World) (g : Nat) (a : Option Addr) (n c : Nat) : Prop := w.heap[g]? = some (.cells #[.slice a n c] 51 (0, 0))
theorem RestAt.cell {w : World} {g : Nat} {a : Option Addr} {n c : Nat} (h : RestAt w g a n c) : w.cell? ⟨g, 0, none⟩ = some (.slice a n c) := cell_of_row _ _ _ _ _ _ h
theorem RestAt.frozen {w : World} {g : Nat} {a : Option Addr} {n c : Nat} (h : RestAt w g a n c) : w.frozen? ⟨g, 0, none⟩ = false := frozen_of_row _ _ _ _ _ h
theorem RestAt.set {w : World} {g : Nat} {a a' : Option Addr} {n c n' c' : Nat} (h : RestAt w g a n c) : RestAt (w.setCell ⟨g, 0, none⟩ (.slice a' n' c')) g a' n' c' := heap_setCell_same w g 0 _ _ _ h
theorem RestAt.next {w w' : World} {g : Nat} {a : Option Addr} {n c : Nat} (h : RestAt w g a n c) (hb : Below w.heap.size w w') : RestAt w' g a n c := block_next h hb
theorem grown_cell (w : World) (g i : Nat) (v : Value) : w.grownBy (w.setCell ⟨g, i, none⟩ v) (some g) :=
  ⟨rfl, rfl, rfl, by simp [World.setCell], fun k _ hne => heap_setCell_other _ _ _ _ (fun e => hne (by rw [e]))⟩
theorem grown_below {w w' : World} (b : Below w.heap.size w w') (row : Option Nat) : w.grownBy w' row := ⟨b.os, b.tape, b.output, b.size, fun k hk _ => b.block k hk⟩
/-- The row that is left, wherever it lies. -/
def Left (a : Option Addr) (c : Nat) (xs : List UInt8) (a' : Option Addr) (c' : Nat) (r : List UInt8) : Prop := ∀ W, RowAt W a c xs → RowAt W a' c' r
theorem rowAt_setCell {w : World} {b off c g : Nat} {xs : List UInt8} (h : RowAt w (some ⟨b, off, none⟩) c xs) (hne : b ≠ g) (u : Value) : RowAt (w.setCell ⟨g, 0, none⟩ u) (some ⟨b, off, none⟩) c xs :=
  ⟨h.le, h.max, h.nil, fun ad e j v hv => by
    have h1 := h.cell ad e j v hv
    cases e
    rw [Go.WideShapes.add_plain] at h1 ⊢
    simp only [World.cell?] at h1 ⊢
    rw [heap_setCell_other _ _ _ _ (by show b ≠ g; exact hne)]
    exact h1⟩
theorem RestAt.apart {w : World} {g b off n c d : Nat} {a : Option Addr} {x : UInt8} {r : List UInt8} (h : RestAt w g a n c) (k : RowAt w (some ⟨b, off, none⟩) d (x :: r)) : b ≠ g := by
  rintro rfl
  have h1 := k.cell _ rfl 0 (.int .u8 (x.toNat : Int)) (by simp [Lib.byteCells])
  rw [Go.WideShapes.add_plain, cell_of_row _ _ _ _ _ _ h] at h1
  cases off with
  | zero => cases h1
  | succ off => cases h1
/-- What the method answers, and leaves. -/
def TextRes (w w' : World) (e : Ending) (g : Nat) (a : Option Addr) (c : Nat) (xs : List UInt8) : Option (List UInt8 × List UInt8) → Prop
  | none => e = .returned (.tuple #[.string ⟨#[]⟩, .bool false]) ∧ Below w.heap.size w w'
  | some (t, r) => e = .returned (.tuple #[.string ⟨t.toArray⟩, .bool true]) ∧ w.grownBy w' (some g) ∧ ∃ a' c', RestAt w' g a' r.length c' ∧ Left a c xs a' c' r

set_option maxHeartbeats 1000000 in
theorem text_any (g : Nat) (a : Option Addr) (n c : Nat) (xs : List UInt8) (w : World) (hn : xs.length = n) (hm : n ≤ 300000) (h : RowAt w a c xs) (hg : RestAt w g a n c) :
    Calls Try.prog 19 #[.pointer (some ⟨g, 0, none⟩)] w fun e w' => TextRes w w' e g a c xs (Pp.one xs) := by
  have kg : ∀ j, (w.drewN j).cell? ⟨g, 0, none⟩ = some (.slice a n c) := fun _ => hg.cell
  have k0 : w.cell? ⟨g, 0, none⟩ = some (.slice a n c) := hg.cell
  cases xs with
  | nil =>
    have i0 : n = 0 := by simpa using hn.symm
    subst i0
    clear hn h kg
    go_enter Try.func19, Try.ntmps19
    go_wp2
    go_ret2
    exact ⟨rfl, Below.refl _ _⟩
  | cons x r =>
    obtain ⟨b, off, rfl⟩ := h.some (by simp)
    have i0 : 0 < n := by rw [← hn]; simp
    have hrl : r.length = n - 1 := by rw [← hn]; simp
    have hx := UInt8.toNat_lt x
    have hc := h.le
    rw [hn] at hc
    have kx : ∀ j, (w.drewN j).cell? ⟨b, off, none⟩ = some (.int .u8 (x.toNat : Int)) := fun _ => by
      have := h.cell _ rfl 0 (.int .u8 (x.toNat : Int)) (by simp [Lib.byteCells])
      rw [Go.WideShapes.add_plain, Nat.add_zero] at this
      exact this
    have hw1 : IntKind.i64.wrap (x.toNat : Int) = (x.toNat : Int) := by rw [IntKind.wrap_i64]; omega
    have q1 : r.length < x.toNat → Pp.one (x :: r) = none := fun h => by rw [Pp.one, if_pos h]
    have q2 : ¬ r.length < x.toNat → Pp.one (x :: r) = some (r.take x.toNat, r.drop x.toNat) := fun h => by rw [Pp.one, if_neg h]
    generalize Pp.one (x :: r) = O at *
    go_enter Try.func19, Try.ntmps19
    go_wp2
    go_quiet (fail)
    have HL : Hid (Left (some ⟨b, off, none⟩) c (x :: r) (if c = 1 then some ⟨b, off, none⟩ else some ⟨b, off + 1, none⟩) (c - 1) r) := fun W hW => by
      have := hW.cut 1 n (by omega) (by omega)
      rw [List.take_of_length_le (by omega), Option.map_some, Go.WideShapes.add_plain] at this
      exact this
    have B1 := Lib.hid (keeps_below (Below.refl w.heap.size w) nq)
    have R1 := Lib.hid (h.next B1.out)
    have G1 : Hid (RestAt (w.drewN nq) g _ n c) := hg.next B1.out
    have hne := hg.apart h
    clear kg kx h hg k0
    generalize w.drewN nq = w1 at *
    generalize (if c = 1 then some (⟨b, off, none⟩ : Addr) else some ⟨b, off + 1, none⟩) = a1 at *
    have i2 : n - 1 ≤ c - 1 := by omega
    generalize n - 1 = m at *
    generalize x.toNat = k at *
    by_cases hlt : m < k
    · have i1 : (m : Int) < (k : Int) := by omega
      clear q2
      go_wp2
      go_ret2
      rw [q1 (by omega)]
      exact ⟨rfl, B1.out⟩
    · have i1 : (k : Int) ≤ (m : Int) := by omega

      generalize c - 1 = d at *
      have i3 : (k : Int) ≤ (d : Int) := by omega
      have c1 : w1.cell? ⟨g, 0, none⟩ = some (.slice (some ⟨b, off, none⟩) n c) := G1.out.cell
      have f1 := G1.out.frozen
      have kc : ∀ a2 : Option Addr, (convert 51 9 (.slice a1 k d)).run Try.prog (w1.setCell ⟨g, 0, none⟩ (.slice a2 (m - k) (d - k))) = .ok (.string ⟨(r.take k).toArray⟩) (w1.setCell ⟨g, 0, none⟩ (.slice a2 (m - k) (d - k))) := fun a2 =>
        conv_rowU (by rw [List.length_take]; omega) ((HL.out _ (rowAt_setCell R1.out hne _)).head k (by omega))
      have Hend : Hid (∀ a2 : Option Addr, (if d = k then a1 else a1.map (·.add k)) = a2 → TextRes w (w1.setCell ⟨g, 0, none⟩ (.slice a2 (m - k) (d - k))) (.returned (.tuple #[.string ⟨(r.take k).toArray⟩, .bool true])) g (some ⟨b, off, none⟩) c (x :: r) O) := by
        rintro a2 rfl
        rw [q2 (by omega)]
        refine ⟨rfl, grownBy_trans (grown_below B1.out _) (grown_cell _ _ _ _), if d = k then a1 else a1.map (·.add k), d - k, ?_, fun W hW => ?_⟩
        · rw [List.length_drop, hrl]
          exact G1.out.set
        · have := (HL.out W hW).cut k m (by omega) (by omega)
          rw [List.take_of_length_le (by omega)] at this
          exact this
      clear q1 q2 HL R1 B1
      go_wp2
      all_goals go_ret2
      · have h9 : d = k := by assumption
        have := Hend.out a1 (if_pos h9)
        rw [show d - k = 0 by omega] at this
        exact this
      · exact Hend.out _ (if_neg (by assumption))
end Go.Proofs.Ytbbfhajokiajpaa
