/- Slices of bytes that are handed on. -/
import Derived.Test.YtcbgpolfnaopcaaWb
namespace Go.Proofs.Ytcbgpolfnaopcaa
open Go.RowKit

/-- The bytes that a slice holds, nil or not. -/
structure RowAt (w : World) (a : Option Addr) (c : Nat) (xs : List UInt8) : Prop where
  le : xs.length ≤ c
  max : c ≤ maxLen
  nil : a = none → c = 0
  cell : ∀ ad, a = some ad → ∀ j u, (Lib.byteCells xs)[j]? = some u → w.cell? (ad.add j) = some u
theorem RowAt.bytes {w : World} {a : Option Addr} {c : Nat} {xs : List UInt8} (h : RowAt w a c xs) : BytesAt w a xs := by
  rcases Nat.eq_zero_or_pos xs.length with h0 | h0
  · exact .inl (List.eq_nil_of_length_eq_zero h0)
  · right
    cases a with
    | none => have := h.nil rfl; have := h.le; omega
    | some ad =>
      obtain ⟨b, off, spot⟩ := ad
      have hc : ∀ j (hj : j < xs.length), w.cell? ((⟨b, off, spot⟩ : Addr).add j) = some (.int .u8 (xs[j].toNat : Int)) := fun j hj => h.cell _ rfl j _ (by simp [Lib.byteCells, hj])
      have hspot : spot = none := by simpa [Addr.add] using World.cell?_spot (hc 0 h0)
      subst hspot
      refine ⟨b, off, rfl, World.block_lt_of_cell? w _ (hc 0 h0), fun j hj => ?_⟩
      rw [← Go.WideShapes.add_plain]; exact hc j hj
theorem RowAt.next {w w' : World} {a : Option Addr} {c : Nat} {xs : List UInt8} (h : RowAt w a c xs) (hb : Below w.heap.size w w') : RowAt w' a c xs :=
  ⟨h.le, h.max, h.nil, fun ad e j u hu => by
    have h1 := h.cell ad e j u hu
    rw [hb.cell (p := ad.add j) (World.block_lt_of_cell? w _ h1)]; exact h1⟩
theorem rowAt_nil (w : World) : RowAt w none 0 [] := ⟨Nat.le_refl _, Nat.zero_le _, fun _ => rfl, fun _ e => by cases e⟩
/-- A slice of one's own, as a slice that is handed on. -/
theorem rowAt_own {w : World} {B n : Nat} {v : Value} {xs : List UInt8} (hn : xs.length = n) (h : w.ownsRow B 5 1 v n (Lib.byteCells xs)) : ∃ a c, v = .slice a n c ∧ RowAt w a c xs := by
  rcases h.2 with ⟨rfl, h0⟩ | ⟨g, cap, cur, rfl, _, _, h1, h2, _, _⟩
  · have : xs = [] := List.eq_nil_of_length_eq_zero (by omega)
    subst this
    subst h0
    exact ⟨none, 0, rfl, rowAt_nil w⟩
  · exact ⟨some ⟨g, 0, none⟩, cap, rfl, ⟨by omega, h2, (fun e => by cases e), (fun ad e j u hu => by cases e; exact h.cells (g := g) rfl j u hu)⟩⟩

theorem conv_nil (w : World) : (convert 25 9 (.slice none 0 0)).run Try.prog w = .ok (.string ⟨#[]⟩) w := by kernel_rfl
/-- The text of a slice. -/
theorem conv_row {w : World} {a : Option Addr} {c n : Nat} {xs : List UInt8} (hn : xs.length = n) (h : RowAt w a c xs) : (convert 25 9 (.slice a n c)).run Try.prog w = .ok (.string ⟨xs.toArray⟩) w := by
  subst hn
  cases a with
  | none =>
    have h0 := h.nil rfl
    have h1 := h.le
    have : xs = [] := List.eq_nil_of_length_eq_zero (by omega)
    subst this
    subst h0
    exact conv_nil w
  | some ad => exact run_convert_bytes_back (P := Try.prog) w 25 9 5 ad c xs Try.underlying25 Try.underlying5 Try.underlying9 (fun j hj => h.cell ad rfl j _ (by simp [Lib.byteCells, hj]))

/-- append of whatever slice of bytes onto a slice of one's own. -/
theorem wpList_append_row {w : World} {ops : Array Oper} {rest : List Oper} {o : Oper} {a : Act} {Q : Exit → Act → World → Prop} (hgd : o.guard = none) (s x : Operand)
    (ho : o.op = .call { callee := .builtin .append, args := #[s, x], argTypes := #[25, 25] })
    (base : Nat) (v : Value) (n : Nat) (xs : List Value) (hs : a.eval s = v) (hown : w.ownsRow base 5 1 v n xs)
    (p : Option Addr) (m c : Nat) (ys : List UInt8) (hx : a.eval x = .slice p m c) (hm : ys.length = m) (hrow : RowAt w p c ys)
    (h63 : n + m ≤ 1000000) (hbase : base ≤ w.heap.size)
    (h : ∀ v' w', w'.ownsRow base 5 1 v' (n + m) (xs ++ Lib.byteCells ys) → w.grownBy w' v.ownBlock → wpList Try.prog ops Q rest (a.put o.dst v') w') : wpList Try.prog ops Q (o :: rest) a w := by
  obtain ⟨i0, hi, hz0, hz1, hz2⟩ := info_parts info5
  cases p with
  | none =>
    have h0 := hrow.nil rfl
    have h1 := hrow.le
    have hy : ys = [] := List.eq_nil_of_length_eq_zero (by omega)
    subst hy
    subst h0
    simp at hm
    subst hm
    exact wpList_append_own_none hgd s x 25 ho base 5 i0 1 Try.underlying25 hi v n xs hs hown hx (h v w (by simpa [Lib.byteCells] using hown) ⟨rfl, rfl, rfl, Nat.le_refl _, fun _ _ _ => rfl⟩)
  | some ad =>
    exact wpList_append_own w hgd s x 25 ho base 5 i0 (.int .u8 0) 1 1 Try.underlying25 hi hz0 hz1 hz2 rfl (by decide) v n xs hs hown ad m c (Lib.byteCells ys) hx (by rw [Lib.byteCells_length, hm, Nat.mul_one]) (hrow.cell ad rfl) (cells_one ys) (by unfold maxLen; omega) (by omega) hbase (fun v' w' a1 a2 _ => h v' w' a1 a2)

end Go.Proofs.Ytcbgpolfnaopcaa
