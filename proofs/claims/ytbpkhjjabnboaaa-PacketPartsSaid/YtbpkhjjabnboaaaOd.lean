/- Contracts of Put and Find; the document's Wrong, Put, Find, Few. -/
import Derived.Test.YtbpkhjjabnboaaaOc
namespace Go.Proofs.Ytbpkhjjabnboaaa.S12
open Go.RowKit

/-- append onto bytes of one's own; all other blocks stay. -/
theorem wpList_append_keep {W0 w : World} {ops : Array Oper} {rest : List Oper} {o : Oper} {a : Act} {Q : Exit → Act → World → Prop} (hgd : o.guard = none) (s x : Operand)
    (ho : o.op = .call { callee := .builtin .append, args := #[s, x], argTypes := #[22, 22] })
    (p : Option Addr) (n c k : Nat) (xs : List UInt8) (hs : a.eval s = .slice p n c) (hO : Own W0 w p n c xs)
    (q : Option Addr) (m d : Nat) (ys : List UInt8) (hx : a.eval x = .slice q m d) (hm : ys.length = m) (hrow : RowAt w q d ys) (hk : n + m = k) (h63 : k ≤ 1000000)
    (h : ∀ p' c' w', Own W0 w' p' k c' (xs ++ ys) → w.heap.size ≤ w'.heap.size → (∀ j, j < w.heap.size → (∀ ad, p = some ad → ad.block ≠ j) → w'.heap[j]? = w.heap[j]?) → wpList Try.prog ops Q rest (a.put o.dst (.slice p' k c')) w') : wpList Try.prog ops Q (o :: rest) a w := by
  subst hk
  refine wpList_append_row hgd s x ho W0.heap.size (.slice p n c) n _ hs hO.own q m d ys hx hm hrow h63 hO.bel.size ?_
  intro v' w' o2 g2
  obtain ⟨p', c', rfl⟩ := own_slice o2
  refine h p' c' w' ⟨step_len hO.len hm, by rw [Lib.byteCells_append]; exact o2, Below.grown hO.bel g2 hO.bel.size (fun k hk => (hO.own.lt k hk).1)⟩ g2.size (fun j hj hne => g2.block j hj ?_)
  intro e
  rcases hO.own.2 with ⟨h1, _⟩ | ⟨g, cap, cur, h1, _⟩
  · rw [h1] at e; simp [Value.ownBlock] at e
  · have h2 := h1
    simp only [Value.slice.injEq] at h2
    rw [h1] at e
    simp [Value.ownBlock] at e
    exact hne _ h2.1 e.symm

theorem byte_ty (x : Int) (h : 0 ≤ x) (h2 : x ≤ 255) : x = ((UInt8.ofNat x.toNat).toNat : Int) := by simp; omega
theorem byte_len (m : Nat) (h : m ≤ 253) : (2 : Int) + (m : Int) = ((UInt8.ofNat (2 + m)).toNat : Int) := by simp; omega
theorem byte_len' (m : Nat) (h : m ≤ 253) : (m : Int) + 2 = ((UInt8.ofNat (2 + m)).toNat : Int) := by simp; omega
theorem bytes_len (L : List Ot.O) (k : Nat) (h : Ot.fine (L.take k)) (hk : k ≤ 3000) : (Ot.bytes (L.take k)).length ≤ 765000 := by
  have h1 := Ot.bytes_le _ h
  have h2 : (L.take k).length ≤ k := List.length_take_le k L
  omega


end Go.Proofs.Ytbpkhjjabnboaaa.S12
