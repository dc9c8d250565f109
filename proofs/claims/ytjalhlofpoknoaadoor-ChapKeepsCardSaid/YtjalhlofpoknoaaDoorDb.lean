/- A digest into a block of its own; texts cut; a bit turned. -/
import Derived.Test.YtjalhlofpoknoaaDoorDa
namespace Go.Proofs.YtjalhlofpoknoaaDoor
open Go.RowKit

theorem wpList_digIn {w : World} {ops : Array Oper} {rest : List Oper} {o : Oper} {a : Act} {Q : Exit → Act → World → Prop} (hgd : o.guard = none) (x y : Operand) (ho : o.op = .store 38 x y)
    (D : List UInt8) (hD : D.length = 16) (hx : a.eval x = .pointer (some ⟨w.heap.size, 0, none⟩)) (hy : a.eval y = .agg (Lib.byteCells D).toArray)
    (h : ∀ w', w'.heap[w.heap.size]? = some (.cells (Lib.byteCells D).toArray 38 (0, 0)) → Below w.heap.size w w' → wpList Tryd.prog ops Q rest (a.put o.dst undef) w') : wpList Tryd.prog ops Q (o :: rest) a (w.alloc (.cells S3.z24 38)) :=
  wpList_store_dig hgd x y ho w.heap.size D hD hx hy (heap_alloc_new w _) (h _ (setRow_heap _ _ _ _ _ _ (heap_alloc_new w _)) (below_setRow (below_one w _) (Nat.le_refl _) _))
/-- append onto bytes of one's own, of an operation that is asked for. -/
theorem wpList_append_mine_if {W0 w : World} {ops : Array Oper} {rest : List Oper} {o : Oper} {a : Act} {Q : Exit → Act → World → Prop} (hw : Region.wanted o (yielded ops a.tmps) = true) (s x : Operand)
    (ho : o.op = .call { callee := .builtin .append, args := #[s, x], argTypes := #[22, 22] })
    (p : Option Addr) (n c k : Nat) (xs : List UInt8) (hs : a.eval s = .slice p n c) (hO : Own W0 w p n c xs)
    (q : Option Addr) (m d : Nat) (ys : List UInt8) (hx : a.eval x = .slice q m d) (hm : ys.length = m) (hrow : RowAt w q d ys) (hk : n + m = k) (h63 : k ≤ 1000000)
    (h : ∀ p' c' w', Own W0 w' p' k c' (xs ++ ys) → wpList Tryd.prog ops Q rest (a.put o.dst (.slice p' k c')) w') : wpList Tryd.prog ops Q (o :: rest) a w := by
  subst hk
  refine wpList_want hw (wp_append_row s x ho W0.heap.size (.slice p n c) n _ hs hO.own q m d ys hx hm hrow h63 hO.bel.size ?_)
  intro v' w' o2 g2
  obtain ⟨p', c', rfl⟩ := own_slice o2
  exact h p' c' w' ⟨step_len hO.len hm, by rw [Lib.byteCells_append]; exact o2, Below.grown hO.bel g2 hO.bel.size (fun k hk => (hO.own.lt k hk).1)⟩
theorem txt_from (s : List UInt8) (k : Nat) : (⟨s.toArray⟩ : ByteArray).extract k s.length = ⟨(s.drop k).toArray⟩ := by
  rw [ByteArray.extract_mk, List.take_of_length_le (by rw [List.length_drop]; exact Nat.le_refl _)]
theorem txt_to (s : List UInt8) (k : Nat) : (⟨s.toArray⟩ : ByteArray).extract 0 k = ⟨(s.take k).toArray⟩ := by
  rw [ByteArray.extract_mk, List.drop_zero, Nat.sub_zero]
theorem xor8 (a b : Nat) (ha : a < 256) (hb : b < 256) : bits .xor .u8 (a : Int) (b : Int) = ((a ^^^ b : Nat) : Int) := by
  have ha' : a % 2 ^ 8 = a := Nat.mod_eq_of_lt ha
  have hb' : b % 2 ^ 8 = b := Nat.mod_eq_of_lt hb
  have hx : a ^^^ b < 2 ^ 8 := Nat.xor_lt_two_pow ha hb
  have hx' : ((a ^^^ b : Nat) : Int) < 2 ^ 8 := by exact_mod_cast hx
  simp only [bits, BitVec.ofInt_natCast, BitVec.toNat_xor, BitVec.toNat_ofNat, show IntKind.u8.bits = 8 from rfl, ha', hb']
  rw [IntKind.wrap_u8]; omega
theorem flip_lt (x : UInt8) {t : Nat} (ht : t < 8) : x.toNat ^^^ 2 ^ t < 256 := Nat.xor_lt_two_pow (n := 8) (UInt8.toNat_lt _) (Nat.pow_lt_pow_right (a := 2) (n := 8) (by omega) ht)
theorem flip_ne (x : UInt8) {t : Nat} (ht : t < 8) : UInt8.ofNat (x.toNat ^^^ 2 ^ t) ≠ x := by
  intro e
  have h2 := congrArg UInt8.toNat e
  rw [UInt8.toNat_ofNat_of_lt' (flip_lt x ht)] at h2
  have h3 := congrArg (fun z => x.toNat ^^^ z) h2
  simp only [← Nat.xor_assoc, Nat.xor_self, Nat.zero_xor] at h3
  have := Nat.two_pow_pos t
  omega
theorem set_ne (D : List UInt8) (j : Nat) (hj : j < D.length) (y : UInt8) (h : y ≠ D[j]) : D.set j y ≠ D := by
  intro e
  have h1 : (D.set j y)[j]? = D[j]? := by rw [e]
  rw [List.getElem?_set_self hj, List.getElem?_eq_getElem hj] at h1
  exact h (Option.some.inj h1)
theorem take_ne (D : List UInt8) (hD : D.length = 16) : D.take 15 ≠ D := by
  intro e
  have := congrArg List.length e
  rw [List.length_take] at this
  omega
theorem more_ne (D : List UInt8) (x : UInt8) : D ++ [x] ≠ D := by
  intro e
  have := congrArg List.length e
  rw [List.length_append] at this
  simp at this
theorem own_kept' {w w' : World} {B e s n : Nat} {v : Value} {xs : List Value} {r : Option Nat} (h : w.ownsRow B e s v n xs) (hg : w.grownBy w' r) (hr : ∀ q, r = some q → q < B) : w'.ownsRow B e s v n xs := by
  refine h.kept hg ?_
  cases hv : v.ownBlock with
  | none => exact .inl rfl
  | some k => right; intro e1; have := (h.lt k hv).1; have := hr k e1.symm; omega
theorem row_of_own {w : World} {B n c : Nat} {p : Option Addr} {xs : List UInt8} (hn : xs.length = n) (h : w.ownsRow B 5 1 (.slice p n c) n (Lib.byteCells xs)) : RowAt w p c xs := by
  obtain ⟨a', c', e, r⟩ := rowAt_own hn h
  simp only [Value.slice.injEq, true_and] at e
  obtain ⟨rfl, rfl⟩ := e
  exact r
end Go.Proofs.YtjalhlofpoknoaaDoor
