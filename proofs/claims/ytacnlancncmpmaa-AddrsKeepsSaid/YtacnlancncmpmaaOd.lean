/- Contracts of Put and Find; the document's Wrong, Put, Find, Few. -/
import Derived.Test.YtacnlancncmpmaaOc
namespace Go.Proofs.Ytacnlancncmpmaa.S12
open Go.RowKit

/-- append onto bytes of one's own; all other blocks stay. -/
theorem wpList_append_keep {W0 w : World} {ops : Array Oper} {rest : List Oper} {o : Oper} {a : Act} {Q : Exit → Act → World → Prop} (hgd : o.guard = none) (s x : Operand)
    (ho : o.op = .call { callee := .builtin .append, args := #[s, x], argTypes := #[22, 22] })
    (p : Option Addr) (n c k : Nat) (xs : List UInt8) (hs : a.eval s = .slice p n c) (hO : Own W0 w p n c xs)
    (q : Option Addr) (m d : Nat) (ys : List UInt8) (hx : a.eval x = .slice q m d) (hm : ys.length = m) (hrow : RowAt w q d ys) (hk : n + m = k) (h63 : k ≤ 1000000)
    (h : ∀ p' c' w', Own W0 w' p' k c' (xs ++ ys) → w.heap.size ≤ w'.heap.size → (∀ j, j < w.heap.size → (∀ ad, p = some ad → ad.block ≠ j) → w'.heap[j]? = w.heap[j]?) → wpList Try.prog ops Q rest (a.put o.dst (.slice p' k c')) w') : wpList Try.prog ops Q (o :: rest) a w := by
  subst hk
  refine wpList_append_row hgd s x ho W0.heap.size (.slice p n c) n _ hs hO.own q m d ys hx hm hrow h63 hO.bel.size ?_
  intro v' w' o2 g2
  obtain ⟨p', c', rfl⟩ := own_slice o2
  refine h p' c' w' ⟨step_len hO.len hm, by rw [Lib.byteCells_append]; exact o2, Below.grown hO.bel g2 hO.bel.size (fun k hk => (hO.own.lt k hk).1)⟩ g2.size (fun j hj hne => g2.block j hj ?_)
  intro e
  rcases hO.own.2 with ⟨h1, _⟩ | ⟨g, cap, cur, h1, _⟩
  · rw [h1] at e; simp [Value.ownBlock] at e
  · have h2 := h1
    simp only [Value.slice.injEq] at h2
    rw [h1] at e
    simp [Value.ownBlock] at e
    exact hne _ h2.1 e.symm

theorem byte_ty (x : Int) (h : 0 ≤ x) (h2 : x ≤ 255) : x = ((UInt8.ofNat x.toNat).toNat : Int) := by simp; omega
theorem byte_len (m : Nat) (h : m ≤ 253) : (2 : Int) + (m : Int) = ((UInt8.ofNat (2 + m)).toNat : Int) := by simp; omega
theorem byte_len' (m : Nat) (h : m ≤ 253) : (m : Int) + 2 = ((UInt8.ofNat (2 + m)).toNat : Int) := by simp; omega
theorem bytes_len (L : List Ot.O) (k : Nat) (h : Ot.fine (L.take k)) (hk : k ≤ 3000) : (Ot.bytes (L.take k)).length ≤ 765000 := by
  have h1 := Ot.bytes_le _ h
  have h2 : (L.take k).length ≤ k := List.length_take_le k L
  omega


set_option maxRecDepth 100000 in
set_option maxHeartbeats 1000000 in
theorem find_any (a : Option Addr) (n cap : Nat) (L : List Ot.O) (t : Int) (w : World) (hL : L.length = n) (hn : n ≤ 1000000) (hd : ∀ x ∈ L, x.data.length ≤ 300000) (h : OptsAt w a L) :
    Calls Try.prog 37 #[.slice a n cap, .int .i64 t] w fun e w' => FindRes w w' e (Ot.find L t) := by
  have H := Lib.hid h
  have HL := Lib.hid hL
  have HD := Lib.hid hd
  obtain ⟨Z, hZ⟩ : ∃ Z, Ot.find L t = Z := ⟨_, rfl⟩
  rw [hZ]
  have HZ := Lib.hid hZ.symm
  clear h hL hd hZ
  go_enter Try.func37, Try.ntmps37
  go_wp2
  go_loopw [10] (fun i wr => ∃ k : Nat, i = .int .i64 (k : Int) ∧ k ≤ n ∧ (∀ x ∈ L.take k, x.ty ≠ t) ∧ Below w.heap.size w wr) (fun i _ => n - (intOf i).toNat)
  case atStart => exact ⟨0, rfl, Nat.zero_le _, by simp, Below.refl _ _⟩
  case round =>
    obtain ⟨k, rfl, hk, hp, hbw⟩ := hrel
    by_cases hlt : (k : Int) < (n : Int)
    · have hkn : k < n := by omega
      have hkL : k < L.length := by rw [HL.out]; omega
      obtain ⟨b, off, q, d, rfl, r1, _⟩ := (H.out.next hbw).at k hkL
      have hst := Ot.notyet_step hkL hp
      have hat := Ot.find_at L t k hkL hp
      have hdl := HD.out L[k] (List.getElem_mem hkL)
      generalize L[k] = r at *
      obtain ⟨m, hm⟩ : ∃ m, r.data.length = m := ⟨_, rfl⟩
      have RG := Lib.hid r1.range
      have ROW := r1.row
      rw [hm] at RG hdl
      have HM := Lib.hid hm
      have HST := Lib.hid hst
      have HAT := Lib.hid hat
      have bA := below_one wr (.cells #[.int .i64 r.ty, .slice q m d] 24)
      have hg3 := heap_alloc_new wr (.cells #[.int .i64 r.ty, .slice q m d] 24)
      have k0 : (wr.alloc (.cells #[.int .i64 r.ty, .slice q m d] 24)).cell? ⟨wr.heap.size, 0, none⟩ = some (.int .i64 r.ty) := cell_of_row _ _ _ _ _ _ hg3
      have k1 : (wr.alloc (.cells #[.int .i64 r.ty, .slice q m d] 24)).cell? ⟨wr.heap.size, 1, none⟩ = some (.slice q m d) := cell_of_row _ _ _ _ _ _ hg3
      have HB := Lib.hid (Below.chain hbw bA)
      have C := Lib.hid (clone_any q m d r.data _ hm hdl (ROW.next bA))
      clear hp hst hat r1 ROW hm hbw bA hg3
      by_cases ht : r.ty = t
      · have i1 : (r.ty == t) = true := by simpa using ht
        have hf : Z = some r.data := HZ.out.trans (HAT.out ht)
        subst hf
        clear ht HST HAT HZ
        go_wp2_with (first | (refine wpList_load_mid rfl 24 (.tmp 12) rfl b (off + k * 2) rfl (ocells r (.slice q m d)) _ RG.out Try.underlying24 rfl (infoOptN _ _) ?_; simp only [ocells]))
        refine C.out.mono ?_
        rintro e w1 ⟨v, rfl, o1, b1⟩
        go_wp2
        go_ret2
        exact ⟨Below.chain HB.out b1, _, rfl, by have := ownsRow_lower (base' := w.heap.size) o1 HB.out.size; rw [← HM.out] at this; exact this⟩
      · have i1 : (r.ty == t) = false := by simpa using ht
        have hs := HST.out ht
        clear ht HST HAT C
        go_wp2_with (first | (refine wpList_load_mid rfl 24 (.tmp 12) rfl b (off + k * 2) rfl (ocells r (.slice q m d)) _ RG.out Try.underlying24 rfl (infoOptN _ _) ?_; simp only [ocells]))
        go_roundw
        case rel => exact ⟨k + 1, by simp, by omega, hs, HB.out⟩
        case measure => simp [intOf]; omega
    · have hall : L.take k = L := List.take_of_length_le (by rw [HL.out]; omega)
      rw [hall] at hp
      have hf : Z = none := HZ.out.trans (Ot.find_none L t hp)
      subst hf
      clear HZ
      go_wp2
      go_ret2
      exact ⟨hbw, _, rfl, World.ownsRow_nil _ _ _ _⟩
end Go.Proofs.Ytacnlancncmpmaa.S12
