/- Contracts of Put and Find; the document's Wrong, Put, Find, Few. -/
import Derived.Test.YtcklhgpfiibcaaaOc
namespace Go.Proofs.Ytcklhgpfiibcaaa
open Go.RowKit

theorem Own.lt {W0 W : World} {p : Option Addr} {n c : Nat} {xs : List UInt8} (h : Own W0 W p n c xs) (ad : Addr) (e : p = some ad) : W0.heap.size ≤ ad.block ∧ ad.block < W.heap.size := by
  have := h.own
  rcases this.2 with ⟨h1, _⟩ | ⟨g, cap, cur, h1, hB, hg, _⟩
  · simp only [Value.slice.injEq] at h1; rw [e] at h1; cases h1.1
  · simp only [Value.slice.injEq] at h1
    rw [e] at h1
    obtain rfl := Option.some.inj h1.1
    exact ⟨hB, lt_of_block hg⟩
/-- append onto bytes of one's own; all other blocks stay. -/
theorem wpList_append_keep {W0 w : World} {ops : Array Oper} {rest : List Oper} {o : Oper} {a : Act} {Q : Exit → Act → World → Prop} (hgd : o.guard = none) (s x : Operand)
    (ho : o.op = .call { callee := .builtin .append, args := #[s, x], argTypes := #[25, 25] })
    (p : Option Addr) (n c k : Nat) (xs : List UInt8) (hs : a.eval s = .slice p n c) (hO : Own W0 w p n c xs)
    (q : Option Addr) (m d : Nat) (ys : List UInt8) (hx : a.eval x = .slice q m d) (hm : ys.length = m) (hrow : RowAt w q d ys) (hk : n + m = k) (h63 : k ≤ 1000000)
    (h : ∀ p' c' w', Own W0 w' p' k c' (xs ++ ys) → w.heap.size ≤ w'.heap.size → (∀ j, j < w.heap.size → (∀ ad, p = some ad → ad.block ≠ j) → w'.heap[j]? = w.heap[j]?) → wpList Try.prog ops Q rest (a.put o.dst (.slice p' k c')) w') : wpList Try.prog ops Q (o :: rest) a w := by
  subst hk
  refine wpList_append_row hgd s x ho W0.heap.size (.slice p n c) n _ hs hO.own q m d ys hx hm hrow h63 hO.bel.size ?_
  intro v' w' o2 g2
  obtain ⟨p', c', rfl⟩ := own_slice o2
  refine h p' c' w' ⟨step_len hO.len hm, by rw [Lib.byteCells_append]; exact o2, Below.grown hO.bel g2 hO.bel.size (fun k hk => (hO.own.lt k hk).1)⟩ g2.size (fun j hj hne => g2.block j hj ?_)
  intro e
  rcases hO.own.2 with ⟨h1, _⟩ | ⟨g, cap, cur, h1, _⟩
  · rw [h1] at e; simp [Value.ownBlock] at e
  · have h2 := h1
    simp only [Value.slice.injEq] at h2
    rw [h1] at e
    simp [Value.ownBlock] at e
    exact hne _ h2.1 e.symm

theorem byte_ty (x : Int) (h : 0 ≤ x) (h2 : x ≤ 255) : x = ((UInt8.ofNat x.toNat).toNat : Int) := by simp; omega
theorem byte_len (m : Nat) (h : m ≤ 253) : (2 : Int) + (m : Int) = ((UInt8.ofNat (2 + m)).toNat : Int) := by simp; omega
theorem byte_len' (m : Nat) (h : m ≤ 253) : (m : Int) + 2 = ((UInt8.ofNat (2 + m)).toNat : Int) := by simp; omega
theorem bytes_len (L : List Ot.O) (k : Nat) (h : Ot.fine (L.take k)) (hk : k ≤ 3000) : (Ot.bytes (L.take k)).length ≤ 765000 := by
  have h1 := Ot.bytes_le _ h
  have h2 : (L.take k).length ≤ k := List.length_take_le k L
  omega


set_option maxRecDepth 100000 in
set_option maxHeartbeats 1000000 in
theorem put_any (a : Option Addr) (n cap : Nat) (L : List Ot.O) (w : World) (hL : L.length = n) (hn : n ≤ 3000) (h : OptsAt w a L) :
    Calls Try.prog 11 #[.slice a n cap] w fun e w' => PutRes w w' e L := by
  have H := Lib.hid h
  have HL := Lib.hid hL
  clear h hL
  go_enter Try.func11, Try.ntmps11
  go_wp2
  go_loopw [4, 9] (fun v i wr => ∃ (k m c : Nat) (p : Option Addr), i = .int .i64 (k : Int) ∧ k ≤ n ∧ v = .slice p m c ∧ Own w wr p m c (Ot.bytes (L.take k)) ∧ Ot.fine (L.take k)) (fun _ i _ => n - (intOf i).toNat)
  case atStart => exact ⟨0, 0, 0, none, rfl, Nat.zero_le _, rfl, own_nil _, by simpa using Ot.fine_nil⟩
  case round =>
    obtain ⟨k, mo, co, po, rfl, hk, rfl, ho, hf⟩ := hrel
    by_cases hlt : (k : Int) < (n : Int)
    · have hkn : k < n := by omega
      have hkL : k < L.length := by rw [HL.out]; omega
      obtain ⟨b, off, q, d, rfl, r0, hbW⟩ := H.out.at k hkL
      have r1 := r0.next hbW ho.bel
      have hstep := Ot.bytes_step L k hkL
      have hfs := Ot.fine_step L k hkL hf
      have hbl := bytes_len L k hf (by omega)
      have hba := Ot.err_at L k hkL hf
      rw [ho.len] at hbl
      generalize L[k] = r at *
      obtain ⟨m, hm⟩ : ∃ m, r.data.length = m := ⟨_, rfl⟩
      have RG := Lib.hid r1.range
      have ROW := Lib.hid r0.row
      rw [hm] at RG
      have HO := Lib.hid ho
      have HM := Lib.hid hm
      have HF := Lib.hid hf
      have HS := Lib.hid hstep
      have HFS := Lib.hid hfs
      have HBA := Lib.hid hba
      have hbw := ho.bel
      clear ho r1 r0 hf hstep hfs hba
      have bA := below_one wr (.cells #[.int .i64 r.ty, .slice q m d] 42)
      have hg3 := heap_alloc_new wr (.cells #[.int .i64 r.ty, .slice q m d] 42)
      have k0 : (wr.alloc (.cells #[.int .i64 r.ty, .slice q m d] 42)).cell? ⟨wr.heap.size, 0, none⟩ = some (.int .i64 r.ty) := cell_of_row _ _ _ _ _ _ hg3
      have k1 : (wr.alloc (.cells #[.int .i64 r.ty, .slice q m d] 42)).cell? ⟨wr.heap.size, 1, none⟩ = some (.slice q m d) := cell_of_row _ _ _ _ _ _ hg3
      by_cases ht : r.ty < 0 ∨ 255 < r.ty
      · have he : Ot.err L = 1 := by rw [HBA.out (by unfold Ot.bad; rw [if_pos ht]; omega)]; unfold Ot.bad; rw [if_pos ht]
        have HB := Lib.hid (Below.chain hbw bA)
        clear HBA HFS HS HF HO bA hbw
        rcases ht with ht | ht
        · go_wp2_with (refine wpList_load_mid rfl 42 (.tmp 11) rfl b (off + k * 2) rfl (ocells r (.slice q m d)) _ RG.out Try.underlying42 rfl (infoOptN _ _) ?_; simp only [ocells])
          go_ret2
          exact ⟨HB.out, .inr ⟨by omega, by rw [he]; rfl⟩⟩
        · have ht2 : ¬ r.ty < 0 := by omega
          go_wp2_with (refine wpList_load_mid rfl 42 (.tmp 11) rfl b (off + k * 2) rfl (ocells r (.slice q m d)) _ RG.out Try.underlying42 rfl (infoOptN _ _) ?_; simp only [ocells])
          go_ret2
          exact ⟨HB.out, .inr ⟨by omega, by rw [he]; rfl⟩⟩
      · have ht1 : ¬ r.ty < 0 := by omega
        have ht2 : ¬ 255 < r.ty := by omega
        by_cases hd : 253 < m
        · have hd' : (253 : Int) < (m : Int) := by omega
          have hbd : Ot.bad r = 4 := by unfold Ot.bad; rw [if_neg ht, if_pos (by rw [HM.out]; exact hd)]
          have he : Ot.err L = 4 := by rw [HBA.out (by omega), hbd]
          have HB := Lib.hid (Below.chain hbw bA)
          clear HBA HFS HS HF HO bA hbw hbd
          go_wp2_with (refine wpList_load_mid rfl 42 (.tmp 11) rfl b (off + k * 2) rfl (ocells r (.slice q m d)) _ RG.out Try.underlying42 rfl (infoOptN _ _) ?_; simp only [ocells])
          go_ret2
          exact ⟨HB.out, .inr ⟨by omega, by rw [he]; rfl⟩⟩
        · have hd' : ¬ (253 : Int) < (m : Int) := by omega
          have hbd : Ot.bad r = 0 := by unfold Ot.bad; rw [if_neg ht, if_neg (by rw [HM.out]; exact hd)]
          have hw1 : IntKind.u8.wrap r.ty = r.ty := by rw [IntKind.wrap_u8]; omega
          have hw2 : IntKind.u8.wrap (2 + (m : Int)) = 2 + (m : Int) := by rw [IntKind.wrap_u8]; omega
          have hy := byte_ty r.ty (by omega) (by omega)
          have hz := byte_len m (by omega)
          have hone : Ot.one r = [UInt8.ofNat r.ty.toNat, UInt8.ofNat (2 + m)] ++ r.data := by rw [Ot.one, HM.out]
          generalize UInt8.ofNat r.ty.toNat = y at *
          generalize UInt8.ofNat (2 + m) = z at *
          have HY := Lib.hid hy
          have HZ := Lib.hid hz
          have HS' := Lib.hid (HS.out.trans (congrArg _ hone))
          have HFS' := Lib.hid (HFS.out hbd)
          have hlo := fun ad e => (HO.out.lt ad e).2
          have HLO := Lib.hid hlo
          obtain ⟨m2, hm2⟩ : ∃ m2, mo + 2 = m2 := ⟨_, rfl⟩
          obtain ⟨m3, hm3⟩ : ∃ m3, m2 + m = m3 := ⟨_, rfl⟩
          have hl1 : m2 ≤ 1000000 := by omega
          have hl2 : m3 ≤ 1000000 := by omega
          have hsz1 : (wr.alloc (.cells #[.int .i64 r.ty, .slice q m d] 42)).heap.size = wr.heap.size + 1 := by simp
          have bB := below_one (wr.alloc (.cells #[.int .i64 r.ty, .slice q m d] 42)) (.cells #[.int .u8 r.ty, .int .u8 (2 + (m : Int))] 5)
          have hrow2 := two_built (wr.alloc (.cells #[.int .i64 r.ty, .slice q m d] 42)) y z r.ty (2 + (m : Int)) HY.out HZ.out
          rw [hsz1] at hrow2
          have HR2 := Lib.hid hrow2
          have HO2 := Lib.hid (HO.out.next (Below.chain bA bB))
          have HG2 := Lib.hid (block_next hg3 bB)
          have HB2 := Lib.hid (Below.chain hbw (Below.chain bA bB))
          have hsz2 := (Below.chain bA bB).size
          have hlt2 : wr.heap.size < ((wr.alloc (.cells #[.int .i64 r.ty, .slice q m d] 42)).alloc (.cells #[.int .u8 r.ty, .int .u8 (2 + (m : Int))] 5)).heap.size := by simp; omega
          have HM2 := Lib.hid hm2
          have HM3 := Lib.hid hm3
          clear HBA HFS HS HF hone hbd hy hz hlo hrow2 bA bB hg3 hsz1 HO hbw hm2 hm3
          go_wp2_with (first | (refine wpList_load_mid rfl 42 (.tmp 11) rfl b (off + k * 2) rfl (ocells r (.slice q m d)) _ RG.out Try.underlying42 rfl (infoOptN _ _) ?_; simp only [ocells]) | (at_builtin; generalize (wr.alloc (.cells #[.int .i64 r.ty, .slice q m d] 42)).alloc (.cells #[.int .u8 r.ty, .int .u8 (2 + (m : Int))] 5) = W2 at *; refine wpList_append_keep rfl (.tmp 27) (.tmp 36) rfl po mo co m2 _ rfl HO2.out (some ⟨wr.heap.size + 1, 0, none⟩) 2 2 [y, z] rfl rfl HR2.out HM2.out hl1 ?_; intro p5 c5 W5 O5 s5 j5; have k51 : W5.cell? ⟨wr.heap.size, 1, none⟩ = some (.slice q m d) := cell_of_row _ _ _ _ _ _ ((j5 _ hlt2 (fun ad e => by have := HLO.out ad e; omega)).trans HG2.out)) | (at_builtin; refine wpList_append_keep rfl (.tmp 38) (.tmp 40) rfl p5 m2 c5 m3 _ rfl O5 q m d r.data rfl HM.out (ROW.out.next O5.bel) HM3.out hl2 ?_; intro p6 c6 W6 O6 s6 j6))
          have O6' : Own w W6 p6 m3 c6 (Ot.bytes (L.take (k + 1))) := by rw [HS'.out, ← List.append_assoc]; exact O6
          go_roundw
          case rel => exact ⟨k + 1, m3, c6, p6, by simp, by omega, rfl, O6', HFS'.out⟩
          case measure => simp [intOf]; omega
    · have hkn : k = n := by omega
      subst hkn
      have hall : L.take k = L := List.take_of_length_le (by rw [HL.out]; exact Nat.le_refl _)
      rw [hall] at ho hf
      have he := (Ot.err_zero L).2 hf
      have hl := ho.len
      have hO := Lib.hid ho
      clear ho
      go_wp2
      go_ret2
      exact ⟨hO.out.bel, .inl ⟨he, .slice po mo co, rfl, by rw [hl]; exact hO.out.own⟩⟩

/-! Find. -/
set_option maxRecDepth 100000 in
set_option maxHeartbeats 1000000 in
theorem find_any (a : Option Addr) (n cap : Nat) (L : List Ot.O) (t : Int) (w : World) (hL : L.length = n) (hn : n ≤ 1000000) (hd : ∀ x ∈ L, x.data.length ≤ 300000) (h : OptsAt w a L) :
    Calls Try.prog 18 #[.slice a n cap, .int .i64 t] w fun e w' => FindRes w w' e (Ot.find L t) := by
  have H := Lib.hid h
  have HL := Lib.hid hL
  have HD := Lib.hid hd
  obtain ⟨Z, hZ⟩ : ∃ Z, Ot.find L t = Z := ⟨_, rfl⟩
  rw [hZ]
  have HZ := Lib.hid hZ.symm
  clear h hL hd hZ
  go_enter Try.func18, Try.ntmps18
  go_wp2
  go_loopw [10] (fun i wr => ∃ k : Nat, i = .int .i64 (k : Int) ∧ k ≤ n ∧ (∀ x ∈ L.take k, x.ty ≠ t) ∧ Below w.heap.size w wr) (fun i _ => n - (intOf i).toNat)
  case atStart => exact ⟨0, rfl, Nat.zero_le _, by simp, Below.refl _ _⟩
  case round =>
    obtain ⟨k, rfl, hk, hp, hbw⟩ := hrel
    by_cases hlt : (k : Int) < (n : Int)
    · have hkn : k < n := by omega
      have hkL : k < L.length := by rw [HL.out]; omega
      obtain ⟨b, off, q, d, rfl, r1, _⟩ := (H.out.next hbw).at k hkL
      have hst := Ot.notyet_step hkL hp
      have hat := Ot.find_at L t k hkL hp
      have hdl := HD.out L[k] (List.getElem_mem hkL)
      generalize L[k] = r at *
      obtain ⟨m, hm⟩ : ∃ m, r.data.length = m := ⟨_, rfl⟩
      have RG := Lib.hid r1.range
      have ROW := r1.row
      rw [hm] at RG hdl
      have HM := Lib.hid hm
      have HST := Lib.hid hst
      have HAT := Lib.hid hat
      have bA := below_one wr (.cells #[.int .i64 r.ty, .slice q m d] 42)
      have hg3 := heap_alloc_new wr (.cells #[.int .i64 r.ty, .slice q m d] 42)
      have k0 : (wr.alloc (.cells #[.int .i64 r.ty, .slice q m d] 42)).cell? ⟨wr.heap.size, 0, none⟩ = some (.int .i64 r.ty) := cell_of_row _ _ _ _ _ _ hg3
      have k1 : (wr.alloc (.cells #[.int .i64 r.ty, .slice q m d] 42)).cell? ⟨wr.heap.size, 1, none⟩ = some (.slice q m d) := cell_of_row _ _ _ _ _ _ hg3
      have HB := Lib.hid (Below.chain hbw bA)
      have C := Lib.hid (clone_any q m d r.data _ hm hdl (ROW.next bA))
      clear hp hst hat r1 ROW hm hbw bA hg3
      by_cases ht : r.ty = t
      · have i1 : (r.ty == t) = true := by simpa using ht
        have hf : Z = some r.data := HZ.out.trans (HAT.out ht)
        subst hf
        clear ht HST HAT HZ
        go_wp2_with (first | (refine wpList_load_mid rfl 42 (.tmp 12) rfl b (off + k * 2) rfl (ocells r (.slice q m d)) _ RG.out Try.underlying42 rfl (infoOptN _ _) ?_; simp only [ocells]))
        refine C.out.mono ?_
        rintro e w1 ⟨v, rfl, o1, b1⟩
        go_wp2
        go_ret2
        exact ⟨Below.chain HB.out b1, _, rfl, by have := ownsRow_lower (base' := w.heap.size) o1 HB.out.size; rw [← HM.out] at this; exact this⟩
      · have i1 : (r.ty == t) = false := by simpa using ht
        have hs := HST.out ht
        clear ht HST HAT C
        go_wp2_with (first | (refine wpList_load_mid rfl 42 (.tmp 12) rfl b (off + k * 2) rfl (ocells r (.slice q m d)) _ RG.out Try.underlying42 rfl (infoOptN _ _) ?_; simp only [ocells]))
        go_roundw
        case rel => exact ⟨k + 1, by simp, by omega, hs, HB.out⟩
        case measure => simp [intOf]; omega
    · have hall : L.take k = L := List.take_of_length_le (by rw [HL.out]; omega)
      rw [hall] at hp
      have hf : Z = none := HZ.out.trans (Ot.find_none L t hp)
      subst hf
      clear HZ
      go_wp2
      go_ret2
      exact ⟨hbw, _, rfl, World.ownsRow_nil _ _ _ _⟩
end Go.Proofs.Ytcklhgpfiibcaaa
