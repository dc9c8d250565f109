/- Lists of notes that are copied, one behind the other; the walk of DumpJoin. -/
import Derived.Test.YtbmlacmpiaklpaaDoorPutsWalk
namespace Go.Proofs.YtbmlacmpiaklpaaDoor
open Go.RowKit

theorem CellsAt.left {xs ys : List Value} {j : Nat} {r : Dm.Nt} {d : Value} (h : CellsAt xs j r d) : CellsAt (xs ++ ys) j r d := by
  have l := fun {i : Nat} {u : Value} (e : xs[i]? = some u) => (List.getElem?_eq_some_iff.1 e).1
  exact ⟨by rw [List.getElem?_append_left (l h.kind)]; exact h.kind, by rw [List.getElem?_append_left (l h.n)]; exact h.n, by rw [List.getElem?_append_left (l h.data)]; exact h.data⟩
theorem CellsAt.right {xs ys : List Value} {j n : Nat} {r : Dm.Nt} {d : Value} (hn : xs.length = n * 3) (h : CellsAt ys j r d) : CellsAt (xs ++ ys) (n + j) r d := by
  refine ⟨?_, ?_, ?_⟩
  · rw [List.getElem?_append_right (by omega), hn, show (n + j) * 3 - n * 3 = j * 3 by omega]; exact h.kind
  · rw [List.getElem?_append_right (by omega), hn, show (n + j) * 3 + 1 - n * 3 = j * 3 + 1 by omega]; exact h.n
  · rw [List.getElem?_append_right (by omega), hn, show (n + j) * 3 + 2 - n * 3 = j * 3 + 2 by omega]; exact h.data
/-- The cells of notes, in a row. -/
structure Cells (w : World) (b off : Nat) (M : List Dm.Nt) (k : Nat) (ys : List Value) : Prop where
  len : ys.length = k * 3
  at' : ∀ j (h : j < M.length), j < k → ∃ p c, CellsAt ys j M[j] (.slice p M[j].data.length c) ∧ RowAt w p c M[j].data ∧ M[j].Ok
  cell : ∀ i u, ys[i]? = some u → w.cell? ⟨b, off + i, none⟩ = some u
  one : ∀ u ∈ ys, u.oneCell' = true
theorem cells_all {w : World} {b off : Nat} {M : List Dm.Nt} (h : ∀ j (h : j < M.length), ∃ p c, NtAt w b (off + j * 3) M[j] p c) : ∀ k, k ≤ M.length → ∃ ys, Cells w b off M k ys
  | 0, _ => ⟨[], rfl, (fun j _ hk => by omega), (fun i u e => by simp at e), (fun u e => by simp at e)⟩
  | k + 1, hk => by
    obtain ⟨ys, hy⟩ := cells_all h k (by omega)
    obtain ⟨p, c, hn⟩ := h k (by omega)
    have hl := hy.len
    refine ⟨ys ++ ncells M[k] (.slice p M[k].data.length c), by rw [List.length_append, hl]; simp [ncells]; omega, fun j hj hjk => ?_, fun i u e => ?_, fun u hu => ?_⟩
    · by_cases h1 : j < k
      · obtain ⟨p', c', q1, q2, q3⟩ := hy.at' j hj h1
        exact ⟨p', c', q1.left, q2, q3⟩
      · obtain rfl : j = k := by omega
        refine ⟨p, c, ?_, hn.row, hn.ok⟩
        have : CellsAt (ncells M[j] (.slice p M[j].data.length c)) 0 M[j] (.slice p M[j].data.length c) := ⟨rfl, rfl, rfl⟩
        exact this.right hl
    · by_cases h1 : i < ys.length
      · rw [List.getElem?_append_left h1] at e
        exact hy.cell i u e
      · rw [List.getElem?_append_right (by omega)] at e
        have := hn.range (i - ys.length) u e
        rw [hl] at this h1
        rw [show off + i = off + k * 3 + (i - k * 3) by omega]
        exact this
    · simp only [List.mem_append] at hu
      rcases hu with hu | hu
      · exact hy.one u hu
      · simp only [ncells, List.mem_cons, List.not_mem_nil, or_false] at hu
        rcases hu with rfl | rfl | rfl <;> rfl
/-- A list of notes that was made since W0; what their Data point to was there. -/
structure Copy (W0 W : World) (v : Value) (L : List Dm.Nt) : Prop where
  list : ∃ xs : List Value, W.ownsRow W0.heap.size 37 3 v L.length xs ∧ ∀ j (h : j < L.length), ∃ p c, CellsAt xs j L[j] (.slice p L[j].data.length c) ∧ RowAt W0 p c L[j].data ∧ L[j].Ok
  bel : Below W0.heap.size W0 W
theorem Copy.at {W0 W : World} {v : Value} {L : List Dm.Nt} (h : Copy W0 W v L) : ∃ a c, v = .slice a L.length c ∧ NtsAt W a L := by
  obtain ⟨xs, ho, he⟩ := h.list
  rcases ho.2 with ⟨rfl, h0⟩ | ⟨g, cap, cur, rfl, hb, hg, _⟩
  · exact ⟨none, 0, by rw [h0], .inl (List.eq_nil_of_length_eq_zero h0)⟩
  · refine ⟨_, cap, rfl, .inr ⟨g, 0, rfl, lt_of_block hg, fun j hj => ?_⟩⟩
    obtain ⟨p, c, h1, h2, h3⟩ := he j hj
    have e := ho.cells (g := g) rfl
    simp only [Go.WideShapes.add_plain] at e
    exact ⟨p, c, e _ _ h1.kind, by rw [Nat.add_assoc]; exact e _ _ h1.n, by rw [Nat.add_assoc]; exact e _ _ h1.data, h2.next h.bel, h3⟩
theorem wpList_append_copy {W0 w : World} {ops : Array Oper} {rest : List Oper} {o : Oper} {a : Act} {Q : Exit → Act → World → Prop} (hgd : o.guard = none) (s x : Operand)
    (ho : o.op = .call { callee := .builtin .append, args := #[s, x], argTypes := #[22, 22] })
    (v : Value) (L M : List Dm.Nt) (q : Option Addr) (m c : Nat) (hs : a.eval s = v) (hx : a.eval x = .slice q m c) (hL : Copy W0 w v L) (hm : M.length = m) (hM : NtsAt W0 q M) (hnil : q = none → c = 0) (hlen : L.length + m ≤ 1000000)
    (h : ∀ v' w', Copy W0 w' v' (L ++ M) → wpList Tryd.prog ops Q rest (a.put o.dst v') w') : wpList Tryd.prog ops Q (o :: rest) a w := by
  obtain ⟨i0, hi, hz0, hz1, hz2⟩ := info_parts info37z
  subst hm
  have hL' := hL
  obtain ⟨xs, hown, he⟩ := hL.list
  have hxl : xs.length = L.length * 3 := hown.1
  cases q with
  | none =>
    have hM0 : M = [] := by
      rcases hM with h0 | ⟨b, off, e, _⟩
      · exact h0
      · cases e
    subst hM0
    obtain rfl := hnil rfl
    have hrun := run_append_owned_none (P := Tryd.prog) (w := w) W0.heap.size 22 o.type 37 i0 3 Tryd.underlying22 hi v L.length xs hown
    refine wpList_plain hgd fun _ hK => ?_
    unfold Oper.wp
    simp [execOp, ho, resolve, invoke, builtin, hs, hx, hrun, Result.andThen]
    exact hK _ _ (h v w (by rw [List.append_nil]; exact hL'))
  | some ad =>
    have hsrc : ∃ ys : List Value, ys.length = M.length * 3 ∧ (∀ j (h : j < M.length), ∃ p c, CellsAt ys j M[j] (.slice p M[j].data.length c) ∧ RowAt W0 p c M[j].data ∧ M[j].Ok) ∧ (∀ i u, ys[i]? = some u → W0.cell? (ad.add i) = some u) ∧ (∀ u ∈ ys, u.oneCell' = true) := by
      rcases hM with rfl | ⟨b, off, e, hbl, hn⟩
      · exact ⟨[], rfl, (fun j hj => by simp at hj), (fun i u e => by simp at e), (fun u e => by simp at e)⟩
      · cases e
        obtain ⟨ys, hy⟩ := cells_all hn M.length (Nat.le_refl _)
        exact ⟨ys, hy.len, fun j hj => hy.at' j hj hj, fun i u e => by rw [Go.WideShapes.add_plain]; exact hy.cell i u e, hy.one⟩
    obtain ⟨ys, hy1, hy2, hy3, hy4⟩ := hsrc
    refine wpList_append_own w hgd s x 22 ho W0.heap.size 37 i0 _ 3 40 Tryd.underlying22 hi hz0 hz1 hz2 rfl (by decide) v L.length xs hs hown ad M.length c ys hx hy1 (fun j u hu => ?_) hy4 (by unfold maxLen; omega) (by omega) hL.bel.size ?_
    · have h1 := hy3 j u hu
      rw [hL.bel.cell (p := ad.add j) (World.block_lt_of_cell? W0 _ h1)]
      exact h1
    · intro v' w' o2 g2 _
      refine h v' w' ⟨⟨xs ++ ys, by rw [List.length_append]; exact o2, fun j hj => ?_⟩, Below.grown hL.bel g2 hL.bel.size (fun k hk => (hown.lt k hk).1)⟩
      by_cases hjl : j < L.length
      · obtain ⟨p, c, q1, q2, q3⟩ := he j hjl
        rw [List.getElem_append_left hjl]
        exact ⟨p, c, q1.left, q2, q3⟩
      · have hj2 : j - L.length < M.length := by rw [List.length_append] at hj; omega
        obtain ⟨p, c, q1, q2, q3⟩ := hy2 (j - L.length) hj2
        rw [List.getElem_append_right (by omega)]
        have := q1.right hxl
        rw [show L.length + (j - L.length) = j by omega] at this
        exact ⟨p, c, this, q2, q3⟩
theorem copy_none (w : World) : Copy w (w.alloc (.cells #[] 37)) (.slice (some ⟨w.heap.size, 0, none⟩) 0 0) [] :=
  ⟨⟨[], World.ownsRow_made w #[] 0 (Nat.le_refl _) (Nat.zero_le _) rfl, (fun j hj => by simp at hj)⟩, below_one _ _⟩
theorem cat_list (x y : List UInt8) : (⟨x.toArray⟩ : ByteArray) ++ ⟨y.toArray⟩ = ⟨(x ++ y).toArray⟩ := by
  apply ByteArray.ext
  simp

theorem put_gen {w w' : World} {e : Ending} {L : List Dm.Nt} (h : PutRes w w' e L) : ∃ p l c, e = .returned (.tuple #[.slice p l c, .int .i64 (Dm.err L : Int)]) ∧ (Dm.err L = 0 → l = (Dm.bytes L).length ∧ RowAt w' p c (Dm.bytes L)) ∧ (Dm.err L ≠ 0 → l = 0) ∧ Below w.heap.size w w' := by
  by_cases h0 : Dm.err L = 0
  · obtain ⟨a, c, rfl, r, b, _⟩ := put_fine h h0
    exact ⟨a, _, c, by rw [h0]; rfl, fun _ => ⟨rfl, r⟩, fun h1 => absurd h0 h1, b⟩
  · obtain ⟨rfl, b⟩ := put_bad h h0
    exact ⟨none, 0, 0, rfl, fun h1 => absurd h1 h0, fun _ => rfl, b⟩

set_option maxRecDepth 100000 in
set_option maxHeartbeats 1000000 in
theorem join_walk (a : Option Addr) (n cap : Nat) (L : List Dm.Nt) (a2 : Option Addr) (n2 cap2 : Nat) (L2 : List Dm.Nt) (w : World) (hn : L.length = n) (h : NtsAt w a L) (hnil : a = none → cap = 0) (hn2 : L2.length = n2) (h2 : NtsAt w a2 L2) (hnil2 : a2 = none → cap2 = 0) (ht : Tab w) :
    Calls Tryd.prog 7 #[.slice a n cap, .slice a2 n2 cap2] w fun e w' => e = .returned (.bool true) ∧ Below w.heap.size w w' := by
  have H := Lib.hid h
  have Hn := Lib.hid hn
  have H2 := Lib.hid h2
  have Hn2 := Lib.hid hn2
  have HT := Lib.hid ht
  have HN1 := Lib.hid hnil
  have HN2 := Lib.hid hnil2
  clear h hn ht h2 hn2 hnil hnil2
  go_enter Tryd.func7, Tryd.ntmps7
  go_wp2_with fail
  refine (awake_any w HT.out).mono ?_
  rintro e w1 ⟨rfl, b1⟩
  have B1 := Lib.hid b1
  clear b1
  go_wp2_with fail
  refine (few_any a n cap L w1 Hn.out (H.out.next B1.out)).mono ?_
  rintro e w2 ⟨r, rfl, rfl, hfew⟩
  cases r
  · go_wp2_with fail
    refine (awake_any _ (HT.out.next B1.out)).mono ?_
    rintro e w3 ⟨rfl, b3⟩
    have B3 := Lib.hid (Below.chain B1.out b3)
    clear b3
    go_wp2
    go_ret
    exact ⟨rfl, B3.out⟩
  · obtain ⟨h50, h14⟩ := hfew rfl
    clear hfew
    go_wp2_with fail
    refine (few_any a2 n2 cap2 L2 w2 Hn2.out (H2.out.next B1.out)).mono ?_
    rintro e w3 ⟨r, rfl, rfl, hfew⟩
    cases r
    · go_wp2_with fail
      refine (awake_any _ (HT.out.next B1.out)).mono ?_
      rintro e w3 ⟨rfl, b3⟩
      have B3 := Lib.hid (Below.chain B1.out b3)
      clear b3
      go_wp2
      go_ret
      exact ⟨rfl, B3.out⟩
    · obtain ⟨h50', h14'⟩ := hfew rfl
      clear hfew
      have hbl := Dm.bytes_le L
      have hbl2 := Dm.bytes_le L2
      have hap := Dm.bytes_append L L2
      have hea := Dm.err_append L L2
      rw [Hn.out] at hbl
      rw [Hn2.out] at hbl2
      have HAP := Lib.hid hap
      have HEA := Lib.hid hea
      clear hap hea
      go_wp2_with fail
      refine (put_any a n cap L w3 Hn.out (by omega) (by omega) (H.out.next B1.out) (HT.out.next B1.out)).mono ?_
      intro e w4 hres4
      obtain ⟨p4, l4, c4, rfl, g4, z4, b4⟩ := put_gen hres4
      have B4 := Lib.hid (Below.chain B1.out b4)
      have G4 := Lib.hid g4
      have Z4 := Lib.hid z4
      clear hres4 g4 z4 b4 B1
      go_wp2_with fail
      refine (put_any a2 n2 cap2 L2 w4 Hn2.out (by omega) (by omega) (H2.out.next B4.out) (HT.out.next B4.out)).mono ?_
      intro e w5 hres5
      obtain ⟨p5, l5, c5, rfl, g5, z5, b5⟩ := put_gen hres5
      have B5 := Lib.hid (Below.chain B4.out b5)
      have G5 := Lib.hid g5
      have Z5 := Lib.hid z5
      have G45 := Lib.hid (fun h0 => (G4.out h0).2.next b5)
      have K5 := Lib.hid (copy_none w5)
      have S1 := Lib.hid (H.out.next B5.out)
      have S2 := Lib.hid (H2.out.next B5.out)
      clear hres5 g5 z5 b5 B4
      have HL7 : Hid ((L ++ L2).length = n + n2) := by show _ = _; rw [List.length_append, Hn.out, Hn2.out]
      go_wp2_with (first | (at_builtin; refine wpList_append_copy (W0 := w5) rfl (.tmp 35) (.tmp 36) rfl (.slice (some ⟨w5.heap.size, 0, none⟩) 0 0) [] L a n cap rfl rfl K5.out Hn.out S1.out HN1.out (by simp; omega) ?_; intro v6 w6 k6; rw [List.nil_append] at k6; have K6 := Lib.hid k6; clear k6) | (at_builtin; refine wpList_append_copy (W0 := w5) rfl (.tmp 37) (.tmp 38) rfl v6 L L2 a2 n2 cap2 rfl rfl K6.out Hn2.out S2.out HN2.out (by rw [Hn.out]; omega) ?_; intro v7 w7 k7; obtain ⟨a7, c7, hv7, A7⟩ := k7.at; rw [HL7.out] at hv7; subst hv7; have B7 := Lib.hid (Below.chain B5.out k7.bel); have BB7 := Lib.hid k7.bel; have AA7 := Lib.hid A7; clear k7 A7))
      refine (put_any a7 (n + n2) c7 (L ++ L2) w7 HL7.out (by rw [HAP.out, List.length_append]; omega) (by omega) AA7.out (HT.out.next B7.out)).mono ?_
      intro e w8 hres8
      obtain ⟨p8, l8, c8, rfl, g8, z8, b8⟩ := put_gen hres8
      have B8 := Lib.hid (Below.chain B7.out b8)
      have b58 := Below.chain BB7.out b8
      have R4 := Lib.hid (fun h0 => (G45.out h0).next b58)
      have R5 := Lib.hid (fun h0 => (G5.out h0).2.next b58)
      have L4 := Lib.hid (fun h0 => (G4.out h0).1)
      have L5 := Lib.hid (fun h0 => (G5.out h0).1)
      rw [HEA.out, HAP.out] at g8
      rw [HEA.out] at z8
      rw [HEA.out]
      have G8 := Lib.hid g8
      have Z8 := Lib.hid z8
      clear hres8 g8 z8 b8 b58 G45 G4 G5 B7 B5 HEA HAP HL7
      generalize Dm.err L = q at *
      generalize Dm.err L2 = q2 at *
      have g8 := G8.out
      have z8 := Z8.out
      clear G8 Z8
      by_cases h0 : q = 0
      · rw [if_pos h0] at g8 z8 ⊢
        subst h0
        by_cases h02 : q2 = 0
        · subst h02
          obtain ⟨rfl, r8⟩ := g8 rfl
          obtain rfl := L4.out rfl
          obtain rfl := L5.out rfl
          have y4 := conv_row rfl (R4.out rfl)
          have y5 := conv_row rfl (R5.out rfl)
          have y8 := conv_row rfl r8
          have hcat := cat_list (Dm.bytes L) (Dm.bytes L2)
          have sx : (⟨(Dm.bytes L).toArray⟩ : ByteArray).size ≤ 300000 := by show (Dm.bytes L).toArray.size ≤ 300000; simp; omega
          have sy : (⟨(Dm.bytes L2).toArray⟩ : ByteArray).size ≤ 300000 := by show (Dm.bytes L2).toArray.size ≤ 300000; simp; omega
          clear r8 R4 R5 L4 L5 g8 z8 Z4 Z5
          generalize (⟨(Dm.bytes L).toArray⟩ : ByteArray) = X at *
          generalize (⟨(Dm.bytes L2).toArray⟩ : ByteArray) = Y at *
          generalize (⟨(Dm.bytes L ++ Dm.bytes L2).toArray⟩ : ByteArray) = Z at *
          generalize (Dm.bytes L).length = k4 at *
          generalize (Dm.bytes L2).length = k5 at *
          generalize (Dm.bytes L ++ Dm.bytes L2).length = k8 at *
          go_wp2
          go_ret
          exact ⟨rfl, B8.out⟩
        · have i2 : ((q2 : Int) != 0) = true := by simp; omega
          obtain rfl := z8 h02
          clear R4 R5 L4 L5 g8 z8 Z4 Z5
          go_wp2
          go_ret
          exact ⟨rfl, B8.out⟩
      · rw [if_neg h0] at g8 z8 ⊢
        have i1 : ((q : Int) != 0) = true := by simp; omega
        obtain rfl := z8 h0
        clear R4 R5 L4 L5 g8 z8 Z4 Z5
        go_wp2
        go_ret
        exact ⟨rfl, B8.out⟩
end Go.Proofs.YtbmlacmpiaklpaaDoor
