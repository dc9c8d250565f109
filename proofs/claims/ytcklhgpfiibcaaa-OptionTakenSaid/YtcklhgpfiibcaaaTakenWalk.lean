/- The walk of OptionTaken. -/
import Derived.Test.YtcklhgpfiibcaaaPutsWalk
namespace Go.Proofs.Ytcklhgpfiibcaaa
open Go.RowKit

/-- A list of options that was made since W0; what their Data point to was there. -/
structure Copy (W0 : World) (B : Nat) (W : World) (v : Value) (L : List Ot.O) : Prop where
  list : ∃ xs : List Value, W.ownsRow B 42 2 v L.length xs ∧ ∀ j (h : j < L.length), ∃ p c, CellsAt xs j L[j] (.slice p L[j].data.length c) ∧ RowAt W0 p c L[j].data
  bel : Below W0.heap.size W0 W
  low : W0.heap.size ≤ B
theorem copy_nil (W0 W : World) (b : Below W0.heap.size W0 W) : Copy W0 W0.heap.size W (.slice none 0 0) [] := ⟨⟨[], World.ownsRow_nil _ _ _ _, (fun j hj => by simp at hj)⟩, b, Nat.le_refl _⟩
theorem Copy.at {W0 W : World} {B : Nat} {v : Value} {L : List Ot.O} (h : Copy W0 B W v L) : ∃ a c, v = .slice a L.length c ∧ L.length ≤ c ∧ OptsAt W a L := by
  obtain ⟨xs, ho, he⟩ := h.list
  rcases ho.2 with ⟨rfl, h0⟩ | ⟨g, cap, cur, rfl, hb, hg, hnc, _⟩
  · exact ⟨none, 0, by rw [h0], by omega, .inl (List.eq_nil_of_length_eq_zero h0)⟩
  · refine ⟨_, cap, rfl, hnc, .inr ⟨g, 0, rfl, lt_of_block hg, fun j hj => ?_⟩⟩
    obtain ⟨p, c, h1, h2⟩ := he j hj
    have e := ho.cells (g := g) rfl
    simp only [Go.WideShapes.add_plain] at e
    exact ⟨p, c, e _ _ h1.ty, by rw [Nat.add_assoc]; exact e _ _ h1.data, h2.next h.bel⟩
theorem Copy.next {W0 w w' : World} {B : Nat} {v : Value} {L : List Ot.O} (h : Copy W0 B w v L) (hb : Below w.heap.size w w') : Copy W0 B w' v L := by
  obtain ⟨xs, ho, he⟩ := h.list
  exact ⟨⟨xs, ownsRow_next ho hb, he⟩, Below.chain h.bel hb, h.low⟩
theorem copy_slice {W0 w : World} {B : Nat} {v : Value} {L : List Ot.O} (h : Copy W0 B w v L) : ∃ a c, v = .slice a L.length c := by
  obtain ⟨xs, ho, _⟩ := h.list
  exact own_slice ho
theorem wpList_append_copy {W0 w : World} {B : Nat} {ops : Array Oper} {rest : List Oper} {o : Oper} {a : Act} {Q : Exit → Act → World → Prop} (hgd : o.guard = none) (s x : Operand)
    (ho : o.op = .call { callee := .builtin .append, args := #[s, x], argTypes := #[22, 22] })
    (v : Value) (L : List Ot.O) (r : Ot.O) (p : Option Addr) (c g : Nat) (hs : a.eval s = v) (hx : a.eval x = .slice (some ⟨g, 0, none⟩) 1 1) (hL : Copy W0 B w v L)
    (hd : RowAt W0 p c r.data) (hg : w.heap[g]? = some (.cells (ocells r (.slice p r.data.length c)).toArray 42 (0, 0))) (hB : B ≤ w.heap.size) (hlen : L.length ≤ 1000000)
    (h : ∀ v' w', Copy W0 B w' v' (L ++ [r]) → wpList Try.prog ops Q rest (a.put o.dst v') w') : wpList Try.prog ops Q (o :: rest) a w := by
  obtain ⟨i0, hi, hz0, hz1, hz2⟩ := info_parts infoOptZ
  obtain ⟨xs, hown, he⟩ := hL.list
  refine wpList_append_own w hgd s x 22 ho B 42 i0 _ 2 32 Try.underlying22 hi hz0 hz1 hz2 rfl (by decide) v L.length xs hs hown ⟨g, 0, none⟩ 1 1 (ocells r (.slice p r.data.length c)) hx rfl (fun j u hu => ?_) (fun u hu => ?_) (by unfold maxLen; omega) (by omega) hB ?_
  · rw [Go.WideShapes.add_plain, cell_of_row _ _ _ _ _ _ hg]; simpa using hu
  · simp only [ocells, List.mem_cons, List.not_mem_nil, or_false] at hu
    rcases hu with rfl | rfl <;> rfl
  · intro v' w' o2 g2 _
    have hl : xs.length = L.length * 2 := hown.1
    refine h v' w' ⟨⟨xs ++ ocells r (.slice p r.data.length c), by rw [List.length_append]; exact o2, fun j hj => ?_⟩, Below.grown hL.bel g2 hL.bel.size (fun k hk => Nat.le_trans hL.low (hown.lt k hk).1), hL.low⟩
    by_cases hjl : j < L.length
    · obtain ⟨p', c', h1, h2⟩ := he j hjl
      rw [List.getElem_append_left hjl]
      refine ⟨p', c', ⟨?_, ?_⟩, h2⟩
      · rw [List.getElem?_append_left (by omega)]; exact h1.ty
      · rw [List.getElem?_append_left (by omega)]; exact h1.data
    · have hj2 : j = L.length := by simp at hj; omega
      subst hj2
      rw [List.getElem_append_right (Nat.le_refl _)]
      simp only [Nat.sub_self, List.getElem_cons_zero]
      refine ⟨p, c, ⟨?_, ?_⟩, hd⟩
      · rw [List.getElem?_append_right (by omega), hl]; simp [ocells]
      · rw [List.getElem?_append_right (by omega), hl]; simp [ocells]

theorem taken_many (a : Option Addr) (n ca : Nat) (L : List Ot.O) (t : Nat) (w : World) (hL : L.length = n) (ha : OptsAt w a L) (hf : Ot.few L = false) :
    Calls Try.prog 7 #[.slice a n ca, .int .u64 (t : Int)] w fun e w' => e = .returned (.bool true) ∧ Below w.heap.size w w' := by
  go_enter Try.func7, Try.ntmps7
  go_wp2_with fail
  refine (awake_any w).mono ?_
  rintro e w1 ⟨rfl, b1⟩
  go_wp2_with fail
  refine (few_any a n ca L w1 hL (ha.next b1)).mono ?_
  rintro e w2 ⟨rfl, h2⟩; rw [h2, hf]; clear h2
  go_wp2_with fail
  refine (awake_any w1).mono ?_
  rintro e w3 ⟨rfl, b3⟩
  go_wp2
  go_ret
  exact ⟨rfl, Below.chain b1 b3⟩

/-- Whether the i-th stays. -/
def stays (t k : Nat) : Bool := (t : Int) / 2 ^ k % 2 == 0
theorem u64_and1 (n : Int) : bits .and .u64 n 1 = n % 2 := by
  have h1 : (BitVec.ofInt 64 1).toNat = 2 ^ 1 - 1 := by decide
  have key : (BitVec.ofInt 64 n &&& BitVec.ofInt 64 1).toNat = (n % ((2 ^ 64 : Nat) : Int)).toNat % 2 ^ 1 := by
    rw [BitVec.toNat_and, BitVec.toNat_ofInt, h1, Nat.and_two_pow_sub_one_eq_mod]
  show IntKind.u64.wrap ((BitVec.ofInt 64 n &&& BitVec.ofInt 64 1).toNat : Nat) = n % 2
  rw [key, IntKind.wrap_u64]
  omega
theorem Copy.cap {W0 W : World} {B n c : Nat} {a : Option Addr} {L : List Ot.O} (h : Copy W0 B W (.slice a n c) L) : n ≤ c := by
  obtain ⟨a', c', e, hc, _⟩ := h.at
  simp only [Value.slice.injEq] at e
  omega

set_option maxRecDepth 100000 in
set_option maxHeartbeats 1000000 in
theorem taken_few (a : Option Addr) (n ca : Nat) (L : List Ot.O) (t : Nat) (w : World) (hL : L.length = n) (hca : n ≤ ca) (ha : OptsAt w a L) (hf : Ot.few L = true) :
    Calls Try.prog 7 #[.slice a n ca, .int .u64 (t : Int)] w fun e w' => e = .returned (.bool true) ∧ Below w.heap.size w w' := by
  obtain ⟨hn, _⟩ := few_short hf hL
  have HA := Lib.hid ha
  have HL := Lib.hid hL
  clear ha
  go_enter Try.func7, Try.ntmps7
  go_wp2_with fail
  refine (awake_any w).mono ?_
  rintro e w1 ⟨rfl, b1⟩
  have B1 := Lib.hid b1
  clear b1
  go_wp2_with fail
  refine (few_any a n ca L w1 hL (HA.out.next B1.out)).mono ?_
  rintro e w2 ⟨rfl, h2⟩; rw [h2, hf]; clear h2
  clear hL hf
  go_wp2
  go_loopw [5, 6] (fun v i wr => ∃ k : Nat, i = .int .i64 (k : Int) ∧ k ≤ n ∧ Copy w w.heap.size wr v (Ot.left (stays t) 0 (L.take k))) (fun _ i _ => n - (intOf i).toNat)
  case atStart => exact ⟨0, rfl, Nat.zero_le _, copy_nil _ _ B1.out⟩
  case round =>
    obtain ⟨k, rfl, hk, hcp⟩ := hrel
    obtain ⟨av, cv, rfl⟩ := copy_slice hcp
    by_cases hlt : (k : Int) < (n : Int)
    · have hkn : k < n := by omega
      have hkL : k < L.length := by rw [HL.out]; omega
      obtain ⟨b, off, q, d, rfl, r0, hbW⟩ := HA.out.at k hkL
      have r1 := r0.next hbW hcp.bel
      have hst := Ot.left_step (stays t) L k hkL
      have hll : (Ot.left (stays t) 0 (L.take k)).length ≤ 50 := by
        have h1 := (Ot.left_sub (stays t) (L.take k) 0).length_le
        rw [List.length_take] at h1
        omega
      generalize L[k] = r at *
      generalize Ot.left (stays t) 0 (L.take k) = X at *
      have HCP := Lib.hid hcp
      have HST := Lib.hid hst
      have RG := Lib.hid r1.range
      have ROW := Lib.hid r0.row
      have hk64 : k % 64 = k := Nat.mod_eq_of_lt (by omega)
      clear hcp hst r1 r0
      have hand := u64_and1
      obtain ⟨m, hm⟩ : ∃ m, r.data.length = m := ⟨_, rfl⟩
      rw [hm] at RG
      have HM := Lib.hid hm
      clear hm
      cases hs : stays t k with
      | false =>
        have i1 : ((t : Int) / 2 ^ k % 2 == 0) = false := hs
        rw [hs] at HST
        have hst2 : Hid (Ot.left (stays t) 0 (L.take (k + 1)) = X) := HST.out.trans (by simp)
        clear hs HST
        go_wp2
        go_roundw
        case rel => exact ⟨k + 1, by simp, by omega, by rw [hst2.out]; exact HCP.out⟩
        case measure => simp [intOf]; omega
      | true =>
        have i1 : ((t : Int) / 2 ^ k % 2 == 0) = true := hs
        rw [hs] at HST
        have hst2 : Hid (Ot.left (stays t) 0 (L.take (k + 1)) = X ++ [r]) := HST.out.trans (by simp)
        have bA := below_one wr (.cells (ocells r (.slice q m d)).toArray 42)
        have HC2 := Lib.hid (HCP.out.next bA)
        have HG2 := Lib.hid (heap_alloc_new wr (.cells (ocells r (.slice q m d)).toArray 42))
        have hsz := bA.size
        have hlow := HCP.out.bel.size
        rw [← HM.out] at HG2
        clear hs HST bA HCP
        simp only [ocells, HM.out] at HC2 HG2 hsz
        go_wp2_with (first | (refine wpList_load_mid rfl 42 (.tmp 31) rfl b (off + k * 2) rfl (ocells r (.slice q m d)) _ RG.out Try.underlying42 rfl (infoOptN _ _) ?_; simp only [ocells]) | (at_builtin; refine wpList_append_copy rfl (.tmp 28) (.tmp 33) rfl (.slice av X.length cv) X r q d wr.heap.size rfl rfl HC2.out ROW.out (by rw [ocells, HM.out]; exact HG2.out) (by omega) (by omega) ?_; intro v5 w5 cp5))
        go_roundw
        case rel => exact ⟨k + 1, by simp, by omega, by rw [hst2.out]; exact cp5⟩
        case measure => simp [intOf]; omega
    · have hall : L.take k = L := List.take_of_length_le (by rw [HL.out]; omega)
      rw [hall] at hcp ⊢
      have hsub := (Ot.left_sub (stays t) L 0).length_le
      have q1 := Lib.hid (Ot.within_left (stays t) L)
      have q2 := Lib.hid (Ot.left_within (stays t) L)
      have q3 := Lib.hid (Ot.left_same (stays t) L)
      rw [HL.out] at hsub
      generalize Ot.left (stays t) 0 L = X at *
      have hcc := hcp.cap
      obtain ⟨m, hm⟩ : ∃ m, X.length = m := ⟨_, rfl⟩
      rw [hm] at hcc hsub hcp ⊢
      have HXL := Lib.hid hm
      have HBW := Lib.hid hcp.bel
      obtain ⟨av', cv', e, _, hop⟩ := hcp.at
      simp only [Value.slice.injEq] at e
      obtain ⟨rfl, e2, rfl⟩ := e
      clear e2
      have HX := Lib.hid hop
      have hq2 : Hid (Ot.within L X = decide (m = n)) := by show _ = _; rw [q2.out, HXL.out, HL.out]
      have hq3 : Hid (decide (X = L) = decide (m = n)) := by show _ = _; rw [q3.out, HXL.out, HL.out]
      clear hall hcp q2 q3 hm hop
      go_wp2_with fail
      refine (within_any av a m n cv ca X L wr HXL.out HL.out (by omega) (by omega) hca HX.out (HA.out.next HBW.out)).mono ?_
      rintro e w3 ⟨rfl, b3⟩
      rw [q1.out]
      have B3 := Lib.hid (Below.chain HBW.out b3)
      have X3 := Lib.hid (HX.out.next b3)
      clear b3 q1 HX HBW
      go_wp2_with fail
      refine (within_any a av n m ca cv L X w3 HL.out HXL.out (by omega) (by omega) hcc (HA.out.next B3.out) X3.out).mono ?_
      rintro e w4 ⟨rfl, b4⟩
      rw [hq2.out]
      have B4 := Lib.hid (Below.chain B3.out b4)
      have X4 := Lib.hid (X3.out.next b4)
      clear b4 hq2 X3 B3
      have W5 := Lib.hid (within_any none a 0 n 0 ca [] L w4 rfl HL.out (by omega) (by omega) hca (optsAt_nil _ _) (HA.out.next B4.out))
      by_cases hmn : m = n
      · rw [decide_eq_true hmn]
        rw [decide_eq_true hmn] at hq3
        subst hmn
        go_wp2_with fail
        refine W5.out.mono ?_
        rintro e w5 ⟨rfl, b5⟩
        rw [Ot.within_nil]
        go_wp2_with fail
        refine (same_any av a m m cv ca X L w5 HXL.out HL.out (by omega) (X4.out.next b5) (HA.out.next (Below.chain B4.out b5))).mono ?_
        rintro e w6 ⟨rfl, b6⟩
        rw [hq3.out]
        have BB := Lib.hid (Below.chain (Below.chain B4.out b5) b6)
        clear b5 b6 W5 X4 B4 hq3
        go_wp2
        go_ret
        exact ⟨rfl, BB.out⟩
      · have j1 : ((m : Int) == (n : Int)) = false := by simp; omega
        rw [decide_eq_false hmn]
        rw [decide_eq_false hmn] at hq3
        go_wp2_with fail
        refine W5.out.mono ?_
        rintro e w5 ⟨rfl, b5⟩
        rw [Ot.within_nil]
        go_wp2_with fail
        refine (same_any av a m n cv ca X L w5 HXL.out HL.out (by omega) (X4.out.next b5) (HA.out.next (Below.chain B4.out b5))).mono ?_
        rintro e w6 ⟨rfl, b6⟩
        rw [hq3.out]
        have BB := Lib.hid (Below.chain (Below.chain B4.out b5) b6)
        clear b5 b6 W5 X4 B4 hq3
        go_wp2
        go_ret
        exact ⟨rfl, BB.out⟩
theorem taken_walk (a : Option Addr) (n ca : Nat) (L : List Ot.O) (t : Nat) (w : World) (hL : L.length = n) (hca : n ≤ ca) (ha : OptsAt w a L) :
    Calls Try.prog 7 #[.slice a n ca, .int .u64 (t : Int)] w fun e w' => e = .returned (.bool true) ∧ Below w.heap.size w w' := by
  cases hf : Ot.few L with
  | false => exact taken_many a n ca L t w hL ha hf
  | true => exact taken_few a n ca L t w hL hca ha hf
end Go.Proofs.Ytcklhgpfiibcaaa
