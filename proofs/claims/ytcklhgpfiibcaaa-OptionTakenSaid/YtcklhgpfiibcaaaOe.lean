/- Contracts of slices.EqualFunc (with alike) and Same; the document's Same. -/
import Derived.Test.YtcklhgpfiibcaaaOc
namespace Go.Proofs.Ytcklhgpfiibcaaa
open Go.RowKit

theorem Ot.eq_step {L M : List Ot.O} {k : Nat} (h1 : k < L.length) (h2 : k < M.length) (h : L.take k = M.take k) (e : L[k] = M[k]) : L.take (k + 1) = M.take (k + 1) := by
  rw [List.take_succ_eq_append_getElem h1, List.take_succ_eq_append_getElem h2, h, e]
theorem Ot.ne_at {L M : List Ot.O} {k : Nat} (h1 : k < L.length) (h2 : k < M.length) (h : L[k] ≠ M[k]) : L ≠ M := fun e => h (by subst e; rfl)
theorem Ot.ne_len {L M : List Ot.O} (h : L.length ≠ M.length) : L ≠ M := fun e => h (by rw [e])


set_option maxRecDepth 100000 in
set_option maxHeartbeats 1000000 in
theorem equalFunc_any (a b : Option Addr) (n m ca cb : Nat) (L M : List Ot.O) (w : World) (hL : L.length = n) (hM : M.length = m) (hn : n ≤ 1000000) (ha : OptsAt w a L) (hb : OptsAt w b M) :
    Calls Try.prog 26 #[.slice a n ca, .slice b m cb, .func (.func 27) #[] #[]] w fun e w' => e = .returned (.bool (decide (L = M))) ∧ Below w.heap.size w w' := by
  obtain ⟨Z, hZ⟩ : ∃ Z, decide (L = M) = Z := ⟨_, rfl⟩
  rw [hZ]
  have HZ := Lib.hid hZ.symm
  have HA := Lib.hid ha
  have HB := Lib.hid hb
  have HL := Lib.hid hL
  have HM := Lib.hid hM
  clear ha hb hL hM hZ
  by_cases hnm : n = m
  · subst hnm
    have c1 := fun x y p q n m c d W h1 h2 h3 h4 => alike_any x y p q n m c d W h1 h2 h3 h4
    have C1 := Lib.hid c1
    clear c1
    go_enter Try.func26, Try.ntmps26
    go_wp2
    go_loopw [17] (fun i wr => ∃ k : Nat, i = .int .i64 (k : Int) ∧ k ≤ n ∧ L.take k = M.take k ∧ Below w.heap.size w wr) (fun i _ => n - (intOf i).toNat)
    case atStart => exact ⟨0, rfl, Nat.zero_le _, by simp, Below.refl _ _⟩
    case round =>
      obtain ⟨k, rfl, hk, htk, hbw⟩ := hrel
      by_cases hlt : (k : Int) < (n : Int)
      · have hkn : k < n := by omega
        have hkL : k < L.length := by rw [HL.out]; omega
        have hkM : k < M.length := by rw [HM.out]; omega
        obtain ⟨b1, o1, q1, d1, rfl, r1, hb1⟩ := (HA.out.next hbw).at k hkL
        obtain ⟨b2, o2, q2, d2, rfl, r2, hb2⟩ := (HB.out.next hbw).at k hkM
        have hst := Ot.eq_step hkL hkM htk
        have hne := Ot.ne_at (k := k) hkL hkM
        generalize L[k] = x at *
        generalize M[k] = y at *
        obtain ⟨n1, hn1⟩ : ∃ n1, x.data.length = n1 := ⟨_, rfl⟩
        obtain ⟨n2, hn2⟩ : ∃ n2, y.data.length = n2 := ⟨_, rfl⟩
        have HN1 := Lib.hid hn1
        have HN2 := Lib.hid hn2
        have HST := Lib.hid hst
        have HNE := Lib.hid hne
        clear hst hne htk
        have RG1 := Lib.hid r1.range
        have RG2 := Lib.hid (r2.next hb2 (below_one wr (.cells #[.int .i64 x.ty, .slice q1 n1 d1] 42))).range
        rw [hn1] at RG1
        rw [hn2] at RG2
        have t2 := two_opts wr (ocells x (.slice q1 n1 d1)).toArray (ocells y (.slice q2 n2 d2)).toArray
        have C := Lib.hid (C1.out x y q1 q2 n1 n2 d1 d2 _ hn1 hn2 (r1.row.next t2.1) (r2.row.next t2.1))
        have HBW := Lib.hid (Below.chain hbw t2.1)
        have G1 := Lib.hid t2.2.1
        have G2 := Lib.hid t2.2.2
        clear r1 r2 hn1 hn2 hbw C1 t2
        simp only [ocells] at C HBW G1 G2
        go_wp2_with (first | (refine wpList_load_mid rfl 42 (.tmp 20) rfl b1 (o1 + k * 2) rfl (ocells x (.slice q1 n1 d1)) _ RG1.out Try.underlying42 rfl (infoOptN _ _) ?_; simp only [ocells]) | (refine wpList_load_mid rfl 42 (.tmp 24) rfl b2 (o2 + k * 2) rfl (ocells y (.slice q2 n2 d2)) _ RG2.out Try.underlying42 rfl (infoOptN _ _) ?_; simp only [ocells]) | (refine wpList_load_row rfl 42 (.tmp 8) rfl wr.heap.size rfl 42 (ocells x (.slice q1 n1 d1)).toArray (0, 0) _ G1.out Try.underlying42 rfl infoOpt ?_; simp only [ocells]) | (refine wpList_load_row rfl 42 (.tmp 9) rfl (wr.heap.size + 1) rfl 42 (ocells y (.slice q2 n2 d2)).toArray (0, 0) _ G2.out Try.underlying42 rfl infoOpt ?_; simp only [ocells]))
        refine C.out.mono ?_
        rintro e w1 ⟨rfl, b1⟩
        by_cases hxy : x = y
        · rw [decide_eq_true hxy]
          have hs := HST.out hxy
          clear hxy HST HNE
          go_wp2
          go_roundw
          case rel => exact ⟨k + 1, by simp, by omega, hs, Below.chain HBW.out b1⟩
          case measure => simp [intOf]; omega
        · rw [decide_eq_false hxy]
          have hZ : Z = false := HZ.out.trans (decide_eq_false (HNE.out hxy))
          subst hZ
          clear hxy HST HNE
          go_wp2
          go_ret
          exact ⟨rfl, Below.chain HBW.out b1⟩
      · have h1 : L.take k = L := List.take_of_length_le (by rw [HL.out]; omega)
        have h2 : M.take k = M := List.take_of_length_le (by rw [HM.out]; omega)
        have hZ : Z = true := HZ.out.trans (decide_eq_true (by rw [← h1, ← h2]; exact htk))
        subst hZ
        clear h1 h2 htk HZ
        go_wp2
        go_ret
        exact ⟨rfl, hbw⟩
  · have hZ : Z = false := HZ.out.trans (decide_eq_false (Ot.ne_len (by rw [HL.out, HM.out]; exact hnm)))
    subst hZ
    have i1 : ((n : Int) != (m : Int)) = true := by simp; omega
    clear hnm HZ
    go_enter Try.func26, Try.ntmps26
    go_wp2
    go_ret
    exact ⟨rfl, Below.refl _ _⟩

set_option maxHeartbeats 1000000 in
theorem same_any (a b : Option Addr) (n m ca cb : Nat) (L M : List Ot.O) (w : World) (hL : L.length = n) (hM : M.length = m) (hn : n ≤ 1000000) (ha : OptsAt w a L) (hb : OptsAt w b M) :
    Calls Try.prog 17 #[.slice a n ca, .slice b m cb] w fun e w' => e = .returned (.bool (decide (L = M))) ∧ Below w.heap.size w w' := by
  have C := Lib.hid (equalFunc_any a b n m ca cb L M w hL hM hn ha hb)
  generalize decide (L = M) = Z at *
  go_enter Try.func17, Try.ntmps17
  go_wp2_with fail
  refine C.out.mono ?_
  rintro e w1 ⟨rfl, b1⟩
  go_wp2
  go_ret
  exact ⟨rfl, b1⟩

end Go.Proofs.Ytcklhgpfiibcaaa
