/- Contracts of Within, by slices.IndexFunc and a function that captures an option. -/
import Derived.Test.YtcklhgpfiibcaaaOf
import Derived.Test.YtcklhgpfiibcaaaOd
namespace Go.Proofs.Ytcklhgpfiibcaaa
open Go.RowKit

theorem Opts.cap {w : World} {B : Nat} {a : Option Addr} {n c : Nat} {L : List Ot.O} (h : Opts w B (.slice a n c) L) : n ≤ c := by
  obtain ⟨xs, ho, _⟩ := h
  rcases ho.2 with ⟨e, _⟩ | ⟨g, cap, cur, e, _, _, hnc, _⟩
  · simp only [Value.slice.injEq] at e; omega
  · simp only [Value.slice.injEq] at e; omega

set_option maxRecDepth 100000 in
set_option maxHeartbeats 1000000 in
theorem within1_any (x y : Ot.O) (p q : Option Addr) (n m c d g : Nat) (w : World) (hn : x.data.length = n) (hm : y.data.length = m) (h : RowAt w p c x.data) (k : RowAt w q d y.data) (hg : w.heap[g]? = some (.cells (ocells x (.slice p n c)).toArray 42 (0, 0))) :
    Calls Try.prog 30 #[.agg (ocells y (.slice q m d)).toArray, .pointer (some ⟨g, 0, none⟩)] w fun e w' => e = .returned (.bool (decide (x = y))) ∧ Below w.heap.size w w' := by
  have bA := below_one w (.cells (ocells y (.slice q m d)).toArray 42)
  have C := Lib.hid (alike_any x y p q n m c d _ hn hm (h.next bA) (k.next bA))
  have HB := Lib.hid bA
  have G1 := Lib.hid (block_next hg bA)
  have G2 := Lib.hid (heap_alloc_new w (.cells (ocells y (.slice q m d)).toArray 42))
  clear h k bA hg hn hm
  generalize decide (x = y) = Z at *
  simp only [ocells] at C HB G1 G2 ⊢
  go_enter Try.func30, Try.ntmps30
  go_wp2_with (first | (refine wpList_load_row rfl 42 (.tmp 1) rfl g rfl 42 (ocells x (.slice p n c)).toArray (0, 0) _ G1.out Try.underlying42 rfl infoOpt ?_; simp only [ocells]) | (refine wpList_load_row rfl 42 (.tmp 2) rfl w.heap.size rfl 42 (ocells y (.slice q m d)).toArray (0, 0) _ G2.out Try.underlying42 rfl infoOpt ?_; simp only [ocells]))
  refine C.out.mono ?_
  rintro e w1 ⟨rfl, b1⟩
  go_wp2
  go_ret
  exact ⟨rfl, Below.chain HB.out b1⟩

/-- The first place of an option, or that there is none. -/
def FirstIs (x : Ot.O) (M : List Ot.O) (v : Int) : Prop := (v = -1 ∧ ∀ y ∈ M, x ≠ y) ∨ ∃ j, ∃ h : j < M.length, v = (j : Int) ∧ x = M[j] ∧ ∀ y ∈ M.take j, x ≠ y
theorem Ot.unlike_step {x : Ot.O} {M : List Ot.O} {k : Nat} (h : k < M.length) (hp : ∀ y ∈ M.take k, x ≠ y) (hk : x ≠ M[k]) : ∀ y ∈ M.take (k + 1), x ≠ y := by
  intro y hy
  rw [List.take_succ_eq_append_getElem h] at hy
  simp only [List.mem_append, List.mem_singleton] at hy
  rcases hy with hy | rfl
  · exact hp y hy
  · exact hk
def fnV (g : Nat) : Value := .func (.func 30) #[] #[.pointer (some ⟨g, 0, none⟩)]

set_option maxRecDepth 100000 in
set_option maxHeartbeats 1000000 in
theorem indexFunc_any (x : Ot.O) (p : Option Addr) (n c g : Nat) (a : Option Addr) (m ca : Nat) (M : List Ot.O) (w : World) (hn : x.data.length = n) (hM : M.length = m) (hm : m ≤ 1000000) (h : RowAt w p c x.data) (ha : OptsAt w a M) (hg : w.heap[g]? = some (.cells (ocells x (.slice p n c)).toArray 42 (0, 0))) :
    Calls Try.prog 29 #[.slice a m ca, fnV g] w fun e w' => (∃ v, e = .returned (.int .i64 v) ∧ FirstIs x M v) ∧ Below w.heap.size w w' := by
  have H := Lib.hid h
  have HA := Lib.hid ha
  have HM := Lib.hid hM
  have HG := Lib.hid hg
  have HN := Lib.hid hn
  clear h ha hM hg hn
  unfold fnV
  go_enter Try.func29, Try.ntmps29
  go_wp2
  go_loopw [8] (fun i wr => ∃ k : Nat, i = .int .i64 (k : Int) ∧ k ≤ m ∧ (∀ y ∈ M.take k, x ≠ y) ∧ Below w.heap.size w wr) (fun i _ => m - (intOf i).toNat)
  case atStart => exact ⟨0, rfl, Nat.zero_le _, by simp, Below.refl _ _⟩
  case round =>
    obtain ⟨k, rfl, hk, hp, hbw⟩ := hrel
    by_cases hlt : (k : Int) < (m : Int)
    · have hkn : k < m := by omega
      have hkM : k < M.length := by rw [HM.out]; omega
      obtain ⟨b, off, q, d, rfl, r1, hb1⟩ := (HA.out.next hbw).at k hkM
      have hst := Ot.unlike_step hkM hp
      have hpl : x = M[k] → FirstIs x M (k : Int) := fun e => .inr ⟨k, hkM, rfl, e, hp⟩
      generalize M[k] = y at *
      obtain ⟨l, hl⟩ : ∃ l, y.data.length = l := ⟨_, rfl⟩
      have RG := Lib.hid r1.range
      rw [hl] at RG
      have C := Lib.hid (within1_any x y p q n l c d g wr HN.out hl (H.out.next hbw) r1.row (block_next HG.out hbw))
      have HST := Lib.hid hst
      have HPL := Lib.hid hpl
      have HBW := Lib.hid hbw
      clear hst hpl hp r1 hl hbw
      simp only [ocells] at C
      go_wp2_with (refine wpList_load_mid rfl 42 (.tmp 14) rfl b (off + k * 2) rfl (ocells y (.slice q l d)) _ RG.out Try.underlying42 rfl (infoOptN _ _) ?_; simp only [ocells])
      refine C.out.mono ?_
      rintro e w1 ⟨rfl, b1⟩
      by_cases hxy : x = y
      · rw [decide_eq_true hxy]
        have hq := HPL.out hxy
        clear hxy HST HPL
        go_wp2
        go_ret
        exact ⟨⟨_, rfl, hq⟩, Below.chain HBW.out b1⟩
      · rw [decide_eq_false hxy]
        have hs := HST.out hxy
        clear hxy HST HPL
        go_wp2
        go_roundw
        case rel => exact ⟨k + 1, by simp, by omega, hs, Below.chain HBW.out b1⟩
        case measure => simp [intOf]; omega
    · have hall : M.take k = M := List.take_of_length_le (by rw [HM.out]; omega)
      rw [hall] at hp
      go_wp2
      go_ret
      exact ⟨⟨_, rfl, .inl ⟨rfl, hp⟩⟩, hbw⟩

theorem Ot.within_at {L : List Ot.O} {k : Nat} (hk : k < L.length) (R : List Ot.O) (j : Nat) (hj : j < R.length) (e : L[k] = R[j]) (hn : ∀ y ∈ R.take j, L[k] ≠ y) : Ot.within (L.drop k) R = Ot.within (L.drop (k + 1)) (R.drop (j + 1)) := by
  rw [List.drop_eq_getElem_cons hk, Ot.within_take _ _ R j hj hn e]
theorem Ot.within_gone {L : List Ot.O} {k : Nat} (hk : k < L.length) (R : List Ot.O) (hn : ∀ y ∈ R, L[k] ≠ y) : Ot.within (L.drop k) R = false := by
  rw [List.drop_eq_getElem_cons hk, Ot.within_out _ _ R hn]

set_option maxRecDepth 100000 in
set_option maxHeartbeats 1000000 in
theorem within_any (a b : Option Addr) (n m ca cb : Nat) (L M : List Ot.O) (w : World) (hL : L.length = n) (hM : M.length = m) (hn : n ≤ 1000000) (hm : m ≤ 1000000) (hcb : m ≤ cb) (ha : OptsAt w a L) (hb : OptsAt w b M) :
    Calls Try.prog 20 #[.slice a n ca, .slice b m cb] w fun e w' => e = .returned (.bool (Ot.within L M)) ∧ Below w.heap.size w w' := by
  obtain ⟨Z, hZ⟩ : ∃ Z, Ot.within L M = Z := ⟨_, rfl⟩
  rw [hZ]
  have HZ := Lib.hid hZ.symm
  have HA := Lib.hid ha
  have HB := Lib.hid hb
  have HL := Lib.hid hL
  have HM := Lib.hid hM
  have hmf : ∀ (fn : Fn) (first cap : Array Value) (w : World), (Instr.makeFunc fn first cap).run Try.prog w = .ok (.func fn first cap) w := fun _ _ _ _ => rfl
  clear ha hb hL hM hZ
  go_enter Try.func20, Try.ntmps20
  go_wp2
  go_loopw [5, 12] (fun s i wr => ∃ (k mj cj : Nat) (pj : Option Addr) (R : List Ot.O), i = .int .i64 (k : Int) ∧ s = .slice pj mj cj ∧ k ≤ n ∧ mj ≤ cj ∧ mj ≤ 1000000 ∧ Hid (R.length = mj) ∧ Hid (OptsAt w pj R) ∧ Hid (Z = Ot.within (L.drop k) R) ∧ Below w.heap.size w wr) (fun _ i _ => n - (intOf i).toNat)
  case atStart => exact ⟨0, m, cb, b, M, rfl, rfl, Nat.zero_le _, hcb, hm, HM, HB, HZ, Below.refl _ _⟩
  case round =>
    obtain ⟨k, mj, cj, pj, R, rfl, rfl, hk, hmc, hmj, HRL, HRO, HI, hbw⟩ := hrel
    by_cases hlt : (k : Int) < (n : Int)
    · have hkn : k < n := by omega
      have hkL : k < L.length := by rw [HL.out]; omega
      obtain ⟨bb, off, q, d, rfl, r1, hb1⟩ := (HA.out.next hbw).at k hkL
      have hat := Ot.within_at hkL R
      have hgo := Ot.within_gone hkL R
      rw [← HI.out] at hat hgo
      generalize L[k] = x at *
      obtain ⟨l, hl⟩ : ∃ l, x.data.length = l := ⟨_, rfl⟩
      have RG := Lib.hid r1.range
      rw [hl] at RG
      have bA := below_one wr (.cells (ocells x (.slice q l d)).toArray 42)
      have C := Lib.hid (indexFunc_any x q l d wr.heap.size pj mj cj R _ hl HRL.out hmj (r1.row.next bA) (HRO.out.next (Below.chain hbw bA)) (heap_alloc_new wr (.cells (ocells x (.slice q l d)).toArray 42)))
      have HAT := Lib.hid hat
      have HGO := Lib.hid hgo
      have HBW := Lib.hid (Below.chain hbw bA)
      clear hat hgo r1 hl hbw bA
      simp only [ocells, fnV] at C HBW
      go_wp2_with (refine wpList_load_mid rfl 42 (.tmp 14) rfl bb (off + k * 2) rfl (ocells x (.slice q l d)) _ RG.out Try.underlying42 rfl (infoOptN _ _) ?_; simp only [ocells])
      refine C.out.mono ?_
      rintro e w1 ⟨⟨v, rfl, hv⟩, b1⟩
      have HB1 := Lib.hid (Below.chain HBW.out b1)
      rcases hv with ⟨rfl, hv⟩ | ⟨j, hj, rfl, he, hv⟩
      · have hZ : Z = false := HGO.out hv
        subst hZ
        clear hv HGO HAT HZ HI
        go_wp2
        go_ret
        exact ⟨rfl, HB1.out⟩
      · have hs := Lib.hid (HAT.out j hj he hv)
        have hjm : j < mj := by rw [← HRL.out]; exact hj
        have hdr := HRO.out.drop (j + 1)
        have hi0 : ¬ (j : Int) < 0 := by omega
        obtain ⟨j1, hj1⟩ : ∃ j1, j + 1 = j1 := ⟨_, rfl⟩
        have hw2 : IntKind.i64.wrap ((j : Int) + 1) = (j1 : Int) := by rw [IntKind.wrap_i64]; omega
        have j2 : (j1 : Int) ≤ (mj : Int) := by omega
        have j3 : (mj : Int) ≤ (cj : Int) := by omega
        have j4 : (j1 : Int) ≤ (cj : Int) := by omega
        rw [hj1] at hdr
        have HDR := Lib.hid hdr
        have hdl : Hid ((R.drop (j + 1)).length = mj - j1) := by show _ = _; rw [List.length_drop, HRL.out, hj1]
        clear hv HGO HAT HZ he hdr hlt hj
        have hro : Hid (OptsAt w (if cj = j1 then pj else Option.map (fun x => x.add (j1 * 2)) pj) (R.drop (j + 1))) := by
          show OptsAt _ _ _
          split
          · rw [List.drop_of_length_le (by rw [HRL.out]; omega)]; exact optsAt_nil _ _
          · rw [hj1]; exact HDR.out
        clear HDR
        go_wp2
        go_roundw
        case rel => exact ⟨k + 1, mj - j1, cj - j1, _, R.drop (j + 1), by simp, rfl, by omega, by omega, by omega, hdl, hro, hs, HB1.out⟩
        case measure => simp [intOf]; omega
    · have hZ : Z = true := HI.out.trans (by rw [List.drop_of_length_le (by rw [HL.out]; omega), Ot.within_nil])
      subst hZ
      clear HZ HI
      go_wp2
      go_ret
      exact ⟨rfl, hbw⟩
end Go.Proofs.Ytcklhgpfiibcaaa
