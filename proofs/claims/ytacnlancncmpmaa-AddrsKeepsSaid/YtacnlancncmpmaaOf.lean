/- Contracts of the document's Few, Wrong, Find, Same, Twice. -/
import Derived.Test.YtacnlancncmpmaaOe
namespace Go.Proofs.Ytacnlancncmpmaa.S12
open Go.RowKit

theorem run_load_mid {o : Oper} {a : Act} {W : World} (y : Operand) (ho : o.op = .load 24 y) (b k : Nat) (hx : a.eval y = .pointer (some ⟨b, k, none⟩)) (x : Ot.O) (p : Option Addr) (n c : Nat) (h : W.rangeAt b k (ocells x (.slice p n c))) :
    (execOp a.eval o).run Try.prog W = .ok (.value (.agg (ocells x (.slice p n c)).toArray)) W := by
  unfold execOp
  simp only [ho, hx, Instr.loadAt, Instr.sureAddr, Sem.run_bind, Sem.run_pure, Result.andThen_ok, run_loadVar_mid W b k 24 _ _ h Try.underlying24 rfl (infoOptN _ _)]
theorem range_next {w w' : World} {b k : Nat} {cs : List Value} (h : w.rangeAt b k cs) (hl : b < w.heap.size) (hb : Below w.heap.size w w') : w'.rangeAt b k cs := by
  intro j v hv
  rw [hb.cell (p := ⟨b, k + j, none⟩) hl]
  exact h j v hv

theorem Ot.few_step {L : List Ot.O} {k : Nat} (h : k < L.length) (hp : ∀ x ∈ L.take k, x.data.length ≤ 1000) (hk : L[k].data.length ≤ 1000) : ∀ x ∈ L.take (k + 1), x.data.length ≤ 1000 := by
  intro x hx
  rw [List.take_succ_eq_append_getElem h] at hx
  simp only [List.mem_append, List.mem_singleton] at hx
  rcases hx with hx | rfl
  · exact hp x hx
  · exact hk
theorem Ot.few_bad {L : List Ot.O} {k : Nat} (h : k < L.length) (hk : 1000 < L[k].data.length) : Ot.few L = false := by
  cases hf : Ot.few L with
  | false => rfl
  | true => have := (Ot.few_of L hf).2 _ (List.getElem_mem h); omega
theorem Ot.few_end {L : List Ot.O} {k : Nat} (hk : L.length ≤ k ∨ 50 < L.length) (hp : ∀ x ∈ L.take k, x.data.length ≤ 1000) : Ot.few L = decide (L.length ≤ 50) := by
  unfold Ot.few
  by_cases h : L.length ≤ 50
  · rw [List.take_of_length_le (by omega)] at hp
    have : L.all (fun x => decide (x.data.length ≤ 1000)) = true := by
      rw [List.all_eq_true]; intro x hx; exact decide_eq_true (hp x hx)
    rw [this, Bool.and_true]
  · rw [decide_eq_false h, Bool.false_and]

set_option maxRecDepth 100000 in
set_option maxHeartbeats 1000000 in
theorem few_any (a : Option Addr) (n cap : Nat) (L : List Ot.O) (w : World) (hL : L.length = n) (h : OptsAt w a L) :
    Calls Try.prog 14 #[.slice a n cap] w fun e w' => e = .returned (.bool (Ot.few L)) ∧ w' = w := by
  obtain ⟨Z, hZ⟩ : ∃ Z, Ot.few L = Z := ⟨_, rfl⟩
  rw [hZ]
  have HZ := Lib.hid hZ.symm
  have H := Lib.hid h
  have HL := Lib.hid hL
  clear h hL hZ
  go_enter Try.func14, Try.ntmps14
  go_wp2
  go_loopw [3] (fun i wr => ∃ k : Nat, i = .int .i64 (k : Int) ∧ k ≤ n ∧ k ≤ 100 ∧ (∀ x ∈ L.take k, x.data.length ≤ 1000) ∧ wr = w) (fun i _ => 100 - (intOf i).toNat)
  case atStart => exact ⟨0, rfl, Nat.zero_le _, by omega, by simp, rfl⟩
  case round =>
    obtain ⟨k, rfl, hk, hk1, hp, rfl⟩ := hrel
    by_cases hlt : (k : Int) < (n : Int)
    · by_cases hlt2 : (k : Int) < 100
      · have hkn : k < n := by omega
        have hkL : k < L.length := by rw [HL.out]; omega
        obtain ⟨b, off, q, d, rfl, r1, _⟩ := H.out.at k hkL
        have hst := Ot.few_step hkL hp
        have hbd := Ot.few_bad hkL
        have x2 := r1.data
        generalize L[k] = r at *
        obtain ⟨m, hm⟩ : ∃ m, r.data.length = m := ⟨_, rfl⟩
        rw [hm] at x2 hst hbd
        have HST := Lib.hid hst
        have HBD := Lib.hid hbd
        clear hst hbd hm r1 hp
        by_cases hmm : 1000 < m
        · have i1 : (1000 : Int) < (m : Int) := by omega
          have hZ : Z = false := HZ.out.trans (HBD.out hmm)
          subst hZ
          clear HST HBD hmm
          go_wp2
          go_ret
          exact ⟨rfl, rfl⟩
        · have i1 : ¬ (1000 : Int) < (m : Int) := by omega
          have hs := HST.out (by omega)
          clear HST HBD hmm
          go_wp2
          go_roundw
          case rel => exact ⟨k + 1, by simp, by omega, by omega, hs, trivial⟩
          case measure => simp [intOf]; omega
      · have hZ : Z = decide (n ≤ 50) := by rw [HZ.out, Ot.few_end (k := k) (by rw [HL.out]; omega) hp, HL.out]
        have i1 : ¬ (n : Int) ≤ 50 := by omega
        rw [decide_eq_false (by omega)] at hZ
        subst hZ
        clear HZ hp
        go_wp2
        go_ret
        exact ⟨rfl, rfl⟩
    · have hZ : Z = decide (n ≤ 50) := by rw [HZ.out, Ot.few_end (k := k) (by rw [HL.out]; omega) hp, HL.out]
      by_cases h5 : n ≤ 50
      · have i1 : (n : Int) ≤ 50 := by omega
        rw [decide_eq_true h5] at hZ
        subst hZ
        clear HZ hp
        go_wp2
        go_ret
        exact ⟨rfl, rfl⟩
      · have i1 : ¬ (n : Int) ≤ 50 := by omega
        rw [decide_eq_false h5] at hZ
        subst hZ
        clear HZ hp
        go_wp2
        go_ret
        exact ⟨rfl, rfl⟩

/-- The first place of a Type, or that there is none. -/
def PlaceIs (L : List Ot.O) (t v : Int) : Prop := (v = -1 ∧ ∀ x ∈ L, x.ty ≠ t) ∨ ∃ k, ∃ h : k < L.length, v = (k : Int) ∧ L[k].ty = t ∧ ∀ x ∈ L.take k, x.ty ≠ t
set_option maxRecDepth 100000 in
set_option maxHeartbeats 1000000 in
theorem place_any (a : Option Addr) (n cap : Nat) (L : List Ot.O) (t : Int) (w : World) (hL : L.length = n) (hn : n ≤ 1000000) (h : OptsAt w a L) :
    Calls Try.prog 24 #[.slice a n cap, .int .i64 t] w fun e w' => (∃ v, e = .returned (.int .i64 v) ∧ PlaceIs L t v) ∧ w' = w := by
  have H := Lib.hid h
  have HL := Lib.hid hL
  clear h hL
  go_enter Try.func24, Try.ntmps24
  go_wp2
  go_loopw [5] (fun i wr => ∃ k : Nat, i = .int .i64 (k : Int) ∧ k ≤ n ∧ (∀ x ∈ L.take k, x.ty ≠ t) ∧ wr = w) (fun i _ => n - (intOf i).toNat)
  case atStart => exact ⟨0, rfl, Nat.zero_le _, by simp, rfl⟩
  case round =>
    obtain ⟨k, rfl, hk, hp, rfl⟩ := hrel
    by_cases hlt : (k : Int) < (n : Int)
    · have hkn : k < n := by omega
      have hkL : k < L.length := by rw [HL.out]; omega
      obtain ⟨b, off, q, d, rfl, r1, _⟩ := H.out.at k hkL
      have hst := Ot.notyet_step hkL hp
      have hpl : L[k].ty = t → PlaceIs L t (k : Int) := fun e => .inr ⟨k, hkL, rfl, e, hp⟩
      have x1 := r1.ty
      generalize L[k] = r at *
      have HST := Lib.hid hst
      have HPL := Lib.hid hpl
      clear hp hst hpl r1
      by_cases ht : r.ty = t
      · have i1 : (r.ty == t) = true := by simpa using ht
        have hq := HPL.out ht
        clear ht HST HPL
        go_wp2
        go_ret
        exact ⟨⟨_, rfl, hq⟩, rfl⟩
      · have i1 : (r.ty == t) = false := by simpa using ht
        have hs := HST.out ht
        clear ht HST HPL
        go_wp2
        go_roundw
        case rel => exact ⟨k + 1, by simp, by omega, hs, trivial⟩
        case measure => simp [intOf]; omega
    · have hall : L.take k = L := List.take_of_length_le (by rw [HL.out]; omega)
      rw [hall] at hp
      go_wp2
      go_ret
      exact ⟨⟨_, rfl, .inl ⟨rfl, hp⟩⟩, rfl⟩
end Go.Proofs.Ytacnlancncmpmaa.S12
