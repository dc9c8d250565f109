/- Contracts of Right and Login; of the document's Known and asks. -/
import Derived.Test.YtnhjpbhndckfgaaTd
namespace Go.Proofs.Ytnhjpbhndckfgaa
open Go.RowKit Go.Maps S2 S12

theorem Tm.read_one (x : Ot.O) : (Tm.read [x]).2 = Tm.right x := by
  cases e : Tm.right x with
  | true => rw [Tm.read_yes ⟨fun y hy => by simp only [List.mem_singleton] at hy; rw [hy]; exact e, by simp⟩]
  | false => rw [Tm.read_no (fun h => by rw [h.1 x (by simp)] at e; cases e)]
theorem list_one {w : World} {p : Option Addr} {c m : Nat} {x : Ot.O} (hm : x.data.length = m) (h : RowAt w p c x.data) : OptsAt (w.alloc (.cells #[.int .i64 x.ty, .slice p m c] 24)) (some ⟨w.heap.size, 0, none⟩) [x] := by
  refine .inr ⟨w.heap.size, 0, rfl, by simp, fun j hj => ?_⟩
  have hj0 : j = 0 := by simp at hj; omega
  subst hj0
  have hg := heap_alloc_new w (.cells #[.int .i64 x.ty, .slice p m c] 24)
  exact ⟨p, c, cell_of_row _ _ _ _ _ _ hg, by rw [show ([x] : List Ot.O)[0] = x from rfl, hm]; exact cell_of_row _ _ _ _ _ _ hg, rowAt_alloc h _⟩
set_option maxRecDepth 100000 in
set_option maxHeartbeats 1000000 in
theorem right_any (x : Ot.O) (p : Option Addr) (m c : Nat) (w : World) (hm : x.data.length = m) (hl : m ≤ 300000) (hw : (Lit.int .i64 x.ty).wf = true) (h : RowAt w p c x.data) :
    Calls Try.prog 12 #[.agg (ocells x (.slice p m c)).toArray] w fun e w' => e = .returned (.bool (Tm.right x)) ∧ Below w.heap.size w w' := by
  rw [← Tm.read_one x]
  have b1 := below_one w (.cells #[.int .i64 x.ty, .slice p m c] 24)
  have hg := heap_alloc_new w (.cells #[.int .i64 x.ty, .slice p m c] 24)
  have k0 : (w.alloc (.cells #[.int .i64 x.ty, .slice p m c] 24)).cell? ⟨w.heap.size, 0, none⟩ = some (.int .i64 x.ty) := cell_of_row _ _ _ _ _ _ hg
  have k1 : (w.alloc (.cells #[.int .i64 x.ty, .slice p m c] 24)).cell? ⟨w.heap.size, 1, none⟩ = some (.slice p m c) := cell_of_row _ _ _ _ _ _ hg
  have B2 := Lib.hid (Below.chain b1 (below_one (w.alloc (.cells #[.int .i64 x.ty, .slice p m c] 24)) (.cells #[.int .i64 x.ty, .slice p m c] 24)))
  have C1 := Lib.hid (read_any _ 1 1 [x] _ rfl (by omega) (fun y hy => by simp only [List.mem_singleton] at hy; rw [hy, hm]; exact hl) (fun y hy => by simp only [List.mem_singleton] at hy; rw [hy]; exact hw) (list_one hm (h.next b1)))
  generalize Tm.read [x] = A at C1 ⊢
  have hS : (w.alloc (.cells #[.int .i64 x.ty, .slice p m c] 24)).heap.size = w.heap.size + 1 := by simp
  rw [hS] at C1
  simp only [ocells]
  clear h hg b1 hm hS hw
  go_enter Try.func12, Try.ntmps12
  go_wp2_with fail
  refine C1.out.mono ?_
  rintro e w3 ⟨rfl, b3⟩
  have B3 := Lib.hid (Below.chain B2.out b3)
  clear b3 B2 C1 k0 k1
  have B4 := Lib.hid (Below.chain B3.out (below_one w3 (.cells (tcells Tm.z).toArray 32)))
  go_wp2_with (refine wpList_store_tm rfl _ _ rfl w3.heap.size A.1 _ rfl rfl (heap_alloc_new w3 (.cells (tcells Tm.z).toArray 32)) rfl ?_)
  go_ret
  exact ⟨rfl, below_setRow B4.out B3.out.size _⟩

set_option maxRecDepth 100000 in
set_option maxHeartbeats 1000000 in
theorem login_any (a : Option Addr) (n cap : Nat) (L : List Ot.O) (w : World) (hL : L.length = n) (hn : n ≤ 1000000) (hd : ∀ x ∈ L, x.data.length ≤ 300000) (h : OptsAt w a L) :
    Calls Try.prog 17 #[.slice a n cap] w fun e w' => e = .returned (.int .i64 (Tm.login L : Nat)) ∧ Below w.heap.size w w' := by
  obtain ⟨Z, hZ⟩ : ∃ Z, Tm.login L = Z := ⟨_, rfl⟩
  rw [hZ]
  have HZ := Lib.hid hZ.symm
  have H := Lib.hid h
  have HL := Lib.hid hL
  have HD := Lib.hid hd
  clear h hL hZ hd
  go_enter Try.func17, Try.ntmps17
  go_wp2
  go_loopw [8] (fun i wr => ∃ k : Nat, i = .int .i64 (k : Int) ∧ k ≤ n ∧ Hid (∀ x ∈ L.take k, ¬ (x.ty = 3 ∧ Tm.asked x.data ≠ 0)) ∧ Below w.heap.size w wr) (fun i _ => n - (intOf i).toNat)
  case atStart => exact ⟨0, rfl, Nat.zero_le _, fun x hx => by simp at hx, Below.refl _ _⟩
  case round =>
    obtain ⟨k, rfl, hk, HP, hbw⟩ := hrel
    by_cases hlt : (k : Int) < (n : Int)
    · have hkn : k < n := by omega
      have hkL : k < L.length := by rw [HL.out]; omega
      obtain ⟨b, off, q, d, rfl, r1, hb1⟩ := (H.out.next hbw).at k hkL
      have HN := Lib.hid (Tm.notyet hkL HP.out)
      have HAT := Lib.hid (Tm.login_at L k hkL HP.out)
      have hdx := HD.out L[k] (List.getElem_mem hkL)
      clear HP
      generalize L[k] = r at *
      obtain ⟨m, hm⟩ : ∃ m, r.data.length = m := ⟨_, rfl⟩
      have RG := Lib.hid r1.range
      rw [hm] at RG hdx
      have bA := below_one wr (.cells #[.int .i64 r.ty, .slice q m d] 24)
      have hg3 := heap_alloc_new wr (.cells #[.int .i64 r.ty, .slice q m d] 24)
      have k0 : (wr.alloc (.cells #[.int .i64 r.ty, .slice q m d] 24)).cell? ⟨wr.heap.size, 0, none⟩ = some (.int .i64 r.ty) := cell_of_row _ _ _ _ _ _ hg3
      have k1 : (wr.alloc (.cells #[.int .i64 r.ty, .slice q m d] 24)).cell? ⟨wr.heap.size, 1, none⟩ = some (.slice q m d) := cell_of_row _ _ _ _ _ _ hg3
      have C1 := Lib.hid (asked_any q m d r.data _ hm hdx (r1.row.next bA))
      have B2 := Lib.hid (Below.chain hbw bA)
      clear bA hg3 hbw r1 hm
      by_cases h3 : r.ty = 3
      · rw [h3] at HN HAT
        simp only [h3] at C1 k0 k1 B2
        by_cases hq : Tm.asked r.data = 0
        · have HN2 := Lib.hid (HN.out (fun e => e.2 hq))
          rw [hq] at C1
          clear HN HAT hq
          go_wp2_with (first
            | (refine wpList_load_mid rfl 24 (.tmp 10) rfl b (off + k * 2) rfl (ocells r (.slice q m d)) _ RG.out Try.underlying24 rfl (infoOptN _ _) ?_; simp only [ocells])
            | (refine C1.out.mono ?_; rintro e w5 ⟨rfl, b5⟩))
          go_roundw
          case rel => exact ⟨k + 1, by simp, by omega, HN2.out, Below.chain B2.out b5⟩
          case measure => simp [intOf]; omega
        · have hz := HZ.out.trans (HAT.out rfl hq)
          have i1 : ¬ (Tm.asked r.data : Int) = 0 := by omega
          generalize Tm.asked r.data = v at *
          subst hz
          clear HN HAT hq HZ
          go_wp2_with (first
            | (refine wpList_load_mid rfl 24 (.tmp 10) rfl b (off + k * 2) rfl (ocells r (.slice q m d)) _ RG.out Try.underlying24 rfl (infoOptN _ _) ?_; simp only [ocells])
            | (refine C1.out.mono ?_; rintro e w5 ⟨rfl, b5⟩))
          go_ret
          exact ⟨rfl, Below.chain B2.out b5⟩
      · have HN2 := Lib.hid (HN.out (fun e => h3 e.1))
        clear HN HAT C1
        go_wp2_with (refine wpList_load_mid rfl 24 (.tmp 10) rfl b (off + k * 2) rfl (ocells r (.slice q m d)) _ RG.out Try.underlying24 rfl (infoOptN _ _) ?_; simp only [ocells])
        go_roundw
        case rel => exact ⟨k + 1, by simp, by omega, HN2.out, B2.out⟩
        case measure => simp [intOf]; omega
    · have hall : L.take k = L := List.take_of_length_le (by rw [HL.out]; omega)
      rw [hall] at HP
      have hZ := HZ.out.trans (Tm.login_none L HP.out)
      subst hZ
      have B2 := Lib.hid hbw
      clear hall HZ HP hbw
      go_wp2
      go_ret
      exact ⟨rfl, B2.out⟩

theorem refKnown_any (t : Int) (w : World) : Calls Try.prog 11 #[.int .i64 t] w fun e w' => e = .returned (.bool (Tm.known t)) ∧ w' = w := by
  unfold Tm.known
  by_cases h1 : 1 ≤ t
  · by_cases h5 : t ≤ 5
    · rw [decide_eq_true (by omega)]
      go_enter Try.func11, Try.ntmps11
      go_wp2
      go_ret
      exact ⟨rfl, rfl⟩
    · by_cases h7 : t = 7
      · subst h7
        go_enter Try.func11, Try.ntmps11
        go_wp2
        go_ret
        exact ⟨rfl, rfl⟩
      · by_cases h8 : t = 8
        · subst h8
          go_enter Try.func11, Try.ntmps11
          go_wp2
          go_ret
          exact ⟨rfl, rfl⟩
        · rw [decide_eq_false (by omega)]
          go_enter Try.func11, Try.ntmps11
          have e7 : (t == 7) = false := by simpa using h7
          have e8 : (t == 8) = false := by simpa using h8
          go_wp2
          go_ret
          exact ⟨rfl, rfl⟩
  · have h7 : ¬ t = 7 := by omega
    have h8 : ¬ t = 8 := by omega
    rw [decide_eq_false (by omega)]
    have e7 : (t == 7) = false := by simpa using h7
    have e8 : (t == 8) = false := by simpa using h8
    go_enter Try.func11, Try.ntmps11
    go_wp2
    go_ret
    exact ⟨rfl, rfl⟩
/-- What is asked for, of Data that are right. -/
def Tm.asks (p : Nat) : Nat := if p = 49187 ∨ p = 49699 then p else 1
theorem refAsks_any (b off n cap : Nat) (x y : UInt8) (l : List UInt8) (w : World) (hn : (x :: y :: l).length = n) (h : RowAt w (some ⟨b, off, none⟩) cap (x :: y :: l)) :
    Calls Try.prog 29 #[.slice (some ⟨b, off, none⟩) n cap] w fun e w' => e = .returned (.int .i64 (Tm.asks (256 * x.toNat + y.toNat) : Nat)) ∧ Below w.heap.size w w' := by
  have k0 : ∀ m, (w.drewN m).cell? ⟨b, off, none⟩ = some (.int .u8 (x.toNat : Int)) := fun m => h.cell _ rfl 0 _ rfl
  have k1 : ∀ m, (w.drewN m).cell? ⟨b, off + 1, none⟩ = some (.int .u8 (y.toNat : Int)) := fun m => h.cell _ rfl 1 _ rfl
  have n0 : (0 : Int) < (n : Int) := by rw [← hn]; simp; omega
  have n1 : (1 : Int) < (n : Int) := by rw [← hn]; simp; omega
  have hx := UInt8.toNat_lt x
  have hy := UInt8.toNat_lt y
  clear hn h
  generalize x.toNat = X at *
  generalize y.toNat = Y at *
  obtain ⟨P, hP⟩ : ∃ P, 256 * X + Y = P := ⟨_, rfl⟩
  have hPI : 256 * (X : Int) + (Y : Int) = (P : Int) := by omega
  rw [hP]
  unfold Tm.asks
  by_cases p1 : P = 49187
  · subst p1
    rw [if_pos (.inl rfl)]
    clear hP
    go_enter Try.func29, Try.ntmps29
    go_wp2
    go_quiet (fail)
    go_wp2
    go_ret
    exact ⟨rfl, keeps_below (Below.refl _ _) _⟩
  · have i1 : ¬ (P : Int) = 49187 := by omega
    by_cases p2 : P = 49699
    · subst p2
      rw [if_pos (.inr rfl)]
      clear hP p1 i1
      go_enter Try.func29, Try.ntmps29
      go_wp2
      go_quiet (fail)
      go_wp2
      go_ret
      exact ⟨rfl, keeps_below (Below.refl _ _) _⟩
    · have i2 : ¬ (P : Int) = 49699 := by omega
      rw [if_neg (by omega)]
      have e1 : ((P : Int) == 49187) = false := by simpa using i1
      have e2 : ((P : Int) == 49699) = false := by simpa using i2
      clear hP i1 i2
      go_enter Try.func29, Try.ntmps29
      go_wp2
      go_quiet (fail)
      go_wp2
      go_ret
      exact ⟨rfl, keeps_below (Below.refl _ _) _⟩
end Go.Proofs.Ytnhjpbhndckfgaa
