/- Contracts of the document's Magic and Rejected. -/
import Derived.Test.YtbpkhjjabnboaaaPd
namespace Go.Proofs.Ytbpkhjjabnboaaa
open Go.RowKit S2 S12

/-- One byte of a row. -/
theorem row_cell {w : World} {b off c : Nat} {xs : List UInt8} (h : RowAt w (some ⟨b, off, none⟩) c xs) (k : Nat) (hk : k < xs.length) : w.cell? ⟨b, off + k, none⟩ = some (.int .u8 (Pk.at0 xs k : Nat)) := by
  rw [Pk.at0_get xs k hk]
  have := h.cell _ rfl k (.int .u8 (xs[k].toNat : Int)) (by simp [Lib.byteCells, hk])
  rwa [Go.WideShapes.add_plain] at this

set_option maxRecDepth 100000 in
set_option maxHeartbeats 1000000 in
theorem refMagic_any (x : Pk.P) (p : Option Addr) (n c : Nat) (w : World) (hn : x.data.length = n) (hm : n ≤ 200000) (h : RowAt w p c x.data) :
    Calls Try.prog 18 #[.agg (pcells x (.slice p n c)).toArray] w fun e w' => NumRes .u32 w w' e (Pk.magic x) := by
  have B0 := Lib.hid (one_pkt w (pcells x (.slice p n c)).toArray).1
  have T0 := Lib.hid (one_pkt w (pcells x (.slice p n c)).toArray).2
  have H := Lib.hid (h.next B0.out)
  simp only [pcells] at B0 T0 H ⊢
  clear h
  by_cases d1 : x.code < 9
  · have hA := Lib.hid (Pk.magic_out (x := x) (by omega))
    clear hn H T0
    go_enter Try.func18, Try.ntmps18
    go_wp2
    go_ret3
    exact num_out hA.out B0.out
  by_cases d2 : 11 < x.code
  · have hA := Lib.hid (Pk.magic_out (x := x) (by omega))
    clear hn H T0
    go_enter Try.func18, Try.ntmps18
    go_wp2
    go_ret3
    exact num_out hA.out B0.out
  rw [Pk.magic_in ⟨by omega, by omega⟩]
  by_cases d3 : n < 4
  · have i3 : (n : Int) < 4 := by omega
    have hA := Lib.hid (Pk.split_few (xs := x.data) (k := 4) (by omega))
    clear hn H T0
    go_enter Try.func18, Try.ntmps18
    go_wp2
    go_ret3
    exact num_out hA.out B0.out
  · have i3 : ¬ (n : Int) < 4 := by omega
    rw [Pk.split_good (by omega), ← Pk.hor_get]
    obtain ⟨b, off, rfl⟩ := H.out.some (by omega)
    have hle := H.out.le
    rw [hn] at hle
    have hc := H.out.cut 4 n (by omega) (by omega)
    rw [List.take_of_length_le (by omega), Option.map_some, Go.WideShapes.add_plain] at hc
    have hl : (x.data.drop 4).length = n - 4 := by rw [List.length_drop]; omega
    have HX := Lib.hid (fun k (hk : k < 4) => row_cell H.out k (by omega))
    have HT := Lib.hid (fun k (hk : k < 4) => Pk.hor_at x.data k (by omega))
    have HLT := Lib.hid (fun k (hk : k ≤ 4) => by have := Oc.hor_lt (x.data.take k); rw [List.length_take, Nat.min_eq_left (by omega)] at this; exact this)
    have HA := Lib.hid (fun k => Pk.at0_lt x.data k)
    have HL := Lib.hid hl
    have HC := Lib.hid hc
    have d0 : Hid ((w.alloc (.cells #[.int .i64 x.code, .int .i64 x.id, .slice (some ⟨b, off, none⟩) n c] 24)).cell? ⟨w.heap.size, 2, none⟩ = some (.slice (some ⟨b, off, none⟩) n c)) := cell_of_row _ _ 2 _ _ _ T0.out
    clear hl hc hn H T0
    go_enter Try.func18, Try.ntmps18
    go_wp2_with fail
    generalize w.alloc (.cells #[.int .i64 x.code, .int .i64 x.id, .slice (some ⟨b, off, none⟩) n c] 24) = W0 at *
    have D0 := d0.out
    have i2 : (4 : Int) ≤ (c : Int) := by omega
    have i5 : (4 : Int) ≤ (n : Int) := by omega
    have hz0 : Oc.hor (x.data.take 0) = 0 := rfl
    generalize hT : (fun k => Oc.hor (x.data.take k)) = TT
    have TE : ∀ k, Oc.hor (x.data.take k) = TT k := fun k => by rw [← hT]
    simp only [TE] at HT HLT hz0 ⊢
    have HTE := Lib.hid TE
    clear hT TE
    have HZ := Lib.hid hz0
    clear hz0 d0
    generalize hU : (fun k => Pk.at0 x.data k) = UU
    have UE : ∀ k, Pk.at0 x.data k = UU k := fun k => by rw [← hU]
    simp only [UE] at HX HT HA
    clear hU UE
    obtain ⟨ys, hy⟩ : ∃ ys, x.data.drop 4 = ys := ⟨_, rfl⟩
    have HY := Lib.hid hy
    rw [hy] at HL HC
    clear hy
    go_loop [5, 6] (fun m i => ∃ k : Nat, k ≤ 4 ∧ i = .int .i64 (k : Int) ∧ m = .int .u32 (TT k : Nat)) (fun _ i => 4 - (intOf i).toNat)
    case atStart => exact ⟨0, Nat.zero_le _, rfl, by rw [HZ.out]; rfl⟩
    case round =>
      obtain ⟨k, hk, rfl, rfl⟩ := hrel
      by_cases hlt : (k : Int) < 4
      · have hk' : k < 4 := by omega
        have hcell := HX.out k hk'
        have hst := HT.out k hk'
        have h1 := HLT.out k hk
        have h2 := HLT.out (k + 1) (by omega)
        have h3 := HA.out k
        have hp : 256 ^ (k + 1) ≤ 256 ^ 4 := Nat.pow_le_pow_right (by omega) (by omega)
        have i6 : (k : Int) < (n : Int) := by omega
        generalize UU k = u at *
        obtain ⟨m1, hm1⟩ : ∃ m1, TT (k + 1) = m1 := ⟨_, rfl⟩
        have HM := Lib.hid hm1
        rw [hm1] at hst h2
        clear hm1
        generalize TT k = m at *
        obtain ⟨m2, hm2⟩ : ∃ m2, 256 * m = m2 := ⟨_, rfl⟩
        have hw1 : IntKind.u32.wrap (u : Int) = (u : Int) := by rw [IntKind.wrap_u32]; omega
        have hw2 : IntKind.u32.wrap (256 * (m : Int)) = (m2 : Int) := by rw [IntKind.wrap_u32]; omega
        have hw3 : IntKind.u32.wrap ((m2 : Int) + (u : Int)) = (m1 : Int) := by rw [IntKind.wrap_u32]; omega
        clear hst h1 h2 h3 hp hm2 hk
        go_wp2
        go_round
        case rel => exact ⟨k + 1, by omega, by go_num, by rw [HM.out]⟩
        case measure => simp [intOf]; omega
      · obtain rfl : k = 4 := by omega
        have b1 := below_one W0 (.cells #[] 5)
        have e0 : (W0.alloc (.cells #[] 5)).cell? ⟨w.heap.size, 2, none⟩ = some (.slice (some ⟨b, off, none⟩) n c) := by rw [b1.cell (p := ⟨w.heap.size, 2, none⟩) (World.block_lt_of_cell? W0 _ D0)]; exact D0
        have O0 : Hid ((W0.alloc (.cells #[] 5)).ownsRow w.heap.size 5 1 (.slice (some ⟨W0.heap.size, 0, none⟩) 0 0) 0 []) := World.ownsRow_made W0 #[] 0 B0.out.size (Nat.zero_le _) rfl
        have B1 := Lib.hid (Below.chain B0.out b1)
        have R1 := Lib.hid (HC.out.next b1)
        obtain ⟨P, hP⟩ : ∃ P, (if c = 4 then some ⟨b, off, none⟩ else some (⟨b, off + 4, none⟩ : Addr)) = P := ⟨_, rfl⟩
        obtain ⟨cP, hcP⟩ : ∃ cP, c - 4 = cP := ⟨_, rfl⟩
        obtain ⟨nP, hnP⟩ : ∃ nP, n - 4 = nP := ⟨_, rfl⟩
        rw [hP, hcP] at R1
        rw [hnP] at HL
        clear b1 HX HT HLT HA
        go_wp2_with (at_builtin; go_loud (refine wpList_append_row rfl (.tmp 35) (.tmp 38) rfl w.heap.size _ 0 [] rfl O0.out P nP cP ys (by rw [← hP, ← hcP, ← hnP]; rfl) HL.out R1.out (by omega) B1.out.size ?_); intro v5 w5 o5 g5)
        rw [Nat.zero_add, List.nil_append] at o5
        have BO := Lib.hid (Below.grown B1.out g5 B1.out.size (fun k hk => (O0.out.lt k hk).1))
        have OO := Lib.hid o5
        clear o5 g5
        go_ret3
        rw [HTE.out, HY.out]
        exact ⟨_, rfl, by rw [HL.out]; exact OO.out, BO.out⟩

set_option maxRecDepth 100000 in
set_option maxHeartbeats 1000000 in
theorem refRejected_any (x : Pk.P) (p : Option Addr) (n c : Nat) (w : World) (hn : x.data.length = n) (hm : n ≤ 200000) (h : RowAt w p c x.data) :
    Calls Try.prog 20 #[.agg (pcells x (.slice p n c)).toArray] w fun e w' => NumRes .i64 w w' e (Pk.rejected x) := by
  have B0 := Lib.hid (one_pkt w (pcells x (.slice p n c)).toArray).1
  have T0 := Lib.hid (one_pkt w (pcells x (.slice p n c)).toArray).2
  have H := Lib.hid (h.next B0.out)
  simp only [pcells] at B0 T0 H ⊢
  clear h
  by_cases d1 : x.code = 8
  · have i1 : (x.code != 8) = false := by simp [d1]
    rw [Pk.rejected_in d1]
    clear d1
    by_cases d3 : n < 2
    · have i3 : (n : Int) < 2 := by omega
      have hA := Lib.hid (Pk.split_few (xs := x.data) (k := 2) (by omega))
      clear hn H T0
      go_enter Try.func20, Try.ntmps20
      go_wp2
      go_ret3
      exact num_out hA.out B0.out
    · have i3 : ¬ (n : Int) < 2 := by omega
      rw [Pk.split_good (by omega), Pk.get_two _ (by omega)]
      obtain ⟨b, off, rfl⟩ := H.out.some (by omega)
      have hle := H.out.le
      rw [hn] at hle
      have hc := H.out.cut 2 n (by omega) (by omega)
      rw [List.take_of_length_le (by omega), Option.map_some, Go.WideShapes.add_plain] at hc
      have hl : (x.data.drop 2).length = n - 2 := by rw [List.length_drop]; omega
      have x0 := row_cell H.out 0 (by omega)
      have x1 := row_cell H.out 1 (by omega)
      rw [Nat.add_zero] at x0
      have t0 := Pk.at0_lt x.data 0
      have t1 := Pk.at0_lt x.data 1
      obtain ⟨ys, hy⟩ : ∃ ys, x.data.drop 2 = ys := ⟨_, rfl⟩
      rw [hy] at hl hc ⊢
      clear hy hn
      generalize Pk.at0 x.data 0 = u0 at *
      generalize Pk.at0 x.data 1 = u1 at *
      have d0 : (w.alloc (.cells #[.int .i64 x.code, .int .i64 x.id, .slice (some ⟨b, off, none⟩) n c] 24)).cell? ⟨w.heap.size, 2, none⟩ = some (.slice (some ⟨b, off, none⟩) n c) := cell_of_row _ _ 2 _ _ _ T0.out
      obtain ⟨m2, hm2⟩ : ∃ m2, 256 * u0 = m2 := ⟨_, rfl⟩
      obtain ⟨s, hs⟩ : ∃ s, m2 + u1 = s := ⟨_, rfl⟩
      rw [hm2, hs]
      have hw0 : IntKind.i64.wrap (u0 : Int) = (u0 : Int) := by rw [IntKind.wrap_i64]; omega
      have hw1 : IntKind.i64.wrap (u1 : Int) = (u1 : Int) := by rw [IntKind.wrap_i64]; omega
      have hw2 : IntKind.i64.wrap (256 * (u0 : Int)) = (m2 : Int) := by rw [IntKind.wrap_i64]; omega
      have hw3 : IntKind.i64.wrap ((m2 : Int) + (u1 : Int)) = (s : Int) := by rw [IntKind.wrap_i64]; omega
      have HS := Lib.hid hs
      have HM := Lib.hid hm2
      have HL := Lib.hid hl
      have HC := Lib.hid hc
      have D0 := Lib.hid d0
      have X0 := Lib.hid x0
      have X1 := Lib.hid x1
      clear hs hm2 hl hc d0 x0 x1 H T0
      go_enter Try.func20, Try.ntmps20
      go_wp2_with fail
      generalize w.alloc (.cells #[.int .i64 x.code, .int .i64 x.id, .slice (some ⟨b, off, none⟩) n c] 24) = W0 at *
      have i0 : 0 < n := by omega
      have i01 : (1 : Int) < (n : Int) := by omega
      have i2 : (2 : Int) ≤ (c : Int) := by omega
      have i5 : (2 : Int) ≤ (n : Int) := by omega
      refine held_start (S := fun W => W.cell? ⟨b, off, none⟩ = some (.int .u8 (u0 : Int)) ∧ W.cell? ⟨b, off + 1, none⟩ = some (.int .u8 (u1 : Int)) ∧ W.cell? ⟨w.heap.size, 2, none⟩ = some (.slice (some ⟨b, off, none⟩) n c)) 20 (by kernel_rfl) rfl ?_
      have hS : W0.drew.cell? ⟨b, off, none⟩ = some (.int .u8 (u0 : Int)) ∧ W0.drew.cell? ⟨b, off + 1, none⟩ = some (.int .u8 (u1 : Int)) ∧ W0.drew.cell? ⟨w.heap.size, 2, none⟩ = some (.slice (some ⟨b, off, none⟩) n c) := ⟨X0.out, X1.out, D0.out⟩
      have hB3 := Lib.hid B0.out.drew
      have hc3 : Hid (RowAt W0.drew (if c = 2 then some ⟨b, off, none⟩ else some ⟨b, off + 2, none⟩) (c - 2) ys) := HC.out.next (Below.refl _ _).drew
      generalize W0.drew = W3 at *
      clear D0 X0 X1 HC B0
      refine held_take 0 (v := ?_) rfl (by kernel_rfl) (by kernel_rfl) (by kernel_rfl) (fun _ _ _ h => h) (by assumption) (by rfl) ?_ ?_
      rotate_left
      · (intro W hW; go_simp; try with_reducible rfl)
      simp only [Act.put, List.setIfInBounds_toArray, List.set_cons_zero, List.set_cons_succ]
      refine held_take 1 (v := ?_) rfl (by kernel_rfl) (by kernel_rfl) (by kernel_rfl) (fun _ _ _ h => h) (by assumption) (by rfl) ?_ ?_
      rotate_left
      · (intro W hW; have hc : W.cell? ⟨w.heap.size, 2, none⟩ = some (.slice (some ⟨b, off, none⟩) n c) := hW.2.2; go_simp; try with_reducible rfl)
      simp only [Act.put, List.setIfInBounds_toArray, List.set_cons_zero, List.set_cons_succ]
      refine held_take 2 (v := ?_) rfl (by kernel_rfl) (by kernel_rfl) (by kernel_rfl) (fun _ _ _ h => h) (by assumption) (by rfl) ?_ ?_
      rotate_left
      · (intro W hW; go_simp; try with_reducible rfl)
      simp only [Act.put, List.setIfInBounds_toArray, List.set_cons_zero, List.set_cons_succ]
      refine held_take 3 (v := ?_) rfl (by kernel_rfl) (by kernel_rfl) (by kernel_rfl) (fun _ _ _ h => h) (by assumption) (by rfl) ?_ ?_
      rotate_left
      · (intro W hW; have hc : W.cell? ⟨b, off, none⟩ = some (.int .u8 (u0 : Int)) := hW.1; go_simp; try with_reducible rfl)
      simp only [Act.put, List.setIfInBounds_toArray, List.set_cons_zero, List.set_cons_succ]
      refine held_take 4 (v := ?_) rfl (by kernel_rfl) (by kernel_rfl) (by kernel_rfl) (fun _ _ _ h => h) (by assumption) (by rfl) ?_ ?_
      rotate_left
      · (intro W hW; go_simp; try with_reducible rfl)
      simp only [Act.put, List.setIfInBounds_toArray, List.set_cons_zero, List.set_cons_succ]
      refine held_take 5 (v := ?_) rfl (by kernel_rfl) (by kernel_rfl) (by kernel_rfl) (fun _ _ _ h => h) (by assumption) (by rfl) ?_ ?_
      rotate_left
      · (intro W hW; go_simp; try with_reducible rfl)
      simp only [Act.put, List.setIfInBounds_toArray, List.set_cons_zero, List.set_cons_succ]
      refine held_take 6 (v := ?_) rfl (by kernel_rfl) (by kernel_rfl) (by kernel_rfl) (fun _ _ _ h => h) (by assumption) (by rfl) ?_ ?_
      rotate_left
      · (intro W hW; go_simp; try with_reducible rfl)
      simp only [Act.put, List.setIfInBounds_toArray, List.set_cons_zero, List.set_cons_succ]
      refine held_take 7 (v := ?_) rfl (by kernel_rfl) (by kernel_rfl) (by kernel_rfl) (fun _ _ _ h => h) (by assumption) (by rfl) ?_ ?_
      rotate_left
      · (intro W hW; have hc : W.cell? ⟨w.heap.size, 2, none⟩ = some (.slice (some ⟨b, off, none⟩) n c) := hW.2.2; go_simp; try with_reducible rfl)
      simp only [Act.put, List.setIfInBounds_toArray, List.set_cons_zero, List.set_cons_succ]
      refine held_take 8 (v := ?_) rfl (by kernel_rfl) (by kernel_rfl) (by kernel_rfl) (fun _ _ _ h => h) (by assumption) (by rfl) ?_ ?_
      rotate_left
      · (intro W hW; go_simp; try with_reducible rfl)
      simp only [Act.put, List.setIfInBounds_toArray, List.set_cons_zero, List.set_cons_succ]
      refine held_take 9 (v := ?_) rfl (by kernel_rfl) (by kernel_rfl) (by kernel_rfl) (fun _ _ _ h => h) (by assumption) (by rfl) ?_ ?_
      rotate_left
      · (intro W hW; have hc : W.cell? ⟨b, off + 1, none⟩ = some (.int .u8 (u1 : Int)) := hW.2.1; go_simp; try with_reducible rfl)
      simp only [Act.put, List.setIfInBounds_toArray, List.set_cons_zero, List.set_cons_succ]
      refine held_take 10 (v := ?_) rfl (by kernel_rfl) (by kernel_rfl) (by kernel_rfl) (fun _ _ _ h => h) (by assumption) (by rfl) ?_ ?_
      rotate_left
      · (intro W hW; go_simp; try with_reducible rfl)
      simp only [Act.put, List.setIfInBounds_toArray, List.set_cons_zero, List.set_cons_succ]
      refine held_take 11 (v := ?_) rfl (by kernel_rfl) (by kernel_rfl) (by kernel_rfl) (fun _ _ _ h => h) (by assumption) (by rfl) ?_ ?_
      rotate_left
      · (intro W hW; go_simp; try with_reducible rfl)
      simp only [Act.put, List.setIfInBounds_toArray, List.set_cons_zero, List.set_cons_succ]
      refine held_take 13 (v := ?_) rfl (by kernel_rfl) (by kernel_rfl) (by kernel_rfl) (fun _ _ _ h => h) (by assumption) (by rfl) ?_ ?_
      rotate_left
      · (intro W hW; go_simp; try with_reducible rfl)
      simp only [Act.put, List.setIfInBounds_toArray, List.set_cons_zero, List.set_cons_succ]
      refine held_take 14 (v := ?_) rfl (by kernel_rfl) (by kernel_rfl) (by kernel_rfl) (fun _ _ _ h => h) (by assumption) (by rfl) ?_ ?_
      rotate_left
      · (intro W hW; have hc : W.cell? ⟨w.heap.size, 2, none⟩ = some (.slice (some ⟨b, off, none⟩) n c) := hW.2.2; go_simp; try with_reducible rfl)
      simp only [Act.put, List.setIfInBounds_toArray, List.set_cons_zero, List.set_cons_succ]
      refine held_take 15 (v := ?_) rfl (by kernel_rfl) (by kernel_rfl) (by kernel_rfl) (fun _ _ _ h => h) (by assumption) (by rfl) ?_ ?_
      rotate_left
      · (intro W hW; go_simp; try with_reducible rfl)
      simp only [Act.put, List.setIfInBounds_toArray, List.set_cons_zero, List.set_cons_succ]
      have bA := Lib.hid (below_one W3 (.cells #[] 5))
      have hSA : (W3.alloc (.cells #[] 5)).cell? ⟨b, off, none⟩ = some (.int .u8 (u0 : Int)) ∧ (W3.alloc (.cells #[] 5)).cell? ⟨b, off + 1, none⟩ = some (.int .u8 (u1 : Int)) ∧ (W3.alloc (.cells #[] 5)).cell? ⟨w.heap.size, 2, none⟩ = some (.slice (some ⟨b, off, none⟩) n c) := by
        have hlt := World.block_lt_of_cell? W3 _ hS.1
        have hlt2 := World.block_lt_of_cell? W3 _ hS.2.2
        exact ⟨by rw [bA.out.cell (p := ⟨b, off, none⟩) hlt]; exact hS.1, by rw [bA.out.cell (p := ⟨b, off + 1, none⟩) hlt]; exact hS.2.1, by rw [bA.out.cell (p := ⟨w.heap.size, 2, none⟩) hlt2]; exact hS.2.2⟩
      refine held_makes 12 (v := .slice (some ⟨W3.heap.size, 0, none⟩) 0 0) (w' := W3.alloc (.cells #[] 5)) rfl (by kernel_rfl) (by rfl) (by go_simp) hSA ?_
      have O0 : Hid ((W3.alloc (.cells #[] 5)).ownsRow w.heap.size 5 1 (.slice (some ⟨W3.heap.size, 0, none⟩) 0 0) 0 []) := World.ownsRow_made W3 #[] 0 hB3.out.size (Nat.zero_le _) rfl
      have B1 := Lib.hid (Below.chain hB3.out bA.out)
      have R1 := Lib.hid (hc3.out.next bA.out)
      obtain ⟨P, hP⟩ : ∃ P, (if c = 2 then some ⟨b, off, none⟩ else some (⟨b, off + 2, none⟩ : Addr)) = P := ⟨_, rfl⟩
      obtain ⟨cP, hcP⟩ : ∃ cP, c - 2 = cP := ⟨_, rfl⟩
      obtain ⟨nP, hnP⟩ : ∃ nP, n - 2 = nP := ⟨_, rfl⟩
      rw [hP, hcP] at R1
      rw [hnP] at HL
      clear hc3 hB3
      simp only [Act.put, List.setIfInBounds_toArray, List.set_cons_zero, List.set_cons_succ]
      refine held_one 16 rfl (by kernel_rfl) (by rfl) ?_
      refine wp_append_row (.tmp 26) (.tmp 29) rfl w.heap.size (.slice (some ⟨W3.heap.size, 0, none⟩) 0 0) 0 [] rfl O0.out P nP cP ys (by rw [← hP, ← hcP, ← hnP]; rfl) HL.out R1.out (by omega) B1.out.size ?_
      intro v5 W5 o5 g5
      rw [Nat.zero_add, List.nil_append] at o5
      have b5 := Below.grown B1.out g5 B1.out.size (fun k hk => (O0.out.lt k hk).1)
      have hS5 : W5.cell? ⟨b, off, none⟩ = some (.int .u8 (u0 : Int)) ∧ W5.cell? ⟨b, off + 1, none⟩ = some (.int .u8 (u1 : Int)) ∧ W5.cell? ⟨w.heap.size, 2, none⟩ = some (.slice (some ⟨b, off, none⟩) n c) := by
        have b35 : Below W3.heap.size W3 W5 := Below.grown bA.out g5 bA.out.size (fun k hk => by have e : some W3.heap.size = some k := hk; exact Nat.le_of_eq (Option.some.inj e))
        have hlt := World.block_lt_of_cell? W3 _ hS.1
        have hlt2 := World.block_lt_of_cell? W3 _ hS.2.2
        exact ⟨by rw [b35.cell (p := ⟨b, off, none⟩) hlt]; exact hS.1, by rw [b35.cell (p := ⟨b, off + 1, none⟩) hlt]; exact hS.2.1, by rw [b35.cell (p := ⟨w.heap.size, 2, none⟩) hlt2]; exact hS.2.2⟩
      refine ⟨hS5, ?_⟩
      simp only [Act.put, List.setIfInBounds_toArray, List.set_cons_zero, List.set_cons_succ]
      refine held_take 17 (v := ?_) rfl (by kernel_rfl) (by kernel_rfl) (by kernel_rfl) (fun _ _ _ h => h) (by assumption) (by rfl) ?_ ?_
      rotate_left
      · (intro W hW; go_simp; try with_reducible rfl)
      simp only [Act.put, List.setIfInBounds_toArray, List.set_cons_zero, List.set_cons_succ]
      refine held_take 18 (v := ?_) rfl (by kernel_rfl) (by kernel_rfl) (by kernel_rfl) (fun _ _ _ h => h) (by assumption) (by rfl) ?_ ?_
      rotate_left
      · (intro W hW; go_simp; try with_reducible rfl)
      simp only [Act.put, List.setIfInBounds_toArray, List.set_cons_zero, List.set_cons_succ]
      refine held_take 19 (v := ?_) rfl (by kernel_rfl) (by kernel_rfl) (by kernel_rfl) (fun _ _ _ h => h) (by assumption) (by rfl) ?_ ?_
      rotate_left
      · (intro W hW; go_simp; try with_reducible rfl)
      simp only [Act.put, List.setIfInBounds_toArray, List.set_cons_zero, List.set_cons_succ]
      refine held_done (by kernel_rfl) ?_
      have BO := Lib.hid b5
      have OO := Lib.hid o5
      clear o5 g5 b5 hS5 hS hSA R1 B1 O0 bA
      go_wp2 <;> (go_ret3; exact ⟨_, rfl, by rw [HL.out]; exact OO.out, BO.out⟩)
  · have i1 : (x.code != 8) = true := by simpa using d1
    have hA := Lib.hid (Pk.rejected_out d1)
    clear d1
    clear hn H T0
    go_enter Try.func20, Try.ntmps20
    go_wp2
    go_ret3
    exact num_out hA.out B0.out
end Go.Proofs.Ytbpkhjjabnboaaa
