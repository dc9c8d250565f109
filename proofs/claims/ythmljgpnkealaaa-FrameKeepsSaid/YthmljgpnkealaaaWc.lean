/- Contracts of More and Of, and of the document's More and Of. -/
import Derived.Test.YthmljgpnkealaaaWb
namespace Go.Proofs.Ythmljgpnkealaaa
open Go.RowKit
namespace Fc
theorem more_take (p w : Nat) (l : List UInt8) (k : Nat) (h : k < l.length) : more p w (l.take (k + 1)) = run p 8 (more p w (l.take k) ^^^ l[k].toNat) := by
  rw [List.take_succ_eq_append_getElem h, more_snoc]
theorem more_lt32 (w : Nat) (l : List UInt8) (wide : Bool) (hw : w < 2 ^ (8 * size wide)) : more (poly wide) w l < 4294967296 := Nat.lt_of_lt_of_le (more_lt w l wide hw) (width_le wide)
end Fc

/-- A table's word. -/
theorem tab_cell {w : World} {g p i : Nat} (h : w.heap[g]? = some (.cells (Fc.uc (Fc.tab p)).toArray 78 (0, 0))) (hi : i < 256) : w.cell? ⟨g, i, none⟩ = some (.int .u32 (Fc.run p 8 i : Nat)) := by
  rw [cell_of_row _ _ _ _ _ _ h]
  simp only [List.getElem?_toArray, Fc.uc, List.getElem?_map]
  rw [Fc.tab_get p i hi]; rfl

set_option maxRecDepth 10000 in
set_option maxHeartbeats 1000000 in
theorem more_at (reg : Nat) (a : Option Addr) (cap : Nat) (xs : List UInt8) (wide : Bool) (w : World) (hreg : reg < 4294967296) (hl : xs.length ≤ 100000) (hc : BytesAt w a xs) :
    Calls Try.prog 53 #[.int .u32 (reg : Int), .slice a xs.length cap, .bool wide] w fun e w' => e = .returned (.int .u32 (Fc.moreOf reg xs wide : Nat)) ∧ Below w.heap.size w w' := by
  have hand := Fc.and32 reg (Fc.ones wide) hreg (Fc.ones_lt32 wide)
  have Hand := Lib.hid hand
  have Hc := Lib.hid hc
  clear hc hand
  have hsz : (Try.prog.info? 78).map (·.size) = some (Fc.uc (Fc.tab (Fc.poly wide))).toArray.size := by rw [info38, List.size_toArray, Fc.uc_length, Fc.tab_length]
  have hold : Fc.zs.size = (Fc.uc (Fc.tab (Fc.poly wide))).toArray.size := by rw [Fc.zs_size, List.size_toArray, Fc.uc_length, Fc.tab_length]
  have hone := Fc.uc_one (Fc.tab (Fc.poly wide))
  have htab := fun w => table_any wide w
  obtain ⟨T, hT⟩ : ∃ T, T = (Fc.uc (Fc.tab (Fc.poly wide))).toArray := ⟨_, rfl⟩
  rw [← hT] at hsz hold hone
  simp only [← hT] at htab
  have HT := Lib.hid hT
  have Hsz := Lib.hid hsz
  have Hold := Lib.hid hold
  have Hone := Lib.hid hone
  clear hT hsz hold hone
  obtain ⟨M, hM⟩ : ∃ M, M = Fc.moreOf reg xs wide := ⟨_, rfl⟩
  rw [← hM]
  have HM := Lib.hid hM
  clear hM
  go_enter Try.func53, Try.ntmps53
  go_wp2_with fail
  have h21 := htab w
  refine h21.mono ?_
  rintro e w1 ⟨rfl, b1⟩
  go_wp2_with (first | (refine wpList_alloc38 rfl rfl ?_) | (refine wpList_store_row rfl 78 _ _ rfl w1.heap.size T rfl rfl 78 _ (heap_alloc_new _ _) Hsz.out Hold.out Hone.out ?_) | fail)
  have hrow := setRow_heap (w1.alloc (.cells Fc.zs 78)) w1.heap.size Fc.zs T 78 (0, 0) (heap_alloc_new _ _)
  have hbel : Below w.heap.size w ((w1.alloc (.cells Fc.zs 78)).setRow w1.heap.size T) := below_setRow (b1.alloc b1.size _) b1.size _
  generalize ((w1.alloc (.cells Fc.zs 78)).setRow w1.heap.size T) = W at hrow hbel ⊢
  generalize w1.heap.size = g at hrow ⊢
  clear b1 htab
  have Hrow := Lib.hid hrow
  have Hbel := Lib.hid hbel
  clear hrow hbel
  go_wp2_with (go_at_call 54; refine (ones_any wide _).mono ?_; rintro e W2 ⟨rfl, rfl⟩)
  rw [Hand.out]
  have hstart : reg &&& Fc.ones wide < 2 ^ (8 * Fc.size wide) := by rw [Fc.and_ones]; exact Nat.mod_lt _ (Nat.pow_pos (by omega))
  have Hm := HM.out
  unfold Fc.moreOf at Hm
  generalize reg &&& Fc.ones wide = r0 at hstart Hm ⊢
  have HM2 := Lib.hid Hm
  have Hstart := Lib.hid hstart
  clear Hm hstart HM Hand
  go_loop [0, 9, 18] (fun r _ i => ∃ k : Nat, k ≤ xs.length ∧ i = .int .i64 (k : Int) ∧ r = .int .u32 (Fc.more (Fc.poly wide) r0 (xs.take k) : Nat)) (fun _ _ i => xs.length - (intOf i).toNat)
  case atStart => exact ⟨0, Nat.zero_le _, rfl, rfl⟩
  case round =>
    obtain ⟨k, hk, rfl, rfl⟩ := hrel
    have hml := Fc.more_lt32 r0 (xs.take k) wide Hstart.out
    by_cases hlt : (k : Int) < (xs.length : Int)
    · have hk' : k < xs.length := by omega
      obtain ⟨b, off, rfl, hb, hcc⟩ : ∃ b off, a = some ⟨b, off, none⟩ ∧ b < w.heap.size ∧ ∀ j (h : j < xs.length), w.cell? ⟨b, off + j, none⟩ = some (.int .u8 (xs[j].toNat : Int)) := by
        rcases Hc.out with rfl | h
        · simp at hk'
        · exact h
      have hcell : W2.cell? ⟨b, off + k, none⟩ = some (.int .u8 (xs[k].toNat : Int)) := by rw [Hbel.out.cell (p := ⟨b, off + k, none⟩) hb]; exact hcc k hk'
      have hst := Fc.more_take (Fc.poly wide) r0 xs k hk'
      obtain ⟨x, hxx⟩ : ∃ x, x = xs[k].toNat := ⟨_, rfl⟩
      have hx8 : x < 256 := by rw [hxx]; exact UInt8.toNat_lt _
      rw [← hxx] at hcell hst
      obtain ⟨m, hm⟩ : ∃ m, m = Fc.more (Fc.poly wide) r0 (xs.take k) := ⟨_, rfl⟩
      rw [← hm] at hml hst ⊢
      rw [Fc.by_table] at hst
      have hxor := Fc.xor8 (m % 256) x (Nat.mod_lt _ (by omega)) hx8
      have hn : m % 256 ^^^ x < 256 := Nat.xor_lt_two_pow (n := 8) (Nat.mod_lt _ (by omega)) hx8
      obtain ⟨n, hnn⟩ : ∃ n, n = m % 256 ^^^ x := ⟨_, rfl⟩
      rw [← hnn] at hst hxor hn
      have htc := tab_cell (w := W2) (g := g) (p := Fc.poly wide) (by rw [← HT.out]; exact Hrow.out) hn
      have hrl := Fc.run_lt32 (Fc.poly wide) n 8 (Fc.poly_lt32 wide) (by omega)
      obtain ⟨R, hR⟩ : ∃ R, R = Fc.run (Fc.poly wide) 8 n := ⟨_, rfl⟩
      rw [← hR] at hst htc hrl
      have hx32 := Fc.xor32 (m / 256) R (by omega) hrl
      rw [← hst] at hx32
      rw [show ((m % 256 : Nat) : Int) = (m : Int) % 256 from rfl] at hxor
      have Hx32 := Lib.hid hx32
      have hni : (n : Int) < 256 := by omega
      clear hx32 hst hR hnn hm hxx hn hcc
      go_wp2
      go_round
      case rel => exact ⟨k + 1, by omega, by go_num, by rw [← Hx32.out]; congr 1⟩
      case measure => simp [intOf]; omega
    · have hkl : k = xs.length := by omega
      subst hkl
      rw [List.take_length, ← HM2.out]
      go_wp2
      go_ret
      exact ⟨rfl, Hbel.out⟩

theorem more_any (reg : Nat) (a : Option Addr) (n cap : Nat) (xs : List UInt8) (wide : Bool) (w : World) (hn : xs.length = n) (hreg : reg < 4294967296) (hl : n ≤ 100000) (hc : RowAt w a cap xs) :
    Calls Try.prog 53 #[.int .u32 (reg : Int), .slice a n cap, .bool wide] w fun e w' => e = .returned (.int .u32 (Fc.moreOf reg xs wide : Nat)) ∧ Below w.heap.size w w' := by
  subst hn
  exact more_at reg a cap xs wide w hreg hl hc.bytes

theorem of_any (a : Option Addr) (n cap : Nat) (xs : List UInt8) (wide : Bool) (w : World) (hn : xs.length = n) (hl : n ≤ 100000) (hc : RowAt w a cap xs) :
    Calls Try.prog 43 #[.slice a n cap, .bool wide] w fun e w' => e = .returned (.int .u32 (Fc.of xs wide : Nat)) ∧ Below w.heap.size w w' := by
  have hm := more_any (Fc.ones wide) a n cap xs wide w hn (Fc.ones_lt32 wide) hl hc
  have hx := Fc.xor32 (Fc.moreOf (Fc.ones wide) xs wide) (Fc.ones wide) (Fc.moreOf_lt32 _ _ _) (Fc.ones_lt32 wide)
  have Hx := Lib.hid hx
  clear hx
  unfold Fc.of
  generalize Fc.moreOf (Fc.ones wide) xs wide = M at hm Hx ⊢
  go_enter Try.func43, Try.ntmps43
  go_wp2_with (first | (go_at_call 54; refine (ones_any wide _).mono ?_; rintro e w' ⟨rfl, h⟩; rw [h]; clear h) | (go_at_call 53; refine hm.mono ?_; rintro e w1 ⟨rfl, b1⟩))
  go_ret
  exact ⟨ret_u32 Hx.out, b1⟩

set_option maxRecDepth 10000 in
set_option maxHeartbeats 1000000 in
theorem refMore_narrow (reg : Nat) (a : Option Addr) (cap : Nat) (xs : List UInt8) (w : World) (hreg : reg < 4294967296) (hl : xs.length ≤ 100000) (hc : BytesAt w a xs) :
    Calls Try.prog 47 #[.int .u32 (reg : Int), .slice a xs.length cap, .bool false] w fun e w' => e = .returned (.int .u32 (Fc.more 33800 (reg &&& Fc.ones false) xs : Nat)) ∧ w' = w := by
  have hand := Fc.and32 reg (Fc.ones false) hreg (Fc.ones_lt32 false)
  have hstart : reg &&& Fc.ones false < 2 ^ (8 * Fc.size false) := by rw [Fc.and_ones]; exact Nat.mod_lt _ (Nat.pow_pos (by omega))
  have Hstart := Lib.hid hstart
  have Hc := Lib.hid hc
  have Hand := Lib.hid hand
  generalize reg &&& Fc.ones false = r0 at Hand Hstart ⊢
  clear hc hstart hand
  go_enter Try.func47, Try.ntmps47
  go_wp2_with (go_at_call 46; refine (refOnes_any false _).mono ?_; rintro e w' ⟨rfl, h⟩; rw [h]; clear h)
  rw [Hand.out]
  clear Hand
  go_loop [8, 9, 10, 11] (fun r i _ _ => ∃ k : Nat, k ≤ xs.length ∧ i = .int .i64 (k : Int) ∧ r = .int .u32 (Fc.more 33800 r0 (xs.take k) : Nat)) (fun _ i _ _ => xs.length - (intOf i).toNat)
  case atStart => exact ⟨0, Nat.zero_le _, rfl, rfl⟩
  case round =>
    obtain ⟨k, hk, rfl, rfl⟩ := hrel
    have hml := Fc.more_lt32 r0 (xs.take k) false Hstart.out
    rw [show Fc.poly false = 33800 from rfl] at hml
    by_cases hlt : (k : Int) < (xs.length : Int)
    · have hk' : k < xs.length := by omega
      obtain ⟨b, off, rfl, hb, hcc⟩ : ∃ b off, a = some ⟨b, off, none⟩ ∧ b < w.heap.size ∧ ∀ j (h : j < xs.length), w.cell? ⟨b, off + j, none⟩ = some (.int .u8 (xs[j].toNat : Int)) := by
        rcases Hc.out with rfl | h
        · simp at hk'
        · exact h
      have hcell := hcc k hk'
      have hst := Fc.more_take 33800 r0 xs k hk'
      obtain ⟨x, hxx⟩ : ∃ x, x = xs[k].toNat := ⟨_, rfl⟩
      have hx8 : x < 256 := by rw [hxx]; exact UInt8.toNat_lt _
      rw [← hxx] at hcell hst
      obtain ⟨m, hm⟩ : ∃ m, m = Fc.more 33800 r0 (xs.take k) := ⟨_, rfl⟩
      rw [← hm] at hml hst ⊢
      have hxor := Fc.xor32 m x hml (by omega)
      have hyl : m ^^^ x < 4294967296 := Fc.xor_lt _ _ hml (by omega)
      generalize m ^^^ x = y at hst hxor hyl
      have hxi : (x : Int) % 4294967296 = (x : Int) := by omega
      have Hst := Lib.hid hst
      have Hxor := Lib.hid hxor
      clear hst hm hxx hcc hxor
      go_wp2
      rw [Hxor.out]
      clear Hxor
      go_loop [8, 10, 11] (fun r i _ => ∃ j : Nat, j ≤ 8 ∧ i = .int .i64 (j : Int) ∧ r = .int .u32 (Fc.run 33800 j y : Nat)) (fun _ i _ => 8 - (intOf i).toNat)
      case atStart => exact ⟨0, Nat.zero_le _, rfl, rfl⟩
      case round =>
        obtain ⟨j, hj, rfl, rfl⟩ := hrel
        have hrl := Fc.run_lt32 33800 y j (by omega) hyl
        by_cases hlt2 : (j : Int) < 8
        · have hst2 : Fc.run 33800 (j + 1) y = Fc.step 33800 (Fc.run 33800 j y) := rfl
          obtain ⟨q, hq⟩ : ∃ q, q = Fc.run 33800 j y := ⟨_, rfl⟩
          rw [← hq] at hrl hst2 ⊢
          clear hq
          by_cases h2 : q % 2 = 1
          · rw [Fc.step_odd _ q h2] at hst2
            have hx := Fc.xor32 (q / 2) 33800 (by omega) (by omega)
            have h2i : (q : Int) % 2 = 1 := by omega
            have Hst2 := Lib.hid hst2
            have Hx := Lib.hid hx
            clear hst2 hx h2
            go_wp2
            go_round
            case rel => exact ⟨j + 1, by omega, by go_num, by rw [Hst2.out, ← Hx.out]; congr 1⟩
            case measure => simp [intOf]; omega
          · rw [Fc.step_even _ q h2] at hst2
            have h2i : (q : Int) % 2 = 0 := by omega
            have Hst2 := Lib.hid hst2
            clear hst2 h2
            go_wp2
            go_round
            case rel => exact ⟨j + 1, by omega, by go_num, by rw [Hst2.out]; congr 1⟩
            case measure => simp [intOf]; omega
        · have hks : j = 8 := by omega
          subst hks
          rw [← Hst.out]
          go_wp2
          go_round
          case rel => exact ⟨k + 1, by omega, by go_num, rfl⟩
          case measure => simp [intOf]; omega
    · have hkl : k = xs.length := by omega
      subst hkl
      rw [List.take_length]
      go_wp2
      go_ret
      exact ⟨rfl, rfl⟩

set_option maxRecDepth 10000 in
set_option maxHeartbeats 1000000 in
theorem refMore_wide (reg : Nat) (a : Option Addr) (cap : Nat) (xs : List UInt8) (w : World) (hreg : reg < 4294967296) (hl : xs.length ≤ 100000) (hc : BytesAt w a xs) :
    Calls Try.prog 47 #[.int .u32 (reg : Int), .slice a xs.length cap, .bool true] w fun e w' => e = .returned (.int .u32 (Fc.more 3988292384 (reg &&& Fc.ones true) xs : Nat)) ∧ w' = w := by
  have hand := Fc.and32 reg (Fc.ones true) hreg (Fc.ones_lt32 true)
  have hstart : reg &&& Fc.ones true < 2 ^ (8 * Fc.size true) := by rw [Fc.and_ones]; exact Nat.mod_lt _ (Nat.pow_pos (by omega))
  have Hstart := Lib.hid hstart
  have Hc := Lib.hid hc
  have Hand := Lib.hid hand
  generalize reg &&& Fc.ones true = r0 at Hand Hstart ⊢
  clear hc hstart hand
  go_enter Try.func47, Try.ntmps47
  go_wp2_with (go_at_call 46; refine (refOnes_any true _).mono ?_; rintro e w' ⟨rfl, h⟩; rw [h]; clear h)
  rw [Hand.out]
  clear Hand
  go_loop [8, 9, 10, 11] (fun r i _ _ => ∃ k : Nat, k ≤ xs.length ∧ i = .int .i64 (k : Int) ∧ r = .int .u32 (Fc.more 3988292384 r0 (xs.take k) : Nat)) (fun _ i _ _ => xs.length - (intOf i).toNat)
  case atStart => exact ⟨0, Nat.zero_le _, rfl, rfl⟩
  case round =>
    obtain ⟨k, hk, rfl, rfl⟩ := hrel
    have hml := Fc.more_lt32 r0 (xs.take k) true Hstart.out
    rw [show Fc.poly true = 3988292384 from rfl] at hml
    by_cases hlt : (k : Int) < (xs.length : Int)
    · have hk' : k < xs.length := by omega
      obtain ⟨b, off, rfl, hb, hcc⟩ : ∃ b off, a = some ⟨b, off, none⟩ ∧ b < w.heap.size ∧ ∀ j (h : j < xs.length), w.cell? ⟨b, off + j, none⟩ = some (.int .u8 (xs[j].toNat : Int)) := by
        rcases Hc.out with rfl | h
        · simp at hk'
        · exact h
      have hcell := hcc k hk'
      have hst := Fc.more_take 3988292384 r0 xs k hk'
      obtain ⟨x, hxx⟩ : ∃ x, x = xs[k].toNat := ⟨_, rfl⟩
      have hx8 : x < 256 := by rw [hxx]; exact UInt8.toNat_lt _
      rw [← hxx] at hcell hst
      obtain ⟨m, hm⟩ : ∃ m, m = Fc.more 3988292384 r0 (xs.take k) := ⟨_, rfl⟩
      rw [← hm] at hml hst ⊢
      have hxor := Fc.xor32 m x hml (by omega)
      have hyl : m ^^^ x < 4294967296 := Fc.xor_lt _ _ hml (by omega)
      generalize m ^^^ x = y at hst hxor hyl
      have hxi : (x : Int) % 4294967296 = (x : Int) := by omega
      have Hst := Lib.hid hst
      have Hxor := Lib.hid hxor
      clear hst hm hxx hcc hxor
      go_wp2
      rw [Hxor.out]
      clear Hxor
      go_loop [8, 10, 11] (fun r i _ => ∃ j : Nat, j ≤ 8 ∧ i = .int .i64 (j : Int) ∧ r = .int .u32 (Fc.run 3988292384 j y : Nat)) (fun _ i _ => 8 - (intOf i).toNat)
      case atStart => exact ⟨0, Nat.zero_le _, rfl, rfl⟩
      case round =>
        obtain ⟨j, hj, rfl, rfl⟩ := hrel
        have hrl := Fc.run_lt32 3988292384 y j (by omega) hyl
        by_cases hlt2 : (j : Int) < 8
        · have hst2 : Fc.run 3988292384 (j + 1) y = Fc.step 3988292384 (Fc.run 3988292384 j y) := rfl
          obtain ⟨q, hq⟩ : ∃ q, q = Fc.run 3988292384 j y := ⟨_, rfl⟩
          rw [← hq] at hrl hst2 ⊢
          clear hq
          by_cases h2 : q % 2 = 1
          · rw [Fc.step_odd _ q h2] at hst2
            have hx := Fc.xor32 (q / 2) 3988292384 (by omega) (by omega)
            have h2i : (q : Int) % 2 = 1 := by omega
            have Hst2 := Lib.hid hst2
            have Hx := Lib.hid hx
            clear hst2 hx h2
            go_wp2
            go_round
            case rel => exact ⟨j + 1, by omega, by go_num, by rw [Hst2.out, ← Hx.out]; congr 1⟩
            case measure => simp [intOf]; omega
          · rw [Fc.step_even _ q h2] at hst2
            have h2i : (q : Int) % 2 = 0 := by omega
            have Hst2 := Lib.hid hst2
            clear hst2 h2
            go_wp2
            go_round
            case rel => exact ⟨j + 1, by omega, by go_num, by rw [Hst2.out]; congr 1⟩
            case measure => simp [intOf]; omega
        · have hks : j = 8 := by omega
          subst hks
          rw [← Hst.out]
          go_wp2
          go_round
          case rel => exact ⟨k + 1, by omega, by go_num, rfl⟩
          case measure => simp [intOf]; omega
    · have hkl : k = xs.length := by omega
      subst hkl
      rw [List.take_length]
      go_wp2
      go_ret
      exact ⟨rfl, rfl⟩

theorem refMore_any (reg : Nat) (a : Option Addr) (n cap : Nat) (xs : List UInt8) (wide : Bool) (w : World) (hn : xs.length = n) (hreg : reg < 4294967296) (hl : n ≤ 100000) (hc : RowAt w a cap xs) :
    Calls Try.prog 47 #[.int .u32 (reg : Int), .slice a n cap, .bool wide] w fun e w' => e = .returned (.int .u32 (Fc.moreOf reg xs wide : Nat)) ∧ w' = w := by
  subst hn
  cases wide
  · exact refMore_narrow reg a cap xs w hreg hl hc.bytes
  · exact refMore_wide reg a cap xs w hreg hl hc.bytes

theorem refOf_any (a : Option Addr) (n cap : Nat) (xs : List UInt8) (wide : Bool) (w : World) (hn : xs.length = n) (hl : n ≤ 100000) (hc : RowAt w a cap xs) :
    Calls Try.prog 34 #[.slice a n cap, .bool wide] w fun e w' => e = .returned (.int .u32 (Fc.of xs wide : Nat)) ∧ w' = w := by
  have hm := refMore_any (Fc.ones wide) a n cap xs wide w hn (Fc.ones_lt32 wide) hl hc
  have hx := Fc.of_sub xs wide
  have hle : Fc.moreOf (Fc.ones wide) xs wide ≤ Fc.ones wide := by
    have := Fc.moreOf_lt (Fc.ones wide) xs wide
    have h1 := Fc.ones_pow wide
    omega
  have hol := Fc.ones_lt32 wide
  generalize Fc.moreOf (Fc.ones wide) xs wide = M at hm hx hle
  have Hx := Lib.hid hx
  clear hx
  go_enter Try.func34, Try.ntmps34
  go_wp2_with (first | (go_at_call 46; refine (refOnes_any wide _).mono ?_; rintro e w' ⟨rfl, h⟩; rw [h]; clear h) | (go_at_call 47; refine hm.mono ?_; rintro e w1 ⟨rfl, h⟩; rw [h]; clear h))
  go_ret
  exact ⟨ret_u32 (by rw [Hx.out]; omega), rfl⟩
end Go.Proofs.Ythmljgpnkealaaa
