/- Contracts of strconv.FormatUint at base 16, of Dec and of Hex. -/
import Derived.Test.YtiiaahhdlgoklaaDoorWb
import Derived.Laws.BitsAllLaws
namespace Go.Proofs.YtiiaahhdlgoklaaDoor
open Go.RowKit Go.Sort

theorem neg16 : bits BinOp.and IntKind.u64 16 (IntKind.u64.wrap (-16)) = 16 := by decide +kernel
theorem mul16 : IntKind.u64.wrap 4573923408821661840 = 4573923408821661840 := by decide +kernel
theorem and1615 : bits BinOp.and IntKind.i64 16 15 = 0 := by decide +kernel

set_option maxRecDepth 100000 in
theorem tz16 (w : World) (hT : w.cell? ⟨2, 15, none⟩ = some (.int .u8 4)) :
    Calls Tryd.prog 41 #[.int .u64 16] w fun e w' => e = .returned (.int .i64 4) ∧ w' = w := by
  have h1 := neg16
  have h2 := mul16
  go_enter Tryd.func41, Tryd.ntmps41
  go_wp2
  go_ret
  exact ⟨rfl, rfl⟩
def z65 : Array Value := Array.replicate 65 (.int .u8 0)
theorem zero57 (w : World) : (zeroValue 57).run Tryd.prog w = .ok (.agg z65) w := by kernel_rfl

theorem d36_fin : ∀ d : Fin 16, (⟨#[48, 49, 50, 51, 52, 53, 54, 55, 56, 57, 97, 98, 99, 100, 101, 102, 103, 104, 105, 106, 107, 108, 109, 110, 111, 112, 113, 114, 115, 116, 117, 118, 119, 120, 121, 122]⟩ : ByteArray)[d.val]'(Nat.lt_trans d.isLt (by decide)) = Dg.sg d.val := by decide +kernel
theorem d36 (d : Nat) (h : d < 16) (h' : d < (⟨#[48, 49, 50, 51, 52, 53, 54, 55, 56, 57, 97, 98, 99, 100, 101, 102, 103, 104, 105, 106, 107, 108, 109, 110, 111, 112, 113, 114, 115, 116, 117, 118, 119, 120, 121, 122]⟩ : ByteArray).size) : (⟨#[48, 49, 50, 51, 52, 53, 54, 55, 56, 57, 97, 98, 99, 100, 101, 102, 103, 104, 105, 106, 107, 108, 109, 110, 111, 112, 113, 114, 115, 116, 117, 118, 119, 120, 121, 122]⟩ : ByteArray)[d]'h' = Dg.sg d := d36_fin ⟨d, h⟩

theorem cells_step (C : Array Value) (T : List UInt8) (c : UInt8) (k : Nat) (hC : C.size = 65) (hk : 1 ≤ k) (hk2 : k ≤ 65) (h : ∀ j (h : j < T.length), C[k + j]? = some (.int .u8 (T[j].toNat : Int))) :
    ∀ j (h : j < (c :: T).length), (C.setIfInBounds (k - 1) (.int .u8 (c.toNat : Int)))[k - 1 + j]? = some (.int .u8 ((c :: T)[j].toNat : Int)) := by
  intro j hj
  cases j with
  | zero => simp [Array.getElem?_setIfInBounds, hC]; omega
  | succ i =>
    have hi : i < T.length := by simpa using hj
    have := h i hi
    rw [Array.getElem?_setIfInBounds, if_neg (by omega), show k - 1 + (i + 1) = k + i by omega, this]
    rfl

theorem rel16 (w : World) (C : Array Value) (T : List UInt8) (m k u : Nat) (hC : C.size = 65) (hk3 : 51 ≤ k) (hk2 : k ≤ 65) (hm : m < 18446744073709551616) (h16 : 16 ≤ m) (hst : m / 16 < 16 ^ (k - 1 - 49))
    (hT : T.length = 65 - k) (hCT : ∀ j (h : j < T.length), C[k + j]? = some (.int .u8 (T[j].toNat : Int))) (hS : Dg.putB 16 m ++ T = Dg.putB 16 u) (h' : m % 16 < (⟨#[48, 49, 50, 51, 52, 53, 54, 55, 56, 57, 97, 98, 99, 100, 101, 102, 103, 104, 105, 106, 107, 108, 109, 110, 111, 112, 113, 114, 115, 116, 117, 118, 119, 120, 121, 122]⟩ : ByteArray).size) :
    ∃ (m1 k1 : Nat) (C1 : Array Value) (T1 : List UInt8), w.alloc (.cells (C.setIfInBounds (k - 1) (.int .u8 (((⟨#[48, 49, 50, 51, 52, 53, 54, 55, 56, 57, 97, 98, 99, 100, 101, 102, 103, 104, 105, 106, 107, 108, 109, 110, 111, 112, 113, 114, 115, 116, 117, 118, 119, 120, 121, 122]⟩ : ByteArray)[m % 16]'h').toNat : Int))) 57) = w.alloc (.cells C1 57) ∧ C1.size = 65 ∧ Value.int .u64 ((m : Int) / 16) = .int .u64 (m1 : Int) ∧ Value.int .i64 ((k : Int) - 1) = .int .i64 (k1 : Int) ∧ 50 ≤ k1 ∧ k1 ≤ 65 ∧ m1 < 18446744073709551616 ∧ Hid (m1 < 16 ^ (k1 - 49)) ∧ Hid (T1.length = 65 - k1) ∧ Hid (∀ j (h : j < T1.length), C1[k1 + j]? = some (.int .u8 (T1[j].toNat : Int))) ∧ Hid (Dg.putB 16 m1 ++ T1 = Dg.putB 16 u) := by
  refine ⟨m / 16, k - 1, _, Dg.sg (m % 16) :: T, rfl, by simp [hC], by congr 1, by congr 1; omega, by omega, by omega, by omega, hst, ?_, ?_, ?_⟩
  · show (Dg.sg (m % 16) :: T).length = 65 - (k - 1)
    simp [hT]; omega
  · show ∀ j, _
    rw [d36 (m % 16) (Nat.mod_lt _ (by omega))]
    exact cells_step C T _ k hC (by omega) hk2 hCT
  · show _ = _
    rw [← hS, Dg.putB_big 16 m (by omega) h16]; simp

set_option maxHeartbeats 1600000 in
set_option maxRecDepth 100000 in
theorem formatBits16 (u : Nat) (hu : u < 18446744073709551616) (w : World) (hT : ∀ o, (w.alloc o).cell? ⟨2, 15, none⟩ = some (.int .u8 4)) :
    Calls Tryd.prog 35 #[.slice none 0 0, .int .u64 (u : Int), .int .i64 16, .bool false, .bool false] w fun e w' => e = .returned (.tuple #[.slice none 0 0, .string ⟨(Dg.putB 16 u).toArray⟩]) ∧ Below w.heap.size w w' := by
  have h1 := and1615
  have hz := zero57
  go_enter Tryd.func35, Tryd.ntmps35
  go_wp2_with (first | (go_at_call 41; refine (tz16 _ (hT _)).mono ?_; rintro e w' ⟨rfl, rfl⟩) | go_in)
  go_loopw [1, 13] (fun uu ii wr => ∃ (m k : Nat) (C : Array Value) (T : List UInt8), wr = w.alloc (.cells C 57) ∧ C.size = 65 ∧ uu = .int .u64 (m : Int) ∧ ii = .int .i64 (k : Int) ∧ 50 ≤ k ∧ k ≤ 65 ∧ m < 18446744073709551616 ∧ Hid (m < 16 ^ (k - 49)) ∧ Hid (T.length = 65 - k) ∧ Hid (∀ j (h : j < T.length), C[k + j]? = some (.int .u8 (T[j].toNat : Int))) ∧ Hid (Dg.putB 16 m ++ T = Dg.putB 16 u)) (fun uu _ _ => (intOf uu).toNat)
  case atStart => exact ⟨u, 65, z65, [], rfl, by simp [z65], rfl, rfl, by omega, by omega, hu, hu, rfl, fun j h => by simp at h, by show _ = _; simp⟩
  case round =>
    obtain ⟨m, k, C, T, rfl, hC, rfl, rfl, hk1, hk2, hm, Hm, HT, HC, HS⟩ := hrel
    by_cases hlt : (16 : Int) ≤ (m : Int)
    · have hst := Dg.hx_step k m hk1 Hm.out (by omega)
      have hk3 := hst.1
      have han : bits .and .u64 (m : Int) 15 = ((m % 16 : Nat) : Int) := by
        have := u64_and_nat m 15 hm (by omega)
        rw [Nat.and_two_pow_sub_one_eq_mod m 4] at this
        exact this
      have hm16 : m % 16 < 16 := Nat.mod_lt _ (by omega)
      obtain ⟨v0, hv0⟩ : ∃ v, C[k - 1]? = some v := ⟨_, Array.getElem?_eq_getElem (by omega)⟩
      go_wp2
      go_roundw
      case rel => exact rel16 w C T m k u hC hk3 hk2 hm (by omega) hst.2 HT.out HC.out HS.out _
      case measure => simp [intOf]; omega
    · have hm16 : m < 16 := by omega
      obtain ⟨v0, hv0⟩ : ∃ v, C[k - 1]? = some v := ⟨_, Array.getElem?_eq_getElem (by omega)⟩
      have hd := d36 m hm16
      have hal : Tryd.prog.arrayLen 57 = 65 := by simp [Program.arrayLen, Tryd.underlying57]
      have hsl : ∀ W, (Instr.sliceAt 57 (.pointer (some ⟨w.heap.size, 0, none⟩)) (some (.int .i64 ((k : Int) - 1))) none none).run Tryd.prog W = .ok (.slice (some ⟨w.heap.size, k - 1, none⟩) (66 - k) (66 - k)) W := fun W => by
        rw [run_sliceAt_array_l W 57 ⟨w.heap.size, 0, none⟩ (by simp [Program.arrayLen, Program.elem, Tryd.underlying57]) .i64 ((k : Int) - 1) (by omega) (by rw [hal]; omega)]
        rw [hal, show ((k : Int) - 1).toNat = k - 1 by omega]
        go_simp
        omega
      have hcv : (convert 23 9 (.slice (some ⟨w.heap.size, k - 1, none⟩) (66 - k) (66 - k))).run Tryd.prog (w.alloc (.cells (C.setIfInBounds (k - 1) (.int .u8 ((Dg.sg m).toNat : Int))) 57)) = .ok (.string ⟨(Dg.putB 16 u).toArray⟩) (w.alloc (.cells (C.setIfInBounds (k - 1) (.int .u8 ((Dg.sg m).toNat : Int))) 57)) := by
        have h := run_convert_bytes_back (P := Tryd.prog) (w.alloc (.cells (C.setIfInBounds (k - 1) (.int .u8 ((Dg.sg m).toNat : Int))) 57)) 23 9 5 ⟨w.heap.size, k - 1, none⟩ (66 - k) (Dg.sg m :: T) Tryd.underlying23 Tryd.underlying5 Tryd.underlying9 (fun j hj => by
          rw [Lib.add_plain, World.cell?_alloc_new]
          exact cells_step C T (Dg.sg m) k hC (by omega) hk2 HC.out j hj)
        rw [← HS.out, Dg.putB_small 16 m hm16]
        rw [List.length_cons, HT.out, show 65 - k + 1 = 66 - k by omega] at h
        exact h
      clear hal
      go_wp2
      go_ret2
      exact ⟨rfl, (Below.refl _ _).alloc (Nat.le_refl _) _⟩

theorem dec_putB (n : Nat) : Lib.decDigits n = Dg.putB 10 n := by
  induction n using Nat.strongRecOn with
  | _ n ih =>
    rw [Lib.decDigits]
    split
    · rename_i h
      rw [Dg.putB_small 10 n h, Dg.sg, if_pos h]
    · rename_i h
      rw [Dg.putB_big 10 n (by omega) (by omega), ih (n / 10) (by omega), Dg.sg, if_pos (Nat.mod_lt _ (by omega))]

/-- What the library's tables hold, as far as the calls read them. -/
def Tabs (w : World) : Prop := Lib.TabIs Tryd.prog w "internal/strconv.uint64pow10" .u64 Lib.pow10Tab ∧ w.cell? ⟨2, 15, none⟩ = some (.int .u8 4) ∧ 3 ≤ w.heap.size
theorem gPow : Tryd.prog.globalNamed "internal/strconv.uint64pow10" = some 0 := by kernel_rfl
theorem Tabs.below {B : Nat} {w w' : World} (h : Tabs w) (hb : Below B w w') (hB : 3 ≤ B) : Tabs w' :=
  ⟨var?_below hb gPow (by omega) h.1, by rw [hb.cell (p := ⟨2, 15, none⟩) (by show 2 < B; omega)]; exact h.2.1, Nat.le_trans h.2.2 hb.size⟩

theorem formatUint16 (u : Nat) (hu : u < 18446744073709551616) (w : World) (ht : Tabs w) :
    Calls Tryd.prog 30 #[.int .u64 (u : Int), .int .i64 16] w fun e w' => e = .returned (.string ⟨(Dg.putB 16 u).toArray⟩) ∧ Below w.heap.size w w' := by
  have hT : ∀ o, (w.alloc o).cell? ⟨2, 15, none⟩ = some (.int .u8 4) := fun o => by
    rw [((Below.refl w.heap.size w).alloc (Nat.le_refl _) o).cell (p := ⟨2, 15, none⟩) (by have := ht.2.2; show 2 < _; omega)]; exact ht.2.1
  have HT := Lib.hid hT
  clear hT
  go_enter Tryd.func30, Tryd.ntmps30
  go_wp2_with (go_at_call 35; refine (formatBits16 u hu _ HT.out).mono ?_; rintro e w' ⟨rfl, hb⟩)
  go_ret
  exact ⟨rfl, hb⟩
theorem dec_any (n : Nat) (hn : n < 18446744073709551616) (w : World) (ht : Tabs w) :
    Calls Tryd.prog 10 #[.int .u64 (n : Int)] w fun e w' => e = .returned (.string ⟨(Dg.putB 10 n).toArray⟩) ∧ Below w.heap.size w w' := by
  rw [← dec_putB]
  go_enter Tryd.func10, Tryd.ntmps10
  go_wp2_with (first | (go_at_call 30; refine (formatUint10 n hn _ ht.1).mono ?_; rintro e w' ⟨rfl, hb⟩) | go_in)
  go_ret
  exact ⟨rfl, hb⟩
theorem hex_any (n : Nat) (hn : n < 18446744073709551616) (w : World) (ht : Tabs w) :
    Calls Tryd.prog 12 #[.int .u64 (n : Int)] w fun e w' => e = .returned (.string ⟨(Dg.putB 16 n).toArray⟩) ∧ Below w.heap.size w w' := by
  go_enter Tryd.func12, Tryd.ntmps12
  go_wp2_with (first | (go_at_call 30; refine (formatUint16 n hn _ ht).mono ?_; rintro e w' ⟨rfl, hb⟩) | go_in)
  go_ret
  exact ⟨rfl, hb⟩
end Go.Proofs.YtiiaahhdlgoklaaDoor
