/- Contract of the document's Read. -/
import Derived.Test.YtbbfhajokiajpaaSc
namespace Go.Proofs.Ytbbfhajokiajpaa
open Go.RowKit

/-- The cell of a slice of one value. -/
theorem cell_one_new (w : World) (u : Value) (e : TypeId) : ∀ j v, [u][j]? = some v → (w.alloc (.cells #[u] e)).cell? ((⟨w.heap.size, 0, none⟩ : Addr).add j) = some v := by
  intro j v h
  have hj : j = 0 := by
    have := (List.getElem?_eq_some_iff.1 h).1
    simpa using this
  subst hj
  rw [Go.WideShapes.add_plain]
  simp only [World.cell?, heap_alloc_new]
  simpa using h

theorem one_drop {xs : List UInt8} {j : Nat} {x : UInt8} (h : xs[j]? = some x) : Pp.one (xs.drop j) = if xs.length < j + 1 + x.toNat then none else some ((xs.take (j + 1 + x.toNat)).drop (j + 1), xs.drop (j + 1 + x.toNat)) := by
  have hj : j < xs.length := (List.getElem?_eq_some_iff.1 h).1
  have e : xs.drop j = x :: xs.drop (j + 1) := by
    rw [List.drop_eq_getElem_cons hj]
    congr 1
    exact (List.getElem?_eq_some_iff.1 h).2
  rw [e, Pp.one, List.length_drop, List.drop_drop]
  by_cases hl : xs.length < j + 1 + x.toNat
  · rw [if_pos (by omega), if_pos hl]
  · rw [if_neg (by omega), if_neg hl, List.drop_take, show j + 1 + x.toNat - (j + 1) = x.toNat by omega]
set_option maxRecDepth 100000 in
set_option maxHeartbeats 1000000 in
theorem refRead_any (a : Option Addr) (n c K : Nat) (xs : List UInt8) (w : World) (hn : xs.length = n) (hm : n ≤ 300000) (hK : K ≤ 1000) (h : RowAt w a c xs) :
    Calls Try.prog 18 #[.slice a n c, .int .i64 (K : Int)] w fun e w' => ReadRes w w' e K (Pp.read K xs) := by
  obtain ⟨i0, hi, hz0, hz1, hz2⟩ := info_parts info9
  have i1 : (K : Int) ≤ 1000 := by omega
  have hA := Pp.on_read K xs
  generalize Pp.read K xs = A at *
  have HA := Lib.hid hA
  clear hA
  go_enter Try.func18, Try.ntmps18
  go_wp2
  go_loopw [6, 7, 8] (fun v t i wr => ∃ (k j : Nat) (pre : List (List UInt8)), k ≤ K ∧ j ≤ n ∧ i = .int .i64 (k : Int) ∧ t = .int .i64 (j : Int) ∧ wr.ownsRow w.heap.size 9 1 v k (strs pre) ∧ Hid (Pp.on pre (Pp.reads (K - k) (xs.drop j)) = A) ∧ Below w.heap.size w wr) (fun _ _ i _ => K - (intOf i).toNat)
  case atStart => exact ⟨0, 0, [], Nat.zero_le _, Nat.zero_le _, rfl, rfl, World.ownsRow_nil _ _ _ _, HA.out, Below.refl _ _⟩
  case round =>
    obtain ⟨k, j, pre, hk, hj, rfl, rfl, hO, hA, hB⟩ := hrel
    have i7 : (j : Int) ≤ 300000 := by omega
    by_cases hlt : k < K
    · have i2 : (k : Int) < (K : Int) := by omega
      obtain ⟨q, hq⟩ : ∃ q, K - k = q + 1 := ⟨K - k - 1, by omega⟩
      have hq2 : K - (k + 1) = q := by omega
      rw [hq] at hA
      have ha := hA.out
      by_cases hjn : j < n
      · obtain ⟨x, hx⟩ : ∃ x, xs[j]? = some x := ⟨_, List.getElem?_eq_getElem (by omega)⟩
        have ho := one_drop hx
        rw [hn] at ho
        obtain ⟨b, off, rfl⟩ := h.some (by omega)
        have hcn := h.le
        rw [hn] at hcn
        have c1 : wr.cell? ⟨b, off + j, none⟩ = some (.int .u8 (x.toNat : Int)) := by
          have := (h.next hB).cell _ rfl j (.int .u8 (x.toNat : Int)) (by simp [Lib.byteCells, hx])
          rwa [Go.WideShapes.add_plain] at this
        have hxl := UInt8.toNat_lt x
        have hw1 : IntKind.i64.wrap (x.toNat : Int) = (x.toNat : Int) := by rw [IntKind.wrap_i64]; omega
        by_cases hs : n < j + 1 + x.toNat
        · have i3 : (n : Int) < (j : Int) + 1 + (x.toNat : Int) := by omega
          rw [if_pos hs] at ho
          rw [Pp.on_none ho] at ha
          subst ha
          have HB := Lib.hid hB
          clear hA hO hB ho h HA
          go_wp2
          go_ret2
          exact ⟨_, rfl, HB.out, fun e => by cases e⟩
        · have i3 : (j : Int) + 1 + (x.toNat : Int) ≤ (n : Int) := by omega
          have i4 : (n : Int) ≤ (c : Int) := by omega
          rw [if_neg hs] at ho
          rw [Pp.on_one ho] at ha
          have hcut := (h.next hB).cut (j + 1) (j + 1 + x.toNat) (by omega) (by omega)
          have hcl : ((xs.take (j + 1 + x.toNat)).drop (j + 1)).length = x.toNat := by rw [List.length_drop, List.length_take]; omega
          have hcv := conv_row hcl hcut
          have HB := Lib.hid hB
          have HA2 := Lib.hid ha
          have HO := Lib.hid hO
          clear hA hO hB ho h HA ha hcut hcl
          generalize (xs.take (j + 1 + x.toNat)).drop (j + 1) = t at *
          generalize x.toNat = z at *
          rw [Option.map_some, Go.WideShapes.add_plain] at hcv
          go_wp2_with (at_builtin; refine wpList_append_own _ rfl (.tmp 31) (.tmp 41) 31 rfl w.heap.size 9 i0 (.string ⟨#[]⟩) 1 16 Try.underlying31 hi hz0 hz1 hz2 rfl (by decide) _ k (strs pre) rfl (HO.out.alloc _) ⟨wr.heap.size, 0, none⟩ 1 1 [.string ⟨t.toArray⟩] rfl rfl (cell_one_new _ _ _) (fun u hu => by simp at hu; subst hu; rfl) (by unfold maxLen; omega) (by omega) (by have := HB.out.size; simp; omega) ?_; intro v2 w2 o2 g2 _; have B2 := Lib.hid (Below.grown (HB.out.alloc HB.out.size _) g2 (by have := HB.out.size; simp; omega) (fun j hj => (HO.out.lt j hj).1)); have O2 : Hid (w2.ownsRow w.heap.size 9 1 v2 (k + 1) (strs (pre ++ [t]))) := (by rw [strs_append]; exact o2); clear o2 g2)
          all_goals go_roundw
          all_goals first
            | exact ⟨k + 1, j + 1 + z, pre ++ [t], by omega, by omega, by go_num, by go_num, O2.out, by rw [hq2]; exact HA2, B2.out⟩
            | (simp [intOf]; omega)
      · have hjn2 : j = n := by omega
        have i3 : (n : Int) ≤ (j : Int) := by omega
        have ho : Pp.one (xs.drop j) = none := by rw [List.drop_eq_nil_of_le (by omega)]; rfl
        rw [Pp.on_none ho] at ha
        subst ha
        have HB := Lib.hid hB
        clear hA hO hB ho h HA
        go_wp2
        go_ret2
        exact ⟨_, rfl, HB.out, fun e => by cases e⟩
    · have hkK : k = K := by omega
      subst hkK
      rw [Nat.sub_self] at hA
      have ha := hA.out
      rw [Pp.on_end] at ha
      have HO := Lib.hid hO
      have HB := Lib.hid hB
      clear hA hO hB h HA
      by_cases hjn : j < n
      · rw [if_neg (by intro e; have := congrArg List.length e; rw [List.length_drop] at this; simp at this; omega)] at ha
        subst ha
        have i3 : (j : Int) < (n : Int) := by omega
        go_wp2
        go_ret2
        exact ⟨_, rfl, HB.out, fun e => by cases e⟩
      · rw [if_pos (List.drop_eq_nil_of_le (by omega))] at ha
        subst ha
        have i3 : (n : Int) ≤ (j : Int) := by omega
        go_wp2
        go_ret2
        exact ⟨_, rfl, HB.out, fun _ => HO.out⟩
end Go.Proofs.Ytbbfhajokiajpaa
