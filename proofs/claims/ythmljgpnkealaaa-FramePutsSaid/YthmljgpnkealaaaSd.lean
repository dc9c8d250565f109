/- Contracts of the document's Stuff, Left and Unstuff. -/
import Derived.Test.YthmljgpnkealaaaSc
import Derived.WalkSmall
namespace Go.Proofs.Ythmljgpnkealaaa
open Go.RowKit

set_option maxHeartbeats 1000000 in
theorem refStuff_own (cap m n : Nat) (a : Option Addr) (xs : List UInt8) (w : World) (hn : xs.length = n) (hm : m < 4294967296) (hx : n ≤ 100000) (hr : BytesAt w a xs) :
    Calls Try.prog 23 #[.slice a n cap, .int .u32 (m : Int)] w fun e w' => ∃ v, e = .returned v ∧ w'.ownsRow w.heap.size 5 1 v (St.stuff m xs).length (Lib.byteCells (St.stuff m xs)) ∧ Below w.heap.size w w' := by
  obtain ⟨i0, hi, hz0, hz1, hz2⟩ := info_parts info5
  have Hr := Lib.hid hr
  have Hn := Lib.hid hn
  clear hr hn
  have hx' : (n : Int) ≤ 100000 := by omega
  go_enter Try.func23, Try.ntmps23
  go_wp2
  go_loopw [5, 6] (fun v i wr => ∃ k : Nat, k ≤ n ∧ i = .int .i64 (k : Int) ∧ wr.ownsRow w.heap.size 5 1 v (St.stuff m (xs.take k)).length (Lib.byteCells (St.stuff m (xs.take k))) ∧ Below w.heap.size w wr) (fun _ i _ => n - (intOf i).toNat)
  case atStart => exact ⟨0, Nat.zero_le _, rfl, World.ownsRow_nil _ _ _ _, Below.refl _ _⟩
  case round =>
    obtain ⟨k, hk, rfl, hown, hbw⟩ := hrel
    by_cases hlt : (k : Int) < (n : Int)
    · have hk' : k < xs.length := by rw [Hn.out]; omega
      rcases Hr.out with h0 | ⟨b, off, rfl, hb, hc⟩
      · rw [h0] at hk'; simp at hk'
      · have hcell : wr.cell? ⟨b, off + k, none⟩ = some (.int .u8 (xs[k].toNat : Int)) := by rw [hbw.cell (p := ⟨b, off + k, none⟩) hb]; exact hc k hk'
        have hst := St.stuff_take m xs k hk'
        have hle := (St.stuff_le m (xs.take k)).2
        rw [List.length_take] at hle
        clear hc
        obtain ⟨x, hxk⟩ : ∃ x, x = xs[k] := ⟨_, rfl⟩
        rw [← hxk] at hcell hst
        clear hxk hk'
        obtain ⟨S, hS⟩ : ∃ S, S = St.stuff m (xs.take k) := ⟨_, rfl⟩
        rw [← hS] at hst hown hle
        clear hS
        have Hst := Lib.hid hst
        clear hst
        have hS2 : S.length ≤ 200000 := by omega
        clear hle
        have hh := refApart_any m x.toNat wr hm
        cases hap : Ac.apart m x.toNat with
        | true =>
          rw [hap] at hh
          have H1 := Lib.hid (St.one_in m x hap)
          have Hh := Lib.hid hh
          clear hap hh
          have hx32 := St.tn_int x
          obtain ⟨x2, hx2⟩ : ∃ x2, x2 = St.tn x := ⟨_, rfl⟩
          rw [← hx2] at hx32
          have Hx2 := Lib.hid hx2
          clear hx2
          go_wp2_with (first | (go_at_call 33; refine Hh.out.mono ?_; rintro e w3 ⟨rfl, h2⟩; rw [h2]; clear h2) | (at_builtin; refine wpList_append_own _ rfl _ _ 26 rfl w.heap.size 5 i0 (.int .u8 0) 1 1 Try.underlying26 hi hz0 hz1 hz2 rfl (by decide) _ _ _ rfl (hown.alloc _) ⟨wr.heap.size, 0, none⟩ 2 2 [.int .u8 125, .int .u8 (x2.toNat : Int)] rfl rfl (cell_two_new _ _ _ _) (fun u hu => by simp at hu; rcases hu with rfl | rfl <;> rfl) (by unfold maxLen; omega) (by omega) (by have := hbw.size; simp; omega) ?_; intro v2 w2 hown2 hgr2 _))
          have hbw2 : Below w.heap.size w w2 := Below.grown (hbw.alloc hbw.size _) hgr2 (by have := hbw.size; simp; omega) (fun j hj => (hown.lt j hj).1)
          have o3 : w2.ownsRow w.heap.size 5 1 v2 (St.stuff m (xs.take (k + 1))).length (Lib.byteCells (St.stuff m (xs.take (k + 1)))) := by
            rw [Hst.out, H1.out, List.length_append, Lib.byteCells_append, ← Hx2.out]; exact hown2
          have O3 := Lib.hid o3
          clear o3 hown2 hgr2
          go_roundw
          case rel => exact ⟨k + 1, by omega, by go_num, O3.out, hbw2⟩
          case measure => simp [intOf]; omega
        | false =>
          rw [hap] at hh
          have H1 := Lib.hid (St.one_out m x hap)
          have Hh := Lib.hid hh
          clear hap hh
          go_wp2_with (first | (go_at_call 33; refine Hh.out.mono ?_; rintro e w3 ⟨rfl, h2⟩; rw [h2]; clear h2) | (at_builtin; refine wpList_append_own _ rfl _ _ 26 rfl w.heap.size 5 i0 (.int .u8 0) 1 1 Try.underlying26 hi hz0 hz1 hz2 rfl (by decide) _ _ _ rfl (hown.alloc _) ⟨wr.heap.size, 0, none⟩ 1 1 [.int .u8 (x.toNat : Int)] rfl rfl (cell_one_new _ _ _) (fun u hu => by simp at hu; subst hu; rfl) (by unfold maxLen; omega) (by omega) (by have := hbw.size; simp; omega) ?_; intro v2 w2 hown2 hgr2 _))
          have hbw2 : Below w.heap.size w w2 := Below.grown (hbw.alloc hbw.size _) hgr2 (by have := hbw.size; simp; omega) (fun j hj => (hown.lt j hj).1)
          have o3 : w2.ownsRow w.heap.size 5 1 v2 (St.stuff m (xs.take (k + 1))).length (Lib.byteCells (St.stuff m (xs.take (k + 1)))) := by
            rw [Hst.out, H1.out, List.length_append, Lib.byteCells_append]; exact hown2
          have O3 := Lib.hid o3
          clear o3 hown2 hgr2
          go_roundw
          case rel => exact ⟨k + 1, by omega, by go_num, O3.out, hbw2⟩
          case measure => simp [intOf]; omega
    · have hks : xs.take k = xs := List.take_of_length_le (by rw [Hn.out]; omega)
      rw [hks] at hown
      have Ho := Lib.hid hown
      clear hown hks
      go_wp2
      go_ret
      exact ⟨_, rfl, Ho.out, hbw⟩

set_option maxHeartbeats 1000000 in
theorem refLeft_own (cap m n : Nat) (a : Option Addr) (xs : List UInt8) (w : World) (hn : xs.length = n) (hm : m < 4294967296) (hx : n ≤ 100000) (hr : BytesAt w a xs) :
    Calls Try.prog 37 #[.slice a n cap, .int .u32 (m : Int)] w fun e w' => ∃ v, e = .returned v ∧ w'.ownsRow w.heap.size 5 1 v (St.left m xs).length (Lib.byteCells (St.left m xs)) ∧ Below w.heap.size w w' := by
  obtain ⟨i0, hi, hz0, hz1, hz2⟩ := info_parts info5
  have Hr := Lib.hid hr
  have Hn := Lib.hid hn
  clear hr hn
  have hx' : (n : Int) ≤ 100000 := by omega
  go_enter Try.func37, Try.ntmps37
  go_wp2
  go_loopw [5, 6] (fun v i wr => ∃ k : Nat, k ≤ n ∧ i = .int .i64 (k : Int) ∧ wr.ownsRow w.heap.size 5 1 v (St.left m (xs.take k)).length (Lib.byteCells (St.left m (xs.take k))) ∧ Below w.heap.size w wr) (fun _ i _ => n - (intOf i).toNat)
  case atStart => exact ⟨0, Nat.zero_le _, rfl, World.ownsRow_nil _ _ _ _, Below.refl _ _⟩
  case round =>
    obtain ⟨k, hk, rfl, hown, hbw⟩ := hrel
    by_cases hlt : (k : Int) < (n : Int)
    · have hk' : k < xs.length := by rw [Hn.out]; omega
      rcases Hr.out with h0 | ⟨b, off, rfl, hb, hc⟩
      · rw [h0] at hk'; simp at hk'
      · have hcell : wr.cell? ⟨b, off + k, none⟩ = some (.int .u8 (xs[k].toNat : Int)) := by rw [hbw.cell (p := ⟨b, off + k, none⟩) hb]; exact hc k hk'
        have hst := St.left_take m xs k hk'
        have hle := St.left_len m (xs.take k)
        rw [List.length_take] at hle
        clear hc
        obtain ⟨x, hxk⟩ : ∃ x, x = xs[k] := ⟨_, rfl⟩
        rw [← hxk] at hcell hst
        clear hxk hk'
        obtain ⟨S, hS⟩ : ∃ S, S = St.left m (xs.take k) := ⟨_, rfl⟩
        rw [← hS] at hst hown hle
        clear hS
        have hS2 : S.length ≤ 100000 := by omega
        clear hle
        have hh := refHas_any m x.toNat wr hm
        cases hap : Ac.has m x.toNat with
        | true =>
          rw [hap] at hh hst
          rw [if_pos rfl, List.append_nil] at hst
          have Hst := Lib.hid hst
          have Hh := Lib.hid hh
          have Ho := Lib.hid hown
          clear hap hh hst hown
          go_wp2_with (go_at_call 45; refine Hh.out.mono ?_; rintro e w3 ⟨rfl, h2⟩; rw [h2]; clear h2)
          go_roundw
          case rel => exact ⟨k + 1, by omega, by go_num, by rw [Hst.out]; exact Ho.out, hbw⟩
          case measure => simp [intOf]; omega
        | false =>
          rw [hap] at hh hst
          rw [if_neg (by decide)] at hst
          have Hst := Lib.hid hst
          have Hh := Lib.hid hh
          clear hap hh hst
          go_wp2_with (first | (go_at_call 45; refine Hh.out.mono ?_; rintro e w3 ⟨rfl, h2⟩; rw [h2]; clear h2) | (at_builtin; refine wpList_append_own _ rfl _ _ 26 rfl w.heap.size 5 i0 (.int .u8 0) 1 1 Try.underlying26 hi hz0 hz1 hz2 rfl (by decide) _ _ _ rfl (hown.alloc _) ⟨wr.heap.size, 0, none⟩ 1 1 [.int .u8 (x.toNat : Int)] rfl rfl (cell_one_new _ _ _) (fun u hu => by simp at hu; subst hu; rfl) (by unfold maxLen; omega) (by omega) (by have := hbw.size; simp; omega) ?_; intro v2 w2 hown2 hgr2 _))
          have hbw2 : Below w.heap.size w w2 := Below.grown (hbw.alloc hbw.size _) hgr2 (by have := hbw.size; simp; omega) (fun j hj => (hown.lt j hj).1)
          have o3 : w2.ownsRow w.heap.size 5 1 v2 (St.left m (xs.take (k + 1))).length (Lib.byteCells (St.left m (xs.take (k + 1)))) := by
            rw [Hst.out, List.length_append, Lib.byteCells_append]; exact hown2
          have O3 := Lib.hid o3
          clear o3 hown2 hgr2
          go_roundw
          case rel => exact ⟨k + 1, by omega, by go_num, O3.out, hbw2⟩
          case measure => simp [intOf]; omega
    · have hks : xs.take k = xs := List.take_of_length_le (by rw [Hn.out]; omega)
      rw [hks] at hown
      have Ho := Lib.hid hown
      clear hown hks
      go_wp2
      go_ret
      exact ⟨_, rfl, Ho.out, hbw⟩
end Go.Proofs.Ythmljgpnkealaaa
