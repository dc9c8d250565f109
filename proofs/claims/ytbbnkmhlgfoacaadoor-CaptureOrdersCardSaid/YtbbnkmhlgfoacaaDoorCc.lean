/- Contracts of layoutOf, takeMark, bodyOf, addItem, addItems. -/
import Derived.Test.YtbbnkmhlgfoacaaDoorCb
namespace Go.Proofs.YtbbnkmhlgfoacaaDoor
open Go.RowKit
open S10

def layV (f : Int) : Value := if f = 1 then .iface 62 (.agg #[]) else if f = 2 then .iface 64 (.agg #[]) else .nilIface
set_option maxRecDepth 100000 in
set_option maxHeartbeats 1000000 in
theorem layoutOf_any (f : Int) (w : World) : Calls Tryd.prog 16 #[.int .i64 f] w fun e w' => e = .returned (layV f) ∧ Below w.heap.size w w' := by
  have i1 := invoke1
  have i2 := invoke2
  have c1 := name1_any
  have c2 := name2_any
  have hg := heap_alloc_new w (.cells #[.iface 62 (.agg #[]), .iface 64 (.agg #[])] 59)
  have hb := below_one w (.cells #[.iface 62 (.agg #[]), .iface 64 (.agg #[])] 59)
  go_enter Tryd.func16, Tryd.ntmps16
  go_wp2
  generalize w.alloc (.cells #[.iface 62 (.agg #[]), .iface 64 (.agg #[])] 59) = W at *
  go_loopw [11] (fun i wr => ∃ k : Nat, i = .int .i64 (k : Int) ∧ k ≤ 2 ∧ (1 ≤ k → ¬ f = 1) ∧ (2 ≤ k → ¬ f = 2) ∧ Below W.heap.size W wr) (fun i _ => 2 - (intOf i).toNat)
  case atStart => exact ⟨0, rfl, by omega, by omega, by omega, Below.refl _ _⟩
  case round =>
    obtain ⟨k, rfl, hk, h1, h2, hbw⟩ := hrel
    have hgw := block_next hg hbw
    have q0 : wr.cell? ⟨w.heap.size, 0, none⟩ = some (.iface 62 (.agg #[])) := cell_of_row _ _ _ _ _ _ hgw
    have q1 : wr.cell? ⟨w.heap.size, 1, none⟩ = some (.iface 64 (.agg #[])) := cell_of_row _ _ _ _ _ _ hgw
    have HB := Lib.hid hbw
    have HB0 := Lib.hid hb
    clear hbw hgw hg hb
    rcases (show k = 0 ∨ k = 1 ∨ k = 2 by omega) with rfl | rfl | rfl
    · by_cases hf : f = 1
      · subst hf
        go_wp2_with fail
        refine (c1 _).mono ?_
        rintro e w1 ⟨rfl, b1⟩
        go_wp2
        go_ret
        exact ⟨rfl, Below.chain HB0.out (Below.chain HB.out b1)⟩
      · have hf' : ((1 : Int) == f) = false := by simp; omega
        go_wp2_with fail
        refine (c1 _).mono ?_
        rintro e w1 ⟨rfl, b1⟩
        go_wp2
        go_roundw
        case rel => exact ⟨1, rfl, by omega, fun _ => hf, by omega, Below.chain HB.out b1⟩
        case measure => simp [intOf]
    · have h1' := h1 (by omega)
      by_cases hf : f = 2
      · subst hf
        go_wp2_with fail
        refine (c2 _).mono ?_
        rintro e w1 ⟨rfl, b1⟩
        go_wp2
        go_ret
        exact ⟨rfl, Below.chain HB0.out (Below.chain HB.out b1)⟩
      · have hf' : ((2 : Int) == f) = false := by simp; omega
        go_wp2_with fail
        refine (c2 _).mono ?_
        rintro e w1 ⟨rfl, b1⟩
        go_wp2
        go_roundw
        case rel => exact ⟨2, rfl, by omega, fun _ => h1', fun _ => hf, Below.chain HB.out b1⟩
        case measure => simp [intOf]
    · have h1' := h1 (by omega)
      have h2' := h2 (by omega)
      go_wp2
      go_ret
      exact ⟨by simp [layV, h1', h2'], Below.chain HB0.out HB.out⟩
theorem takeMark_any (a : Option Addr) (n cap : Nat) (xs : List UInt8) (w : World) (hn : xs.length = n) (hm : n ≤ 300000) (h : RowAt w a cap xs) :
    Calls Tryd.prog 40 #[.slice a n cap] w fun e w' => (∃ d p m c, e = .returned (.tuple #[.int .i64 d, .slice p m c]) ∧ (xs.drop 1).length = m ∧ RowAt w' p c (xs.drop 1) ∧ (xs = [] ∨ ∃ y r, xs = y :: r ∧ d = Cp.mark y)) ∧ Below w.heap.size w w' := by
  cases xs with
  | nil =>
    have : n = 0 := by simpa using hn.symm
    subst this
    go_enter Tryd.func40, Tryd.ntmps40
    go_wp2
    go_ret2
    exact ⟨⟨_, _, _, _, rfl, rfl, rowAt_nil _, by simp⟩, Below.refl _ _⟩
  | cons y r =>
    have hle := h.le
    rw [hn] at hle
    have hn2 : r.length + 1 = n := by simpa using hn
    have hpos : ¬ (n : Int) = 0 := by omega
    have hpos1 : ((n : Int) == 0) = false := by simp; omega
    obtain ⟨ad, rfl⟩ : ∃ ad, a = some ad := by
      cases a with
      | none => have := h.nil rfl; omega
      | some ad => exact ⟨ad, rfl⟩
    have hc : w.cell? ad = some (.int .u8 (y.toNat : Int)) := by
      have := h.cell ad rfl 0 (.int .u8 (y.toNat : Int)) (by simp [Lib.byteCells])
      simpa [Addr.add] using this
    have hcut := h.cut 1 n (by omega) (by omega)
    rw [List.take_of_length_le (by omega)] at hcut
    have hl : ((y :: r).drop 1).length = n - 1 := by simp; omega
    have hrow : RowAt w (if cap = 1 then some ad else some (ad.add 1)) (cap - 1) ((y :: r).drop 1) := by
      split
      · rename_i e; rw [if_pos e] at hcut; exact hcut
      · rename_i e; rw [if_neg e] at hcut; exact hcut
    clear hcut
    have j1 : ¬ cap < n := by omega
    have j2 : (1 : Int) ≤ (n : Int) := by omega
    have j3 : (n : Int) ≤ (cap : Int) := by omega
    have j4 : 1 ≤ n := by omega
    have HC := Lib.hid h
    clear h
    by_cases hy : y.toNat = 0
    · have hmk : Cp.mark y = 1 := by simp [Cp.mark, hy]
      rw [hy] at hc
      have hyi : ((y.toNat : Int) == 0) = true := by simp [hy]
      by_cases hc1 : cap = 1
      · subst hc1
        have : n = 1 := by omega
        subst this
        rw [if_pos rfl] at hrow
        go_enter Tryd.func40, Tryd.ntmps40
        go_wp2_with fail
        go_quiet (fail)
        go_wp2
        go_ret2
        exact ⟨⟨_, _, _, _, rfl, hl, keeps_drewN hrow _, .inr ⟨y, r, rfl, hmk.symm⟩⟩, keeps_below (Below.refl _ _) _⟩
      · have hc2 : ¬ (cap : Int) = 1 := by omega
        rw [if_neg hc1] at hrow
        go_enter Tryd.func40, Tryd.ntmps40
        go_wp2_with fail
        go_quiet (fail)
        go_wp2
        go_ret2
        exact ⟨⟨_, _, _, _, rfl, hl, keeps_drewN hrow _, .inr ⟨y, r, rfl, hmk.symm⟩⟩, keeps_below (Below.refl _ _) _⟩
    · have hmk : Cp.mark y = 2 := by simp [Cp.mark, hy]
      have hyi : ((y.toNat : Int) == 0) = false := by simp; omega
      by_cases hc1 : cap = 1
      · subst hc1
        have : n = 1 := by omega
        subst this
        rw [if_pos rfl] at hrow
        go_enter Tryd.func40, Tryd.ntmps40
        go_wp2_with fail
        go_quiet (fail)
        go_wp2
        go_ret2
        exact ⟨⟨_, _, _, _, rfl, hl, keeps_drewN hrow _, .inr ⟨y, r, rfl, hmk.symm⟩⟩, keeps_below (Below.refl _ _) _⟩
      · have hc2 : ¬ (cap : Int) = 1 := by omega
        rw [if_neg hc1] at hrow
        go_enter Tryd.func40, Tryd.ntmps40
        go_wp2_with fail
        go_quiet (fail)
        go_wp2
        go_ret2
        exact ⟨⟨_, _, _, _, rfl, hl, keeps_drewN hrow _, .inr ⟨y, r, rfl, hmk.symm⟩⟩, keeps_below (Below.refl _ _) _⟩
set_option maxHeartbeats 1000000 in
theorem bodyOf_any (x : Cp.It) (p : Option Addr) (c : Nat) (w : World) (hx : Cp.may x = true) (h : RowAt w p c x.data) :
    Calls Tryd.prog 31 #[.agg (icells x (.slice p x.data.length c)).toArray] w fun e w' => ∃ v, e = .returned v ∧ w'.ownsRow w.heap.size 5 1 v (Cp.body x).length (Lib.byteCells (Cp.body x)) ∧ Below w.heap.size w w' := by
  have hp := Cp.may_proto x hx
  have hq := Cp.may_parts x hx
  have hd := hq.2.2
  have hc3 := fun W => S8.headput_good x.proto.toNat true false W (by rw [hp.1]; exact hq.2.1)
  rw [hp.1] at hc3
  have h4 := Cp.put_four x.proto.toNat
  have hbody : Cp.body x = S8.Hd.put x.proto.toNat true false ++ x.data := rfl
  rw [hbody]
  generalize S8.Hd.put x.proto.toNat true false = X at *
  have hB := below_one w (.cells #[.int .i64 x.dir, .int .i64 x.proto, .slice p x.data.length c] 48)
  have hg := heap_alloc_new w (.cells #[.int .i64 x.dir, .int .i64 x.proto, .slice p x.data.length c] 48)
  have hr := h.next hB
  have HD := Lib.hid hd
  clear h hx hq hd hbody hp
  obtain ⟨d, q, xs⟩ := x
  simp only [icells] at *
  generalize hn : xs.length = n at *
  have HN := Lib.hid hn
  clear hn
  go_enter Tryd.func31, Tryd.ntmps31
  go_wp2_with fail
  generalize w.alloc (.cells #[.int .i64 d, .int .i64 q, .slice p n c] 48) = W at *
  refine (hc3 W).mono ?_
  rintro e w1 ⟨v, rfl, o1, b1⟩
  have hg1 := block_next hg b1
  have g2 : w1.cell? ⟨w.heap.size, 2, none⟩ = some (.slice p n c) := cell_of_row _ _ _ _ _ _ hg1
  have hr1 := hr.next b1
  have hB1 := Below.chain hB b1
  have hge := hB.size
  have ol := ownsRow_lower (base' := w.heap.size) o1 hge
  clear hc3 hg hr hg1 hB
  go_wp2_with (at_builtin; refine wpList_append_row rfl (.tmp 11) (.tmp 13) rfl w.heap.size v X.length (Lib.byteCells X) rfl ol p n c xs rfl HN.out hr1 (by have := HD.out; omega) hB1.size ?_; intro v2 w2 o2 g2')
  go_ret
  refine ⟨v2, rfl, ?_, Below.grown hB1 g2' hB1.size (fun k hk => (ol.lt k hk).1)⟩
  rw [List.length_append, HN.out, Lib.byteCells_append]
  exact o2
end Go.Proofs.YtbbnkmhlgfoacaaDoor
