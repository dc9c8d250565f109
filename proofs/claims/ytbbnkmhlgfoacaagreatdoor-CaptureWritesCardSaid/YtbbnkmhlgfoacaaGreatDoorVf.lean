/- Contracts of the document's May and frame; Write's part of records. -/
import Derived.Test.YtbbnkmhlgfoacaaGreatDoorCn
namespace Go.Proofs.YtbbnkmhlgfoacaaGreatDoor
open Go.RowKit
open S10

set_option maxHeartbeats 1000000 in
theorem refMayI_any (x : Cp.It) (p : Option Addr) (c : Nat) (w : World) (hm : x.data.length ≤ 1000000000) : Calls Tryz.prog 14 #[.agg (icells x (.slice p x.data.length c)).toArray] w fun e w' => e = .returned (.bool (Cp.may x)) ∧ Below w.heap.size w w' := by
 obtain ⟨d, q, xs⟩ := x
 simp only [icells, Cp.may] at hm ⊢
 generalize xs.length = n at *
 have hmay := fun W => S8.refMay_any q W
 have hw : ∀ o, Below w.heap.size w (w.alloc o) := fun o => below_one w o
 by_cases hd : d = 1 ∨ d = 2
 ·
  have e0 : (d == 1 || d == 2) = true := by simpa using hd
  rw [e0]
  cases hb : S8.Hd.may q with
  | false =>
   rw [hb] at hmay
   rcases hd with rfl | rfl
   ·
    go_enter Tryz.func14, Tryz.ntmps14
    go_wp2_with (first | (go_at_call 28; refine (hmay _).mono ?_; rintro e w1 ⟨rfl, h⟩; rw [h]; clear h))
    go_ret
    exact ⟨by simp, hw _⟩
   ·
    go_enter Tryz.func14, Tryz.ntmps14
    go_wp2_with (first | (go_at_call 28; refine (hmay _).mono ?_; rintro e w1 ⟨rfl, h⟩; rw [h]; clear h))
    go_ret
    exact ⟨by simp, hw _⟩
  | true =>
   rw [hb] at hmay
   have e3 : decide ((n : Int) ≤ 65531) = decide (n ≤ 65531) := by rw [decide_eq_decide]; omega
   generalize decide (n ≤ 65531) = b at *
   rcases hd with rfl | rfl
   ·
    go_enter Tryz.func14, Tryz.ntmps14
    go_wp2_with (first | (go_at_call 28; refine (hmay _).mono ?_; rintro e w1 ⟨rfl, h⟩; rw [h]; clear h))
    go_ret
    exact ⟨by simp, hw _⟩
   ·
    go_enter Tryz.func14, Tryz.ntmps14
    go_wp2_with (first | (go_at_call 28; refine (hmay _).mono ?_; rintro e w1 ⟨rfl, h⟩; rw [h]; clear h))
    go_ret
    exact ⟨by simp, hw _⟩
 ·
  have h1 : ¬ d = 1 := fun e => hd (.inl e)
  have h2 : ¬ d = 2 := fun e => hd (.inr e)
  have e1 : (d == 1) = false := by simp [h1]
  have e2 : (d == 2) = false := by simp [h2]
  rw [e1, e2]
  go_enter Tryz.func14, Tryz.ntmps14
  go_wp2
  go_ret
  exact ⟨by simp, hw _⟩
set_option maxHeartbeats 1000000 in
theorem refFrame_any (x : Cp.It) (p : Option Addr) (c : Nat) (w : World) (hx : Cp.may x = true) (h : RowAt w p c x.data) :
  Calls Tryz.prog 23 #[.agg (icells x (.slice p x.data.length c)).toArray] w fun e w' => ∃ v, e = .returned v ∧ w'.ownsRow w.heap.size 5 1 v (Cp.body x).length (Lib.byteCells (Cp.body x)) ∧ Below w.heap.size w w' := by
 have hp := Cp.may_proto x hx
 have hq := Cp.may_parts x hx
 have hd := hq.2.2
 have hc3 := fun W => S8.refPut_any x.proto.toNat true false W hp.2
 rw [hp.1] at hc3
 have h4 := Cp.put_four x.proto.toNat
 have hbody : Cp.body x = S8.Hd.put x.proto.toNat true false ++ x.data := rfl
 rw [hbody]
 generalize S8.Hd.put x.proto.toNat true false = X at *
 have hB := below_one w (.cells #[.int .i64 x.dir, .int .i64 x.proto, .slice p x.data.length c] 42)
 have hg := heap_alloc_new w (.cells #[.int .i64 x.dir, .int .i64 x.proto, .slice p x.data.length c] 42)
 have hr := h.next hB
 have HD := Lib.hid hd
 clear h hx hq hd hbody hp
 obtain ⟨d, q, xs⟩ := x
 simp only [icells] at *
 generalize hn : xs.length = n at *
 have HN := Lib.hid hn
 clear hn
 go_enter Tryz.func23, Tryz.ntmps23
 go_wp2_with fail
 generalize w.alloc (.cells #[.int .i64 d, .int .i64 q, .slice p n c] 42) = W at *
 refine (hc3 W).mono ?_
 rintro e w1 ⟨v, rfl, o1, b1⟩
 have hg1 := block_next hg b1
 have g2 : w1.cell? ⟨w.heap.size, 2, none⟩ = some (.slice p n c) := cell_of_row _ _ _ _ _ _ hg1
 have hr1 := hr.next b1
 have hB1 := Below.chain hB b1
 have hge := hB.size
 have ol := ownsRow_lower (base' := w.heap.size) o1 hge
 clear hc3 hg hr hg1 hB
 go_wp2_with (at_builtin; refine wpList_append_row rfl (.tmp 7) (.tmp 9) rfl w.heap.size v X.length (Lib.byteCells X) rfl ol p n c xs rfl HN.out hr1 (by have := HD.out; omega) hB1.size ?_; intro v2 w2 o2 g2')
 go_ret
 refine ⟨v2, rfl, ?_, Below.grown hB1 g2' hB1.size (fun k hk => (ol.lt k hk).1)⟩
 rw [List.length_append, HN.out, Lib.byteCells_append]
 exact o2
theorem run_load_itemmid {o : Oper} {a : Act} {w : World} (y : Operand) (ho : o.op = .load 42 y) (b k : Nat) (hx : a.eval y = .pointer (some ⟨b, k, none⟩)) (x : Cp.It) (v : Value) (hg : w.rangeAt b k (icells x v)) : (execOp a.eval o).run Tryz.prog w = .ok (.value (.agg (icells x v).toArray)) w := by
 unfold execOp
 simp only [ho, hx, Instr.loadAt, Instr.sureAddr, Sem.run_bind, Sem.run_pure, Result.andThen_ok, run_loadVar_mid w b k 42 _ _ hg Tryz.underlying42 rfl (infoItemI x v)]
end Go.Proofs.YtbbnkmhlgfoacaaGreatDoor
