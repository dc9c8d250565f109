/- Contracts of addItem, addItems. -/
import Derived.Test.YtbbnkmhlgfoacaaDoorCc
namespace Go.Proofs.YtbbnkmhlgfoacaaDoor
open Go.RowKit
open S10

set_option maxHeartbeats 1000000 in
theorem addItem_any (v : Value) (d : Int) (p : Option Addr) (n c : Nat) (b : List UInt8) (L : List Cp.It) (B : Nat) (E : Nat → Prop) (w : World) (hn : b.length = n) (hm : n ≤ 90000) (hr : RowAt w p c b) (hL : Its w B E v L) (hB : B ≤ w.heap.size) (hE : ∀ k, w.heap.size ≤ k → E k) (hl : L.length ≤ 1000000) :
    Calls Tryd.prog 41 #[v, .int .i64 d, .slice p n c] w fun e w' => ∃ v', e = .returned v' ∧ Its w' B E v' (L ++ Cp.item d b) ∧ Grew w w' v v' := by
  have c1 := S8.body_any p c n b w hn hm (RowAt.to8 hr)
  have g0 := Cp.item_good d b
  have g1 := Cp.item_bad d b
  generalize S8.Hd.read b = A at *
  generalize S8.Hd.body b = X at *
  obtain ⟨q, t, r⟩ := A
  simp only at c1 g0 g1
  generalize Cp.item d b = M at *
  have HL := Lib.hid hL
  have G0 := Lib.hid g0
  have G1 := Lib.hid g1
  clear hL g0 g1 hr
  obtain ⟨av, cv, rfl⟩ := its_slice HL.out
  obtain ⟨nl, hnl⟩ : ∃ nl, L.length = nl := ⟨_, rfl⟩
  rw [hnl] at HL hl ⊢
  have HNL := Lib.hid hnl
  clear hnl
  go_enter Tryd.func41, Tryd.ntmps41
  go_wp2_with fail
  refine c1.mono ?_
  rintro e w1 ⟨dv, rfl, o1, b1⟩
  have hs1 := b1.size
  obtain ⟨pd, cd, rfl, hrow⟩ := rowAt_own rfl o1
  have hlt := fun k => o1.lt k
  have HL1 := Lib.hid (HL.out.next b1)
  have HR := Lib.hid hrow
  have HT := Lib.hid hlt
  have HB1 := Lib.hid b1
  clear hrow hlt o1 b1
  by_cases he : r = 0
  · subst he
    have hM := G0.out rfl
    clear G0 G1
    have BA : Hid (∀ o, Below w1.heap.size w1 (w1.alloc o)) := fun o => below_one w1 o
    obtain ⟨nx, hnx⟩ : ∃ nx, X.length = nx := ⟨_, rfl⟩
    rw [hnx] at HT ⊢
    have HN := Lib.hid hnx
    clear hnx
    have hg4 : Hid ((w1.alloc (.cells #[.int .i64 d, .int .i64 (q : Int), .slice pd nx cd] 48)).heap[w1.heap.size]? = some (.cells (icells ⟨d, (q : Int), X⟩ (.slice pd X.length cd)).toArray 48 (0, 0))) := by
      have := heap_alloc_new w1 (.cells (icells ⟨d, (q : Int), X⟩ (.slice pd X.length cd)).toArray 48)
      rw [← HN.out]; exact this
    have hp4 : Hid (∀ ad, pd = some ad → ad.block < w1.heap.size ∧ (Value.slice av nl cv).ownBlock ≠ some ad.block ∧ E ad.block) := by
      intro ad e
      subst e
      have h1 := HT.out ad.block
      have h2 : (Value.slice (some ad) nx cd).ownBlock = some ad.block := rfl
      have h3 := h1 h2
      refine ⟨h3.2, fun e2 => ?_, hE _ h3.1⟩
      have := HL.out.lt _ e2
      omega
    go_wp2_with (at_builtin; refine wpList_append_its rfl (.tmp 19) (.tmp 24) rfl B E (.slice av nl cv) L ⟨d, (q : Int), X⟩ pd cd w1.heap.size rfl rfl (HL1.out.next (BA.out _)) (HR.out.next (BA.out _)) (fun ad e => ⟨Nat.lt_of_lt_of_le (hp4.out ad e).1 (by simp), (hp4.out ad e).2⟩) hg4.out (by simp; omega) (by rw [HNL.out]; exact hl) ?_; intro v6 w6 rec6 gr6)
    go_ret
    exact ⟨_, rfl, by rw [hM]; exact rec6, Grew.after (HB1.out.trans ((BA.out _).mono hs1)) gr6⟩
  · have hM := G1.out he
    clear G0 G1
    have i1 : ((r : Int) != 0) = true := by simp; omega
    go_wp2
    go_ret
    exact ⟨_, rfl, by rw [hM, List.append_nil]; exact HL1.out, Grew.after HB1.out (Grew.refl _ _)⟩

/-- Bodies that lie in memory away from the items' list. -/
theorem Grew.row {w w' : World} {v v' : Value} {p : Option Addr} {c : Nat} {xs : List UInt8} (g : Grew w w' v v') (h : RowAt w p c xs) (hv : ∀ ad, p = some ad → v.ownBlock ≠ some ad.block) : RowAt w' p c xs :=
  row_grown h g.by' hv
end Go.Proofs.YtbbnkmhlgfoacaaDoor
