/- Contract of the document's Put. -/
import Derived.Test.YtphamnpafafpkaaHc
namespace Go.Proofs.Ytphamnpafafpkaa
open Go.RowKit

/-- append of bytes that were built onto a slice of one's own. -/
theorem wpList_append_built {w : World} {ops : Array Oper} {rest : List Oper} {o : Oper} {a : Act} {Q : Exit → Act → World → Prop} (hgd : o.guard = none) (s x : Operand)
    (ho : o.op = .call { callee := .builtin .append, args := #[s, x], argTypes := #[23, 23] })
    (base : Nat) (v : Value) (n : Nat) (xs : List UInt8) (hs : a.eval s = v) (hown : w.ownsRow base 5 1 v n (Lib.byteCells xs))
    (cs : Array Value) (ys : List UInt8) (m : Nat) (hx : a.eval x = .slice (some ⟨w.heap.size, 0, none⟩) m m) (hm : ys.length = m) (hcs : cs = (Lib.byteCells ys).toArray) (h63 : n + m ≤ 1000) (hb : base ≤ w.heap.size)
    (h : ∀ v' w', w'.ownsRow base 5 1 v' (n + m) (Lib.byteCells (xs ++ ys)) → Below base (w.alloc (.cells cs 5)) w' → wpList Try.prog ops Q rest (a.put o.dst v') w') : wpList Try.prog ops Q (o :: rest) a (w.alloc (.cells cs 5)) := by
  have hr := rowAt_built w ys m cs hm hcs (by omega) (0, 0)
  refine wpList_append_row hgd s x ho base v n _ hs (hown.alloc _) _ m m ys hx hm hr (by omega) (by simp; omega) ?_
  intro v' w' o1 g1
  rw [← Lib.byteCells_append] at o1
  exact h v' w' o1 (Below.grown (Below.refl _ _) g1 (by simp; omega) (fun j hj => (hown.lt j hj).1))

theorem ref_dg1 (p : Nat) : (p : Int) / 256 % 256 = ((Oc.dg p 1).toNat : Int) := by rw [Oc.dg_nat]; simp
theorem ref_dg0 (p : Nat) : (p : Int) % 256 = ((Oc.dg p 0).toNat : Int) := by rw [Oc.dg_nat]; simp

set_option maxHeartbeats 1000000 in
theorem refPut_any (p : Nat) (full short : Bool) (w : World) (hp : p ≤ 65535) :
    Calls Try.prog 12 #[.int .i64 (p : Int), .bool full, .bool short] w fun e w' => ∃ v, e = .returned v ∧ w'.ownsRow w.heap.size 5 1 v (Hd.put p full short).length (Lib.byteCells (Hd.put p full short)) ∧ Below w.heap.size w w' := by
  have d0 := ref_dg0 p
  have d1 := ref_dg1 p
  have D0 := Lib.hid d0
  have D1 := Lib.hid d1
  clear d0 d1
  have i1 : (p : Int) ≤ 65535 := by omega
  unfold Hd.put
  by_cases hs : short = true ∧ p < 256
  · have hw : Hd.wide p short = 1 := by unfold Hd.wide; rw [if_pos hs]
    rw [hw, Hd.oput_one]
    obtain ⟨rfl, h2⟩ := hs
    have i2 : (p : Int) < 256 := by omega
    clear hw h2
    cases full
    · have d0 := D0.out
      go_enter Try.func12, Try.ntmps12
      go_wp2_with (first | (at_builtin; refine wpList_append_built rfl (.tmp 17) (.tmp 20) rfl w.heap.size (.slice none 0 0) 0 [] rfl (World.ownsRow_nil _ _ _ _) _ [Oc.dg p 0] 1 rfl rfl (by simp [Lib.byteCells]; omega) (by omega) (Nat.le_refl _) ?_; intro v2 w2 o2 b2))
      go_ret
      exact ⟨v2, rfl, o2, ((Below.refl w.heap.size w).alloc (Nat.le_refl _) _).trans b2⟩
    · have d0 := D0.out
      go_enter Try.func12, Try.ntmps12
      go_wp2_with (first | (at_builtin; refine wpList_append_built rfl (.tmp 9) (.tmp 10) rfl w.heap.size (.slice none 0 0) 0 [] rfl (World.ownsRow_nil _ _ _ _) _ [255, 3] 2 rfl rfl rfl (by omega) (Nat.le_refl _) ?_; intro v1 w1 o1 b1; have O1 := Lib.hid o1; have B1 := Lib.hid (((Below.refl w.heap.size w).alloc (Nat.le_refl _) _).trans b1); clear o1 b1) | (at_builtin; refine wpList_append_built rfl (.tmp 17) (.tmp 20) rfl w.heap.size v1 2 [255, 3] rfl O1.out _ [Oc.dg p 0] 1 rfl rfl (by simp [Lib.byteCells]; omega) (by omega) B1.out.size ?_; intro v2 w2 o2 b2))
      go_ret
      exact ⟨v2, rfl, o2, (B1.out.alloc B1.out.size _).trans b2⟩
  · have hw : Hd.wide p short = 2 := by unfold Hd.wide; rw [if_neg hs]
    rw [hw, Hd.oput_two]
    have hz : short = false ∨ short = true ∧ ¬ p < 256 := by cases short <;> simp_all
    clear hw hs
    rcases hz with rfl | ⟨rfl, h2⟩
    · cases full
      · have d0 := D0.out
        have d1 := D1.out
        go_enter Try.func12, Try.ntmps12
        go_wp2_with (first | (at_builtin; refine wpList_append_built rfl (.tmp 22) (.tmp 29) rfl w.heap.size (.slice none 0 0) 0 [] rfl (World.ownsRow_nil _ _ _ _) _ [Oc.dg p 1, Oc.dg p 0] 2 rfl rfl (by simp [Lib.byteCells]; omega) (by omega) (Nat.le_refl _) ?_; intro v2 w2 o2 b2))
        go_ret
        exact ⟨v2, rfl, o2, ((Below.refl w.heap.size w).alloc (Nat.le_refl _) _).trans b2⟩
      · have d0 := D0.out
        have d1 := D1.out
        go_enter Try.func12, Try.ntmps12
        go_wp2_with (first | (at_builtin; refine wpList_append_built rfl (.tmp 9) (.tmp 10) rfl w.heap.size (.slice none 0 0) 0 [] rfl (World.ownsRow_nil _ _ _ _) _ [255, 3] 2 rfl rfl rfl (by omega) (Nat.le_refl _) ?_; intro v1 w1 o1 b1; have O1 := Lib.hid o1; have B1 := Lib.hid (((Below.refl w.heap.size w).alloc (Nat.le_refl _) _).trans b1); clear o1 b1) | (at_builtin; refine wpList_append_built rfl (.tmp 22) (.tmp 29) rfl w.heap.size v1 2 [255, 3] rfl O1.out _ [Oc.dg p 1, Oc.dg p 0] 2 rfl rfl (by simp [Lib.byteCells]; omega) (by omega) B1.out.size ?_; intro v2 w2 o2 b2))
        go_ret
        exact ⟨v2, rfl, o2, (B1.out.alloc B1.out.size _).trans b2⟩
    · have i2 : ¬ (p : Int) < 256 := by omega
      clear h2
      cases full
      · have d0 := D0.out
        have d1 := D1.out
        go_enter Try.func12, Try.ntmps12
        go_wp2_with (first | (at_builtin; refine wpList_append_built rfl (.tmp 22) (.tmp 29) rfl w.heap.size (.slice none 0 0) 0 [] rfl (World.ownsRow_nil _ _ _ _) _ [Oc.dg p 1, Oc.dg p 0] 2 rfl rfl (by simp [Lib.byteCells]; omega) (by omega) (Nat.le_refl _) ?_; intro v2 w2 o2 b2))
        go_ret
        exact ⟨v2, rfl, o2, ((Below.refl w.heap.size w).alloc (Nat.le_refl _) _).trans b2⟩
      · have d0 := D0.out
        have d1 := D1.out
        go_enter Try.func12, Try.ntmps12
        go_wp2_with (first | (at_builtin; refine wpList_append_built rfl (.tmp 9) (.tmp 10) rfl w.heap.size (.slice none 0 0) 0 [] rfl (World.ownsRow_nil _ _ _ _) _ [255, 3] 2 rfl rfl rfl (by omega) (Nat.le_refl _) ?_; intro v1 w1 o1 b1; have O1 := Lib.hid o1; have B1 := Lib.hid (((Below.refl w.heap.size w).alloc (Nat.le_refl _) _).trans b1); clear o1 b1) | (at_builtin; refine wpList_append_built rfl (.tmp 22) (.tmp 29) rfl w.heap.size v1 2 [255, 3] rfl O1.out _ [Oc.dg p 1, Oc.dg p 0] 2 rfl rfl (by simp [Lib.byteCells]; omega) (by omega) B1.out.size ?_; intro v2 w2 o2 b2))
        go_ret
        exact ⟨v2, rfl, o2, (B1.out.alloc B1.out.size _).trans b2⟩
end Go.Proofs.Ytphamnpafafpkaa
