/- A list of options onto another. -/
import Derived.Test.YtacnlancncmpmaaTr
namespace Go.Proofs.Ytacnlancncmpmaa
open Go.RowKit Go.Maps S2 S12

theorem wpList_append_lists {old : Prop} {W0 w : World} {ops : Array Oper} {rest : List Oper} {o : Oper} {a : Act} {Q : Exit → Act → World → Prop} (hgd : o.guard = none) (s x : Operand)
    (ho : o.op = .call { callee := .builtin .append, args := #[s, x], argTypes := #[28, 28] })
    (B Bb : Nat) (v vb : Value) (L C : List Ot.O) (hs : a.eval s = v) (hx : a.eval x = vb) (hL : Lopts old w W0 B v L) (hC : Opts w Bb vb C) (hBb : B ≤ Bb) (hB : B ≤ w.heap.size) (hlen : L.length + C.length ≤ 1000000)
    (h : ∀ v' w', Lopts old w' W0 B v' (L ++ C) → w.grownBy w' v.ownBlock → wpList Try.prog ops Q rest (a.put o.dst v') w') : wpList Try.prog ops Q (o :: rest) a w := by
  obtain ⟨i0, hi, hz0, hz1, hz2⟩ := info_parts infoOptZ
  obtain ⟨xs, hown, he⟩ := hL
  obtain ⟨ys, hC, hd⟩ := hC
  have hl : xs.length = L.length * 2 := hown.1
  have hl2 : ys.length = C.length * 2 := hC.1
  rcases hC.2 with ⟨rfl, h0⟩ | ⟨g, cap, cur, rfl, hgB, hg, hcap, hmax, hcur, htk⟩
  · have hC0 : C = [] := List.eq_nil_of_length_eq_zero h0
    subst hC0
    refine wpList_plain hgd fun K hK => ?_
    have hrun := run_append_owned_none (P := Try.prog) (w := w) B 28 o.type 24 i0 2 Try.underlying28 hi v L.length xs hown
    unfold Oper.wp execOp
    simp only [ho, resolve, invoke, builtin, Sem.run_bind, Sem.run_pure, Result.andThen_ok, List.map_toArray, List.map_cons, List.map_nil, hs, hx, hrun]
    refine hK _ _ (h v w ?_ ⟨rfl, rfl, rfl, Nat.le_refl _, fun _ _ _ => rfl⟩)
    rw [List.append_nil]
    exact ⟨xs, hown, he⟩
  · have hcells := hC.cells (g := g) rfl
    have hone : ∀ u ∈ ys, u.oneCell' = true := by
      intro u hu
      obtain ⟨j, hj, rfl⟩ := List.getElem_of_mem hu
      have hj2 : j / 2 < C.length := by omega
      obtain ⟨d, h1, h2⟩ := hd (j / 2) hj2
      obtain ⟨p, c, rfl⟩ := own_slice h2
      rcases Nat.mod_two_eq_zero_or_one j with e | e
      · have := h1.ty
        rw [show j / 2 * 2 = j by omega, List.getElem?_eq_getElem hj] at this
        rw [Option.some.inj this]; rfl
      · have := h1.data
        rw [show j / 2 * 2 + 1 = j by omega, List.getElem?_eq_getElem hj] at this
        rw [Option.some.inj this]; rfl
    refine wpList_append_own w hgd s x 28 ho B 24 i0 _ 2 32 Try.underlying28 hi hz0 hz1 hz2 rfl (by decide) v L.length xs hs hown ⟨g, 0, none⟩ C.length cap ys hx hl2 hcells hone (by unfold maxLen; omega) (by omega) hB ?_
    intro v' w' o2 g2 _
    refine h v' w' ⟨xs ++ ys, by rw [List.length_append]; exact o2, fun j hj => ?_⟩ g2
    by_cases hjl : j < L.length
    · obtain ⟨d', h1, h2⟩ := he j hjl
      rw [List.getElem_append_left hjl]
      refine ⟨d', ⟨?_, ?_⟩, ?_⟩
      · rw [List.getElem?_append_left (by omega)]; exact h1.ty
      · rw [List.getElem?_append_left (by omega)]; exact h1.data
      · rcases h2 with h2 | h2
        · exact .inl (h2.kept g2 (own_apart hown h2 (by decide)))
        · exact .inr h2
    · have hj2 : j - L.length < C.length := by rw [List.length_append] at hj; omega
      obtain ⟨d', h1, h2⟩ := hd (j - L.length) hj2
      rw [List.getElem_append_right (by omega)]
      refine ⟨d', ⟨?_, ?_⟩, .inl ?_⟩
      · rw [List.getElem?_append_right (by omega), show j * 2 - xs.length = (j - L.length) * 2 by omega]; exact h1.ty
      · rw [List.getElem?_append_right (by omega), show j * 2 + 1 - xs.length = (j - L.length) * 2 + 1 by omega]; exact h1.data
      · exact ownsRow_lower (h2.kept g2 (own_apart hown h2 (by decide))) hBb
end Go.Proofs.Ytacnlancncmpmaa
