/- Lists of options that are made while others are: each in a block of its own; their Data are new, or lie where they lay. -/
import Derived.Test.YtacnlancncmpmaaTa
import Derived.Test.YtacnlancncmpmaaOd
import Derived.Test.YtacnlancncmpmaaOg
namespace Go.Proofs.Ytacnlancncmpmaa
open Go.RowKit S2 S12

/-- An option's Data: made from B on; or (where old ones may be) a row of an earlier world. -/
def DataIs (old : Prop) (w W0 : World) (B : Nat) (d : Value) (xs : List UInt8) : Prop := w.ownsRow B 5 1 d xs.length (Lib.byteCells xs) ∨ (old ∧ ∃ p c, d = .slice p xs.length c ∧ RowAt W0 p c xs)
theorem DataIs.slice {old : Prop} {w W0 : World} {B : Nat} {d : Value} {xs : List UInt8} (h : DataIs old w W0 B d xs) : ∃ p c, d = .slice p xs.length c := by
  rcases h with h | ⟨_, p, c, e, _⟩
  · exact own_slice h
  · exact ⟨p, c, e⟩
theorem DataIs.next {old : Prop} {w w' W0 : World} {B : Nat} {d : Value} {xs : List UInt8} (h : DataIs old w W0 B d xs) (hb : Below w.heap.size w w') : DataIs old w' W0 B d xs := by
  rcases h with h | h
  · exact .inl (ownsRow_next h hb)
  · exact .inr h
def Lopts (old : Prop) (w W0 : World) (B : Nat) (v : Value) (L : List Ot.O) : Prop :=
  ∃ xs : List Value, w.ownsRow B 24 2 v L.length xs ∧ ∀ j (h : j < L.length), ∃ d, CellsAt xs j L[j] d ∧ DataIs old w W0 B d L[j].data
theorem lopts_none (old : Prop) (w W0 : World) (B : Nat) : Lopts old w W0 B (.slice none 0 0) [] := ⟨[], World.ownsRow_nil _ _ _ _, (fun _ h => by simp at h)⟩
theorem Lopts.next {old : Prop} {w w' W0 : World} {B : Nat} {v : Value} {L : List Ot.O} (h : Lopts old w W0 B v L) (hb : Below w.heap.size w w') : Lopts old w' W0 B v L := by
  obtain ⟨xs, ho, he⟩ := h
  refine ⟨xs, ownsRow_next ho hb, fun j hj => ?_⟩
  obtain ⟨d, h1, h2⟩ := he j hj
  exact ⟨d, h1, h2.next hb⟩
/-- Another block below B is written. -/
theorem Lopts.kept {old : Prop} {w w' W0 : World} {B q : Nat} {v : Value} {L : List Ot.O} (h : Lopts old w W0 B v L) (hg : w.grownBy w' (some q)) (hq : q < B) : Lopts old w' W0 B v L := by
  obtain ⟨xs, ho, he⟩ := h
  refine ⟨xs, own_kept ho hg hq, fun j hj => ?_⟩
  obtain ⟨d, h1, h2⟩ := he j hj
  refine ⟨d, h1, ?_⟩
  rcases h2 with h2 | h2
  · exact .inl (own_kept h2 hg hq)
  · exact .inr h2
/-- Another list grows. -/
theorem Lopts.beside {old : Prop} {w w' W0 W1 : World} {B B' : Nat} {old' : Prop} {u v : Value} {L M : List Ot.O} (h : Lopts old w W0 B u M) (hv : Lopts old' w W1 B' v L) (hg : w.grownBy w' v.ownBlock) (ha : u.ownBlock = none ∨ u.ownBlock ≠ v.ownBlock) : Lopts old w' W0 B u M := by
  obtain ⟨xs, ho, he⟩ := h
  obtain ⟨ys, hv, _⟩ := hv
  refine ⟨xs, ho.kept hg ha, fun j hj => ?_⟩
  obtain ⟨d, h1, h2⟩ := he j hj
  refine ⟨d, h1, ?_⟩
  rcases h2 with h2 | h2
  · exact .inl (h2.kept hg (own_apart hv h2 (by decide)))
  · exact .inr h2
theorem Lopts.lt {old : Prop} {w W0 : World} {B : Nat} {v : Value} {L : List Ot.O} (h : Lopts old w W0 B v L) : ∀ k, v.ownBlock = some k → B ≤ k ∧ k < w.heap.size := by
  obtain ⟨xs, ho, _⟩ := h
  exact ho.lt
theorem Lopts.slice {old : Prop} {w W0 : World} {B : Nat} {v : Value} {L : List Ot.O} (h : Lopts old w W0 B v L) : ∃ a c, v = .slice a L.length c := by
  obtain ⟨xs, ho, _⟩ := h
  exact own_slice ho
theorem Lopts.lower {old : Prop} {w W0 : World} {B B' : Nat} {v : Value} {L : List Ot.O} (h : Lopts old w W0 B v L) (hb : B' ≤ B) : Lopts old w W0 B' v L := by
  obtain ⟨xs, ho, he⟩ := h
  refine ⟨xs, ownsRow_lower ho hb, fun j hj => ?_⟩
  obtain ⟨d, h1, h2⟩ := he j hj
  refine ⟨d, h1, ?_⟩
  rcases h2 with h2 | h2
  · exact .inl (ownsRow_lower h2 hb)
  · exact .inr h2
theorem Lopts.opts {w W0 : World} {B : Nat} {v : Value} {L : List Ot.O} (h : Lopts False w W0 B v L) : Opts w B v L := by
  obtain ⟨xs, ho, he⟩ := h
  refine ⟨xs, ho, fun j hj => ?_⟩
  obtain ⟨d, h1, h2⟩ := he j hj
  rcases h2 with h2 | h2
  · exact ⟨d, h1, h2⟩
  · exact h2.1.elim
theorem Lopts.at {old : Prop} {w W0 : World} {B : Nat} {v : Value} {L : List Ot.O} (h : Lopts old w W0 B v L) (hb : Below W0.heap.size W0 w) : ∃ a c, v = .slice a L.length c ∧ OptsAt w a L := by
  obtain ⟨xs, ho, he⟩ := h
  rcases ho.2 with ⟨rfl, h0⟩ | ⟨g, cap, cur, rfl, hB, hg, _⟩
  · exact ⟨none, 0, by rw [h0], .inl (List.eq_nil_of_length_eq_zero h0)⟩
  · refine ⟨_, cap, rfl, .inr ⟨g, 0, rfl, lt_of_block hg, fun j hj => ?_⟩⟩
    obtain ⟨d, h1, h2⟩ := he j hj
    have e := ho.cells (g := g) rfl
    simp only [Go.WideShapes.add_plain] at e
    rcases h2 with h2 | ⟨_, p, c, rfl, hr⟩
    · obtain ⟨p, c, rfl, hr⟩ := rowAt_own rfl h2
      exact ⟨p, c, e _ _ h1.ty, by rw [Nat.add_assoc]; exact e _ _ h1.data, hr⟩
    · exact ⟨p, c, e _ _ h1.ty, by rw [Nat.add_assoc]; exact e _ _ h1.data, hr.next hb⟩
/-- Two lists in blocks of their own. -/
def Asunder (u v : Value) : Prop := ∀ k, u.ownBlock = some k → v.ownBlock ≠ some k
theorem Asunder.symm {u v : Value} (h : Asunder u v) : Asunder v u := fun k e e' => h k e' e
theorem Asunder.ne {u v : Value} (h : Asunder u v) : u.ownBlock = none ∨ u.ownBlock ≠ v.ownBlock := by
  cases e : u.ownBlock with
  | none => exact .inl rfl
  | some k => exact .inr fun e' => h k e e'.symm
theorem asunder_none (v : Value) (n c : Nat) : Asunder (.slice none n c) v := fun k e => by simp [Value.ownBlock] at e
/-- The list that grew lies where it lay, or in new memory: asunder as before. -/
theorem Asunder.grow {u v v' : Value} {s : Nat} (h : Asunder u v) (hu : ∀ k, u.ownBlock = some k → k < s) (hv : v'.ownBlock = v.ownBlock ∨ ∀ k, v'.ownBlock = some k → s ≤ k) : Asunder u v' := fun k e e' => by
  rcases hv with hv | hv
  · exact h k e (hv ▸ e')
  · have := hu k e; have := hv k e'; omega

theorem wp_append_lopts {old : Prop} {W0 w : World} {o : Oper} {a : Act} {K : Act → World → Prop} {Q : Exit → Act → World → Prop} (s x : Operand)
    (ho : o.op = .call { callee := .builtin .append, args := #[s, x], argTypes := #[28, 28] })
    (B : Nat) (v : Value) (L : List Ot.O) (r : Ot.O) (d : Value) (g : Nat) (hs : a.eval s = v) (hx : a.eval x = .slice (some ⟨g, 0, none⟩) 1 1) (hL : Lopts old w W0 B v L)
    (hd : DataIs old w W0 B d r.data) (hg : w.heap[g]? = some (.cells (ocells r d).toArray 24 (0, 0))) (hB : B ≤ w.heap.size) (hlen : L.length ≤ 1000000)
    (h : ∀ v' w', Lopts old w' W0 B v' (L ++ [r]) → w.grownBy w' v.ownBlock → (v'.ownBlock = v.ownBlock ∨ ∀ k, v'.ownBlock = some k → w.heap.size ≤ k) → K (a.put o.dst v') w') : Oper.wp Try.prog o a w K Q := by
  obtain ⟨i0, hi, hz0, hz1, hz2⟩ := info_parts infoOptZ
  obtain ⟨xs, hown, he⟩ := hL
  obtain ⟨p, c, rfl⟩ := hd.slice
  have hnews : ∀ j u, (ocells r (.slice p r.data.length c))[j]? = some u → w.cell? ((⟨g, 0, none⟩ : Addr).add j) = some u := fun j u hu => by
    rw [Go.WideShapes.add_plain, cell_of_row _ _ _ _ _ _ hg]; simpa using hu
  have h1 : ∀ u ∈ ocells r (.slice p r.data.length c), u.oneCell' = true := fun u hu => by
    simp only [ocells, List.mem_cons, List.not_mem_nil, or_false] at hu
    rcases hu with rfl | rfl <;> rfl
  obtain ⟨v', w', hr, o2, g2, _⟩ := run_append_own (P := Try.prog) w B 28 o.type 24 i0 _ 2 32 Try.underlying28 hi hz0 hz1 hz2 rfl (by decide) v L.length xs hown ⟨g, 0, none⟩ 1 1 (ocells r (.slice p r.data.length c)) rfl hnews h1 (by unfold maxLen; omega) (by omega) hB
  have hp := append_place (P := Try.prog) w B 28 o.type 24 i0 _ 2 32 Try.underlying28 hi hz0 hz1 hz2 rfl (by decide) v L.length xs hown ⟨g, 0, none⟩ 1 1 (ocells r (.slice p r.data.length c)) rfl hnews h1 (by unfold maxLen; omega) (by omega) v' w' hr
  unfold Oper.wp execOp
  simp only [ho, resolve, invoke, builtin, Sem.run_bind, Sem.run_pure, Result.andThen_ok, List.map_toArray, List.map_cons, List.map_nil, hs, hx, hr]
  have hl : xs.length = L.length * 2 := hown.1
  refine h v' w' ⟨xs ++ ocells r (.slice p r.data.length c), by rw [List.length_append]; exact o2, fun j hj => ?_⟩ g2 hp
  by_cases hjl : j < L.length
  · obtain ⟨d', h1, h2⟩ := he j hjl
    rw [List.getElem_append_left hjl]
    refine ⟨d', ⟨?_, ?_⟩, ?_⟩
    · rw [List.getElem?_append_left (by omega)]; exact h1.ty
    · rw [List.getElem?_append_left (by omega)]; exact h1.data
    · rcases h2 with h2 | h2
      · exact .inl (h2.kept g2 (own_apart hown h2 (by decide)))
      · exact .inr h2
  · have hj2 : j = L.length := by simp at hj; omega
    subst hj2
    rw [List.getElem_append_right (Nat.le_refl _)]
    simp only [Nat.sub_self, List.getElem_cons_zero]
    refine ⟨.slice p r.data.length c, ⟨?_, ?_⟩, ?_⟩
    · rw [List.getElem?_append_right (by omega), hl]; simp [ocells]
    · rw [List.getElem?_append_right (by omega), hl]; simp [ocells]
    · rcases hd with hd | hd
      · exact .inl (hd.kept g2 (own_apart hown hd (by decide)))
      · exact .inr hd
theorem wpList_append_lopts {old : Prop} {W0 w : World} {ops : Array Oper} {rest : List Oper} {o : Oper} {a : Act} {Q : Exit → Act → World → Prop} (hgd : o.guard = none) (s x : Operand)
    (ho : o.op = .call { callee := .builtin .append, args := #[s, x], argTypes := #[28, 28] })
    (B : Nat) (v : Value) (L : List Ot.O) (r : Ot.O) (d : Value) (g : Nat) (hs : a.eval s = v) (hx : a.eval x = .slice (some ⟨g, 0, none⟩) 1 1) (hL : Lopts old w W0 B v L)
    (hd : DataIs old w W0 B d r.data) (hg : w.heap[g]? = some (.cells (ocells r d).toArray 24 (0, 0))) (hB : B ≤ w.heap.size) (hlen : L.length ≤ 1000000)
    (h : ∀ v' w', Lopts old w' W0 B v' (L ++ [r]) → w.grownBy w' v.ownBlock → (v'.ownBlock = v.ownBlock ∨ ∀ k, v'.ownBlock = some k → w.heap.size ≤ k) → wpList Try.prog ops Q rest (a.put o.dst v') w') : wpList Try.prog ops Q (o :: rest) a w :=
  wpList_plain hgd fun _ hK => wp_append_lopts s x ho B v L r d g hs hx hL hd hg hB hlen fun v' w' h2 h3 h4 => hK _ _ (h v' w' h2 h3 h4)
end Go.Proofs.Ytacnlancncmpmaa
