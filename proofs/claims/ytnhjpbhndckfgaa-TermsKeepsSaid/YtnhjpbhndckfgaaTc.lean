/- The map of readers; Known. -/
import Derived.Test.YtnhjpbhndckfgaaTb
import Derived.Maps.OwnSet
import Derived.Maps.Views
namespace Go.Proofs.Ytnhjpbhndckfgaa
open Go.RowKit Go.Maps S2 S12

theorem lawInt : Keyed Try.prog 3 := int_keyed Try.underlying3
theorem zeroFunc (w : World) : (zeroValue 46).run Try.prog w = .ok .nilFunc w := by kernel_rfl
/-- How a function reads, that captures nothing: by its number. -/
def funcElem : Value → Option (DataW Unit × List MemPlace)
  | .func (.func f) a b => if a.size = 0 ∧ b.size = 0 then some (.lit (.int .i64 (f : Int)), []) else none
  | .nilFunc => some (.lit (.bool false), [])
  | _ => none
theorem funcElem_inv {v : Value} {f : Nat} {ps : List MemPlace} (h : funcElem v = some (.lit (.int .i64 (f : Int)), ps)) : v = .func (.func f) #[] #[] := by
  cases v with
  | func fn a b =>
    cases fn with
    | func g =>
      simp only [funcElem] at h
      by_cases hs : a.size = 0 ∧ b.size = 0
      · rw [if_pos hs] at h
        have e1 := Array.eq_empty_of_size_eq_zero hs.1
        have e2 := Array.eq_empty_of_size_eq_zero hs.2
        subst e1; subst e2
        injection h with h
        injection h with h1 h2
        injection h1 with h1
        injection h1 with _ h1
        have : g = f := Int.ofNat.inj h1
        rw [this]
      · rw [if_neg hs] at h; cases h
    | _ => cases h
  | nilFunc =>
    injection h with h
    injection h with h1 h2
    injection h1 with h1
    cases h1
  | _ => cases h
/-- The reader of a Type. -/
def rfun (t : Int) : Nat := if t = 1 then 36 else if t = 2 then 37 else if t = 3 then 38 else if t = 4 then 39 else if t = 5 then 40 else if t = 7 then 41 else 42
/-- The readers that are left, when some Types' are gone. -/
structure Left (D : DataW Unit) (gone : List Int) : Prop where
  has : ∀ s, Maps.has D (.int .i64 s) = (Tm.known s && decide (s ∉ gone))
  val : ∀ s, Tm.known s = true → s ∉ gone → D.atKey (.int .i64 s) (.lit (.bool false)) = .lit (.int .i64 (rfun s : Int))
structure Some (D : DataW Unit) (ks : List Int) : Prop where
  map : IsMap D
  has : ∀ s, Maps.has D (.int .i64 s) = decide (s ∈ ks)
  val : ∀ s, s ∈ ks → D.atKey (.int .i64 s) (.lit (.bool false)) = .lit (.int .i64 (rfun s : Int))
theorem some_none : Some (.map []) [] := ⟨⟨[], rfl⟩, fun s => by simp [Maps.has], fun s h => by simp at h⟩
theorem Some.put {D : DataW Unit} {ks : List Int} (h : Some D ks) (t : Int) (d : DataW Unit) (hd : d = .lit (.int .i64 (rfun t : Int))) : Some (D.put (.int .i64 t) d) (t :: ks) := by
  subst hd
  have hk : WideAt.IsKeyLit (.int .i64 t) := trivial
  refine ⟨h.map.put _ _, fun s => ?_, fun s hs => ?_⟩
  · by_cases e : s = t
    · subst e; rw [has_put_same h.map hk]; simp
    · rw [has_put_other (fun e' => e (by simpa using e')), h.has s]; simp [e]
  · by_cases e : s = t
    · subst e; rw [atKey_put_same h.map hk]
    · rw [atKey_put_other (fun e' => e (by simpa using e'))]
      exact h.val s (by simpa [e] using hs)
theorem left_of {D : DataW Unit} (h : Some D [8, 7, 5, 4, 3, 2, 1]) : Left D [] := by
  have hk : ∀ s, Tm.known s = decide (s ∈ ([8, 7, 5, 4, 3, 2, 1] : List Int)) := fun s => by
    unfold Tm.known
    refine decide_eq_decide.2 ?_
    simp only [List.mem_cons, List.not_mem_nil, or_false]
    omega
  refine ⟨fun s => by rw [h.has s, hk s]; simp, fun s h1 _ => h.val s ?_⟩
  rw [hk s] at h1
  exact of_decide_eq_true h1
theorem Left.drop {D : DataW Unit} {gone : List Int} (h : Left D gone) (t : Int) : Left (D.del (.int .i64 t)) (gone ++ [t]) := by
  refine ⟨fun s => ?_, fun s h1 h2 => ?_⟩
  · by_cases e : s = t
    · subst e; rw [has_del_same]; simp
    · rw [has_del_other (fun e' => e (by simpa using e')), h.has s]; simp [e]
  · simp only [List.mem_append, List.mem_singleton, not_or] at h2
    rw [atKey_del_other (fun e' => h2.2 (by simpa using e'))]
    exact h.val s h1 h2.1
/-- The map in memory. -/
def LeftAt (w : World) (g : Nat) (D : DataW Unit) : Prop := w.ownsMap Try.prog 3 funcElem g 7 D
theorem look_in {w : World} {g : Nat} {D : DataW Unit} {gone : List Int} (h : LeftAt w g D) (hl : Left D gone) (t : Int) (hw : (Lit.int .i64 t).wf = true) (hk : Tm.known t = true) (hn : t ∉ gone) :
    (Instr.lookup 48 (.map (some g)) (.int .i64 t) true).run Try.prog w = .ok (.tuple #[.func (.func (rfun t)) #[] #[], .bool true]) w := by
  obtain ⟨v, ps, hrun, hv⟩ := World.ownsMap.look_ok h lawInt Try.underlying48 (zeroFunc w) (show funcElem .nilFunc = some (.lit (.bool false), []) from rfl) (keyOf_int_mk Try.underlying3 hw)
  rw [hl.val t hk hn] at hv
  rw [hrun, funcElem_inv hv, hl.has t, hk, decide_eq_true hn]
  rfl
theorem look_out {w : World} {g : Nat} {D : DataW Unit} {gone : List Int} (h : LeftAt w g D) (hl : Left D gone) (t : Int) (hw : (Lit.int .i64 t).wf = true) (hk : Tm.known t = false ∨ t ∈ gone) :
    ∃ v, (Instr.lookup 48 (.map (some g)) (.int .i64 t) true).run Try.prog w = .ok (.tuple #[v, .bool false]) w := by
  obtain ⟨v, ps, hrun, hv⟩ := World.ownsMap.look_ok h lawInt Try.underlying48 (zeroFunc w) (show funcElem .nilFunc = some (.lit (.bool false), []) from rfl) (keyOf_int_mk Try.underlying3 hw)
  refine ⟨v, ?_⟩
  rw [hrun, hl.has t]
  rcases hk with e | e
  · rw [e]; rfl
  · rw [decide_eq_false (fun h => h e), Bool.and_false]
theorem wpList_insert_own {P : Program} (w : World) {ops : Array Oper} {rest : List Oper} {o : Oper} {a : Act} {Q : Exit → Act → World → Prop}
    (hg : o.guard = none) (m x v : Operand) (t : TypeId) (hop : o.op = Op.insert t m x v)
    (k e : TypeId) (K : Keyed P k) (ht : P.underlying t = some (.map k e)) (R : Value → Option (DataW Unit × List MemPlace)) (b n : Nat) (D : DataW Unit)
    (hm : a.eval m = .map (some b)) (hown : w.ownsMap P k R b n D) (hn : n < maxLen) (key val : Value) (kl : Lit) (hx : a.eval x = key) (hv : a.eval v = val) (hkey : keyOf P k key = some kl)
    (d : DataW Unit) (ps : List MemPlace) (hval : R val = some (d, ps))
    (hK : ∀ w', w'.ownsMap P k R b (n + 1) (D.put kl d) → w.grownBy w' (some b) → wpList P ops Q rest (a.put o.dst undef) w') :
    wpList P ops Q (o :: rest) a w := by
  refine wpList_plain hg fun K' hK' => ?_
  obtain ⟨w', hrun, r1, r2⟩ := hown.update K ht hn hkey hval
  unfold Oper.wp
  simp [execOp, hop, hm, hx, hv, hrun, Result.andThen]
  exact hK' _ _ (hK w' r1 r2)
theorem funcElem_mk (f : Nat) : funcElem (.func (.func f) #[] #[]) = some (.lit (.int .i64 (f : Int)), []) := rfl
set_option maxHeartbeats 1000000 in
theorem readers_any (w : World) :
    Calls Try.prog 27 #[] w fun e w' => ∃ D, e = .returned (.map (some w.heap.size)) ∧ LeftAt w' w.heap.size D ∧ Left D [] ∧ Below w.heap.size w w' := by
  have hmm := @run_makeMap Try.prog
  have HO := Lib.hid (World.ownsMap_made w Try.prog 3 funcElem)
  have HB := Lib.hid (below_one w (.map #[] 0))
  go_enter Try.func27, Try.ntmps27
  go_wp2_with (first
    | (refine wpList_insert_own _ rfl _ _ _ 48 rfl 3 46 lawInt Try.underlying48 funcElem w.heap.size 0 _ rfl HO.out (by unfold maxLen; omega) _ _ (.int .i64 1) rfl rfl (keyOf_int_mk Try.underlying3 (by decide)) _ [] (funcElem_mk 36) ?_; intro w1 o1 g1)
    | (refine wpList_insert_own _ rfl _ _ _ 48 rfl 3 46 lawInt Try.underlying48 funcElem w.heap.size 1 _ rfl o1 (by unfold maxLen; omega) _ _ (.int .i64 2) rfl rfl (keyOf_int_mk Try.underlying3 (by decide)) _ [] (funcElem_mk 37) ?_; intro w2 o2 g2)
    | (refine wpList_insert_own _ rfl _ _ _ 48 rfl 3 46 lawInt Try.underlying48 funcElem w.heap.size 2 _ rfl o2 (by unfold maxLen; omega) _ _ (.int .i64 3) rfl rfl (keyOf_int_mk Try.underlying3 (by decide)) _ [] (funcElem_mk 38) ?_; intro w3 o3 g3)
    | (refine wpList_insert_own _ rfl _ _ _ 48 rfl 3 46 lawInt Try.underlying48 funcElem w.heap.size 3 _ rfl o3 (by unfold maxLen; omega) _ _ (.int .i64 4) rfl rfl (keyOf_int_mk Try.underlying3 (by decide)) _ [] (funcElem_mk 39) ?_; intro w4 o4 g4)
    | (refine wpList_insert_own _ rfl _ _ _ 48 rfl 3 46 lawInt Try.underlying48 funcElem w.heap.size 4 _ rfl o4 (by unfold maxLen; omega) _ _ (.int .i64 5) rfl rfl (keyOf_int_mk Try.underlying3 (by decide)) _ [] (funcElem_mk 40) ?_; intro w5 o5 g5)
    | (refine wpList_insert_own _ rfl _ _ _ 48 rfl 3 46 lawInt Try.underlying48 funcElem w.heap.size 5 _ rfl o5 (by unfold maxLen; omega) _ _ (.int .i64 7) rfl rfl (keyOf_int_mk Try.underlying3 (by decide)) _ [] (funcElem_mk 41) ?_; intro w6 o6 g6)
    | (refine wpList_insert_own _ rfl _ _ _ 48 rfl 3 46 lawInt Try.underlying48 funcElem w.heap.size 6 _ rfl o6 (by unfold maxLen; omega) _ _ (.int .i64 8) rfl rfl (keyOf_int_mk Try.underlying3 (by decide)) _ [] (funcElem_mk 42) ?_; intro w7 o7 g7))
  go_ret
  have gg := grownBy_trans (grownBy_trans (grownBy_trans (grownBy_trans (grownBy_trans (grownBy_trans g1 g2) g3) g4) g5) g6) g7
  refine ⟨_, rfl, o7, left_of ?_, Below.grown HB.out gg HB.out.size (fun j hj => by cases hj; exact Nat.le_refl _)⟩
  exact ((((((some_none.put 1 _ rfl).put 2 _ rfl).put 3 _ rfl).put 4 _ rfl).put 5 _ rfl).put 7 _ rfl).put 8 _ rfl

theorem known_any (t : Int) (w : World) (hw : (Lit.int .i64 t).wf = true) : Calls Try.prog 10 #[.int .i64 t] w fun e w' => e = .returned (.bool (Tm.known t)) ∧ Below w.heap.size w w' := by
  have C1 := Lib.hid (readers_any w)
  by_cases hk : Tm.known t = true
  · rw [hk]
    have HK := Lib.hid hk
    clear hk
    go_enter Try.func10, Try.ntmps10
    go_wp2_with fail
    refine C1.out.mono ?_
    rintro e w1 ⟨D, rfl, hD, hl, b1⟩
    have B1 := Lib.hid b1
    have hlook := look_in hD hl t hw HK.out (by simp)
    clear hD hl HK b1 C1
    generalize rfun t = F at hlook
    go_wp2
    go_ret
    exact ⟨rfl, B1.out⟩
  · rw [Bool.not_eq_true] at hk
    rw [hk]
    have HK := Lib.hid hk
    clear hk
    go_enter Try.func10, Try.ntmps10
    go_wp2_with fail
    refine C1.out.mono ?_
    rintro e w1 ⟨D, rfl, hD, hl, b1⟩
    have B1 := Lib.hid b1
    obtain ⟨v, hlook⟩ := look_out hD hl t hw (.inl HK.out)
    clear hD hl HK b1 C1
    go_wp2
    go_ret
    exact ⟨rfl, B1.out⟩
end Go.Proofs.Ytnhjpbhndckfgaa
