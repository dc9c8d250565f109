/- Contract of the document's Same; two digests compared; []byte of a text. -/
import Derived.Test.YtjalhlofpoknoaaDoorCc
import Derived.Test.YtjalhlofpoknoaaDoorM3Eq
import Derived.Laws.IdiomStrings
namespace Go.Proofs.YtjalhlofpoknoaaDoor
open Go.RowKit

set_option maxRecDepth 100000 in
set_option maxHeartbeats 1000000 in
/-- Of two that carry the same. -/
theorem same_any (p q : Option Addr) (n c d : Nat) (v s : List UInt8) (w : World) (hn : v.length = n) (h : RowAt w p c v) (k : RowAt w q d v) :
    Calls Tryd.prog 14 #[.agg (ccells p n c s).toArray, .agg (ccells q n d s).toArray] w fun e w' => e = .returned (.bool true) ∧ Below w.heap.size w w' := by
  have b2 := below_two w (.cells (ccells p n c s).toArray 24) (.cells (ccells q n d s).toArray 24)
  have hA : ((w.alloc (.cells (ccells p n c s).toArray 24)).alloc (.cells (ccells q n d s).toArray 24)).heap[w.heap.size]? = some (.cells (ccells p n c s).toArray 24 (0, 0)) := heap_alloc2_old w _ _
  have hB : ((w.alloc (.cells (ccells p n c s).toArray 24)).alloc (.cells (ccells q n d s).toArray 24)).heap[w.heap.size + 1]? = some (.cells (ccells q n d s).toArray 24 (0, 0)) := by
    have := heap_alloc_new (w.alloc (.cells (ccells p n c s).toArray 24)) (.cells (ccells q n d s).toArray 24)
    rw [show (w.alloc (.cells (ccells p n c s).toArray 24)).heap.size = w.heap.size + 1 by simp] at this
    exact this
  have a0 := cell_of_row _ _ 0 _ _ _ hA
  have a1 := cell_of_row _ _ 1 _ _ _ hA
  have b0 := cell_of_row _ _ 0 _ _ _ hB
  have b1 := cell_of_row _ _ 1 _ _ _ hB
  have k1 := conv_row hn (h.next b2)
  have k2 := conv_row hn (k.next b2)
  have B2 := Lib.hid b2
  clear b2 hA hB h k hn
  simp only [ccells] at a0 a1 b0 b1 k1 k2 B2 ⊢
  replace a0 : _ = some (Value.slice p n c) := a0
  replace a1 : _ = some (Value.string ⟨s.toArray⟩) := a1
  replace b0 : _ = some (Value.slice q n d) := b0
  replace b1 : _ = some (Value.string ⟨s.toArray⟩) := b1
  generalize (⟨s.toArray⟩ : ByteArray) = Z at *
  generalize (⟨v.toArray⟩ : ByteArray) = V at *
  go_enter Tryd.func14, Tryd.ntmps14
  go_wp2
  go_ret
  exact ⟨rfl, B2.out⟩

/-- Two rows of sixteen bytes, compared. -/
theorem part5' (xs : Array Value) (i : Nat) (v : Value) (w : World) (h : xs[i]? = some v) : (part 5 xs i).run Tryd.prog w = .ok v w := S3.part5 xs i v w h
theorem eqIn16 (w : World) (n : Nat) (xs ys : List UInt8) (hx : xs.length = 16) (hy : ys.length = 16) : (Op.equalIn (n + 1 + 1) 38 (.agg (Lib.byteCells xs).toArray) (.agg (Lib.byteCells ys).toArray)).run Tryd.prog w = .ok (decide (xs = ys)) w := by
  unfold Op.equalIn
  simp only [Sem.run_bind, run_underlying Tryd.underlying38, Result.andThen_ok, Tryd.sizeOf5, Std.Legacy.Range.forIn_eq_forIn_range']
  have key : ∀ l : List Nat, (∀ i ∈ l, i < 16) → (forIn l ((none, ()) : Option Bool × Unit) fun i __s => (do
              let __do_lift ← part 5 (Lib.byteCells xs).toArray (i * 1)
              let __do_lift_1 ← part 5 (Lib.byteCells ys).toArray (i * 1)
              let __do_lift ← Op.equalIn (n + 1) 5 __do_lift __do_lift_1
              if (!__do_lift) = true then pure (ForInStep.done (some false, ())) else pure (ForInStep.yield (none, ())) : Sem _)).run Tryd.prog w = .ok (if ∀ i ∈ l, xs[i]? = ys[i]? then none else some false, ()) w := by
    intro l
    induction l with
    | nil => intro _; simp
    | cons i l ih =>
      intro h
      have hi := h i (by simp)
      obtain ⟨x, hx1⟩ : ∃ x, xs[i]? = some x := ⟨_, List.getElem?_eq_getElem (by omega)⟩
      obtain ⟨y, hy1⟩ : ∃ y, ys[i]? = some y := ⟨_, List.getElem?_eq_getElem (by omega)⟩
      rw [List.forIn_cons]
      have hp := part5' (Lib.byteCells xs).toArray (i * 1) (.int .u8 (x.toNat : Int)) w (by simp [Lib.byteCells, hx1])
      have hq := part5' (Lib.byteCells ys).toArray (i * 1) (.int .u8 (y.toNat : Int)) w (by simp [Lib.byteCells, hy1])
      by_cases hxy : x = y
      · subst hxy
        simp only [Sem.run_bind, hp, hq, Result.andThen_ok, run_equalIn_int w n 5 .u8 .u8 _ _ Tryd.underlying5, beq_self_eq_true, Bool.not_true, Bool.false_eq_true, if_false, Sem.run_pure]
        rw [ih (fun j hj => h j (by simp [hj]))]
        simp [hx1, hy1]
      · have hne : ((x.toNat : Int) == (y.toNat : Int)) = false := by
          simp only [beq_eq_false_iff_ne, ne_eq, Int.natCast_inj]
          exact fun e => hxy (UInt8.toNat_inj.1 e)
        have hno : ¬ ∀ j ∈ i :: l, xs[j]? = ys[j]? := fun e => by
          have := e i (by simp)
          rw [hx1, hy1] at this
          exact hxy (Option.some.inj this)
        simp only [Sem.run_bind, hp, hq, Result.andThen_ok, run_equalIn_int w n 5 .u8 .u8 _ _ Tryd.underlying5, hne, Bool.not_false, if_true, Sem.run_pure, if_neg hno]
  rw [key _ (by intro i hi; simp at hi; omega)]
  by_cases h : xs = ys
  · subst h
    simp
  · rw [if_neg, decide_eq_false h]
    · simp
    · intro e
      refine h (List.ext_getElem? fun i => ?_)
      by_cases hi : i < 16
      · exact e i (by simp; omega)
      · rw [List.getElem?_eq_none (by omega), List.getElem?_eq_none (by omega)]
theorem eq16 (xs ys : List UInt8) (hx : xs.length = 16) (hy : ys.length = 16) (w : World) : (Op.equalIn 10000 38 (.agg (Lib.byteCells xs).toArray) (.agg (Lib.byteCells ys).toArray)).run Tryd.prog w = .ok (decide (xs = ys)) w := eqIn16 w 9998 xs ys hx hy
theorem guard16 : Tryd.prog.eqGuardType Tryd.prog.depth 38 = false := by kernel_rfl
theorem run_eql_16 {o : Oper} {a : Act} (x y : Operand) (ho : o.op = .binOp .eql 38 x y 38) (xs ys : List UInt8) (h1 : xs.length = 16) (h2 : ys.length = 16) (hx : a.eval x = .agg (Lib.byteCells xs).toArray) (hy : a.eval y = .agg (Lib.byteCells ys).toArray) (W : World) :
    (execOp a.eval o).run Tryd.prog W = .ok (.value (.bool (decide (xs = ys)))) W := by
  unfold execOp
  simp only [ho, hx, hy, Sem.run_bind, run_eqGuard_agg W .eql 38 x y _ _ guard16, run_eql_struct, eq16 xs ys h1 h2, Result.andThen_ok, Sem.run_pure]
theorem run_neq_16 {o : Oper} {a : Act} (x y : Operand) (ho : o.op = .binOp .neq 38 x y 38) (xs ys : List UInt8) (h1 : xs.length = 16) (h2 : ys.length = 16) (hx : a.eval x = .agg (Lib.byteCells xs).toArray) (hy : a.eval y = .agg (Lib.byteCells ys).toArray) (W : World) :
    (execOp a.eval o).run Tryd.prog W = .ok (.value (.bool (!decide (xs = ys)))) W := by
  unfold execOp
  simp only [ho, hx, hy, Sem.run_bind, run_eqGuard_agg W .neq 38 x y _ _ guard16, run_neq_struct, eq16 xs ys h1 h2, Result.andThen_ok, Sem.run_pure]

/-- What []byte(s) lays: the text, then room; what is frozen lies behind the row's last cell. -/
structure Marked (w : World) (g n c : Nat) (xs : List UInt8) : Prop where
  len : xs.length = n
  at' : ∃ cs : Array Value, w.heap[g]? = some (.cells cs 5 (cs.size, cs.size + 1)) ∧ cs.size = c ∧ cs.toList.take n = Lib.byteCells xs
  le : n ≤ c
  max : c ≤ maxLen
theorem Marked.row {w : World} {g n c : Nat} {xs : List UInt8} (h : Marked w g n c xs) : RowAt w (some ⟨g, 0, none⟩) c xs := by
  obtain ⟨cs, hg, hs, ht⟩ := h.at'
  refine ⟨by rw [h.len]; exact h.le, h.max, (fun e => by cases e), fun ad e j u hu => ?_⟩
  cases e
  rw [Go.WideShapes.add_plain, cell_of_row _ _ _ _ _ _ hg, Nat.zero_add]
  rw [← ht, List.getElem?_take] at hu
  split at hu
  · simpa using hu
  · cases hu
theorem run_bytes_txt (w : World) (s : List UInt8) (hm : s.length ≤ 1000000) : ∃ c w', (convert 9 22 (.string ⟨s.toArray⟩)).run Tryd.prog w = .ok (.slice (some ⟨w.heap.size, 0, none⟩) s.length c) w' ∧ Marked w' w.heap.size s.length c s ∧ Below w.heap.size w w' := by
  refine ⟨grownCap w s.length 0 5, _, run_bytes_of_string (P := Tryd.prog) w 9 22 5 ⟨s.toArray⟩ Tryd.underlying9 Tryd.underlying22 Tryd.underlying5, ?_, ?_⟩
  · have hge := grownCap_ge w s.length 0 5
    have hle := grownCap_le_maxLen w s.length 0 5 (by unfold maxLen; omega)
    have hsz : (bytesRow ⟨s.toArray⟩ (grownCap w s.length 0 5)).size = grownCap w s.length 0 5 := by
      simp only [bytesRow, Array.size_append, Array.size_map, Array.size_replicate, txt_size]
      simp
      omega
    refine ⟨rfl, ⟨bytesRow ⟨s.toArray⟩ (grownCap w s.length 0 5), ?_, hsz, ?_⟩, hge, hle⟩
    · exact heap_alloc_new w.drew _
    · simp [bytesRow, Lib.byteCells, txt_size]
  · exact ((Below.refl _ _).drew).alloc (Nat.le_refl _) _
end Go.Proofs.YtjalhlofpoknoaaDoor
