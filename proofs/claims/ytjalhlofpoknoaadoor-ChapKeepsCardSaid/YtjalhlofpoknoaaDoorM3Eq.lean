/- Two digests that are one compare as equal; what is cut out of a row. -/
import Derived.Test.YtjalhlofpoknoaaDoorM3Wg
namespace Go.Proofs.YtjalhlofpoknoaaDoor.S3
open Go.RowKit
theorem part5 (xs : Array Value) (i : Nat) (v : Value) (w : World) (h : xs[i]? = some v) : (part 5 xs i).run Tryd.prog w = .ok v w := by
  unfold part
  simp only [Sem.run_bind, Tryd.isAgg5, Result.andThen_ok, Bool.false_eq_true, if_false, h, Sem.run_pure]
theorem eqIn (w : World) (n : Nat) (xs : Array Value) (hx : ∀ i, i < 16 → ∃ z, xs[i]? = some (.int .u8 z)) : (Op.equalIn (n + 1 + 1) 38 (.agg xs) (.agg xs)).run Tryd.prog w = .ok true w := by
  unfold Op.equalIn
  simp only [Sem.run_bind, run_underlying Tryd.underlying38, Result.andThen_ok, Tryd.sizeOf5, Std.Legacy.Range.forIn_eq_forIn_range']
  have key : ∀ l : List Nat, (∀ i ∈ l, i < 16) → (forIn l ((none, ()) : Option Bool × Unit) fun i __s => (do
              let __do_lift ← part 5 xs (i * 1)
              let __do_lift_1 ← part 5 xs (i * 1)
              let __do_lift ← Op.equalIn (n + 1) 5 __do_lift __do_lift_1
              if (!__do_lift) = true then pure (ForInStep.done (some false, ())) else pure (ForInStep.yield (none, ())) : Sem _)).run Tryd.prog w = .ok (none, ()) w := by
    intro l
    induction l with
    | nil => intro _; simp
    | cons i l ih =>
      intro h
      obtain ⟨z, hz⟩ := hx i (h i (by simp))
      rw [List.forIn_cons]
      have hp := part5 xs (i * 1) (.int .u8 z) w (by simpa using hz)
      simp only [Sem.run_bind, hp, Result.andThen_ok, run_equalIn_int w n 5 .u8 .u8 z z Tryd.underlying5, beq_self_eq_true, Bool.not_true, Bool.false_eq_true, if_false, Sem.run_pure]
      exact ih (fun j hj => h j (by simp [hj]))
  rw [key _ (by intro i hi; simp at hi; omega)]
  simp
theorem eql_digest (d : List UInt8) (hd : d.length = 16) (w : World) : (Op.equalIn 10000 38 (.agg (Lib.byteCells d).toArray) (.agg (Lib.byteCells d).toArray)).run Tryd.prog w = .ok true w :=
  eqIn w 9998 _ fun i hi => ⟨_, by
    simp only [List.getElem?_toArray, Lib.byteCells, List.getElem?_map]
    rw [List.getElem?_eq_getElem (by omega)]; rfl⟩
theorem guard24 : Tryd.prog.eqGuardType Tryd.prog.depth 38 = false := by kernel_rfl
theorem sum_length (b : List UInt8) : (Md.sum b).length = 16 := Md.digest_length _

theorem RowAt.head {w : World} {a : Option Addr} {c : Nat} {xs : List UInt8} (h : RowAt w a c xs) (r : Nat) : RowAt w a c (xs.take r) :=
  ⟨Nat.le_trans (by simp; omega) h.le, h.max, h.nil, fun ad e j u hu => h.cell ad e j u (by
    simp only [Lib.byteCells, List.getElem?_map, List.getElem?_take] at hu ⊢
    split at hu
    · exact hu
    · simp at hu)⟩
theorem parts_four {w : World} {p1 p2 p3 : Option Addr} {c1 c2 c3 n1 n2 n3 : Nat} {y1 y2 y3 : List UInt8} (e1 : y1.length = n1) (e2 : y2.length = n2) (e3 : y3.length = n3) (h1 : RowAt w p1 c1 y1) (h2 : RowAt w p2 c2 y2) (h3 : RowAt w p3 c3 y3) :
    PartsAt (w.alloc (.cells #[.slice p1 n1 c1, .slice p2 n2 c2, .slice none 0 0, .slice p3 n3 c3] 22)) (some ⟨w.heap.size, 0, none⟩) [y1, y2, [], y3] := by
  subst e1; subst e2; subst e3
  refine .inr ⟨w.heap.size, 0, rfl, by simp, fun j hj => ?_⟩
  have hj4 : j = 0 ∨ j = 1 ∨ j = 2 ∨ j = 3 := by simp at hj; omega
  have hb := (Below.refl w.heap.size w).alloc (Nat.le_refl _) (.cells #[.slice p1 y1.length c1, .slice p2 y2.length c2, .slice none 0 0, .slice p3 y3.length c3] 22)
  rcases hj4 with rfl | rfl | rfl | rfl
  · exact ⟨p1, c1, by simp only [World.cell?, heap_alloc_new]; rfl, h1.next hb⟩
  · exact ⟨p2, c2, by simp only [World.cell?, heap_alloc_new]; rfl, h2.next hb⟩
  · exact ⟨none, 0, by simp only [World.cell?, heap_alloc_new]; rfl, rowAt_nil _⟩
  · exact ⟨p3, c3, by simp only [World.cell?, heap_alloc_new]; rfl, h3.next hb⟩
end Go.Proofs.YtjalhlofpoknoaaDoor.S3
