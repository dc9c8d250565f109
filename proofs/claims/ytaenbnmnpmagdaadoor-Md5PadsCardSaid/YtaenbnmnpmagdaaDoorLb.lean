/- What the listed tables of package math give the walks. -/
import Derived.Test.YtaenbnmnpmagdaaDoorLa
import Derived.Test.YtaenbnmnpmagdaaDoorSinb
namespace Go.Proofs.YtaenbnmnpmagdaaDoor
open Go.ChangeShapes Go.WideShapes Go.ChangeAt Go.RowKit

def flData (zs : List Nat) : DataW Unit := .agg (zs.map fun z => .lit (.float .f64 z))
theorem trod_float {H : Type} {enc : TypeId × Value → H} {P : Program} {w : World} {base : Nat} {spare : Nat → Bool} {held : Bool} {fuel : Nat} {t : TypeId} {cs : List Value} {x : DataW H × List MemPlace} {k : FloatKind}
    (ht : P.underlying t = some (.float k)) (h : DataW.trod enc P w base spare held fuel t cs = some x) : ∃ n, cs = [.float k n] ∧ x = (.lit (.float k n), []) := by
  cases fuel with
  | zero => simp [DataW.trod] at h
  | succ n =>
    unfold DataW.trod at h
    rw [ht] at h
    split at h <;> simp_all
theorem float_cell {W : World} {name : String} {g : Nat} {zs : List Nat} (hg : Tryd.prog.globalNamed name = some g) (hty : (Tryd.prog.globals[g]?).map (·.type) = some 65) (h : Lib.VarReads Tryd.prog W name (flData zs)) (i : Nat) (hi : i < 6) (z : Nat) (hz : zs[i]? = some z) :
    W.cell? ⟨g, i, none⟩ = some (.float .f64 z) := by
  obtain ⟨g1, t1, cs1, f1, p1, e1, y1, v1, d1⟩ := h
  obtain rfl := Option.some.inj (hg.symm.trans e1)
  obtain rfl := Option.some.inj (hty.symm.trans y1)
  rw [World.var?_cell hg v1 i]
  obtain ⟨fu, d, q, hd, ht⟩ := Lib.array_elem Tryd.underlying65 d1 i hi
  have hc55 : Tryd.prog.cellsOf 55 = 1 := by kernel_rfl
  rw [hc55] at ht
  obtain ⟨n, hc, hx⟩ := trod_float Tryd.underlying55 ht
  have hdz : d = .lit (.float .f64 z) := by
    rw [List.getElem?_map, hz] at hd
    exact (Option.some.inj hd).symm
  have hnz : n = z := by
    have h9 := congrArg Prod.fst hx
    rw [hdz] at h9
    simpa using h9.symm
  have h3 : (List.take 1 (List.drop (i * 1) cs1.toList))[0]? = some (.float .f64 n) := by rw [hc]; rfl
  rw [List.getElem?_take, if_pos (by omega), List.getElem?_drop, Nat.mul_one, Nat.add_zero] at h3
  rw [← Array.getElem?_toList, h3, hnz]
def cosL : List Nat := [13666448263388469915, 4477121864728985349, 13732177093698800582, 4537941361668146421, 13787419979223748497, 4586165620538955083]
def sinL : List Nat := [4460209587652500685, 13716528389658582877, 4523617212962785441, 13774824197404483331, 4575957461383575504, 13818544856648471880]
theorem gCos : Tryd.prog.globalNamed "math._cos" = some 3 := by kernel_rfl
theorem gSin : Tryd.prog.globalNamed "math._sin" = some 4 := by kernel_rfl
theorem tCos : (Tryd.prog.globals[3]?).map (·.type) = some 65 := by kernel_rfl
theorem tSin : (Tryd.prog.globals[4]?).map (·.type) = some 65 := by kernel_rfl
theorem cos_data : (Rows.laid_math_cos : DataW Unit) = flData cosL := by kernel_rfl
theorem sin_data : (Rows.laid_math_sin : DataW Unit) = flData sinL := by kernel_rfl
theorem trig_of_laid5 {W : World} (h : laidMetH Tryd.prog laid5 W) : Trig W := by
  rw [MakeChecks.laidMetH_plain _ _ _ (by kernel_rfl)] at h
  have hs := Lib.laidMet.reads h (.head _)
  have hc := Lib.laidMet.reads h (.tail _ (.head _))
  rw [sin_data] at hs
  rw [cos_data] at hc
  have c := fun i hi z hz => float_cell gCos tCos hc i hi z hz
  have s := fun i hi z hz => float_cell gSin tSin hs i hi z hz
  refine ⟨c 0 (by omega) _ rfl, c 1 (by omega) _ rfl, c 2 (by omega) _ rfl, c 3 (by omega) _ rfl, c 4 (by omega) _ rfl, c 5 (by omega) _ rfl, s 0 (by omega) _ rfl, s 1 (by omega) _ rfl, s 2 (by omega) _ rfl, s 3 (by omega) _ rfl, s 4 (by omega) _ rfl, s 5 (by omega) _ rfl, ?_⟩
  have c9 := s 0 (by omega) _ rfl
  rcases Nat.lt_or_ge 4 W.heap.size with h3 | h3
  · exact h3
  · simp [World.cell?, Array.getElem?_eq_none h3] at c9
end Go.Proofs.YtaenbnmnpmagdaaDoor
