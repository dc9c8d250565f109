/- The sines: a run of Go's math.sin by plain functions on the floats' bits, and what it gives at 1 to 64. No program stands in it. -/
import Derived.Test.YtjalhlofpoknoaaDoorM3Plain
namespace Go.Proofs.YtjalhlofpoknoaaDoor.S3
namespace Md

/-- A number, reckoned ahead of its use. -/
def force {α : Type} (m : Nat) (k : Nat → α) : α := Nat.rec (k 0) (fun n _ => k (n + 1)) m
theorem force_eq {α : Type} (m : Nat) (k : Nat → α) : force m k = k m := by cases m <;> rfl
def bf (o : Option Nat) (k : Nat → Option Nat) : Option Nat := match o with
  | some m => force m k
  | none => none
theorem bf_some {o : Option Nat} {k : Nat → Option Nat} {r : Nat} (h : bf o k = some r) : ∃ m, o = some m ∧ k m = some r := by
  cases o with
  | none => cases h
  | some m => exact ⟨m, rfl, by rw [← h]; exact (force_eq m k).symm⟩
def nat? (o : Option Int) : Option Nat := match o with
  | some (.ofNat n) => some n
  | _ => none
theorem nat?_some {o : Option Int} {n : Nat} (h : nat? o = some n) : o = some (n : Int) := by
  unfold nat? at h
  split at h
  · cases h; rfl
  · cases h
def fx (i : Nat) : Nat := floatOfInt .f64 (i : Int)
def sinF (r : Nat) : Option Nat :=
  bf (floatBits .mul .f64 (r % 9223372036854775808) 4751297606875873280) fun p =>
  nat? (floatToIntVal .f64 p .u32)
def sinC (q : Nat) : Option Nat :=
  bf (floatBits .mul .f64 4602678819172646912 q) fun t71 =>
  bf (floatBits .sub .f64 4607182418800017408 t71) fun t72 =>
  bf (floatBits .mul .f64 q q) fun t75 =>
  bf (floatBits .mul .f64 13666448263388469915 q) fun t79 =>
  bf (floatBits .add .f64 t79 4477121864728985349) fun t82 =>
  bf (floatBits .mul .f64 t82 q) fun t84 =>
  bf (floatBits .add .f64 t84 13732177093698800582) fun t87 =>
  bf (floatBits .mul .f64 t87 q) fun t89 =>
  bf (floatBits .add .f64 t89 4537941361668146421) fun t92 =>
  bf (floatBits .mul .f64 t92 q) fun t94 =>
  bf (floatBits .add .f64 t94 13787419979223748497) fun t97 =>
  bf (floatBits .mul .f64 t97 q) fun t99 =>
  bf (floatBits .add .f64 t99 4586165620538955083) fun t102 =>
  bf (floatBits .mul .f64 t75 t102) fun t103 =>
  bf (floatBits .add .f64 t72 t103) fun r =>
  sinF r
def sinS (z q : Nat) : Option Nat :=
  bf (floatBits .mul .f64 z q) fun t108 =>
  bf (floatBits .mul .f64 4460209587652500685 q) fun t112 =>
  bf (floatBits .add .f64 t112 13716528389658582877) fun t115 =>
  bf (floatBits .mul .f64 t115 q) fun t117 =>
  bf (floatBits .add .f64 t117 4523617212962785441) fun t120 =>
  bf (floatBits .mul .f64 t120 q) fun t122 =>
  bf (floatBits .add .f64 t122 13774824197404483331) fun t125 =>
  bf (floatBits .mul .f64 t125 q) fun t127 =>
  bf (floatBits .add .f64 t127 4575957461383575504) fun t130 =>
  bf (floatBits .mul .f64 t130 q) fun t132 =>
  bf (floatBits .add .f64 t132 13818544856648471880) fun t135 =>
  bf (floatBits .mul .f64 t108 t135) fun t136 =>
  bf (floatBits .add .f64 z t136) fun r =>
  sinF r
def sinZ (x e y : Nat) : Option Nat :=
  bf (floatBits .mul .f64 y 4605249456957292544) fun t47 =>
  bf (floatBits .sub .f64 x t47) fun t48 =>
  bf (floatBits .mul .f64 y 4495793288086814720) fun t50 =>
  bf (floatBits .sub .f64 t48 t50) fun t51 =>
  bf (floatBits .mul .f64 y 4388835458085048688) fun t53 =>
  bf (floatBits .sub .f64 t51 t53) fun z =>
  bf (floatBits .mul .f64 z z) fun q =>
  if e % 8 % 4 = 2 then sinC q else if e % 8 % 4 = 0 then sinS z q else none
def sinR (x : Nat) : Option Nat :=
  bf (floatBits .mul .f64 x 4608412980311869571) fun m =>
  bf (nat? (floatToIntVal .f64 m .u64)) fun j =>
  if 1000 < j then none else
  if j % 2 = 1 then bf (floatBits .add .f64 (floatOfInt .f64 (j : Int)) 4607182418800017408) fun y => sinZ x (j + 1) y
  else force (floatOfInt .f64 (j : Int)) fun y => sinZ x j y
def fine (x : Nat) : Bool :=
  (FloatKind.f64.format.order x 0 == some .gt) && ((FloatKind.f64.format.order x x == some .eq) && ((FloatKind.f64.format.order x 9218868437227405311 == some .lt) && ((FloatKind.f64.format.order x 4737786807993761792 == some .lt) && decide (x < 9223372036854775808))))
set_option maxRecDepth 100000 in
theorem fine_all : ((List.range 64).all fun i => force (fx (i + 1)) fine) = true := by kernel_rfl
set_option maxRecDepth 100000 in
theorem sin_all : ((List.range 64).map fun i => force (fx (i + 1)) sinR) = S.map some := by kernel_rfl
theorem fine_at (i : Nat) (h : i < 64) : fine (fx (i + 1)) = true := by
  have := List.all_eq_true.1 fine_all i (by simpa using h)
  rwa [force_eq] at this
theorem sin_at (i : Nat) (h : i < 64) : sinR (fx (i + 1)) = some (sn i) := by
  have e : ((List.range 64).map fun i => force (fx (i + 1)) sinR)[i]? = (S.map some)[i]? := by rw [sin_all]
  rw [List.getElem?_map, List.getElem?_range h, List.getElem?_map] at e
  have h2 : S[i]? = some (sn i) := by
    have : ∀ i, i < 64 → S[i]? = some (sn i) := by decide
    exact this i h
  rw [h2] at e
  have e' : force (fx (i + 1)) sinR = some (sn i) := Option.some.inj e
  rw [force_eq] at e'
  exact e'
end Md
end Go.Proofs.YtjalhlofpoknoaaDoor.S3
