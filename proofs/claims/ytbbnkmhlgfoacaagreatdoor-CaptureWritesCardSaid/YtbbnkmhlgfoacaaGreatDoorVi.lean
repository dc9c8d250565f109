/- Contract of the document's Write. -/
import Derived.Test.YtbbnkmhlgfoacaaGreatDoorVg
import Derived.Test.YtbbnkmhlgfoacaaGreatDoorVh
namespace Go.Proofs.YtbbnkmhlgfoacaaGreatDoor
open Go.RowKit
open S10

set_option maxRecDepth 100000 in
set_option maxHeartbeats 1000000 in
theorem refWrite_any (f : Int) (y : Xc) (a : Option Addr) (n cap : Nat) (L : List Cp.It) (w : World) (hn : L.length = n) (h60 : n ≤ 60) (ht : Cp.tot L ≤ 70000) (hac : y.c.accm < 4294967296) (h : ItsAt w a L) :
  Calls Tryz.prog 12 #[.slice a n cap, .int .i64 f, .agg (ccells y).toArray] w fun e w' => WriteRes w w' e (Cp.write L f y.c) := by
 by_cases h1 : f = 1
 ·
  subst h1; exact refWrite_one y a n cap L w hn h60 ht h
 ·
  by_cases h2 : f = 2
  ·
   subst h2; exact refWrite_two y a n cap L w hn h60 ht hac h
  ·
   have i1 : (f != 1) = true := by simp [h1]
   have i2 : (f != 2) = true := by simp [h2]
   rw [Cp.write_no L f y.c h1 h2]
   have hB0 := below_one w (.cells (ccells y).toArray 25)
   go_enter Tryz.func12, Tryz.ntmps12
   simp only [ccells] at hB0 ⊢
   go_wp2
   go_ret2
   exact ⟨_, rfl, World.ownsRow_nil _ _ _ _, hB0⟩
end Go.Proofs.YtbbnkmhlgfoacaaGreatDoor
