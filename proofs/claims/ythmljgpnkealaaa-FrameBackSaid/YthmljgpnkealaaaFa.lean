/- A deframer in memory; what a call that feeds it leaves as it was; contracts of New, most and Tally. -/
import Derived.Test.YthmljgpnkealaaaSc
import Derived.Test.YthmljgpnkealaaaPlainf
import Derived.Deep.MidRow
import Derived.Laws.EntriesVeiled
namespace Go.Proofs.Ythmljgpnkealaaa
open Go.RowKit

/-- What takes the next byte. -/
def fnV (ins : Bool) (D : Nat) : Value := .func (.func (if ins = true then 36 else 25)) #[.pointer (some ⟨D, 0, none⟩)] #[]
/-- The tally's cells. -/
def tcells (t : Fr.Tal) : List Value := [.int .i64 (t.good : Int), .int .i64 (t.aborted : Int), .int .i64 (t.short : Int), .int .i64 (t.long : Int), .int .i64 (t.wrong : Int)]
/-- A deframer's cells. -/
def dcells (m : Nat) (wide : Bool) (f hv : Value) (t : Fr.Tal) : List Value := [.int .u32 (m : Int), .bool wide, f, hv, .int .i64 0] ++ tcells t

structure DefAt (w : World) (m : Nat) (wide : Bool) (D : Nat) (hv : Value) (s : Fr.DS) : Prop where
  blk : w.heap[D]? = some (.cells (dcells m wide (fnV s.ins D) hv s.tal).toArray 56 (0, 0))
  own : w.ownsRow (D + 1) 5 1 hv s.held.length (Lib.byteCells s.held)

theorem new_any (m : Nat) (wide : Bool) (w : World) : Calls Try.prog 13 #[.int .u32 (m : Int), .bool wide] w fun e w' => e = .returned (.pointer (some ⟨w.heap.size, 0, none⟩)) ∧ DefAt w' m wide w.heap.size (.slice none 0 0) Fr.init ∧ Below w.heap.size w w' ∧ w'.heap.size = w.heap.size + 1 := by
  have hmf : ∀ (fn : Fn) (first cap : Array Value) (w : World), (Instr.makeFunc fn first cap).run Try.prog w = .ok (.func fn first cap) w := fun _ _ _ _ => rfl
  go_enter Try.func13, Try.ntmps13
  go_wp2
  go_ret
  exact ⟨rfl, ⟨heap_alloc_new w _, World.ownsRow_nil _ _ _ _⟩, (Below.refl _ _).alloc (Nat.le_refl _) _, by simp⟩

theorem DefAt.cellAt {w : World} {m : Nat} {wide : Bool} {D : Nat} {hv : Value} {s : Fr.DS} (h : DefAt w m wide D hv s) (i : Nat) (u : Value) (hu : (dcells m wide (fnV s.ins D) hv s.tal)[i]? = some u) : w.cell? ⟨D, i, none⟩ = some u := by
  rw [cell_of_row _ _ _ _ _ _ h.blk]; simpa using hu
theorem DefAt.free {w : World} {m : Nat} {wide : Bool} {D : Nat} {hv : Value} {s : Fr.DS} (h : DefAt w m wide D hv s) (i : Nat) : w.frozen? ⟨D, i, none⟩ = false := frozen_of_row w D i _ 56 h.blk
theorem DefAt.lt {w : World} {m : Nat} {wide : Bool} {D : Nat} {hv : Value} {s : Fr.DS} (h : DefAt w m wide D hv s) : D < w.heap.size := lt_of_block h.blk
theorem DefAt.next {w w' : World} {m : Nat} {wide : Bool} {D : Nat} {hv : Value} {s : Fr.DS} (h : DefAt w m wide D hv s) (b : Below w.heap.size w w') : DefAt w' m wide D hv s :=
  ⟨by rw [b.block D h.lt]; exact h.blk, ownsRow_next h.own b⟩

theorem most_any {w : World} {m : Nat} {wide : Bool} {D : Nat} {hv : Value} {s : Fr.DS} (h : DefAt w m wide D hv s) : Calls Try.prog 56 #[.pointer (some ⟨D, 0, none⟩)] w fun e w' => e = .returned (.int .i64 (Fr.most wide : Nat)) ∧ w' = w := by
  have hc : w.cell? ⟨D, 1, none⟩ = some (.bool wide) := h.cellAt 1 _ rfl
  have hs := Fr.size_two wide
  have hsz := fun w => size_any wide w
  unfold Fr.most
  generalize Fc.size wide = s at hs hsz ⊢
  clear h
  go_enter Try.func56, Try.ntmps56
  go_wp2_with (go_at_call 44; refine (hsz _).mono ?_; rintro e w' ⟨rfl, h⟩; rw [h]; clear h)
  go_ret
  exact ⟨ret_int (by omega), rfl⟩

theorem info40 : (Try.prog.info? 40).map (·.size) = some 5 := by kernel_rfl
theorem tally_any {w : World} {m : Nat} {wide : Bool} {D : Nat} {hv : Value} {s : Fr.DS} (h : DefAt w m wide D hv s) : Calls Try.prog 17 #[.pointer (some ⟨D, 0, none⟩)] w fun e w' => e = .returned (.agg (tcells s.tal).toArray) ∧ Below w.heap.size w w' := by
  have hb := h.lt
  have c5 : ∀ o, (w.alloc o).cell? ⟨D, 5, none⟩ = some (.int .i64 (s.tal.good : Int)) := fun o => by rw [World.cell?_alloc_lt _ _ _ hb]; exact h.cellAt 5 _ rfl
  have c6 : ∀ o, (w.alloc o).cell? ⟨D, 6, none⟩ = some (.int .i64 (s.tal.aborted : Int)) := fun o => by rw [World.cell?_alloc_lt _ _ _ hb]; exact h.cellAt 6 _ rfl
  have c7 : ∀ o, (w.alloc o).cell? ⟨D, 7, none⟩ = some (.int .i64 (s.tal.short : Int)) := fun o => by rw [World.cell?_alloc_lt _ _ _ hb]; exact h.cellAt 7 _ rfl
  have c8 : ∀ o, (w.alloc o).cell? ⟨D, 8, none⟩ = some (.int .i64 (s.tal.long : Int)) := fun o => by rw [World.cell?_alloc_lt _ _ _ hb]; exact h.cellAt 8 _ rfl
  have c9 : ∀ o, (w.alloc o).cell? ⟨D, 9, none⟩ = some (.int .i64 (s.tal.wrong : Int)) := fun o => by rw [World.cell?_alloc_lt _ _ _ hb]; exact h.cellAt 9 _ rfl
  clear h
  go_enter Try.func17, Try.ntmps17
  go_wp2
  refine bodyPost_ret (v := .agg (tcells s.tal).toArray) ?_ rfl ⟨rfl, (Below.refl _ _).alloc (Nat.le_refl _) _⟩
  exact results_cell_row Try.results17 _ _ w.heap.size 40 _ _ _ rfl (heap_alloc_new w _) Try.underlying40 rfl info40
end Go.Proofs.Ythmljgpnkealaaa
