/- Contracts of writer and of what it answers, which writes a byte and counts it. -/
import Derived.Test.YthmljgpnkealaaaAa
import Derived.Test.YthmljgpnkealaaaPlainb
import Derived.OneCell
namespace Go.Proofs.Ythmljgpnkealaaa
open Go.RowKit

/-- The room that is written, and how many bytes came so far. -/
structure WrAt (w : World) (base Br Bn : Nat) (v : Value) (n : Nat) (ys : List UInt8) : Prop where
  room : w.heap[Br]? = some (.cells #[v] 26 (0, 0))
  cnt : w.heap[Bn]? = some (.cells #[.int .i64 (n : Int)] 3 (0, 0))
  own : w.ownsRow base 5 1 v ys.length (Lib.byteCells ys)

theorem own_slice {w : World} {B n : Nat} {v : Value} {xs : List Value} (h : w.ownsRow B 5 1 v n xs) : ∃ a c, v = .slice a n c := by
  rcases h.2 with ⟨rfl, rfl⟩ | ⟨g, cap, cur, rfl, _⟩
  · exact ⟨none, 0, rfl⟩
  · exact ⟨_, cap, rfl⟩
theorem WrAt.ne {w : World} {base Br Bn : Nat} {v : Value} {n : Nat} {ys : List UInt8} (h : WrAt w base Br Bn v n ys) : Br ≠ Bn := by
  intro e
  have h1 := h.room
  rw [e, h.cnt] at h1
  simp at h1
theorem WrAt.other {w : World} {base Br Bn : Nat} {v : Value} {n : Nat} {ys : List UInt8} (h : WrAt w base Br Bn v n ys) : v.ownBlock ≠ some Bn ∧ v.ownBlock ≠ some Br := by
  rcases h.own.2 with ⟨rfl, _⟩ | ⟨g, cap, cur, rfl, _, hh, _⟩
  · simp [Value.ownBlock]
  · constructor
    · intro e
      simp [Value.ownBlock] at e
      subst e
      rw [h.cnt] at hh
      simp at hh
    · intro e
      simp [Value.ownBlock] at e
      subst e
      rw [h.room] at hh
      simp at hh
theorem WrAt.counted {w : World} {base Br Bn : Nat} {v : Value} {n : Nat} {ys : List UInt8} (h : WrAt w base Br Bn v n ys) (k : Nat) : WrAt (w.setCell ⟨Bn, 0, none⟩ (.int .i64 (k : Int))) base Br Bn v k ys :=
  ⟨by rw [Below.heap_setCell _ _ _ _ h.ne]; exact h.room, one_setCell h.cnt, ownsRow_setCell_other h.own h.other.1 _⟩
theorem WrAt.stored {w : World} {base Br Bn g len cap : Nat} {n : Nat} {ys : List UInt8} (h : WrAt w base Br Bn (.slice (some ⟨g, 0, none⟩) len cap) n ys) (k : Nat) (c : UInt8) : WrAt (w.setCell ⟨g, k, none⟩ (.int .u8 (c.toNat : Int))) base Br Bn (.slice (some ⟨g, 0, none⟩) len cap) n (ys.set k c) := by
  have ho := h.other
  simp only [Value.ownBlock, ne_eq, Option.some.injEq] at ho
  have hl : len = ys.length := by
    obtain ⟨a, c, e⟩ := own_slice h.own
    simp at e; exact e.2.1
  subst hl
  refine ⟨by rw [Below.heap_setCell _ _ _ _ (fun e => ho.2 e.symm)]; exact h.room, by rw [Below.heap_setCell _ _ _ _ (fun e => ho.1 e.symm)]; exact h.cnt, ?_⟩
  rw [cells_set, List.length_set]
  exact (h.own.stored k _).1

set_option maxHeartbeats 1000000 in
theorem write_in (base Br Bn B g cap n : Nat) (ys : List UInt8) (c : UInt8) (w : World) (h : WrAt w base Br Bn (.slice (some ⟨g, 0, none⟩) ys.length cap) n ys) (hn : n < ys.length) (hy : ys.length ≤ 1000000) (hB : B ≤ g) (hB' : B ≤ Bn) :
    Calls Try.prog 51 #[.int .u8 (c.toNat : Int), .pointer (some ⟨Bn, 0, none⟩), .pointer (some ⟨Br, 0, none⟩)] w fun e w' => e = .returned (.int .i64 ((n + 1 : Nat) : Int)) ∧ WrAt w' base Br Bn (.slice (some ⟨g, 0, none⟩) ys.length cap) (n + 1) (ys.set n c) ∧ Below B w w' := by
  have h1 := (h.stored n c).counted (n + 1)
  have c1 := cell_of_one h.room
  have c2 := cell_of_one h.cnt
  have c3 := cell_of_one (h.stored n c).cnt
  have f3 := free_of_one (h.stored n c).cnt
  have c4 := cell_of_one h1.cnt
  have hcell := h.own.cellAt n (by omega)
  have hfz := h.own.frozenAt n
  have hyk : (Lib.byteCells ys)[n]? = some (.int .u8 (ys[n].toNat : Int)) := by simp [Lib.byteCells, hn]
  rw [hyk] at hcell
  clear hyk
  have i1 : (n : Int) < (ys.length : Int) := by omega
  have H1 := Lib.hid h1
  clear h1 h
  go_enter Try.func51, Try.ntmps51
  go_wp2
  go_ret
  exact ⟨rfl, H1.out, ((Below.refl _ _).setCell hB _).setCell hB' _⟩

theorem write_out (base Br Bn B n cap : Nat) (a : Option Addr) (ys : List UInt8) (c : UInt8) (w : World) (h : WrAt w base Br Bn (.slice a ys.length cap) n ys) (hn : ¬ n < ys.length) (hm : n ≤ 1000000) (hB' : B ≤ Bn) :
    Calls Try.prog 51 #[.int .u8 (c.toNat : Int), .pointer (some ⟨Bn, 0, none⟩), .pointer (some ⟨Br, 0, none⟩)] w fun e w' => e = .returned (.int .i64 ((n + 1 : Nat) : Int)) ∧ WrAt w' base Br Bn (.slice a ys.length cap) (n + 1) (ys.set n c) ∧ Below B w w' := by
  have h1 := h.counted (n + 1)
  have c1 := cell_of_one h.room
  have c2 := cell_of_one h.cnt
  have f2 := free_of_one h.cnt
  have c4 := cell_of_one h1.cnt
  have i1 : ¬ (n : Int) < (ys.length : Int) := by omega
  have i2 : (n : Int) ≤ 1000000 := by omega
  rw [List.set_eq_of_length_le (by omega)]
  have H1 := Lib.hid h1
  clear h1 h
  go_enter Try.func51, Try.ntmps51
  go_wp2
  go_ret
  exact ⟨rfl, H1.out, (Below.refl _ _).setCell hB' _⟩
theorem write_any (base Br Bn B n : Nat) (v : Value) (ys : List UInt8) (c : UInt8) (w : World) (h : WrAt w base Br Bn v n ys) (hy : ys.length ≤ 1000000) (hm : n ≤ 1000000) (hB : B ≤ base) (hB' : B ≤ Bn) :
    Calls Try.prog 51 #[.int .u8 (c.toNat : Int), .pointer (some ⟨Bn, 0, none⟩), .pointer (some ⟨Br, 0, none⟩)] w fun e w' => e = .returned (.int .i64 ((n + 1 : Nat) : Int)) ∧ WrAt w' base Br Bn v (n + 1) (ys.set n c) ∧ Below B w w' := by
  by_cases hn : n < ys.length
  · rcases h.own.2 with ⟨_, h0⟩ | ⟨g, cap, cur, rfl, hg, _⟩
    · omega
    · exact write_in base Br Bn B g cap n ys c w h hn hy (by omega) hB'
  · obtain ⟨a, cap, rfl⟩ := own_slice h.own
    exact write_out base Br Bn B n cap a ys c w h hn hm hB'

/-- What writes a byte. -/
def wrV (Bn Br : Nat) : Value := .func (.func 51) #[] #[.pointer (some ⟨Bn, 0, none⟩), .pointer (some ⟨Br, 0, none⟩)]
theorem writer_any (base : Nat) (v : Value) (ys : List UInt8) (w : World) (h : w.ownsRow base 5 1 v ys.length (Lib.byteCells ys)) :
    Calls Try.prog 40 #[v] w fun e w' => e = .returned (wrV (w.heap.size + 1) w.heap.size) ∧ WrAt w' base w.heap.size (w.heap.size + 1) v 0 ys ∧ Below w.heap.size w w' ∧ w'.heap.size = w.heap.size + 2 := by
  have hmf : ∀ (fn : Fn) (first cap : Array Value) (w : World), (Instr.makeFunc fn first cap).run Try.prog w = .ok (.func fn first cap) w := fun _ _ _ _ => rfl
  obtain ⟨a, c, rfl⟩ := own_slice h
  have Hh := Lib.hid h
  clear h
  go_enter Try.func40, Try.ntmps40
  go_wp2
  go_ret
  refine ⟨rfl, ⟨?_, ?_, (Hh.out.alloc _).alloc _⟩, ((Below.refl _ _).alloc (Nat.le_refl _) _).alloc (by simp) _, by simp⟩
  · rw [Below.heap_alloc _ _ _ (by simp)]
    exact heap_alloc_new w _
  · have h2 := heap_alloc_new (w.alloc (Obj.cells #[Value.slice a ys.length c] 26)) (Obj.cells #[Value.int IntKind.i64 0] 3)
    simpa using h2
end Go.Proofs.Ythmljgpnkealaaa
