/- Contracts of the document's num, four and Next. -/
import Derived.Test.YtfkjjolohphaoaaPp
namespace Go.Proofs.Ytfkjjolohphaoaa
open Go.RowKit

theorem refGet_at (a : Option Addr) (n cap : Nat) (xs : List UInt8) (big : Bool) (w : World) (hn : xs.length = n) (h1 : 1 ≤ n) (h8 : n ≤ 8) (h : BytesAt w a xs) :
    Calls Try.prog 27 #[.slice a n cap, .bool big] w fun e w' => e = .returned (.int .u64 (Oc.get xs big : Nat)) ∧ w' = w := by
  subst hn
  rcases h with rfl | ⟨b, off, rfl, hb, hc⟩
  · simp at h1
  · exact refGet_some b off cap xs big w h8 hc

theorem refNum_any (a : Option Addr) (n cap : Nat) (xs : List UInt8) (k : Nat) (big : Bool) (w : World) (hn : xs.length = n) (hm : n ≤ 300000) (hk : k + 4 ≤ n) (h : RowAt w a cap xs) :
    Calls Try.prog 28 #[.slice a n cap, .int .i64 (k : Int), .bool big] w fun e w' => e = .returned (.int .u32 (Pc.num xs k big : Nat)) ∧ w' = w := by
  have hle := h.le
  rw [hn] at hle
  have hcut := h.cut k (k + 4) (by omega) (by omega)
  rw [if_neg (by omega), List.drop_take, Nat.add_sub_cancel_left] at hcut
  have hl : ((xs.drop k).take 4).length = 4 := by simp; omega
  have hlt := Pc.num_lt xs k big
  have e1 : Pc.num xs k big = Oc.get ((xs.drop k).take 4) big := rfl
  rw [e1] at hlt ⊢
  generalize (xs.drop k).take 4 = ys at *
  have c27 := refGet_at _ 4 (cap - k) ys big w hl (by omega) (by omega) hcut.bytes
  have hw : IntKind.u32.wrap ((Oc.get ys big : Nat) : Int) = ((Oc.get ys big : Nat) : Int) := by rw [IntKind.wrap_u32]; omega
  generalize Oc.get ys big = v at *
  have C27 := Lib.hid c27
  have j1 : ¬ (cap : Int) = (k : Int) := by omega
  have j2 : ¬ cap = k := by omega
  have j3 : (k : Int) + 4 ≤ (cap : Int) := by omega
  have j4 : (k : Int) ≤ (k : Int) + 4 := by omega
  have j5 : (k : Int) ≤ 300000 := by omega
  clear c27 hcut h e1
  go_enter Try.func28, Try.ntmps28
  go_wp2_with fail
  refine C27.out.mono ?_
  rintro e w1 ⟨rfl, h1⟩
  rw [h1]
  clear h1
  go_wp2
  go_ret
  exact ⟨ret_u32 (by first | rfl | omega), rfl⟩

/-- A slice of one's own, its bytes, and nothing else changed from B on. -/
theorem four_any (B : Nat) (v : Value) (n : Nat) (xs : List UInt8) (x : Nat) (big : Bool) (w0 w : World) (hn : xs.length = n) (hm : n ≤ 300000) (hx : x < 4294967296) (ho : w.ownsRow B 5 1 v n (Lib.byteCells xs)) (hB : B ≤ w.heap.size) (hw : Below B w0 w) :
    Calls Try.prog 24 #[v, .int .u32 (x : Int), .bool big] w fun e w' => ∃ v', e = .returned v' ∧ w'.ownsRow B 5 1 v' (n + 4) (Lib.byteCells (xs ++ Oc.put x 4 big)) ∧ B ≤ w'.heap.size ∧ Below B w0 w' := by
  have c32 := refPut_any x 4 big w (by omega) (by omega)
  have hl := Oc.put_length x 4 big
  generalize Oc.put x 4 big = ys at *
  obtain ⟨p, c, rfl⟩ := own_slice ho
  have hu : IntKind.u64.wrap (x : Int) = (x : Int) := by rw [IntKind.wrap_u64]; omega
  have C32 := Lib.hid c32
  have O := Lib.hid ho
  have W := Lib.hid hw
  have Hl := Lib.hid hl
  clear c32 ho hw hl
  go_enter Try.func24, Try.ntmps24
  go_wp2_with fail
  refine C32.out.mono ?_
  rintro e w1 ⟨v1, rfl, o1, b1⟩
  obtain ⟨p1, c1, rfl, r1⟩ := rowAt_own Hl.out o1
  have O1 := Lib.hid (ownsRow_next O.out b1)
  have R1 := Lib.hid r1
  have W1 := Lib.hid (W.out.trans (b1.mono hB))
  have hB1 := Nat.le_trans hB b1.size
  clear o1 r1 b1 C32
  go_wp2_with (at_builtin; refine wpList_append_row rfl (.tmp 7) (.tmp 11) rfl B (.slice p n c) n _ rfl O1.out p1 4 c1 ys rfl Hl.out R1.out (by omega) hB1 ?_; intro v2 w2 o2 g2)
  go_ret
  refine ⟨v2, rfl, by rw [Lib.byteCells_append]; exact o2, Nat.le_trans hB1 g2.size, Below.grown W1.out g2 hB1 (fun k hk => (O1.out.lt k hk).1)⟩
end Go.Proofs.Ytfkjjolohphaoaa
