/- Contract of putNumbers. -/
import Derived.Test.YtfkjjolohphaoaaPp
namespace Go.Proofs.Ytfkjjolohphaoaa
open Go.RowKit

theorem Pc.puts_take (big : Bool) (s : Nat) (ws : List Nat) (k : Nat) (h : k < ws.length) : ((ws.take (k + 1)).map fun n => Oc.put n s big) = ((ws.take k).map fun n => Oc.put n s big) ++ [Oc.put ws[k] s big] := by
  rw [List.take_succ_eq_append_getElem h, List.map_append]; rfl
def wcells (ws : List Nat) : List Value := ws.map fun (x : Nat) => .int .u32 (x : Int)
theorem wcells_at (ws : List Nat) (k : Nat) (h : k < ws.length) : (wcells ws).toArray[k]? = some (.int .u32 (ws[k] : Int)) := by
  simp [wcells, h]

set_option maxHeartbeats 1000000 in
theorem numbers_put (ws : List Nat) (n s : Nat) (big : Bool) (g : Nat) (w : World) (hn : ws.length = n) (hm : n ≤ 1000) (h1 : 1 ≤ s) (h4 : s ≤ 4) (hw : ∀ x ∈ ws, x < 256 ^ s) (h : w.heap[g]? = some (.cells (wcells ws).toArray 22 (0, 0))) :
    Calls Try.prog 21 #[.bool big, .int .i64 (s : Int), .slice (some ⟨g, 0, none⟩) n n] w fun e w' => ∃ v, e = .returned v ∧ w'.ownsRow w.heap.size 5 1 v (Pc.nums big s ws).length (Lib.byteCells (Pc.nums big s ws)) ∧ Below w.heap.size w w' := by
  have H := Lib.hid h
  have Hn := Lib.hid hn
  have HW := Lib.hid hw
  obtain ⟨F, hF⟩ : ∃ F, Pc.nums big s ws = F := ⟨_, rfl⟩
  have hfl : F.length ≤ 300000 := by rw [← hF, Pc.nums_length, hn]; have := Nat.mul_le_mul hm h4; omega
  rw [hF]
  have HF := Lib.hid hF
  clear h hn hw hF
  go_enter Try.func21, Try.ntmps21
  go_wp2
  go_loopw [7, 14] (fun v i wr => ∃ k : Nat, i = .int .i64 (k : Int) ∧ k ≤ n ∧ Prts w wr w.heap.size v ((ws.take k).map fun x => Oc.put x s big) ∧ Below w.heap.size w wr) (fun _ i _ => n - (intOf i).toNat)
  case atStart => exact ⟨0, rfl, Nat.zero_le _, by simpa using prts_none w w w.heap.size, Below.refl _ _⟩
  case round =>
    obtain ⟨k, rfl, hk, hp, hb⟩ := hrel
    obtain ⟨av, cv, rfl⟩ := prts_slice hp
    by_cases hlt : (k : Int) < (n : Int)
    · have hkn : k < ws.length := by rw [Hn.out]; omega
      have hc : wr.cell? ⟨g, k, none⟩ = some (.int .u32 (ws[k] : Int)) := by
        rw [cell_of_row _ _ _ _ _ _ (block_next H.out hb)]; exact wcells_at ws k hkn
      have hx := HW.out ws[k] (List.getElem_mem hkn)
      have hx4 := Nat.lt_of_lt_of_le hx (Nat.pow_le_pow_right (n := 256) (by omega) h4)
      rw [show 256 ^ 4 = 4294967296 from rfl] at hx4
      have c30 := fun W => put_fits ws[k] s big W h1 (by omega) hx
      have hl := Oc.put_length ws[k] s big
      have ht := Pc.puts_take big s ws k hkn
      have hpl : ((ws.take k).map fun x => Oc.put x s big).length = k := by rw [List.length_map, List.length_take]; omega
      rw [hpl]
      generalize ((ws.take k).map fun x => Oc.put x s big) = L at *
      generalize Oc.put ws[k] s big = ys at *
      generalize ws[k] = x at *
      have C := Lib.hid c30
      have HP := Lib.hid hp
      have HB := Lib.hid hb
      have HT := Lib.hid ht
      have Hl := Lib.hid hl
      have HL := Lib.hid hpl
      clear c30 hp hb ht hl hpl hx
      have hu : IntKind.u64.wrap (x : Int) = (x : Int) := by rw [IntKind.wrap_u64]; omega
      go_wp2_with fail
      refine (C.out _).mono ?_
      rintro e w1 ⟨v1, rfl, o1, b1⟩
      have HB1 := Lib.hid (Below.chain HB.out b1)
      have HP1 := Lib.hid (HP.out.next b1)
      have hsz := HB.out.size
      have hsz1 := HB1.out.size
      have hpt := part_own (w0 := w) Hl.out (ownsRow_lower o1 hsz)
      have HPT := Lib.hid hpt
      obtain ⟨p1, c1, rfl⟩ := own_slice o1
      clear o1 b1 hpt C HB HP
      have hal : (w1.alloc (.cells #[.slice p1 s c1] 28)).heap.size = w1.heap.size + 1 := by simp
      go_wp2_with (at_builtin; refine wpList_append_prts rfl (.tmp 26) (.tmp 28) rfl w.heap.size w1.heap.size (.slice av k cv) L [ys] rfl rfl (by rw [HL.out] at HP1; exact HP1.out.next ((Below.refl _ _).alloc (Nat.le_refl _) _)) (news_one HPT.out) (by omega) (by rw [HL.out]; simp; omega) ?_; intro v6 w6 p6 g6 blk6)
      have b6 : Below w.heap.size w w6 := Below.grown (HB1.out.alloc HB1.out.size _) g6 (by omega) blk6
      go_roundw
      case rel => exact ⟨k + 1, by simp, by omega, by rw [HT.out]; exact p6, b6⟩
      case measure => simp [intOf]; omega
    · have hkn : k = n := by omega
      subst hkn
      rw [List.take_of_length_le (by rw [Hn.out]; exact Nat.le_refl _)] at hp ⊢
      obtain ⟨a1, c1, e1, hpa⟩ := hp.parts hb
      simp only [Value.slice.injEq, true_and] at e1
      obtain ⟨rfl, rfl⟩ := e1
      have c22 := join_at av k cv _ F wr (by simp [Hn.out]) HF.out (by simp [Hn.out]; omega) hfl hpa
      have hpl : (ws.map fun x => Oc.put x s big).length = k := by simp [Hn.out]
      rw [hpl] at *
      have C := Lib.hid c22
      have HB := Lib.hid hb
      clear c22 hpa hp hb
      go_wp2_with fail
      refine C.out.mono ?_
      rintro e w1 ⟨v1, rfl, o1, b1⟩
      have O1 := Lib.hid (ownsRow_lower o1 HB.out.size)
      have B1 := Lib.hid (Below.chain HB.out b1)
      clear o1 b1
      go_wp2
      go_ret
      exact ⟨_, rfl, O1.out, B1.out⟩
end Go.Proofs.Ytfkjjolohphaoaa
