/- Contracts of outside, leftOut and hold. -/
import Derived.Test.YthmljgpnkealaaaFb
namespace Go.Proofs.Ythmljgpnkealaaa
open Go.RowKit
namespace St
theorem ans_one (m : Nat) (c : UInt8) (hc : ¬ c.toNat = 126) : (Ac.has m c.toNat = true ∧ ans m [c] = ([], true)) ∨ (Ac.has m c.toNat = false ∧ (ans m [c] = ([], false) ∨ ans m [c] = ([c], true))) := by
  cases h : Ac.has m c.toNat with
  | true => exact .inl ⟨rfl, ans_ok m [c] [] (by show step m (some ([], false)) c = _; rw [step_has m _ c h])⟩
  | false =>
    refine .inr ⟨rfl, ?_⟩
    by_cases h5 : c.toNat = 125
    · exact .inl (ans_esc m [c] [] (by show step m (some ([], false)) c = _; rw [step_7d m _ c h h5]))
    · exact .inr (ans_ok m [c] [c] (by show step m (some ([], false)) c = _; rw [step_plain m _ c h hc h5]; rfl))
end St

theorem outside_flag {w : World} {m : Nat} {wide : Bool} {D : Nat} {hv : Value} {s : Fr.DS} (h : DefAt w m wide D hv s) :
    Calls Try.prog 25 #[.pointer (some ⟨D, 0, none⟩), .int .u8 126] w fun e w' => e = .returned (.slice none 0 0) ∧ DefAt w' m wide D hv ⟨true, s.held, s.tal⟩ ∧ Fed w w' D hv hv := by
  have hmf : ∀ (fn : Fn) (first cap : Array Value) (w : World), (Instr.makeFunc fn first cap).run Try.prog w = .ok (.func fn first cap) w := fun _ _ _ _ => rfl
  have hc : w.cell? ⟨D, 2, none⟩ = some (fnV s.ins D) := h.cellAt 2 _ rfl
  have hf := h.free 2
  have H := Lib.hid h
  clear h
  go_enter Try.func25, Try.ntmps25
  go_wp2
  go_ret
  exact ⟨rfl, H.out.set 2 _ rfl H.out.own, fed_cell _ _ _ _ _⟩
theorem outside_byte (D c : Nat) (w : World) (hc : ¬ c = 126) :
    Calls Try.prog 25 #[.pointer (some ⟨D, 0, none⟩), .int .u8 (c : Int)] w fun e w' => e = .returned (.slice none 0 0) ∧ w' = w := by
  have i6 : ¬ (c : Int) = 126 := by omega
  go_enter Try.func25, Try.ntmps25
  go_wp2
  go_ret
  exact ⟨rfl, rfl⟩

theorem leftOut_any {w : World} {m : Nat} {wide : Bool} {D : Nat} {hv : Value} {s : Fr.DS} (h : DefAt w m wide D hv s) (c : UInt8) (hm : m < 4294967296) (hc : ¬ c.toNat = 126) :
    Calls Try.prog 49 #[.pointer (some ⟨D, 0, none⟩), .int .u8 (c.toNat : Int)] w fun e w' => e = .returned (.bool (Ac.has m c.toNat)) ∧ Below w.heap.size w w' := by
  have hb := h.lt
  have c0 : ∀ o, (w.alloc o).cell? ⟨D, 0, none⟩ = some (.int .u32 (m : Int)) := fun o => by rw [World.cell?_alloc_lt _ _ _ hb]; exact h.cellAt 0 _ rfl
  have hr := rowAt_built w [c] 1 #[.int .u8 (c.toNat : Int)] rfl rfl (by omega) (0, 0)
  rcases St.ans_one m c hc with ⟨hh, ha⟩ | ⟨hh, ha | ha⟩
  · have hu := unstuff_row 1 m 1 _ [c] _ rfl hm (by omega) hr _ ha 0 rfl
    rw [hh]
    clear h hr ha hh hb hc
    go_enter Try.func49, Try.ntmps49
    go_wp2_with fail
    refine hu.mono ?_
    rintro e w1 ⟨a, c1, rfl, r1, b1⟩
    go_wp2
    go_ret
    exact ⟨rfl, below_alloc b1⟩
  · have hu := unstuff_row 1 m 1 _ [c] _ rfl hm (by omega) hr _ ha 0 rfl
    rw [hh]
    clear h hr ha hh hb hc
    go_enter Try.func49, Try.ntmps49
    go_wp2_with fail
    refine hu.mono ?_
    rintro e w1 ⟨a, c1, rfl, r1, b1⟩
    go_wp2
    go_ret
    exact ⟨rfl, below_alloc b1⟩
  · have hu := unstuff_row 1 m 1 _ [c] _ rfl hm (by omega) hr _ ha 1 rfl
    rw [hh]
    clear h hr ha hh hb hc
    go_enter Try.func49, Try.ntmps49
    go_wp2_with fail
    refine hu.mono ?_
    rintro e w1 ⟨a, c1, rfl, r1, b1⟩
    go_wp2
    go_ret
    exact ⟨rfl, below_alloc b1⟩

theorem wpList_hold {w : World} {D : Nat} {ops : Array Oper} {rest : List Oper} {o : Oper} {act : Act} {Q : Exit → Act → World → Prop} (hgd : o.guard = none) (s x : Operand) (a : Option Addr) (cap : Nat) (held : List UInt8) (c : UInt8)
    (ho : o.op = .call { callee := .builtin .append, args := #[s, x], argTypes := #[26, 26] }) (hl : held.length + 1 ≤ 1000000) (hb : D < w.heap.size)
    (hs : act.eval s = .slice a held.length cap) (hx : act.eval x = .slice (some ⟨w.heap.size, 0, none⟩) 1 1) (hown : (w.alloc (.cells #[.int .u8 (c.toNat : Int)] 5)).ownsRow (D + 1) 5 1 (.slice a held.length cap) held.length (Lib.byteCells held))
    (h : ∀ v' w', w'.ownsRow (D + 1) 5 1 v' (held.length + 1) (Lib.byteCells held ++ [.int .u8 (c.toNat : Int)]) → (w.alloc (.cells #[.int .u8 (c.toNat : Int)] 5)).grownBy w' (Value.slice a held.length cap).ownBlock → (v'.ownBlock = (Value.slice a held.length cap).ownBlock ∨ ∀ k, v'.ownBlock = some k → (w.alloc (.cells #[.int .u8 (c.toNat : Int)] 5)).heap.size ≤ k) → wpList Try.prog ops Q rest (act.put o.dst v') w') : wpList Try.prog ops Q (o :: rest) act (w.alloc (.cells #[.int .u8 (c.toNat : Int)] 5)) := by
  obtain ⟨i0, hi, hz0, hz1, hz2⟩ := info_parts info5
  exact wpList_append_at hgd s x 26 ho (D + 1) 5 i0 (.int .u8 0) 1 1 Try.underlying26 hi hz0 hz1 hz2 rfl (by decide) _ _ _ hs hown ⟨w.heap.size, 0, none⟩ 1 1 [.int .u8 (c.toNat : Int)] hx rfl (cell_one_new _ _ _) (fun u hu => by simp at hu; subst hu; rfl) (by unfold maxLen; omega) (by omega) (by simp; omega) h

/-- Behind the byte: the deframer, with the frame so far. -/
theorem held_more_at {w w2 : World} {m : Nat} {wide : Bool} {D : Nat} {hv v2 : Value} {s : Fr.DS} {c : UInt8} {o : Obj} (h : DefAt w m wide D hv s)
    (o2 : w2.ownsRow (D + 1) 5 1 v2 (s.held.length + 1) (Lib.byteCells s.held ++ [.int .u8 (c.toNat : Int)])) (g2 : (w.alloc o).grownBy w2 hv.ownBlock) (p2 : v2.ownBlock = hv.ownBlock ∨ ∀ k, v2.ownBlock = some k → (w.alloc o).heap.size ≤ k) :
    DefAt (w2.setCell ⟨D, 3, none⟩ v2) m wide D v2 ⟨s.ins, s.held ++ [c], s.tal⟩ ∧ Fed w (w2.setCell ⟨D, 3, none⟩ v2) D hv v2 ∧ w2.heap[D]? = some (.cells (dcells m wide (fnV s.ins D) hv s.tal).toArray 56 (0, 0)) := by
  have hb := h.lt
  have hD : w2.heap[D]? = some (.cells (dcells m wide (fnV s.ins D) hv s.tal).toArray 56 (0, 0)) := by
    rw [g2.block D (by simp; omega) (fun e => h.ne e.symm), Below.heap_alloc _ _ _ hb]; exact h.blk
  refine ⟨⟨?_, ?_⟩, ⟨g2.os, g2.tape, g2.output, ?_, fun k hk hd hn => ⟨?_, ?_⟩⟩, hD⟩
  · rw [heap_setCell_same _ _ _ _ _ _ hD]; rfl
  · refine ownsRow_setCell_below ?_ (by simp) _
    rw [Lib.byteCells_append, List.length_append]; exact o2
  · have := g2.size; simp [World.setCell] at this ⊢; omega
  · rw [Below.heap_setCell _ _ _ _ hd, g2.block k (by simp; omega) (fun e => hn e.symm), Below.heap_alloc _ _ _ hk]
  · rcases p2 with p2 | p2
    · rw [p2]; exact hn
    · intro e; have := p2 k e; simp at this; omega

set_option maxHeartbeats 1000000 in
theorem hold_any {w : World} {m : Nat} {wide : Bool} {D : Nat} {hv : Value} {s : Fr.DS} (h : DefAt w m wide D hv s) (c : UInt8) (hl : s.held.length + 1 ≤ 2 * Fr.most wide) :
    Calls Try.prog 50 #[.pointer (some ⟨D, 0, none⟩), .int .u8 (c.toNat : Int)] w fun e w' => ∃ u hv', e = .returned u ∧ DefAt w' m wide D hv' ⟨s.ins, s.held ++ [c], s.tal⟩ ∧ Fed w w' D hv hv' := by
  have hb := h.lt
  have hml := Fr.most_le wide
  obtain ⟨a, cap, rfl⟩ := own_slice h.own
  have c3 : w.cell? ⟨D, 3, none⟩ = some (.slice a s.held.length cap) := h.cellAt 3 _ rfl
  have hown := Lib.hid (h.own.alloc (.cells #[.int .u8 (c.toNat : Int)] 5))
  have H := Lib.hid h
  clear h
  go_enter Try.func50, Try.ntmps50
  go_wp2_with (at_builtin; refine wpList_hold rfl (.tmp 10) (.tmp 12) a cap s.held c rfl (by omega) hb rfl rfl hown.out ?_; intro v2 w2 o2 g2 p2; obtain ⟨a2, k2, rfl⟩ := own_slice o2; have h2 := Lib.hid (held_more_at H.out o2 g2 p2); clear o2 g2 p2 hown; have d3 := cell_of_row w2 D 3 _ _ _ h2.out.2.2; have f3 := frozen_of_row w2 D 3 _ 56 h2.out.2.2; simp only [dcells, List.cons_append, List.getElem?_toArray, List.getElem?_cons_succ, List.getElem?_cons_zero] at d3; clear c3)
  clear d3 f3
  generalize w2.setCell ⟨D, 3, none⟩ (.slice a2 (s.held.length + 1) k2) = w3 at h2 ⊢
  have hd : DefAt w3.drew m wide D (.slice a2 (s.held.length + 1) k2) ⟨s.ins, s.held ++ [c], s.tal⟩ := h2.out.1.next (Below.refl _ _).drew
  have hfd : Fed w w3.drew D (.slice a s.held.length cap) (.slice a2 (s.held.length + 1) k2) := h2.out.2.1.trans (fed_below _ _ (Below.refl _ _).drew)
  clear h2
  have i1 : (s.held.length : Int) + 1 ≤ 2 * (Fr.most wide : Int) := by omega
  have hq := fun (W : World) (h : DefAt W m wide D (.slice a2 (s.held.length + 1) k2) ⟨s.ins, s.held ++ [c], s.tal⟩) => most_any h
  generalize Fr.most wide = q at hq i1 hml
  have i2 : (q : Int) ≤ 100000 := by omega
  have i3 : IntKind.i64.wrap (2 * (q : Int)) = 2 * (q : Int) := by rw [IntKind.wrap_i64]; omega
  refine held_start (S := fun W => DefAt W m wide D (.slice a2 (s.held.length + 1) k2) ⟨s.ins, s.held ++ [c], s.tal⟩) 9 (by kernel_rfl) rfl ?_
  generalize w3.drew = w4 at hd hfd ⊢
  refine held_take 0 (v := ?_) rfl (by kernel_rfl) (by kernel_rfl) (by kernel_rfl) (fun _ _ _ h => h) (by assumption) (by rfl) ?_ ?_
  rotate_left
  · (intro W hW; go_simp; try with_reducible rfl)
  simp only [Act.put, List.setIfInBounds_toArray, List.set_cons_zero, List.set_cons_succ]
  refine held_take 1 (v := ?_) rfl (by kernel_rfl) (by kernel_rfl) (by kernel_rfl) (fun _ _ _ h => h) (by assumption) (by rfl) ?_ ?_
  rotate_left
  · (intro W hW; go_simp; try with_reducible rfl)
  simp only [Act.put, List.setIfInBounds_toArray, List.set_cons_zero, List.set_cons_succ]
  refine held_take 2 (v := ?_) rfl (by kernel_rfl) (by kernel_rfl) (by kernel_rfl) (fun _ _ _ h => h) (by assumption) (by rfl) ?_ ?_
  rotate_left
  · (intro W hW; go_simp; try with_reducible rfl)
  simp only [Act.put, List.setIfInBounds_toArray, List.set_cons_zero, List.set_cons_succ]
  refine held_take 3 (v := ?_) rfl (by kernel_rfl) (by kernel_rfl) (by kernel_rfl) (fun _ _ _ h => h) (by assumption) (by rfl) ?_ ?_
  rotate_left
  · (intro W hW; have d3 : W.cell? ⟨D, 3, none⟩ = some (.slice a2 (s.held.length + 1) k2) := hW.cellAt 3 _ rfl; clear hW; go_simp; try with_reducible rfl)
  simp only [Act.put, List.setIfInBounds_toArray, List.set_cons_zero, List.set_cons_succ]
  refine held_take 4 (v := ?_) rfl (by kernel_rfl) (by kernel_rfl) (by kernel_rfl) (fun _ _ _ h => h) (by assumption) (by rfl) ?_ ?_
  rotate_left
  · (intro W hW; go_simp; try with_reducible rfl)
  simp only [Act.put, List.setIfInBounds_toArray, List.set_cons_zero, List.set_cons_succ]
  refine held_take 5 (v := ?_) rfl (by kernel_rfl) (by kernel_rfl) (by kernel_rfl) (fun _ _ _ h => h) (by assumption) (by rfl) ?_ ?_
  rotate_left
  · (intro W hW; go_simp; try with_reducible rfl)
  simp only [Act.put, List.setIfInBounds_toArray, List.set_cons_zero, List.set_cons_succ]
  refine held_call 6 (f := 56) (args := #[.pointer (some ⟨D, 0, none⟩)]) rfl (by kernel_rfl) (by rfl) (by go_simp) ?_
  refine (hq _ hd).mono ?_
  rintro e w5 ⟨rfl, h5⟩
  rw [h5]
  clear h5
  refine ⟨_, rfl, hd, ?_⟩
  simp only [Act.put, List.setIfInBounds_toArray, List.set_cons_zero, List.set_cons_succ]
  refine held_take 7 (v := ?_) rfl (by kernel_rfl) (by kernel_rfl) (by kernel_rfl) (fun _ _ _ h => h) (by assumption) (by rfl) ?_ ?_
  rotate_left
  · (intro W hW; go_simp; try with_reducible rfl)
  simp only [Act.put, List.setIfInBounds_toArray, List.set_cons_zero, List.set_cons_succ]
  refine held_take 8 (v := ?_) rfl (by kernel_rfl) (by kernel_rfl) (by kernel_rfl) (fun _ _ _ h => h) (by assumption) (by rfl) ?_ ?_
  rotate_left
  · (intro W hW; go_simp; try with_reducible rfl)
  simp only [Act.put, List.setIfInBounds_toArray, List.set_cons_zero, List.set_cons_succ]
  refine held_done (by kernel_rfl) ?_
  go_wp2
  exact bodyPost_ret (v := .tuple #[]) (results_none Try.results50 _ _ _) rfl ⟨_, _, rfl, hd, hfd⟩
end Go.Proofs.Ythmljgpnkealaaa
