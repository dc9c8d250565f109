/- Contracts of Right, the document's too. -/
import Derived.Test.YtjalhlofpoknoaaDoorCe
import Derived.Laws.CopyOwn
import Derived.Test.YtjalhlofpoknoaaDoorHeld
namespace Go.Proofs.YtjalhlofpoknoaaDoor
open Go.RowKit

theorem wpList_copy_dig {w0 w : World} {ops : Array Oper} {rest : List Oper} {o : Oper} {a : Act} {Q : Exit → Act → World → Prop} (hgd : o.guard = none) (x y : Operand)
    (ho : o.op = .call { callee := .builtin .copy, args := #[x, y], argTypes := #[22, 22] })
    (g : Nat) (hx : a.eval x = .slice (some ⟨g, 0, none⟩) 16 16) (q : Addr) (d : Nat) (hy : a.eval y = .slice (some q) 16 d) (ans : List UInt8) (hl : ans.length = 16) (hrow : RowAt w (some q) d ans)
    (hg : w.heap[g]? = some (.cells S3.z24 38 (0, 0))) (hB : Below w0.heap.size w0 w) (hBg : w0.heap.size ≤ g)
    (h : ∀ w', w'.heap[g]? = some (.cells (Lib.byteCells ans).toArray 38 (0, 0)) → Below w0.heap.size w0 w' → wpList Tryd.prog ops Q rest (a.put o.dst (goInt 16)) w') : wpList Tryd.prog ops Q (o :: rest) a w := by
  obtain ⟨i0, hi, hz0, hz1, hz2⟩ := info_parts info5
  have hbl : (Lib.byteCells ans).length = 16 := by rw [Lib.byteCells_length, hl]
  refine wpList_copy_own hgd x y 22 22 ho 5 Tryd.underlying22 (by rw [hi]; exact congrArg some hz1) g 0 16 16 q 16 d hx hy S3.z24 38 hg (Lib.byteCells ans) (by rw [hbl]; rfl) (hrow.cell q rfl) (by rw [hbl]; exact Nat.le_refl _) (cells_one ans) ?_
  rw [hbl]
  have e : (S3.z24.toList.take 0 ++ (Lib.byteCells ans ++ S3.z24.toList.drop (0 + 16))).toArray = (Lib.byteCells ans).toArray := by
    rw [show S3.z24.toList.drop (0 + 16) = [] from rfl, show S3.z24.toList.take 0 = [] from rfl, List.append_nil, List.nil_append]
  rw [e]
  exact h _ (setRow_heap _ _ _ _ _ _ hg) (below_setRow hB hBg _)

set_option maxRecDepth 100000 in
set_option maxHeartbeats 1000000 in
theorem right_any (i : Int) (s v ans : List UInt8) (p q : Option Addr) (n c m d : Nat) (w : World) (hn : v.length = n) (hm : n ≤ 70000) (hs : s.length ≤ 1000) (hk : ans.length = m) (hk2 : m ≤ 70000) (h : RowAt w p c v) (k : RowAt w q d ans) (ht : S3.Tabs w) :
    Calls Tryd.prog 17 #[.int .i64 i, .string ⟨s.toArray⟩, .slice p n c, .slice q m d] w fun e w' => e = .returned (.bool (decide (ans = Ch.answer i s v))) ∧ Below w.heap.size w w' := by
  have hl := Ch.answer_length i s v
  have HA := Lib.hid (fun W (hW : Below w.heap.size w W) => answer_any i s v p n c W hn hm hs (h.next hW) (ht.next hW))
  generalize Ch.answer i s v = D at *
  by_cases h16 : m = 16
  · subst h16
    obtain ⟨b, off, rfl⟩ := k.some (by omega)
    have B0 := Lib.hid (below_one w (.cells S3.z24 38))
    have G0 := Lib.hid (heap_alloc_new w (.cells S3.z24 38))
    have K0 := Lib.hid (k.next B0.out)
    have HK := Lib.hid hk
    have HL := Lib.hid hl
    obtain ⟨Z, hZ⟩ : ∃ Z, decide (ans = D) = Z := ⟨_, rfl⟩
    rw [hZ]
    clear k h ht hk hl hn
    unfold S3.z24 at B0 G0 K0
    go_enter Tryd.func17, Tryd.ntmps17
    go_wp2_with (refine wpList_copy_dig (w0 := w) rfl (.tmp 13) (.tmp 14) rfl w.heap.size rfl ⟨b, off, none⟩ d rfl ans HK.out K0.out G0.out B0.out (Nat.le_refl _) ?_; intro w1 g1 b1; have G1 := Lib.hid g1; have B1 := Lib.hid b1; clear g1 b1 B0 G0 K0)
    refine held_start (S := fun W => W.heap[w.heap.size]? = some (.cells (Lib.byteCells ans).toArray 38 (0, 0))) 7 (by kernel_rfl) rfl ?_
    have hS : w1.drew.heap[w.heap.size]? = some (.cells (Lib.byteCells ans).toArray 38 (0, 0)) := G1.out
    have B2 := Lib.hid B1.out.drew
    clear G1 B1
    generalize w1.drew = w2 at *
    refine held_take 1 (v := ?_) rfl (by kernel_rfl) (by kernel_rfl) (by kernel_rfl) (fun _ _ _ h => h) (by assumption) (by rfl) ?_ ?_
    rotate_left
    · (intro W hW; go_simp; try with_reducible rfl)
    simp only [Act.put, List.setIfInBounds_toArray, List.set_cons_zero, List.set_cons_succ]
    refine held_take 2 (v := ?_) rfl (by kernel_rfl) (by kernel_rfl) (by kernel_rfl) (fun _ _ _ h => h) (by assumption) (by rfl) ?_ ?_
    rotate_left
    · (intro W hW; go_simp; try with_reducible rfl)
    simp only [Act.put, List.setIfInBounds_toArray, List.set_cons_zero, List.set_cons_succ]
    refine held_take 3 (v := ?_) rfl (by kernel_rfl) (by kernel_rfl) (by kernel_rfl) (fun _ _ _ h => h) (by assumption) (by rfl) ?_ ?_
    rotate_left
    · (intro W hW; go_simp; try with_reducible rfl)
    simp only [Act.put, List.setIfInBounds_toArray, List.set_cons_zero, List.set_cons_succ]
    refine held_take 0 (v := .agg (Lib.byteCells ans).toArray) rfl (by kernel_rfl) (by kernel_rfl) (by kernel_rfl) (fun _ _ _ h => h) hS (by rfl) (fun W hW => S3.run_load_row 38 _ rfl w.heap.size rfl 38 _ _ _ hW Tryd.underlying38 rfl (dig_size HK.out)) ?_
    simp only [Act.put, List.setIfInBounds_toArray, List.set_cons_zero, List.set_cons_succ]
    refine held_call 4 (f := 15) (args := #[.int .i64 i, .string ⟨s.toArray⟩, .slice p n c]) rfl (by kernel_rfl) (by rfl) (by go_simp) ?_
    refine (HA.out w2 B2.out).mono ?_
    rintro e w3 ⟨rfl, b3⟩
    have hS3 := block_next hS b3
    have B3 := Lib.hid (Below.chain B2.out b3)
    refine ⟨_, rfl, hS3, ?_⟩
    simp only [Act.put, List.setIfInBounds_toArray, List.set_cons_zero, List.set_cons_succ]
    refine held_take 5 (v := .bool Z) rfl (by kernel_rfl) (by kernel_rfl) (by kernel_rfl) (fun _ _ _ h => h) hS3 (by rfl) (fun W _ => by rw [← hZ]; exact run_eql_16 (.tmp 16) (.tmp 20) rfl ans D HK.out HL.out rfl rfl W) ?_
    simp only [Act.put, List.setIfInBounds_toArray, List.set_cons_zero, List.set_cons_succ]
    clear hS HA B2 b3
    generalize (Lib.byteCells ans).toArray = ca at *
    generalize (Lib.byteCells D).toArray = cd at *
    refine held_take 6 (v := ?_) rfl (by kernel_rfl) (by kernel_rfl) (by kernel_rfl) (fun _ _ _ h => h) (by assumption) (by rfl) ?_ ?_
    rotate_left
    · (intro W hW; go_simp; try with_reducible rfl)
    simp only [Act.put, List.setIfInBounds_toArray, List.set_cons_zero, List.set_cons_succ]
    refine held_done (by kernel_rfl) ?_
    go_wp2
    go_ret
    exact ⟨rfl, B3.out⟩
  · have i1 : ((m : Int) != 16) = true := by simp; omega
    have hne : ans ≠ D := by rintro rfl; omega
    rw [decide_eq_false hne]
    clear hne HA h k ht hk
    go_enter Tryd.func17, Tryd.ntmps17
    go_wp2
    go_ret
    exact ⟨rfl, Below.refl _ _⟩

set_option maxRecDepth 100000 in
set_option maxHeartbeats 1000000 in
theorem refRight_any (i : Int) (s v ans : List UInt8) (p q : Option Addr) (n c m d : Nat) (w : World) (hn : v.length = n) (hm : n ≤ 1000) (hs : s.length ≤ 1000) (hk : ans.length = m) (h : RowAt w p c v) (k : RowAt w q d ans) (ht : S3.Trig w) :
    Calls Tryd.prog 18 #[.int .i64 i, .string ⟨s.toArray⟩, .slice p n c, .slice q m d] w fun e w' => e = .returned (.bool (decide (ans = Ch.answer i s v))) ∧ Below w.heap.size w w' := by
  have hl := Ch.answer_length i s v
  have HA := Lib.hid (refAnswer_any i s v p n c w hn hm hs h ht)
  generalize Ch.answer i s v = D at *
  have HL := Lib.hid hl
  by_cases h16 : m = 16
  · subst h16
    obtain ⟨b, off, rfl⟩ := k.some (by omega)
    have HK := Lib.hid hk
    have K0 := Lib.hid k
    have hcd := k.le
    rw [hk] at hcd
    obtain ⟨Z, hZ⟩ : ∃ Z, decide (ans = D) = Z := ⟨_, rfl⟩
    rw [hZ]
    have HZ := Lib.hid hZ
    clear k h ht hk hl hn hZ
    go_enter Tryd.func18, Tryd.ntmps18
    go_wp2_with fail
    refine HA.out.mono ?_
    rintro e w1 ⟨rfl, b1⟩
    have B1 := Lib.hid (Below.chain b1 (below_one w1 (.cells S3.z24 38)))
    have G1 := Lib.hid (heap_alloc_new w1 (.cells S3.z24 38))
    have hs1 := b1.size
    clear b1 HA
    unfold S3.z24 at B1 G1
    go_wp2_with (refine wpList_store_dig rfl (.tmp 9) (.tmp 14) rfl w1.heap.size D HL.out rfl rfl G1.out ?_)
    have G2 := Lib.hid (setRow_heap _ _ _ (Lib.byteCells D).toArray _ _ G1.out)
    have B2 := Lib.hid (below_setRow B1.out (g := w1.heap.size) hs1 (Lib.byteCells D).toArray)
    clear G1 B1
    generalize (w1.alloc (.cells #[.int .u8 0, .int .u8 0, .int .u8 0, .int .u8 0, .int .u8 0, .int .u8 0, .int .u8 0, .int .u8 0, .int .u8 0, .int .u8 0, .int .u8 0, .int .u8 0, .int .u8 0, .int .u8 0, .int .u8 0, .int .u8 0] 38)).setRow w1.heap.size (Lib.byteCells D).toArray = w2 at *
    generalize w1.heap.size = U at *
    go_loopw [10] (fun j wr => ∃ k : Nat, k ≤ 16 ∧ j = .int .i64 (k : Int) ∧ ans.take k = D.take k ∧ wr.heap[U]? = some (.cells (Lib.byteCells D).toArray 38 (0, 0)) ∧ Below w.heap.size w wr) (fun j _ => 16 - (intOf j).toNat)
    case atStart => exact ⟨0, Nat.zero_le _, rfl, rfl, G2.out, B2.out⟩
    case round =>
      obtain ⟨k, hk, rfl, htk, hG, hB⟩ := hrel
      by_cases hlt : k < 16
      · have i2 : (k : Int) < 16 := by omega
        obtain ⟨x, hx⟩ : ∃ x, ans[k]? = some x := ⟨_, List.getElem?_eq_getElem (by rw [HK.out]; exact hlt)⟩
        obtain ⟨y, hy⟩ : ∃ y, D[k]? = some y := ⟨_, List.getElem?_eq_getElem (by rw [HL.out]; exact hlt)⟩
        have kx : ∀ j, (wr.drewN j).cell? ⟨b, off + k, none⟩ = some (.int .u8 (x.toNat : Int)) := fun _ => by
          have := (K0.out.next hB).cell _ rfl k (.int .u8 (x.toNat : Int)) (by simp [Lib.byteCells, hx])
          rw [Go.WideShapes.add_plain] at this
          exact this
        have ky : ∀ j, (wr.drewN j).cell? ⟨U, k, none⟩ = some (.int .u8 (y.toNat : Int)) := fun _ => by
          have := cell_of_row wr U k _ _ _ hG
          rw [List.getElem?_toArray, Lib.byteCells, List.getElem?_map, hy] at this
          exact this
        have ht1 : ans.take (k + 1) = ans.take k ++ [x] := by rw [List.take_add_one, hx]; rfl
        have ht2 : D.take (k + 1) = D.take k ++ [y] := by rw [List.take_add_one, hy]; rfl
        by_cases hxy : x = y
        · subst hxy
          have HT := Lib.hid (show ans.take (k + 1) = D.take (k + 1) by rw [ht1, ht2, htk])
          have HG := Lib.hid hG
          have HB := Lib.hid hB
          clear ht1 ht2 htk hG hB hx hy
          go_wp2
          go_quiet (fail)
          go_wp2
          go_roundw
          case rel => exact ⟨k + 1, by omega, by go_num, HT.out, HG.out, keeps_below HB.out _⟩
          case measure => simp [intOf]; omega
        · have hne : ((x.toNat : Int) != (y.toNat : Int)) = true := by
            simp only [bne_iff_ne, ne_eq, Int.natCast_inj]
            exact fun e => hxy (UInt8.toNat_inj.1 e)
          have hz : Z = false := by
            rw [← HZ.out]
            refine decide_eq_false fun e => ?_
            rw [e, hy] at hx
            exact hxy (Option.some.inj hx).symm
          have HB := Lib.hid hB
          subst hz
          generalize (x.toNat : Int) = X at *
          generalize (y.toNat : Int) = Y at *
          clear ht1 ht2 htk hG hB hx hy
          go_wp2
          go_quiet (fail)
          go_wp2
          go_ret
          exact ⟨rfl, keeps_below HB.out _⟩
      · have hk16 : k = 16 := by omega
        subst hk16
        have hz : Z = true := by
          rw [← HZ.out]
          refine decide_eq_true ?_
          rw [List.take_of_length_le (by rw [HK.out]; exact Nat.le_refl _), List.take_of_length_le (by rw [HL.out]; exact Nat.le_refl _)] at htk
          exact htk
        subst hz
        have HB := Lib.hid hB
        clear htk hG hB
        go_wp2
        go_ret
        exact ⟨rfl, HB.out⟩
  · have i1 : ((m : Int) != 16) = true := by simp; omega
    have hne : ans ≠ D := by rintro rfl; omega
    rw [decide_eq_false hne]
    clear hne h k ht hk
    go_enter Tryd.func18, Tryd.ntmps18
    go_wp2_with fail
    refine HA.out.mono ?_
    rintro e w1 ⟨rfl, b1⟩
    have B1 := Lib.hid (Below.chain b1 (below_one w1 (.cells S3.z24 38)))
    have G1 := Lib.hid (heap_alloc_new w1 (.cells S3.z24 38))
    have hs1 := b1.size
    clear b1 HA
    unfold S3.z24 at B1 G1
    go_wp2_with (refine wpList_store_dig rfl (.tmp 9) (.tmp 14) rfl w1.heap.size D HL.out rfl rfl G1.out ?_)
    go_ret
    exact ⟨rfl, below_setRow B1.out hs1 _⟩
end Go.Proofs.YtjalhlofpoknoaaDoor
