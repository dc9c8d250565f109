/- Contract of the document's Write, of notes. -/
import Derived.Test.YtbbnkmhlgfoacaaGreatDoorVf
namespace Go.Proofs.YtbbnkmhlgfoacaaGreatDoor
open Go.RowKit
open S10

theorem wp_append_at1 {P : Program} {w : World} {o : Oper} {a : Act} {K : Act → World → Prop} {Q : Exit → Act → World → Prop} (s x : Operand) (t : TypeId)
  (ho : o.op = .call { callee := .builtin .append, args := #[s, x], argTypes := #[t, t] })
  (base : Nat) (e : TypeId) (i : TypeInfo) (z : Value) (size bytes : Nat) (ht : P.underlying t = some (.slice e)) (hi : P.info? e = some i) (hz : i.zero = some z)
  (hsize : i.size = size) (hby : i.bytes = bytes) (hzs : z.cells.size = size) (hsz : 0 < size)
  (v : Value) (n : Nat) (xs : List Value) (hs : a.eval s = v) (hown : w.ownsRow base e size v n xs)
  (ad : Addr) (m c : Nat) (news : List Value) (hx : a.eval x = .slice (some ad) m c) (hl : news.length = m * size) (hnews : ∀ j u, news[j]? = some u → w.cell? (ad.add j) = some u) (h1 : ∀ u ∈ news, u.oneCell' = true)
  (h63 : n + m ≤ maxLen) (hbytes : (n + m) * bytes ≤ 140737488355328) (hbase : base ≤ w.heap.size)
  (h : ∀ v' w', w'.ownsRow base e size v' (n + m) (xs ++ news) → w.grownBy w' v.ownBlock → (v'.ownBlock = v.ownBlock ∨ ∀ k, v'.ownBlock = some k → w.heap.size ≤ k) → K (a.put o.dst v') w') : Oper.wp P o a w K Q := by
 obtain ⟨v', w', hr, h2, h3, _⟩ := run_append_own (P := P) w base t o.type e i z size bytes ht hi hz hsize hby hzs hsz v n xs hown ad m c news hl hnews h1 h63 hbytes hbase
 have hp := S7.append_place (P := P) w base t o.type e i z size bytes ht hi hz hsize hby hzs hsz v n xs hown ad m c news hl hnews h1 h63 hbytes v' w' hr
 unfold Oper.wp execOp
 simp only [ho, resolve, invoke, builtin, Sem.run_bind, Sem.run_pure, Result.andThen_ok, List.map_toArray, List.map_cons, List.map_nil, hs, hx, hr]
 exact h v' w' h2 h3 hp
theorem wp_append_nls {w : World} {o : Oper} {a : Act} {K : Act → World → Prop} {Q : Exit → Act → World → Prop} (s x : Operand)
  (ho : o.op = .call { callee := .builtin .append, args := #[s, x], argTypes := #[54, 54] })
  (B : Nat) (v : Value) (L : List S10.Dm.Nt) (r : S10.Dm.Nt) (p : Option Addr) (c : Nat) (g : Nat) (hs : a.eval s = v) (hx : a.eval x = .slice (some ⟨g, 0, none⟩) 1 1) (hL : Nls w B v L)
  (hd : RowAt w p c r.data) (hp : ∀ ad, p = some ad → ad.block < w.heap.size ∧ v.ownBlock ≠ some ad.block) (hg : w.heap[g]? = some (.cells (ncells r (.slice p r.data.length c)).toArray 61 (0, 0))) (hB : B ≤ w.heap.size) (hlen : L.length ≤ 1000000)
  (h : ∀ v' w', Nls w' B v' (L ++ [r]) → Grew w w' v v' → K (a.put o.dst v') w') : Oper.wp Tryz.prog o a w K Q := by
 obtain ⟨i0, hi, hz0, hz1, hz2⟩ := info_parts infoNoteZ
 obtain ⟨xs, hown, he⟩ := hL
 refine wp_append_at1 s x 54 ho B 61 i0 _ 3 40 Tryz.underlying54 hi hz0 hz1 hz2 rfl (by decide) v L.length xs hs hown ⟨g, 0, none⟩ 1 1 (ncells r (.slice p r.data.length c)) hx rfl (fun j u hu => ?_) (fun u hu => ?_) (by unfold maxLen; omega) (by omega) hB ?_
 ·
  rw [Go.WideShapes.add_plain, cell_of_row _ _ _ _ _ _ hg]; simpa using hu
 ·
  simp only [ncells, List.mem_cons, List.not_mem_nil, or_false] at hu
  rcases hu with rfl | rfl | rfl <;> rfl
 ·
  intro v' w' o2 g2 p2
  have hl : xs.length = L.length * 3 := hown.1
  have key : ∀ (p : Option Addr) (c : Nat) (b : List UInt8), RowAt w p c b → (∀ ad, p = some ad → ad.block < w.heap.size ∧ v.ownBlock ≠ some ad.block) →
    RowAt w' p c b ∧ ∀ ad, p = some ad → ad.block < w'.heap.size ∧ v'.ownBlock ≠ some ad.block := by
   intro p c b hr h3
   refine ⟨row_grown hr g2 (fun ad e => (h3 ad e).2), fun ad e => ⟨Nat.lt_of_lt_of_le (h3 ad e).1 g2.size, ?_⟩⟩
   rcases p2 with p2 | p2
   ·
    rw [p2]; exact (h3 ad e).2
   ·
    intro e2; have := p2 _ e2; have := (h3 ad e).1; omega
  refine h v' w' ⟨xs ++ ncells r (.slice p r.data.length c), by rw [List.length_append]; exact o2, fun j hj => ?_⟩ ⟨g2, p2⟩
  by_cases hjl : j < L.length
  ·
   obtain ⟨p', c', h1, h2, h3⟩ := he j hjl
   have hkk := key p' c' _ h2 h3
   rw [List.getElem_append_left hjl]
   refine ⟨p', c', ⟨?_, ?_, ?_⟩, hkk.1, hkk.2⟩
   ·
    rw [List.getElem?_append_left (by omega)]; exact h1.kind
   ·
    rw [List.getElem?_append_left (by omega)]; exact h1.n
   ·
    rw [List.getElem?_append_left (by omega)]; exact h1.data
  ·
   have hj2 : j = L.length := by simp at hj; omega
   subst hj2
   have hkk := key p c _ hd hp
   rw [List.getElem_append_right (Nat.le_refl _)]
   simp only [Nat.sub_self, List.getElem_cons_zero]
   refine ⟨p, c, ⟨?_, ?_, ?_⟩, hkk.1, hkk.2⟩
   ·
    rw [List.getElem?_append_right (by omega), hl]; simp [ncells]
   ·
    rw [List.getElem?_append_right (by omega), hl]; simp [ncells]
   ·
    rw [List.getElem?_append_right (by omega), hl]; simp [ncells]

theorem grew_off {w w' : World} {v v' : Value} {B : Nat} (h : Grew w w' v v') (hv : ∀ j, v.ownBlock = some j → B ≤ j) (hs : B ≤ w.heap.size) : ∀ j, v'.ownBlock = some j → B ≤ j := fun j e => by
 rcases h.own with h1 | h1
 ·
  exact hv j (by rw [← h1]; exact e)
 ·
  exact Nat.le_trans hs (h1 j e)

set_option maxRecDepth 100000 in
set_option maxHeartbeats 2000000 in
theorem refWrite_two (y : Xc) (a : Option Addr) (n cap : Nat) (L : List Cp.It) (w : World) (hn : L.length = n) (h60 : n ≤ 60) (ht : Cp.tot L ≤ 70000) (hac : y.c.accm < 4294967296) (h : ItsAt w a L) :
  Calls Tryz.prog 12 #[.slice a n cap, .int .i64 2, .agg (ccells y).toArray] w fun e w' => WriteRes w w' e (Cp.write L 2 y.c) := by
 have H := Lib.hid h
 have Hn := Lib.hid hn
 have HTT := Lib.hid ht
 have hB0 := below_one w (.cells (ccells y).toArray 25)
 have hD0 := heap_alloc_new w (.cells (ccells y).toArray 25)
 clear h hn ht
 go_enter Tryz.func12, Tryz.ntmps12
 simp only [ccells] at hB0 hD0 ⊢
 go_wp2
 generalize w.alloc (.cells #[.int .i64 y.n0, .int .i64 y.n1, .int .i64 y.n2, .int .i64 y.n3, .string y.s1, .string y.s2, .int .i64 y.c.dir, .int .u32 (y.c.accm : Int), .bool y.c.wide] 25) = W0 at *
 have HB0 := Lib.hid hB0
 have HD0 := Lib.hid hD0
 clear hB0 hD0
 go_loopw [9, 10] (fun v i wr => ∃ k : Nat, i = .int .i64 (k : Int) ∧ k ≤ n ∧ Nls wr w.heap.size v (Cp.nts y.c (L.take k)) ∧ (∀ x ∈ L.take k, Cp.may x = true) ∧ Below W0.heap.size W0 wr ∧ ∀ j, v.ownBlock = some j → W0.heap.size ≤ j) (fun _ i _ => n - (intOf i).toNat)
 case atStart => exact ⟨0, rfl, Nat.zero_le _, nls_none _ _, by simp, Below.refl _ _, fun j e => by simp [Value.ownBlock] at e⟩
 case round =>
  obtain ⟨k, rfl, hk, hN, hal, hbw, hvb⟩ := hrel
  obtain ⟨av, cv, rfl⟩ := nls_slice hN
  by_cases hlt : (k : Int) < (n : Int)
  ·
   have hk' : k < L.length := by rw [Hn.out]; omega
   have hbw0 := Below.chain HB0.out hbw
   obtain ⟨b, off, p, c, rfl, hit, hbl⟩ := H.out.at k hk'
   have hrg := (hit.next hbl hbw0).range
   have hrow := (hit.next hbl hbw0).row
   have hst := Cp.nts_take y.c L k hk'
   have hnl := Cp.bytes_nts y.c (L.take k) (by have := Cp.tot_take L k; have := HTT.out; omega) (by rw [List.length_take]; omega)
   have hal2 : Cp.may L[k] = true → ∀ x ∈ L.take (k + 1), Cp.may x = true := by
    intro e x hx
    rw [List.take_succ_eq_append_getElem hk', List.mem_append, List.mem_singleton] at hx
    rcases hx with hx | hx
    ·
     exact hal x hx
    ·
     rw [hx]; exact e
   have hno : Cp.may L[k] = false → Cp.write L 2 y.c = ([], 1) := fun e => Cp.write_bad L 2 y.c (.inr rfl) (fun hall => by
    have := hall _ (List.getElem_mem hk'); rw [e] at this; cases this)
   have hlen : L[k].data.length ≤ 1000000000 := by have := Cp.tot_mem L _ (List.getElem_mem hk'); have := HTT.out; omega
   generalize L[k] = x at *
   obtain ⟨M, hM⟩ : ∃ M, M = Cp.nts y.c (L.take k) := ⟨_, rfl⟩
   rw [← hM] at hN hst hnl hvb ⊢
   obtain ⟨nm, hnm⟩ : ∃ nm, M.length = nm := ⟨_, rfl⟩
   rw [hnm] at hN hnl hvb ⊢
   have hmm : M.length ≤ 100000 := by rw [hnm]; omega
   have hMay := fun W => refMayI_any x p c W hlen
   have HRG := Lib.hid hrg
   have HBW := Lib.hid hbw
   have HN := Lib.hid hN
   have HROW := Lib.hid hrow
   have HNO := Lib.hid hno
   have HA2 := Lib.hid hal2
   have HVB := Lib.hid hvb
   have HIT := Lib.hid hit
   clear hrg hrow hN hit hal hal2 hno hlen hk' hM hnm hvb hbw hbw0
   simp only [icells] at hMay
   cases hmy : Cp.may x with
   | false =>
    rw [hmy] at hMay
    go_wp2_with (refine wpList_load_mid rfl 42 (.tmp 30) rfl b (off + k * 3) rfl (icells x (.slice p x.data.length c)) _ HRG.out Tryz.underlying42 rfl (infoItemI _ _) ?_; simp only [icells])
    refine (hMay _).mono ?_
    rintro e w4 ⟨rfl, b4⟩
    go_wp2
    go_ret2
    rw [HNO.out hmy]
    exact ⟨_, rfl, World.ownsRow_nil _ _ _ _, Below.chain (Below.chain HB0.out HBW.out) b4⟩
   | true =>
    rw [hmy] at hMay
    have hbl2 := Cp.body_length x
    have hdl := (Cp.may_parts x hmy).2.2
    have HAL := Lib.hid (HA2.out hmy)
    clear HNO HA2
    go_wp2_with (refine wpList_load_mid rfl 42 (.tmp 30) rfl b (off + k * 3) rfl (icells x (.slice p x.data.length c)) _ HRG.out Tryz.underlying42 rfl (infoItemI _ _) ?_; simp only [icells])
    refine (hMay _).mono ?_
    rintro e W3 ⟨rfl, b3⟩
    have HB3 := Lib.hid (Below.chain HBW.out b3)
    have HN3 : Hid (Nls W3 w.heap.size (.slice av nm cv) M) := HN.out.next b3
    have HROW3 := Lib.hid (HROW.out.next b3)
    have HC3 := Lib.hid (block_next HD0.out (Below.chain HBW.out b3))
    have HRG3 : Hid (W3.rangeAt b (off + k * 3) (icells x (.slice p x.data.length c))) := fun j v hj => by
     rw [Below.cell (p := ⟨b, off + k * 3 + j, none⟩) b3 (Nat.lt_of_lt_of_le hbl (Below.chain HB0.out HBW.out).size)]; exact HRG.out j v hj
    clear HBW HN HROW HRG hMay b3
    rcases (Cp.may_parts x hmy).1 with hd | hd
    ·
     skip
     have hxk0 : W3.cell? ⟨b, off + k * 3, none⟩ = some (.int .i64 1) := by have := HRG3.out 0 _ rfl; rw [hd] at this; exact this
     have hca : W3.cell? ⟨w.heap.size, 7, none⟩ = some (.int .u32 (y.c.accm : Int)) := cell_of_row _ _ _ _ _ _ HC3.out
     have hmk : Cp.kind x = 2 := by simp [Cp.kind, hd]
     have hro : S7.Fr.rowOf y.c.accm y.c.wide [Cp.body x] = (Cp.strm y.c x, 0) := by
      have := Cp.row_one y.c x hmy
      rw [show mapAt x.dir y.c = y.c.accm by simp [mapAt, hd]] at this
      exact this
     have cBO := fun W h => refFrame_any x p c W hmy h
     go_wp2_with fail
     clear hca hxk0
     refine held_start (S := fun W => W.rangeAt b (off + k * 3) (icells x (.slice p x.data.length c)) ∧ W.heap[w.heap.size]? = some (.cells (ccells y).toArray 25 (0, 0))) 15 (by kernel_rfl) rfl ?_
     have hB4 := Lib.hid (HB3.out.drew)
     have hS4 : W3.drew.rangeAt b (off + k * 3) (icells x (.slice p x.data.length c)) ∧ W3.drew.heap[w.heap.size]? = some (.cells (ccells y).toArray 25 (0, 0)) := ⟨fun j v hj => HRG3.out j v hj, HC3.out⟩
     have hN4 : Hid (Nls W3.drew w.heap.size (.slice av nm cv) M) := HN3.out.next (Below.refl _ _).drew
     have hrow4 : RowAt W3.drew p c x.data := HROW3.out.next (Below.refl _ _).drew
     have hSN : ∀ W', Below W3.drew.heap.size W3.drew W' → W'.rangeAt b (off + k * 3) (icells x (.slice p x.data.length c)) ∧ W'.heap[w.heap.size]? = some (.cells (ccells y).toArray 25 (0, 0)) := fun W' hb => ⟨fun j v hj => by
      rw [Below.cell (p := ⟨b, off + k * 3 + j, none⟩) hb (Nat.lt_of_lt_of_le hbl (Below.chain HB0.out hB4.out).size)]; exact hS4.1 j v hj, block_next hS4.2 hb⟩
     generalize W3.drew = W4 at hS4 hN4 hB4 hrow4 hSN ⊢
     clear HRG3 HN3 HB3 HROW3 HC3
     refine held_take 0 (v := ?_) rfl (by kernel_rfl) (by kernel_rfl) (by kernel_rfl) (fun _ _ _ h => h) (by assumption) (by rfl) ?_ ?_
     rotate_left
     ·
      (intro W hW; go_simp; try with_reducible rfl)
     simp only [Act.put, List.setIfInBounds_toArray, List.set_cons_zero, List.set_cons_succ]
     refine held_take 1 (v := ?_) rfl (by kernel_rfl) (by kernel_rfl) (by kernel_rfl) (fun _ _ _ h => h) (by assumption) (by rfl) ?_ ?_
     rotate_left
     ·
      (intro W hW; go_simp; try with_reducible rfl)
     simp only [Act.put, List.setIfInBounds_toArray, List.set_cons_zero, List.set_cons_succ]
     refine held_take 2 (v := ?_) rfl (by kernel_rfl) (by kernel_rfl) (by kernel_rfl) (fun _ _ _ h => h) (by assumption) (by rfl) ?_ ?_
     rotate_left
     ·
      (intro W hW; go_simp; try with_reducible rfl)
     simp only [Act.put, List.setIfInBounds_toArray, List.set_cons_zero, List.set_cons_succ]
     refine held_take 3 (v := .agg (icells x (.slice p x.data.length c)).toArray) rfl (by kernel_rfl) (by kernel_rfl) (by kernel_rfl) (fun _ _ _ h => h) (by assumption) (by rfl) (fun W hW => run_load_itemmid (.tmp 71) rfl _ _ rfl x _ hW.1) ?_
     simp only [Act.put, List.setIfInBounds_toArray, List.set_cons_zero, List.set_cons_succ]
     refine held_take 6 (v := ?_) rfl (by kernel_rfl) (by kernel_rfl) (by kernel_rfl) (fun _ _ _ h => h) (by assumption) (by rfl) ?_ ?_
     rotate_left
     ·
      (intro W hW; go_simp; try with_reducible rfl)
     simp only [Act.put, List.setIfInBounds_toArray, List.set_cons_zero, List.set_cons_succ]
     refine held_take 7 (v := ?_) rfl (by kernel_rfl) (by kernel_rfl) (by kernel_rfl) (fun _ _ _ h => h) (by assumption) (by rfl) ?_ ?_
     rotate_left
     ·
      (intro W hW; go_simp; try with_reducible rfl)
     simp only [Act.put, List.setIfInBounds_toArray, List.set_cons_zero, List.set_cons_succ]
     refine held_take 8 (v := ?_) rfl (by kernel_rfl) (by kernel_rfl) (by kernel_rfl) (fun _ _ _ h => h) (by assumption) (by rfl) ?_ ?_
     rotate_left
     ·
      (intro W hW; have hc : W.cell? ⟨w.heap.size, 8, none⟩ = some (.bool y.c.wide) := cell_of_row _ _ _ _ _ _ hW.2; go_simp; try with_reducible rfl)
     simp only [Act.put, List.setIfInBounds_toArray, List.set_cons_zero, List.set_cons_succ]
     refine held_call 4 (f := 23) (args := #[.agg (icells x (.slice p x.data.length c)).toArray]) rfl (by kernel_rfl) (by rfl) (by go_simp) ?_
     refine (cBO _ hrow4).mono ?_
     rintro e W5 ⟨v5, rfl, o5, b5⟩
     obtain ⟨p5, c5, rfl, row5⟩ := rowAt_own rfl o5
     refine ⟨_, rfl, hSN _ b5, ?_⟩
     simp only [Act.put, List.setIfInBounds_toArray, List.set_cons_zero, List.set_cons_succ]
     have b6 := below_one W5 (.cells #[.slice p5 (Cp.body x).length c5] 22)
     have b46 := Below.chain b5 b6
     refine held_makes 5 (v := .slice (some ⟨W5.heap.size, 0, none⟩) 1 1) (w' := W5.alloc (.cells #[.slice p5 (Cp.body x).length c5] 22)) rfl (by kernel_rfl) (by rfl) (by go_simp) (hSN _ b46) ?_
     simp only [Act.put, List.setIfInBounds_toArray, List.set_cons_zero, List.set_cons_succ]
     have cRO := S7.refRow_any y.c.accm y.c.wide (some ⟨W5.heap.size, 0, none⟩) 1 1 [Cp.body x] (W5.alloc (.cells #[.slice p5 (Cp.body x).length c5] 22)) rfl (by first | exact hac | decide) (by omega) (by simp; omega) (S7.parts_one rfl (RowAt.to7 row5))
     rw [hro] at cRO
     refine held_call 9 (f := 24) (args := #[.slice (some ⟨W5.heap.size, 0, none⟩) 1 1, .int .u32 (y.c.accm : Int), .bool y.c.wide]) rfl (by kernel_rfl) (by rfl) (by go_simp) ?_
     refine cRO.mono ?_
     intro e W7 h7
     obtain ⟨v7, he7, o7, b7⟩ : ∃ v, e = .returned (.tuple #[v, .int .i64 0]) ∧ W7.ownsRow _ 5 1 v (Cp.strm y.c x).length (Lib.byteCells (Cp.strm y.c x)) ∧ Below _ _ W7 := h7
     subst he7
     have b47 := Below.chain b46 b7
     have hS7 := hSN _ b47
     clear hbl2
     refine ⟨_, rfl, hS7, ?_⟩
     simp only [Act.put, List.setIfInBounds_toArray, List.set_cons_zero, List.set_cons_succ]
     refine held_take 10 (v := ?_) rfl (by kernel_rfl) (by kernel_rfl) (by kernel_rfl) (fun _ _ _ h => h) (by assumption) (by rfl) ?_ ?_
     rotate_left
     ·
      (intro W hW; go_simp; try with_reducible rfl)
     simp only [Act.put, List.setIfInBounds_toArray, List.set_cons_zero, List.set_cons_succ]
     refine held_take 11 (v := ?_) rfl (by kernel_rfl) (by kernel_rfl) (by kernel_rfl) (fun _ _ _ h => h) (by assumption) (by rfl) ?_ ?_
     rotate_left
     ·
      (intro W hW; go_simp; try with_reducible rfl)
     simp only [Act.put, List.setIfInBounds_toArray, List.set_cons_zero, List.set_cons_succ]
     refine held_take 12 (v := ?_) rfl (by kernel_rfl) (by kernel_rfl) (by kernel_rfl) (fun _ _ _ h => h) (by assumption) (by rfl) ?_ ?_
     rotate_left
     ·
      (intro W hW; go_simp; try with_reducible rfl)
     simp only [Act.put, List.setIfInBounds_toArray, List.set_cons_zero, List.set_cons_succ]
     refine held_take 13 (v := ?_) rfl (by kernel_rfl) (by kernel_rfl) (by kernel_rfl) (fun _ _ _ h => h) (by assumption) (by rfl) ?_ ?_
     rotate_left
     ·
      (intro W hW; go_simp; try with_reducible rfl)
     simp only [Act.put, List.setIfInBounds_toArray, List.set_cons_zero, List.set_cons_succ]
     refine held_take 14 (v := ?_) rfl (by kernel_rfl) (by kernel_rfl) (by kernel_rfl) (fun _ _ _ h => h) (by assumption) (by rfl) ?_ ?_
     rotate_left
     ·
      (intro W hW; go_simp; try with_reducible rfl)
     simp only [Act.put, List.setIfInBounds_toArray, List.set_cons_zero, List.set_cons_succ]
     refine held_done (by kernel_rfl) ?_
     obtain ⟨p7, c7, rfl, row7⟩ := rowAt_own rfl o7
     have hoff7 : ∀ ad, p7 = some ad → ad.block < W7.heap.size ∧ (Value.slice av nm cv).ownBlock ≠ some ad.block := by
      intro ad e
      subst e
      have h1 := o7.lt ad.block rfl
      have h46 := b46.size
      exact ⟨h1.2, fun e2 => by have := (hN4.out.lt _ e2).2; omega⟩
     have hsl := (Cp.strm_length y.c x).1
     rw [hmk] at hst
     generalize Cp.strm y.c x = HS at *
     obtain ⟨ns, hns⟩ : ∃ ns, HS.length = ns := ⟨_, rfl⟩
     rw [hns] at hsl ⊢
     have HN7 := Lib.hid (hN4.out.next b47)
     have HST := Lib.hid hst
     have B7 := Lib.hid (Below.chain hB4.out b47)
     have OFF := Lib.hid hoff7
     have ROW7 := Lib.hid row7
     have hns2 : ns ≤ 300000 := by omega
     have sz7 := (Below.chain HB0.out B7.out).size
     clear hst hoff7 o5 o7 b5 b6 b7 b46 b47 cRO cBO row5 row7 hS4 hS7 hSN hN4 hB4 hrow4 hro
     go_wp2_with fail
     go_loopw [9, 13] (fun v s wr2 => ∃ (j m : Nat) (p8 : Option Addr) (c8 : Nat), s = .slice p8 m c8 ∧ ns - 65535 * j = m ∧ 65535 * j < ns + 65535 ∧ Nls wr2 w.heap.size v (M ++ (List.range j).map (Cp.part 2 HS)) ∧ Grew W7 wr2 (.slice av nm cv) v ∧ RowAt wr2 p8 c8 (HS.drop (65535 * j)) ∧ ∀ ad, p8 = some ad → ∃ a0, p7 = some a0 ∧ ad.block = a0.block) (fun _ s _ => lenOf s)
     case atStart => exact ⟨0, ns, p7, c7, rfl, by omega, by omega, by simpa using HN7.out, Grew.refl _ _, by simpa using ROW7.out, fun ad e => ⟨ad, e, rfl⟩⟩
     case round =>
      obtain ⟨j, m, p8, c8, rfl, hjm, hjn, hI, hg, hrow8, hpb⟩ := hrel
      by_cases hlt8 : (0 : Int) < (m : Int)
      ·
       have hmx : (HS.drop (65535 * j)).length = m := by rw [List.length_drop, hns]; exact hjm
       have hle8 := hrow8.le
       rw [hmx] at hle8
       have hb8 := hg.below B7.out HVB.out
       have hxk : wr.cell? ⟨b, off + k * 3, none⟩ = some (.int .i64 1) := by
        have := (HIT.out.next hbl (Below.chain HB0.out hb8)).dir; rw [hd] at this; exact this
       clear hb8
       by_cases h65 : (65535 : Int) < (m : Int)
       ·
        skip
        obtain ⟨q, hqe⟩ : ∃ q : Nat, (65535 : Int) = (q : Int) := ⟨65535, rfl⟩
        have j3 : (q : Int) ≤ (c8 : Int) := by omega
        have j4 : (q : Int) ≤ (m : Int) := by omega
        have j1 : q ≤ m := by omega
        have j2 : q ≤ c8 := by omega
        have hqm : q = 65535 ∨ q = m := by omega
        have hq65 : q ≤ 65535 := by omega
        have hq0 : 0 < q := by omega
        have HQE := Lib.hid hqe
        have hX : (HS.drop (65535 * j)).drop q = HS.drop (65535 * (j + 1)) := by
         rw [List.drop_drop]
         rcases hqm with e | e
         ·
          exact congrArg (fun t => HS.drop t) (by omega)
         ·
          by_cases h : q = 65535
          ·
           exact congrArg (fun t => HS.drop t) (by omega)
          ·
           rw [List.drop_of_length_le (by omega), List.drop_of_length_le (by omega)]
        have hD : Cp.part 2 HS j = ⟨2, 0, (HS.drop (65535 * j)).take q⟩ := by
         unfold Cp.part
         rcases hqm with e | e
         ·
          rw [e]
         ·
          rw [List.take_of_length_le (by rw [hmx]; omega), List.take_of_length_le (by rw [hmx]; omega)]
        have h1 := hrow8.head q (by rw [hmx]; omega)
        have h2 := hrow8.cut q m (by omega) (by rw [hmx]; exact Nat.le_refl _)
        rw [List.take_of_length_le (by rw [hmx]; exact Nat.le_refl _), hX] at h2
        have hql : ((HS.drop (65535 * j)).take q).length = q := by rw [List.length_take, hmx]; omega
        have hst2 : M ++ (List.range (j + 1)).map (Cp.part 2 HS) = (M ++ (List.range j).map (Cp.part 2 HS)) ++ [⟨2, 0, (HS.drop (65535 * j)).take q⟩] := by
         rw [Cp.part_step, hD, List.append_assoc]
        obtain ⟨M8, hM8⟩ : ∃ M8, M8 = M ++ (List.range j).map (Cp.part 2 HS) := ⟨_, rfl⟩
        have hMl : M8.length ≤ 1000000 := by rw [hM8]; simp; omega
        rw [← hM8] at hI hst2
        generalize (HS.drop (65535 * j)).take q = Y at *
        obtain ⟨P, hP⟩ : ∃ P, (if c8 = q then p8 else p8.map (·.add q)) = P := ⟨_, rfl⟩
        obtain ⟨cP, hcP⟩ : ∃ cP, c8 - q = cP := ⟨_, rfl⟩
        obtain ⟨mP, hmP⟩ : ∃ mP, m - q = mP := ⟨_, rfl⟩
        rw [hP, hcP] at h2
        have hPb : ∀ ad, P = some ad → ∃ a0, p7 = some a0 ∧ ad.block = a0.block := by
         intro ad e
         rw [← hP] at e
         split at e
         ·
          exact hpb ad e
         ·
          cases p8 with
          | none => simp at e
          | some a1 =>
           simp only [Option.map_some, Option.some.injEq] at e
           obtain ⟨a0, e1, e2⟩ := hpb a1 rfl
           refine ⟨a0, e1, ?_⟩
           rw [← e, ← e2]; unfold Addr.add; split <;> rfl
        obtain ⟨ax, cx, rfl⟩ := nls_slice hI
        have hoff : ∀ p' : Option Addr, (∀ ad, p' = some ad → ∃ a0, p7 = some a0 ∧ ad.block = a0.block) → ∀ ad, p' = some ad → ad.block < wr.heap.size ∧ (Value.slice ax M8.length cx).ownBlock ≠ some ad.block := by
         intro p' hp' ad e
         obtain ⟨a0, e1, e2⟩ := hp' ad e
         have h3 := OFF.out a0 e1
         rw [e2]
         exact ⟨Nat.lt_of_lt_of_le h3.1 hg.by'.size, (hg.away a0.block h3.1 h3.2).2⟩
        have hoff1 := Lib.hid (hoff p8 hpb)
        have hoff2 := Lib.hid (hoff P hPb)
        have hkq : ns - 65535 * (j + 1) = mP ∧ 65535 * (j + 1) < ns + 65535 := by rcases hqm with e | e <;> omega
        have HI := Lib.hid hI
        have HG := Lib.hid hg
        have H1 := Lib.hid h1
        have H2 := Lib.hid h2
        have HST2 := Lib.hid hst2
        have HPB := Lib.hid hPb
        have HQL := Lib.hid hql
        have HKQ := Lib.hid hkq
        have hsz := hg.by'.size
        clear hI hg h1 h2 hst2 hPb hpb hoff hrow8 hX hD hM8 hkq hjm hjn hql hmx hqe hqm hq65
        go_wp2_with fail
        rw [HQE.out]
        refine held_start (S := fun W => W.cell? ⟨b, off + k * 3, none⟩ = some (.int .i64 1)) 14 (by kernel_rfl) rfl ?_
        have hS5 : wr.drew.cell? ⟨b, off + k * 3, none⟩ = some (.int .i64 1) := hxk
        have HI3 : Hid (Nls wr.drew w.heap.size (.slice ax M8.length cx) M8) := HI.out.next (Below.refl _ _).drew
        have H13 : Hid (RowAt wr.drew p8 c8 Y) := H1.out.next (Below.refl _ _).drew
        have H23 : Hid (RowAt wr.drew P cP (HS.drop (65535 * (j + 1)))) := H2.out.next (Below.refl _ _).drew
        have HG3 : Hid (Below wr.heap.size wr wr.drew) := (Below.refl _ _).drew
        have hs3 : wr.drew.heap.size = wr.heap.size := rfl
        generalize wr.drew = W3 at *
        refine held_take 0 (v := ?_) rfl (by kernel_rfl) (by kernel_rfl) (by kernel_rfl) (fun _ _ _ h => h) (by assumption) (by rfl) ?_ ?_
        rotate_left
        ·
         (intro W hW; go_simp; try with_reducible rfl)
        simp only [Act.put, List.setIfInBounds_toArray, List.set_cons_zero, List.set_cons_succ]
        refine held_take 1 (v := ?_) rfl (by kernel_rfl) (by kernel_rfl) (by kernel_rfl) (fun _ _ _ h => h) (by assumption) (by rfl) ?_ ?_
        rotate_left
        ·
         (intro W hW; go_simp; try with_reducible rfl)
        simp only [Act.put, List.setIfInBounds_toArray, List.set_cons_zero, List.set_cons_succ]
        refine held_take 2 (v := ?_) rfl (by kernel_rfl) (by kernel_rfl) (by kernel_rfl) (fun _ _ _ h => h) (by assumption) (by rfl) ?_ ?_
        rotate_left
        ·
         (intro W hW; go_simp; try with_reducible rfl)
        simp only [Act.put, List.setIfInBounds_toArray, List.set_cons_zero, List.set_cons_succ]
        refine held_take 3 (v := ?_) rfl (by kernel_rfl) (by kernel_rfl) (by kernel_rfl) (fun _ _ _ h => h) (by assumption) (by rfl) ?_ ?_
        rotate_left
        ·
         (intro W hW; go_simp; try with_reducible rfl)
        simp only [Act.put, List.setIfInBounds_toArray, List.set_cons_zero, List.set_cons_succ]
        refine held_take 4 (v := ?_) rfl (by kernel_rfl) (by kernel_rfl) (by kernel_rfl) (fun _ _ _ h => h) (by assumption) (by rfl) ?_ ?_
        rotate_left
        ·
         (intro W hW; go_simp; try with_reducible rfl)
        simp only [Act.put, List.setIfInBounds_toArray, List.set_cons_zero, List.set_cons_succ]
        refine held_take 5 (v := ?_) rfl (by kernel_rfl) (by kernel_rfl) (by kernel_rfl) (fun _ _ _ h => h) (by assumption) (by rfl) ?_ ?_
        rotate_left
        ·
         (intro W hW; have hc : W.cell? ⟨b, off + k * 3, none⟩ = some (.int .i64 1) := hW; go_simp; try with_reducible rfl)
        simp only [Act.put, List.setIfInBounds_toArray, List.set_cons_zero, List.set_cons_succ]
        refine held_take 6 (v := .int .i64 2) rfl (by kernel_rfl) (by kernel_rfl) (by kernel_rfl) (fun _ _ _ h => h) (by assumption) (by rfl) (by intro W hW; go_simp; try rfl) ?_
        simp only [Act.put, List.setIfInBounds_toArray, List.set_cons_zero, List.set_cons_succ]
        refine held_take 7 (v := ?_) rfl (by kernel_rfl) (by kernel_rfl) (by kernel_rfl) (fun _ _ _ h => h) (by assumption) (by rfl) ?_ ?_
        rotate_left
        ·
         (intro W hW; go_simp; try with_reducible rfl)
        simp only [Act.put, List.setIfInBounds_toArray, List.set_cons_zero, List.set_cons_succ]
        refine held_take 8 (v := ?_) rfl (by kernel_rfl) (by kernel_rfl) (by kernel_rfl) (fun _ _ _ h => h) (by assumption) (by rfl) ?_ ?_
        rotate_left
        ·
         (intro W hW; go_simp; try with_reducible rfl)
        simp only [Act.put, List.setIfInBounds_toArray, List.set_cons_zero, List.set_cons_succ]
        refine held_take 9 (v := ?_) rfl (by kernel_rfl) (by kernel_rfl) (by kernel_rfl) (fun _ _ _ h => h) (by assumption) (by rfl) ?_ ?_
        rotate_left
        ·
         (intro W hW; go_simp; try with_reducible rfl)
        simp only [Act.put, List.setIfInBounds_toArray, List.set_cons_zero, List.set_cons_succ]
        refine held_take 10 (v := ?_) rfl (by kernel_rfl) (by kernel_rfl) (by kernel_rfl) (fun _ _ _ h => h) (by assumption) (by rfl) ?_ ?_
        rotate_left
        ·
         (intro W hW; go_simp; try with_reducible rfl)
        simp only [Act.put, List.setIfInBounds_toArray, List.set_cons_zero, List.set_cons_succ]
        have hb4 := below_one W3 (.cells #[.int .i64 2, .int .u32 0, .slice p8 q c8] 61)
        have hg4 := heap_alloc_new W3 (.cells #[.int .i64 2, .int .u32 0, .slice p8 q c8] 61)
        have hs4 : (W3.alloc (.cells #[.int .i64 2, .int .u32 0, .slice p8 q c8] 61)).heap.size = W3.heap.size + 1 := by simp
        have hS6 : (W3.alloc (.cells #[.int .i64 2, .int .u32 0, .slice p8 q c8] 61)).cell? ⟨b, off + k * 3, none⟩ = some (.int .i64 1) := by
         rw [Below.cell (p := ⟨b, off + k * 3, none⟩) hb4 (World.block_lt_of_cell? _ _ hS5)]; exact hS5
        refine held_makes 11 (v := .slice (some ⟨W3.heap.size, 0, none⟩) 1 1) (w' := W3.alloc (.cells #[.int .i64 2, .int .u32 0, .slice p8 q c8] 61)) rfl (by kernel_rfl) (by rfl) (by go_simp) hS6 ?_
        simp only [Act.put, List.setIfInBounds_toArray, List.set_cons_zero, List.set_cons_succ]
        refine held_one 12 rfl (by kernel_rfl) (by rfl) ?_
        refine wp_append_nls (.tmp 88) (.tmp 99) rfl w.heap.size (.slice ax M8.length cx) M8 ⟨2, 0, Y⟩ p8 c8 W3.heap.size rfl rfl (HI3.out.next hb4) (H13.out.next hb4) (fun ad e => ⟨by have := (hoff1.out ad e).1; omega, (hoff1.out ad e).2⟩) (by show _ = some (Obj.cells (ncells _ (.slice p8 Y.length c8)).toArray _ _); rw [HQL.out]; exact hg4) (by omega) hMl ?_
        intro v6 w6 n6 g6
        have hx6 : w6.cell? ⟨b, off + k * 3, none⟩ = some (.int .i64 1) := by
         rw [World.cell?_of_block (w := W3.alloc (.cells #[.int .i64 2, .int .u32 0, .slice p8 q c8] 61)) (g6.by'.block b (World.block_lt_of_cell? _ _ hS6) (fun e => by have := (HI3.out.lt b e.symm).1; omega))]; exact hS6
        refine ⟨hx6, ?_⟩
        simp only [Act.put, List.setIfInBounds_toArray, List.set_cons_zero, List.set_cons_succ]
        refine held_take 13 (v := ?_) rfl (by kernel_rfl) (by kernel_rfl) (by kernel_rfl) (fun _ _ _ h => h) (by assumption) (by rfl) ?_ ?_
        rotate_left
        ·
         (intro W hW; go_simp; try with_reducible rfl)
        simp only [Act.put, List.setIfInBounds_toArray, List.set_cons_zero, List.set_cons_succ]
        refine held_done (by kernel_rfl) ?_
        have HN6 := Lib.hid n6
        have HG6 := Lib.hid (Grew.after HG3.out (by have := Grew.after hb4 g6; exact this))
        have H6 := Lib.hid ((Grew.after hb4 g6).row H23.out (fun ad e => (hoff2.out ad e).2))
        clear n6 g6 hb4 hg4 hS5 hS6 hx6 HI HI3 H1 H13 H2 H23 hoff1 hoff2
        go_wp2
        go_roundw
        case rel => exact ⟨j + 1, mP, P, cP, by rw [← hP, ← hcP, ← hmP], HKQ.out.1, HKQ.out.2, by rw [HST2.out]; exact HN6.out, HG.out.trans HG6.out, H6.out, HPB.out⟩
        case measure => simp [lenOf]; omega
       ·
        skip
        obtain ⟨q, hqe⟩ : ∃ q : Nat, ((m : Int) : Int) = (q : Int) := ⟨m, rfl⟩
        have j3 : (q : Int) ≤ (c8 : Int) := by omega
        have j4 : (q : Int) ≤ (m : Int) := by omega
        have j1 : q ≤ m := by omega
        have j2 : q ≤ c8 := by omega
        have hqm : q = 65535 ∨ q = m := by omega
        have hq65 : q ≤ 65535 := by omega
        have hq0 : 0 < q := by omega
        have HQE := Lib.hid hqe
        have hX : (HS.drop (65535 * j)).drop q = HS.drop (65535 * (j + 1)) := by
         rw [List.drop_drop]
         rcases hqm with e | e
         ·
          exact congrArg (fun t => HS.drop t) (by omega)
         ·
          by_cases h : q = 65535
          ·
           exact congrArg (fun t => HS.drop t) (by omega)
          ·
           rw [List.drop_of_length_le (by omega), List.drop_of_length_le (by omega)]
        have hD : Cp.part 2 HS j = ⟨2, 0, (HS.drop (65535 * j)).take q⟩ := by
         unfold Cp.part
         rcases hqm with e | e
         ·
          rw [e]
         ·
          rw [List.take_of_length_le (by rw [hmx]; omega), List.take_of_length_le (by rw [hmx]; omega)]
        have h1 := hrow8.head q (by rw [hmx]; omega)
        have h2 := hrow8.cut q m (by omega) (by rw [hmx]; exact Nat.le_refl _)
        rw [List.take_of_length_le (by rw [hmx]; exact Nat.le_refl _), hX] at h2
        have hql : ((HS.drop (65535 * j)).take q).length = q := by rw [List.length_take, hmx]; omega
        have hst2 : M ++ (List.range (j + 1)).map (Cp.part 2 HS) = (M ++ (List.range j).map (Cp.part 2 HS)) ++ [⟨2, 0, (HS.drop (65535 * j)).take q⟩] := by
         rw [Cp.part_step, hD, List.append_assoc]
        obtain ⟨M8, hM8⟩ : ∃ M8, M8 = M ++ (List.range j).map (Cp.part 2 HS) := ⟨_, rfl⟩
        have hMl : M8.length ≤ 1000000 := by rw [hM8]; simp; omega
        rw [← hM8] at hI hst2
        generalize (HS.drop (65535 * j)).take q = Y at *
        obtain ⟨P, hP⟩ : ∃ P, (if c8 = q then p8 else p8.map (·.add q)) = P := ⟨_, rfl⟩
        obtain ⟨cP, hcP⟩ : ∃ cP, c8 - q = cP := ⟨_, rfl⟩
        obtain ⟨mP, hmP⟩ : ∃ mP, m - q = mP := ⟨_, rfl⟩
        rw [hP, hcP] at h2
        have hPb : ∀ ad, P = some ad → ∃ a0, p7 = some a0 ∧ ad.block = a0.block := by
         intro ad e
         rw [← hP] at e
         split at e
         ·
          exact hpb ad e
         ·
          cases p8 with
          | none => simp at e
          | some a1 =>
           simp only [Option.map_some, Option.some.injEq] at e
           obtain ⟨a0, e1, e2⟩ := hpb a1 rfl
           refine ⟨a0, e1, ?_⟩
           rw [← e, ← e2]; unfold Addr.add; split <;> rfl
        obtain ⟨ax, cx, rfl⟩ := nls_slice hI
        have hoff : ∀ p' : Option Addr, (∀ ad, p' = some ad → ∃ a0, p7 = some a0 ∧ ad.block = a0.block) → ∀ ad, p' = some ad → ad.block < wr.heap.size ∧ (Value.slice ax M8.length cx).ownBlock ≠ some ad.block := by
         intro p' hp' ad e
         obtain ⟨a0, e1, e2⟩ := hp' ad e
         have h3 := OFF.out a0 e1
         rw [e2]
         exact ⟨Nat.lt_of_lt_of_le h3.1 hg.by'.size, (hg.away a0.block h3.1 h3.2).2⟩
        have hoff1 := Lib.hid (hoff p8 hpb)
        have hoff2 := Lib.hid (hoff P hPb)
        have hkq : ns - 65535 * (j + 1) = mP ∧ 65535 * (j + 1) < ns + 65535 := by rcases hqm with e | e <;> omega
        have HI := Lib.hid hI
        have HG := Lib.hid hg
        have H1 := Lib.hid h1
        have H2 := Lib.hid h2
        have HST2 := Lib.hid hst2
        have HPB := Lib.hid hPb
        have HQL := Lib.hid hql
        have HKQ := Lib.hid hkq
        have hsz := hg.by'.size
        clear hI hg h1 h2 hst2 hPb hpb hoff hrow8 hX hD hM8 hkq hjm hjn hql hmx hqe hqm hq65
        go_wp2_with fail
        rw [HQE.out]
        refine held_start (S := fun W => W.cell? ⟨b, off + k * 3, none⟩ = some (.int .i64 1)) 14 (by kernel_rfl) rfl ?_
        have hS5 : wr.drew.cell? ⟨b, off + k * 3, none⟩ = some (.int .i64 1) := hxk
        have HI3 : Hid (Nls wr.drew w.heap.size (.slice ax M8.length cx) M8) := HI.out.next (Below.refl _ _).drew
        have H13 : Hid (RowAt wr.drew p8 c8 Y) := H1.out.next (Below.refl _ _).drew
        have H23 : Hid (RowAt wr.drew P cP (HS.drop (65535 * (j + 1)))) := H2.out.next (Below.refl _ _).drew
        have HG3 : Hid (Below wr.heap.size wr wr.drew) := (Below.refl _ _).drew
        have hs3 : wr.drew.heap.size = wr.heap.size := rfl
        generalize wr.drew = W3 at *
        refine held_take 0 (v := ?_) rfl (by kernel_rfl) (by kernel_rfl) (by kernel_rfl) (fun _ _ _ h => h) (by assumption) (by rfl) ?_ ?_
        rotate_left
        ·
         (intro W hW; go_simp; try with_reducible rfl)
        simp only [Act.put, List.setIfInBounds_toArray, List.set_cons_zero, List.set_cons_succ]
        refine held_take 1 (v := ?_) rfl (by kernel_rfl) (by kernel_rfl) (by kernel_rfl) (fun _ _ _ h => h) (by assumption) (by rfl) ?_ ?_
        rotate_left
        ·
         (intro W hW; go_simp; try with_reducible rfl)
        simp only [Act.put, List.setIfInBounds_toArray, List.set_cons_zero, List.set_cons_succ]
        refine held_take 2 (v := ?_) rfl (by kernel_rfl) (by kernel_rfl) (by kernel_rfl) (fun _ _ _ h => h) (by assumption) (by rfl) ?_ ?_
        rotate_left
        ·
         (intro W hW; go_simp; try with_reducible rfl)
        simp only [Act.put, List.setIfInBounds_toArray, List.set_cons_zero, List.set_cons_succ]
        refine held_take 3 (v := ?_) rfl (by kernel_rfl) (by kernel_rfl) (by kernel_rfl) (fun _ _ _ h => h) (by assumption) (by rfl) ?_ ?_
        rotate_left
        ·
         (intro W hW; go_simp; try with_reducible rfl)
        simp only [Act.put, List.setIfInBounds_toArray, List.set_cons_zero, List.set_cons_succ]
        refine held_take 4 (v := ?_) rfl (by kernel_rfl) (by kernel_rfl) (by kernel_rfl) (fun _ _ _ h => h) (by assumption) (by rfl) ?_ ?_
        rotate_left
        ·
         (intro W hW; go_simp; try with_reducible rfl)
        simp only [Act.put, List.setIfInBounds_toArray, List.set_cons_zero, List.set_cons_succ]
        refine held_take 5 (v := ?_) rfl (by kernel_rfl) (by kernel_rfl) (by kernel_rfl) (fun _ _ _ h => h) (by assumption) (by rfl) ?_ ?_
        rotate_left
        ·
         (intro W hW; have hc : W.cell? ⟨b, off + k * 3, none⟩ = some (.int .i64 1) := hW; go_simp; try with_reducible rfl)
        simp only [Act.put, List.setIfInBounds_toArray, List.set_cons_zero, List.set_cons_succ]
        refine held_take 6 (v := .int .i64 2) rfl (by kernel_rfl) (by kernel_rfl) (by kernel_rfl) (fun _ _ _ h => h) (by assumption) (by rfl) (by intro W hW; go_simp; try rfl) ?_
        simp only [Act.put, List.setIfInBounds_toArray, List.set_cons_zero, List.set_cons_succ]
        refine held_take 7 (v := ?_) rfl (by kernel_rfl) (by kernel_rfl) (by kernel_rfl) (fun _ _ _ h => h) (by assumption) (by rfl) ?_ ?_
        rotate_left
        ·
         (intro W hW; go_simp; try with_reducible rfl)
        simp only [Act.put, List.setIfInBounds_toArray, List.set_cons_zero, List.set_cons_succ]
        refine held_take 8 (v := ?_) rfl (by kernel_rfl) (by kernel_rfl) (by kernel_rfl) (fun _ _ _ h => h) (by assumption) (by rfl) ?_ ?_
        rotate_left
        ·
         (intro W hW; go_simp; try with_reducible rfl)
        simp only [Act.put, List.setIfInBounds_toArray, List.set_cons_zero, List.set_cons_succ]
        refine held_take 9 (v := ?_) rfl (by kernel_rfl) (by kernel_rfl) (by kernel_rfl) (fun _ _ _ h => h) (by assumption) (by rfl) ?_ ?_
        rotate_left
        ·
         (intro W hW; go_simp; try with_reducible rfl)
        simp only [Act.put, List.setIfInBounds_toArray, List.set_cons_zero, List.set_cons_succ]
        refine held_take 10 (v := ?_) rfl (by kernel_rfl) (by kernel_rfl) (by kernel_rfl) (fun _ _ _ h => h) (by assumption) (by rfl) ?_ ?_
        rotate_left
        ·
         (intro W hW; go_simp; try with_reducible rfl)
        simp only [Act.put, List.setIfInBounds_toArray, List.set_cons_zero, List.set_cons_succ]
        have hb4 := below_one W3 (.cells #[.int .i64 2, .int .u32 0, .slice p8 q c8] 61)
        have hg4 := heap_alloc_new W3 (.cells #[.int .i64 2, .int .u32 0, .slice p8 q c8] 61)
        have hs4 : (W3.alloc (.cells #[.int .i64 2, .int .u32 0, .slice p8 q c8] 61)).heap.size = W3.heap.size + 1 := by simp
        have hS6 : (W3.alloc (.cells #[.int .i64 2, .int .u32 0, .slice p8 q c8] 61)).cell? ⟨b, off + k * 3, none⟩ = some (.int .i64 1) := by
         rw [Below.cell (p := ⟨b, off + k * 3, none⟩) hb4 (World.block_lt_of_cell? _ _ hS5)]; exact hS5
        refine held_makes 11 (v := .slice (some ⟨W3.heap.size, 0, none⟩) 1 1) (w' := W3.alloc (.cells #[.int .i64 2, .int .u32 0, .slice p8 q c8] 61)) rfl (by kernel_rfl) (by rfl) (by go_simp) hS6 ?_
        simp only [Act.put, List.setIfInBounds_toArray, List.set_cons_zero, List.set_cons_succ]
        refine held_one 12 rfl (by kernel_rfl) (by rfl) ?_
        refine wp_append_nls (.tmp 88) (.tmp 99) rfl w.heap.size (.slice ax M8.length cx) M8 ⟨2, 0, Y⟩ p8 c8 W3.heap.size rfl rfl (HI3.out.next hb4) (H13.out.next hb4) (fun ad e => ⟨by have := (hoff1.out ad e).1; omega, (hoff1.out ad e).2⟩) (by show _ = some (Obj.cells (ncells _ (.slice p8 Y.length c8)).toArray _ _); rw [HQL.out]; exact hg4) (by omega) hMl ?_
        intro v6 w6 n6 g6
        have hx6 : w6.cell? ⟨b, off + k * 3, none⟩ = some (.int .i64 1) := by
         rw [World.cell?_of_block (w := W3.alloc (.cells #[.int .i64 2, .int .u32 0, .slice p8 q c8] 61)) (g6.by'.block b (World.block_lt_of_cell? _ _ hS6) (fun e => by have := (HI3.out.lt b e.symm).1; omega))]; exact hS6
        refine ⟨hx6, ?_⟩
        simp only [Act.put, List.setIfInBounds_toArray, List.set_cons_zero, List.set_cons_succ]
        refine held_take 13 (v := ?_) rfl (by kernel_rfl) (by kernel_rfl) (by kernel_rfl) (fun _ _ _ h => h) (by assumption) (by rfl) ?_ ?_
        rotate_left
        ·
         (intro W hW; go_simp; try with_reducible rfl)
        simp only [Act.put, List.setIfInBounds_toArray, List.set_cons_zero, List.set_cons_succ]
        refine held_done (by kernel_rfl) ?_
        have HN6 := Lib.hid n6
        have HG6 := Lib.hid (Grew.after HG3.out (by have := Grew.after hb4 g6; exact this))
        have H6 := Lib.hid ((Grew.after hb4 g6).row H23.out (fun ad e => (hoff2.out ad e).2))
        clear n6 g6 hb4 hg4 hS5 hS6 hx6 HI HI3 H1 H13 H2 H23 hoff1 hoff2
        go_wp2
        go_roundw
        case rel => exact ⟨j + 1, mP, P, cP, by rw [← hP, ← hcP, ← hmP], HKQ.out.1, HKQ.out.2, by rw [HST2.out]; exact HN6.out, HG.out.trans HG6.out, H6.out, HPB.out⟩
        case measure => simp [lenOf]; omega
      ·
       have he := Cp.chunks_end 2 HS ns j hns (by omega) hjn
       rw [he, ← HST.out] at hI
       have N9 := Lib.hid hI
       have B9 := Lib.hid (hg.below B7.out HVB.out)
       have V9 := Lib.hid (grew_off hg HVB.out B7.out.size)
       clear hI hrow8 hg he hpb
       go_wp2
       go_roundw
       case rel => exact ⟨k + 1, by go_num, by omega, N9.out, HAL.out, B9.out, V9.out⟩
       case measure => simp [intOf]; omega
    ·
     skip
     have hxk0 : W3.cell? ⟨b, off + k * 3, none⟩ = some (.int .i64 2) := by have := HRG3.out 0 _ rfl; rw [hd] at this; exact this
     have hca : W3.cell? ⟨w.heap.size, 7, none⟩ = some (.int .u32 (y.c.accm : Int)) := cell_of_row _ _ _ _ _ _ HC3.out
     have hmk : Cp.kind x = 1 := by simp [Cp.kind, hd]
     have hro : S7.Fr.rowOf 0 y.c.wide [Cp.body x] = (Cp.strm y.c x, 0) := by
      have := Cp.row_one y.c x hmy
      rw [show mapAt x.dir y.c = 0 by simp [mapAt, hd]] at this
      exact this
     have cBO := fun W h => refFrame_any x p c W hmy h
     go_wp2_with fail
     clear hca hxk0
     refine held_start (S := fun W => W.rangeAt b (off + k * 3) (icells x (.slice p x.data.length c)) ∧ W.heap[w.heap.size]? = some (.cells (ccells y).toArray 25 (0, 0))) 15 (by kernel_rfl) rfl ?_
     have hB4 := Lib.hid (HB3.out.drew)
     have hS4 : W3.drew.rangeAt b (off + k * 3) (icells x (.slice p x.data.length c)) ∧ W3.drew.heap[w.heap.size]? = some (.cells (ccells y).toArray 25 (0, 0)) := ⟨fun j v hj => HRG3.out j v hj, HC3.out⟩
     have hN4 : Hid (Nls W3.drew w.heap.size (.slice av nm cv) M) := HN3.out.next (Below.refl _ _).drew
     have hrow4 : RowAt W3.drew p c x.data := HROW3.out.next (Below.refl _ _).drew
     have hSN : ∀ W', Below W3.drew.heap.size W3.drew W' → W'.rangeAt b (off + k * 3) (icells x (.slice p x.data.length c)) ∧ W'.heap[w.heap.size]? = some (.cells (ccells y).toArray 25 (0, 0)) := fun W' hb => ⟨fun j v hj => by
      rw [Below.cell (p := ⟨b, off + k * 3 + j, none⟩) hb (Nat.lt_of_lt_of_le hbl (Below.chain HB0.out hB4.out).size)]; exact hS4.1 j v hj, block_next hS4.2 hb⟩
     generalize W3.drew = W4 at hS4 hN4 hB4 hrow4 hSN ⊢
     clear HRG3 HN3 HB3 HROW3 HC3
     refine held_take 0 (v := ?_) rfl (by kernel_rfl) (by kernel_rfl) (by kernel_rfl) (fun _ _ _ h => h) (by assumption) (by rfl) ?_ ?_
     rotate_left
     ·
      (intro W hW; go_simp; try with_reducible rfl)
     simp only [Act.put, List.setIfInBounds_toArray, List.set_cons_zero, List.set_cons_succ]
     refine held_take 1 (v := ?_) rfl (by kernel_rfl) (by kernel_rfl) (by kernel_rfl) (fun _ _ _ h => h) (by assumption) (by rfl) ?_ ?_
     rotate_left
     ·
      (intro W hW; go_simp; try with_reducible rfl)
     simp only [Act.put, List.setIfInBounds_toArray, List.set_cons_zero, List.set_cons_succ]
     refine held_take 2 (v := ?_) rfl (by kernel_rfl) (by kernel_rfl) (by kernel_rfl) (fun _ _ _ h => h) (by assumption) (by rfl) ?_ ?_
     rotate_left
     ·
      (intro W hW; go_simp; try with_reducible rfl)
     simp only [Act.put, List.setIfInBounds_toArray, List.set_cons_zero, List.set_cons_succ]
     refine held_take 3 (v := .agg (icells x (.slice p x.data.length c)).toArray) rfl (by kernel_rfl) (by kernel_rfl) (by kernel_rfl) (fun _ _ _ h => h) (by assumption) (by rfl) (fun W hW => run_load_itemmid (.tmp 71) rfl _ _ rfl x _ hW.1) ?_
     simp only [Act.put, List.setIfInBounds_toArray, List.set_cons_zero, List.set_cons_succ]
     refine held_take 6 (v := ?_) rfl (by kernel_rfl) (by kernel_rfl) (by kernel_rfl) (fun _ _ _ h => h) (by assumption) (by rfl) ?_ ?_
     rotate_left
     ·
      (intro W hW; go_simp; try with_reducible rfl)
     simp only [Act.put, List.setIfInBounds_toArray, List.set_cons_zero, List.set_cons_succ]
     refine held_take 7 (v := ?_) rfl (by kernel_rfl) (by kernel_rfl) (by kernel_rfl) (fun _ _ _ h => h) (by assumption) (by rfl) ?_ ?_
     rotate_left
     ·
      (intro W hW; go_simp; try with_reducible rfl)
     simp only [Act.put, List.setIfInBounds_toArray, List.set_cons_zero, List.set_cons_succ]
     refine held_take 8 (v := ?_) rfl (by kernel_rfl) (by kernel_rfl) (by kernel_rfl) (fun _ _ _ h => h) (by assumption) (by rfl) ?_ ?_
     rotate_left
     ·
      (intro W hW; have hc : W.cell? ⟨w.heap.size, 8, none⟩ = some (.bool y.c.wide) := cell_of_row _ _ _ _ _ _ hW.2; go_simp; try with_reducible rfl)
     simp only [Act.put, List.setIfInBounds_toArray, List.set_cons_zero, List.set_cons_succ]
     refine held_call 4 (f := 23) (args := #[.agg (icells x (.slice p x.data.length c)).toArray]) rfl (by kernel_rfl) (by rfl) (by go_simp) ?_
     refine (cBO _ hrow4).mono ?_
     rintro e W5 ⟨v5, rfl, o5, b5⟩
     obtain ⟨p5, c5, rfl, row5⟩ := rowAt_own rfl o5
     refine ⟨_, rfl, hSN _ b5, ?_⟩
     simp only [Act.put, List.setIfInBounds_toArray, List.set_cons_zero, List.set_cons_succ]
     have b6 := below_one W5 (.cells #[.slice p5 (Cp.body x).length c5] 22)
     have b46 := Below.chain b5 b6
     refine held_makes 5 (v := .slice (some ⟨W5.heap.size, 0, none⟩) 1 1) (w' := W5.alloc (.cells #[.slice p5 (Cp.body x).length c5] 22)) rfl (by kernel_rfl) (by rfl) (by go_simp) (hSN _ b46) ?_
     simp only [Act.put, List.setIfInBounds_toArray, List.set_cons_zero, List.set_cons_succ]
     have cRO := S7.refRow_any 0 y.c.wide (some ⟨W5.heap.size, 0, none⟩) 1 1 [Cp.body x] (W5.alloc (.cells #[.slice p5 (Cp.body x).length c5] 22)) rfl (by first | exact hac | decide) (by omega) (by simp; omega) (S7.parts_one rfl (RowAt.to7 row5))
     rw [hro] at cRO
     refine held_call 9 (f := 24) (args := #[.slice (some ⟨W5.heap.size, 0, none⟩) 1 1, .int .u32 0, .bool y.c.wide]) rfl (by kernel_rfl) (by rfl) (by go_simp) ?_
     refine cRO.mono ?_
     intro e W7 h7
     obtain ⟨v7, he7, o7, b7⟩ : ∃ v, e = .returned (.tuple #[v, .int .i64 0]) ∧ W7.ownsRow _ 5 1 v (Cp.strm y.c x).length (Lib.byteCells (Cp.strm y.c x)) ∧ Below _ _ W7 := h7
     subst he7
     have b47 := Below.chain b46 b7
     have hS7 := hSN _ b47
     clear hbl2
     refine ⟨_, rfl, hS7, ?_⟩
     simp only [Act.put, List.setIfInBounds_toArray, List.set_cons_zero, List.set_cons_succ]
     refine held_take 10 (v := ?_) rfl (by kernel_rfl) (by kernel_rfl) (by kernel_rfl) (fun _ _ _ h => h) (by assumption) (by rfl) ?_ ?_
     rotate_left
     ·
      (intro W hW; go_simp; try with_reducible rfl)
     simp only [Act.put, List.setIfInBounds_toArray, List.set_cons_zero, List.set_cons_succ]
     refine held_take 11 (v := ?_) rfl (by kernel_rfl) (by kernel_rfl) (by kernel_rfl) (fun _ _ _ h => h) (by assumption) (by rfl) ?_ ?_
     rotate_left
     ·
      (intro W hW; go_simp; try with_reducible rfl)
     simp only [Act.put, List.setIfInBounds_toArray, List.set_cons_zero, List.set_cons_succ]
     refine held_take 12 (v := ?_) rfl (by kernel_rfl) (by kernel_rfl) (by kernel_rfl) (fun _ _ _ h => h) (by assumption) (by rfl) ?_ ?_
     rotate_left
     ·
      (intro W hW; go_simp; try with_reducible rfl)
     simp only [Act.put, List.setIfInBounds_toArray, List.set_cons_zero, List.set_cons_succ]
     refine held_take 13 (v := ?_) rfl (by kernel_rfl) (by kernel_rfl) (by kernel_rfl) (fun _ _ _ h => h) (by assumption) (by rfl) ?_ ?_
     rotate_left
     ·
      (intro W hW; go_simp; try with_reducible rfl)
     simp only [Act.put, List.setIfInBounds_toArray, List.set_cons_zero, List.set_cons_succ]
     refine held_take 14 (v := ?_) rfl (by kernel_rfl) (by kernel_rfl) (by kernel_rfl) (fun _ _ _ h => h) (by assumption) (by rfl) ?_ ?_
     rotate_left
     ·
      (intro W hW; go_simp; try with_reducible rfl)
     simp only [Act.put, List.setIfInBounds_toArray, List.set_cons_zero, List.set_cons_succ]
     refine held_done (by kernel_rfl) ?_
     obtain ⟨p7, c7, rfl, row7⟩ := rowAt_own rfl o7
     have hoff7 : ∀ ad, p7 = some ad → ad.block < W7.heap.size ∧ (Value.slice av nm cv).ownBlock ≠ some ad.block := by
      intro ad e
      subst e
      have h1 := o7.lt ad.block rfl
      have h46 := b46.size
      exact ⟨h1.2, fun e2 => by have := (hN4.out.lt _ e2).2; omega⟩
     have hsl := (Cp.strm_length y.c x).1
     rw [hmk] at hst
     generalize Cp.strm y.c x = HS at *
     obtain ⟨ns, hns⟩ : ∃ ns, HS.length = ns := ⟨_, rfl⟩
     rw [hns] at hsl ⊢
     have HN7 := Lib.hid (hN4.out.next b47)
     have HST := Lib.hid hst
     have B7 := Lib.hid (Below.chain hB4.out b47)
     have OFF := Lib.hid hoff7
     have ROW7 := Lib.hid row7
     have hns2 : ns ≤ 300000 := by omega
     have sz7 := (Below.chain HB0.out B7.out).size
     clear hst hoff7 o5 o7 b5 b6 b7 b46 b47 cRO cBO row5 row7 hS4 hS7 hSN hN4 hB4 hrow4 hro
     go_wp2_with fail
     go_loopw [9, 13] (fun v s wr2 => ∃ (j m : Nat) (p8 : Option Addr) (c8 : Nat), s = .slice p8 m c8 ∧ ns - 65535 * j = m ∧ 65535 * j < ns + 65535 ∧ Nls wr2 w.heap.size v (M ++ (List.range j).map (Cp.part 1 HS)) ∧ Grew W7 wr2 (.slice av nm cv) v ∧ RowAt wr2 p8 c8 (HS.drop (65535 * j)) ∧ ∀ ad, p8 = some ad → ∃ a0, p7 = some a0 ∧ ad.block = a0.block) (fun _ s _ => lenOf s)
     case atStart => exact ⟨0, ns, p7, c7, rfl, by omega, by omega, by simpa using HN7.out, Grew.refl _ _, by simpa using ROW7.out, fun ad e => ⟨ad, e, rfl⟩⟩
     case round =>
      obtain ⟨j, m, p8, c8, rfl, hjm, hjn, hI, hg, hrow8, hpb⟩ := hrel
      by_cases hlt8 : (0 : Int) < (m : Int)
      ·
       have hmx : (HS.drop (65535 * j)).length = m := by rw [List.length_drop, hns]; exact hjm
       have hle8 := hrow8.le
       rw [hmx] at hle8
       have hb8 := hg.below B7.out HVB.out
       have hxk : wr.cell? ⟨b, off + k * 3, none⟩ = some (.int .i64 2) := by
        have := (HIT.out.next hbl (Below.chain HB0.out hb8)).dir; rw [hd] at this; exact this
       clear hb8
       by_cases h65 : (65535 : Int) < (m : Int)
       ·
        skip
        obtain ⟨q, hqe⟩ : ∃ q : Nat, (65535 : Int) = (q : Int) := ⟨65535, rfl⟩
        have j3 : (q : Int) ≤ (c8 : Int) := by omega
        have j4 : (q : Int) ≤ (m : Int) := by omega
        have j1 : q ≤ m := by omega
        have j2 : q ≤ c8 := by omega
        have hqm : q = 65535 ∨ q = m := by omega
        have hq65 : q ≤ 65535 := by omega
        have hq0 : 0 < q := by omega
        have HQE := Lib.hid hqe
        have hX : (HS.drop (65535 * j)).drop q = HS.drop (65535 * (j + 1)) := by
         rw [List.drop_drop]
         rcases hqm with e | e
         ·
          exact congrArg (fun t => HS.drop t) (by omega)
         ·
          by_cases h : q = 65535
          ·
           exact congrArg (fun t => HS.drop t) (by omega)
          ·
           rw [List.drop_of_length_le (by omega), List.drop_of_length_le (by omega)]
        have hD : Cp.part 1 HS j = ⟨1, 0, (HS.drop (65535 * j)).take q⟩ := by
         unfold Cp.part
         rcases hqm with e | e
         ·
          rw [e]
         ·
          rw [List.take_of_length_le (by rw [hmx]; omega), List.take_of_length_le (by rw [hmx]; omega)]
        have h1 := hrow8.head q (by rw [hmx]; omega)
        have h2 := hrow8.cut q m (by omega) (by rw [hmx]; exact Nat.le_refl _)
        rw [List.take_of_length_le (by rw [hmx]; exact Nat.le_refl _), hX] at h2
        have hql : ((HS.drop (65535 * j)).take q).length = q := by rw [List.length_take, hmx]; omega
        have hst2 : M ++ (List.range (j + 1)).map (Cp.part 1 HS) = (M ++ (List.range j).map (Cp.part 1 HS)) ++ [⟨1, 0, (HS.drop (65535 * j)).take q⟩] := by
         rw [Cp.part_step, hD, List.append_assoc]
        obtain ⟨M8, hM8⟩ : ∃ M8, M8 = M ++ (List.range j).map (Cp.part 1 HS) := ⟨_, rfl⟩
        have hMl : M8.length ≤ 1000000 := by rw [hM8]; simp; omega
        rw [← hM8] at hI hst2
        generalize (HS.drop (65535 * j)).take q = Y at *
        obtain ⟨P, hP⟩ : ∃ P, (if c8 = q then p8 else p8.map (·.add q)) = P := ⟨_, rfl⟩
        obtain ⟨cP, hcP⟩ : ∃ cP, c8 - q = cP := ⟨_, rfl⟩
        obtain ⟨mP, hmP⟩ : ∃ mP, m - q = mP := ⟨_, rfl⟩
        rw [hP, hcP] at h2
        have hPb : ∀ ad, P = some ad → ∃ a0, p7 = some a0 ∧ ad.block = a0.block := by
         intro ad e
         rw [← hP] at e
         split at e
         ·
          exact hpb ad e
         ·
          cases p8 with
          | none => simp at e
          | some a1 =>
           simp only [Option.map_some, Option.some.injEq] at e
           obtain ⟨a0, e1, e2⟩ := hpb a1 rfl
           refine ⟨a0, e1, ?_⟩
           rw [← e, ← e2]; unfold Addr.add; split <;> rfl
        obtain ⟨ax, cx, rfl⟩ := nls_slice hI
        have hoff : ∀ p' : Option Addr, (∀ ad, p' = some ad → ∃ a0, p7 = some a0 ∧ ad.block = a0.block) → ∀ ad, p' = some ad → ad.block < wr.heap.size ∧ (Value.slice ax M8.length cx).ownBlock ≠ some ad.block := by
         intro p' hp' ad e
         obtain ⟨a0, e1, e2⟩ := hp' ad e
         have h3 := OFF.out a0 e1
         rw [e2]
         exact ⟨Nat.lt_of_lt_of_le h3.1 hg.by'.size, (hg.away a0.block h3.1 h3.2).2⟩
        have hoff1 := Lib.hid (hoff p8 hpb)
        have hoff2 := Lib.hid (hoff P hPb)
        have hkq : ns - 65535 * (j + 1) = mP ∧ 65535 * (j + 1) < ns + 65535 := by rcases hqm with e | e <;> omega
        have HI := Lib.hid hI
        have HG := Lib.hid hg
        have H1 := Lib.hid h1
        have H2 := Lib.hid h2
        have HST2 := Lib.hid hst2
        have HPB := Lib.hid hPb
        have HQL := Lib.hid hql
        have HKQ := Lib.hid hkq
        have hsz := hg.by'.size
        clear hI hg h1 h2 hst2 hPb hpb hoff hrow8 hX hD hM8 hkq hjm hjn hql hmx hqe hqm hq65
        go_wp2_with fail
        rw [HQE.out]
        refine held_start (S := fun W => W.cell? ⟨b, off + k * 3, none⟩ = some (.int .i64 2)) 14 (by kernel_rfl) rfl ?_
        have hS5 : wr.drew.cell? ⟨b, off + k * 3, none⟩ = some (.int .i64 2) := hxk
        have HI3 : Hid (Nls wr.drew w.heap.size (.slice ax M8.length cx) M8) := HI.out.next (Below.refl _ _).drew
        have H13 : Hid (RowAt wr.drew p8 c8 Y) := H1.out.next (Below.refl _ _).drew
        have H23 : Hid (RowAt wr.drew P cP (HS.drop (65535 * (j + 1)))) := H2.out.next (Below.refl _ _).drew
        have HG3 : Hid (Below wr.heap.size wr wr.drew) := (Below.refl _ _).drew
        have hs3 : wr.drew.heap.size = wr.heap.size := rfl
        generalize wr.drew = W3 at *
        refine held_take 0 (v := ?_) rfl (by kernel_rfl) (by kernel_rfl) (by kernel_rfl) (fun _ _ _ h => h) (by assumption) (by rfl) ?_ ?_
        rotate_left
        ·
         (intro W hW; go_simp; try with_reducible rfl)
        simp only [Act.put, List.setIfInBounds_toArray, List.set_cons_zero, List.set_cons_succ]
        refine held_take 1 (v := ?_) rfl (by kernel_rfl) (by kernel_rfl) (by kernel_rfl) (fun _ _ _ h => h) (by assumption) (by rfl) ?_ ?_
        rotate_left
        ·
         (intro W hW; go_simp; try with_reducible rfl)
        simp only [Act.put, List.setIfInBounds_toArray, List.set_cons_zero, List.set_cons_succ]
        refine held_take 2 (v := ?_) rfl (by kernel_rfl) (by kernel_rfl) (by kernel_rfl) (fun _ _ _ h => h) (by assumption) (by rfl) ?_ ?_
        rotate_left
        ·
         (intro W hW; go_simp; try with_reducible rfl)
        simp only [Act.put, List.setIfInBounds_toArray, List.set_cons_zero, List.set_cons_succ]
        refine held_take 3 (v := ?_) rfl (by kernel_rfl) (by kernel_rfl) (by kernel_rfl) (fun _ _ _ h => h) (by assumption) (by rfl) ?_ ?_
        rotate_left
        ·
         (intro W hW; go_simp; try with_reducible rfl)
        simp only [Act.put, List.setIfInBounds_toArray, List.set_cons_zero, List.set_cons_succ]
        refine held_take 4 (v := ?_) rfl (by kernel_rfl) (by kernel_rfl) (by kernel_rfl) (fun _ _ _ h => h) (by assumption) (by rfl) ?_ ?_
        rotate_left
        ·
         (intro W hW; go_simp; try with_reducible rfl)
        simp only [Act.put, List.setIfInBounds_toArray, List.set_cons_zero, List.set_cons_succ]
        refine held_take 5 (v := ?_) rfl (by kernel_rfl) (by kernel_rfl) (by kernel_rfl) (fun _ _ _ h => h) (by assumption) (by rfl) ?_ ?_
        rotate_left
        ·
         (intro W hW; have hc : W.cell? ⟨b, off + k * 3, none⟩ = some (.int .i64 2) := hW; go_simp; try with_reducible rfl)
        simp only [Act.put, List.setIfInBounds_toArray, List.set_cons_zero, List.set_cons_succ]
        refine held_take 6 (v := .int .i64 1) rfl (by kernel_rfl) (by kernel_rfl) (by kernel_rfl) (fun _ _ _ h => h) (by assumption) (by rfl) (by intro W hW; go_simp; try rfl) ?_
        simp only [Act.put, List.setIfInBounds_toArray, List.set_cons_zero, List.set_cons_succ]
        refine held_take 7 (v := ?_) rfl (by kernel_rfl) (by kernel_rfl) (by kernel_rfl) (fun _ _ _ h => h) (by assumption) (by rfl) ?_ ?_
        rotate_left
        ·
         (intro W hW; go_simp; try with_reducible rfl)
        simp only [Act.put, List.setIfInBounds_toArray, List.set_cons_zero, List.set_cons_succ]
        refine held_take 8 (v := ?_) rfl (by kernel_rfl) (by kernel_rfl) (by kernel_rfl) (fun _ _ _ h => h) (by assumption) (by rfl) ?_ ?_
        rotate_left
        ·
         (intro W hW; go_simp; try with_reducible rfl)
        simp only [Act.put, List.setIfInBounds_toArray, List.set_cons_zero, List.set_cons_succ]
        refine held_take 9 (v := ?_) rfl (by kernel_rfl) (by kernel_rfl) (by kernel_rfl) (fun _ _ _ h => h) (by assumption) (by rfl) ?_ ?_
        rotate_left
        ·
         (intro W hW; go_simp; try with_reducible rfl)
        simp only [Act.put, List.setIfInBounds_toArray, List.set_cons_zero, List.set_cons_succ]
        refine held_take 10 (v := ?_) rfl (by kernel_rfl) (by kernel_rfl) (by kernel_rfl) (fun _ _ _ h => h) (by assumption) (by rfl) ?_ ?_
        rotate_left
        ·
         (intro W hW; go_simp; try with_reducible rfl)
        simp only [Act.put, List.setIfInBounds_toArray, List.set_cons_zero, List.set_cons_succ]
        have hb4 := below_one W3 (.cells #[.int .i64 1, .int .u32 0, .slice p8 q c8] 61)
        have hg4 := heap_alloc_new W3 (.cells #[.int .i64 1, .int .u32 0, .slice p8 q c8] 61)
        have hs4 : (W3.alloc (.cells #[.int .i64 1, .int .u32 0, .slice p8 q c8] 61)).heap.size = W3.heap.size + 1 := by simp
        have hS6 : (W3.alloc (.cells #[.int .i64 1, .int .u32 0, .slice p8 q c8] 61)).cell? ⟨b, off + k * 3, none⟩ = some (.int .i64 2) := by
         rw [Below.cell (p := ⟨b, off + k * 3, none⟩) hb4 (World.block_lt_of_cell? _ _ hS5)]; exact hS5
        refine held_makes 11 (v := .slice (some ⟨W3.heap.size, 0, none⟩) 1 1) (w' := W3.alloc (.cells #[.int .i64 1, .int .u32 0, .slice p8 q c8] 61)) rfl (by kernel_rfl) (by rfl) (by go_simp) hS6 ?_
        simp only [Act.put, List.setIfInBounds_toArray, List.set_cons_zero, List.set_cons_succ]
        refine held_one 12 rfl (by kernel_rfl) (by rfl) ?_
        refine wp_append_nls (.tmp 88) (.tmp 99) rfl w.heap.size (.slice ax M8.length cx) M8 ⟨1, 0, Y⟩ p8 c8 W3.heap.size rfl rfl (HI3.out.next hb4) (H13.out.next hb4) (fun ad e => ⟨by have := (hoff1.out ad e).1; omega, (hoff1.out ad e).2⟩) (by show _ = some (Obj.cells (ncells _ (.slice p8 Y.length c8)).toArray _ _); rw [HQL.out]; exact hg4) (by omega) hMl ?_
        intro v6 w6 n6 g6
        have hx6 : w6.cell? ⟨b, off + k * 3, none⟩ = some (.int .i64 2) := by
         rw [World.cell?_of_block (w := W3.alloc (.cells #[.int .i64 1, .int .u32 0, .slice p8 q c8] 61)) (g6.by'.block b (World.block_lt_of_cell? _ _ hS6) (fun e => by have := (HI3.out.lt b e.symm).1; omega))]; exact hS6
        refine ⟨hx6, ?_⟩
        simp only [Act.put, List.setIfInBounds_toArray, List.set_cons_zero, List.set_cons_succ]
        refine held_take 13 (v := ?_) rfl (by kernel_rfl) (by kernel_rfl) (by kernel_rfl) (fun _ _ _ h => h) (by assumption) (by rfl) ?_ ?_
        rotate_left
        ·
         (intro W hW; go_simp; try with_reducible rfl)
        simp only [Act.put, List.setIfInBounds_toArray, List.set_cons_zero, List.set_cons_succ]
        refine held_done (by kernel_rfl) ?_
        have HN6 := Lib.hid n6
        have HG6 := Lib.hid (Grew.after HG3.out (by have := Grew.after hb4 g6; exact this))
        have H6 := Lib.hid ((Grew.after hb4 g6).row H23.out (fun ad e => (hoff2.out ad e).2))
        clear n6 g6 hb4 hg4 hS5 hS6 hx6 HI HI3 H1 H13 H2 H23 hoff1 hoff2
        go_wp2
        go_roundw
        case rel => exact ⟨j + 1, mP, P, cP, by rw [← hP, ← hcP, ← hmP], HKQ.out.1, HKQ.out.2, by rw [HST2.out]; exact HN6.out, HG.out.trans HG6.out, H6.out, HPB.out⟩
        case measure => simp [lenOf]; omega
       ·
        skip
        obtain ⟨q, hqe⟩ : ∃ q : Nat, ((m : Int) : Int) = (q : Int) := ⟨m, rfl⟩
        have j3 : (q : Int) ≤ (c8 : Int) := by omega
        have j4 : (q : Int) ≤ (m : Int) := by omega
        have j1 : q ≤ m := by omega
        have j2 : q ≤ c8 := by omega
        have hqm : q = 65535 ∨ q = m := by omega
        have hq65 : q ≤ 65535 := by omega
        have hq0 : 0 < q := by omega
        have HQE := Lib.hid hqe
        have hX : (HS.drop (65535 * j)).drop q = HS.drop (65535 * (j + 1)) := by
         rw [List.drop_drop]
         rcases hqm with e | e
         ·
          exact congrArg (fun t => HS.drop t) (by omega)
         ·
          by_cases h : q = 65535
          ·
           exact congrArg (fun t => HS.drop t) (by omega)
          ·
           rw [List.drop_of_length_le (by omega), List.drop_of_length_le (by omega)]
        have hD : Cp.part 1 HS j = ⟨1, 0, (HS.drop (65535 * j)).take q⟩ := by
         unfold Cp.part
         rcases hqm with e | e
         ·
          rw [e]
         ·
          rw [List.take_of_length_le (by rw [hmx]; omega), List.take_of_length_le (by rw [hmx]; omega)]
        have h1 := hrow8.head q (by rw [hmx]; omega)
        have h2 := hrow8.cut q m (by omega) (by rw [hmx]; exact Nat.le_refl _)
        rw [List.take_of_length_le (by rw [hmx]; exact Nat.le_refl _), hX] at h2
        have hql : ((HS.drop (65535 * j)).take q).length = q := by rw [List.length_take, hmx]; omega
        have hst2 : M ++ (List.range (j + 1)).map (Cp.part 1 HS) = (M ++ (List.range j).map (Cp.part 1 HS)) ++ [⟨1, 0, (HS.drop (65535 * j)).take q⟩] := by
         rw [Cp.part_step, hD, List.append_assoc]
        obtain ⟨M8, hM8⟩ : ∃ M8, M8 = M ++ (List.range j).map (Cp.part 1 HS) := ⟨_, rfl⟩
        have hMl : M8.length ≤ 1000000 := by rw [hM8]; simp; omega
        rw [← hM8] at hI hst2
        generalize (HS.drop (65535 * j)).take q = Y at *
        obtain ⟨P, hP⟩ : ∃ P, (if c8 = q then p8 else p8.map (·.add q)) = P := ⟨_, rfl⟩
        obtain ⟨cP, hcP⟩ : ∃ cP, c8 - q = cP := ⟨_, rfl⟩
        obtain ⟨mP, hmP⟩ : ∃ mP, m - q = mP := ⟨_, rfl⟩
        rw [hP, hcP] at h2
        have hPb : ∀ ad, P = some ad → ∃ a0, p7 = some a0 ∧ ad.block = a0.block := by
         intro ad e
         rw [← hP] at e
         split at e
         ·
          exact hpb ad e
         ·
          cases p8 with
          | none => simp at e
          | some a1 =>
           simp only [Option.map_some, Option.some.injEq] at e
           obtain ⟨a0, e1, e2⟩ := hpb a1 rfl
           refine ⟨a0, e1, ?_⟩
           rw [← e, ← e2]; unfold Addr.add; split <;> rfl
        obtain ⟨ax, cx, rfl⟩ := nls_slice hI
        have hoff : ∀ p' : Option Addr, (∀ ad, p' = some ad → ∃ a0, p7 = some a0 ∧ ad.block = a0.block) → ∀ ad, p' = some ad → ad.block < wr.heap.size ∧ (Value.slice ax M8.length cx).ownBlock ≠ some ad.block := by
         intro p' hp' ad e
         obtain ⟨a0, e1, e2⟩ := hp' ad e
         have h3 := OFF.out a0 e1
         rw [e2]
         exact ⟨Nat.lt_of_lt_of_le h3.1 hg.by'.size, (hg.away a0.block h3.1 h3.2).2⟩
        have hoff1 := Lib.hid (hoff p8 hpb)
        have hoff2 := Lib.hid (hoff P hPb)
        have hkq : ns - 65535 * (j + 1) = mP ∧ 65535 * (j + 1) < ns + 65535 := by rcases hqm with e | e <;> omega
        have HI := Lib.hid hI
        have HG := Lib.hid hg
        have H1 := Lib.hid h1
        have H2 := Lib.hid h2
        have HST2 := Lib.hid hst2
        have HPB := Lib.hid hPb
        have HQL := Lib.hid hql
        have HKQ := Lib.hid hkq
        have hsz := hg.by'.size
        clear hI hg h1 h2 hst2 hPb hpb hoff hrow8 hX hD hM8 hkq hjm hjn hql hmx hqe hqm hq65
        go_wp2_with fail
        rw [HQE.out]
        refine held_start (S := fun W => W.cell? ⟨b, off + k * 3, none⟩ = some (.int .i64 2)) 14 (by kernel_rfl) rfl ?_
        have hS5 : wr.drew.cell? ⟨b, off + k * 3, none⟩ = some (.int .i64 2) := hxk
        have HI3 : Hid (Nls wr.drew w.heap.size (.slice ax M8.length cx) M8) := HI.out.next (Below.refl _ _).drew
        have H13 : Hid (RowAt wr.drew p8 c8 Y) := H1.out.next (Below.refl _ _).drew
        have H23 : Hid (RowAt wr.drew P cP (HS.drop (65535 * (j + 1)))) := H2.out.next (Below.refl _ _).drew
        have HG3 : Hid (Below wr.heap.size wr wr.drew) := (Below.refl _ _).drew
        have hs3 : wr.drew.heap.size = wr.heap.size := rfl
        generalize wr.drew = W3 at *
        refine held_take 0 (v := ?_) rfl (by kernel_rfl) (by kernel_rfl) (by kernel_rfl) (fun _ _ _ h => h) (by assumption) (by rfl) ?_ ?_
        rotate_left
        ·
         (intro W hW; go_simp; try with_reducible rfl)
        simp only [Act.put, List.setIfInBounds_toArray, List.set_cons_zero, List.set_cons_succ]
        refine held_take 1 (v := ?_) rfl (by kernel_rfl) (by kernel_rfl) (by kernel_rfl) (fun _ _ _ h => h) (by assumption) (by rfl) ?_ ?_
        rotate_left
        ·
         (intro W hW; go_simp; try with_reducible rfl)
        simp only [Act.put, List.setIfInBounds_toArray, List.set_cons_zero, List.set_cons_succ]
        refine held_take 2 (v := ?_) rfl (by kernel_rfl) (by kernel_rfl) (by kernel_rfl) (fun _ _ _ h => h) (by assumption) (by rfl) ?_ ?_
        rotate_left
        ·
         (intro W hW; go_simp; try with_reducible rfl)
        simp only [Act.put, List.setIfInBounds_toArray, List.set_cons_zero, List.set_cons_succ]
        refine held_take 3 (v := ?_) rfl (by kernel_rfl) (by kernel_rfl) (by kernel_rfl) (fun _ _ _ h => h) (by assumption) (by rfl) ?_ ?_
        rotate_left
        ·
         (intro W hW; go_simp; try with_reducible rfl)
        simp only [Act.put, List.setIfInBounds_toArray, List.set_cons_zero, List.set_cons_succ]
        refine held_take 4 (v := ?_) rfl (by kernel_rfl) (by kernel_rfl) (by kernel_rfl) (fun _ _ _ h => h) (by assumption) (by rfl) ?_ ?_
        rotate_left
        ·
         (intro W hW; go_simp; try with_reducible rfl)
        simp only [Act.put, List.setIfInBounds_toArray, List.set_cons_zero, List.set_cons_succ]
        refine held_take 5 (v := ?_) rfl (by kernel_rfl) (by kernel_rfl) (by kernel_rfl) (fun _ _ _ h => h) (by assumption) (by rfl) ?_ ?_
        rotate_left
        ·
         (intro W hW; have hc : W.cell? ⟨b, off + k * 3, none⟩ = some (.int .i64 2) := hW; go_simp; try with_reducible rfl)
        simp only [Act.put, List.setIfInBounds_toArray, List.set_cons_zero, List.set_cons_succ]
        refine held_take 6 (v := .int .i64 1) rfl (by kernel_rfl) (by kernel_rfl) (by kernel_rfl) (fun _ _ _ h => h) (by assumption) (by rfl) (by intro W hW; go_simp; try rfl) ?_
        simp only [Act.put, List.setIfInBounds_toArray, List.set_cons_zero, List.set_cons_succ]
        refine held_take 7 (v := ?_) rfl (by kernel_rfl) (by kernel_rfl) (by kernel_rfl) (fun _ _ _ h => h) (by assumption) (by rfl) ?_ ?_
        rotate_left
        ·
         (intro W hW; go_simp; try with_reducible rfl)
        simp only [Act.put, List.setIfInBounds_toArray, List.set_cons_zero, List.set_cons_succ]
        refine held_take 8 (v := ?_) rfl (by kernel_rfl) (by kernel_rfl) (by kernel_rfl) (fun _ _ _ h => h) (by assumption) (by rfl) ?_ ?_
        rotate_left
        ·
         (intro W hW; go_simp; try with_reducible rfl)
        simp only [Act.put, List.setIfInBounds_toArray, List.set_cons_zero, List.set_cons_succ]
        refine held_take 9 (v := ?_) rfl (by kernel_rfl) (by kernel_rfl) (by kernel_rfl) (fun _ _ _ h => h) (by assumption) (by rfl) ?_ ?_
        rotate_left
        ·
         (intro W hW; go_simp; try with_reducible rfl)
        simp only [Act.put, List.setIfInBounds_toArray, List.set_cons_zero, List.set_cons_succ]
        refine held_take 10 (v := ?_) rfl (by kernel_rfl) (by kernel_rfl) (by kernel_rfl) (fun _ _ _ h => h) (by assumption) (by rfl) ?_ ?_
        rotate_left
        ·
         (intro W hW; go_simp; try with_reducible rfl)
        simp only [Act.put, List.setIfInBounds_toArray, List.set_cons_zero, List.set_cons_succ]
        have hb4 := below_one W3 (.cells #[.int .i64 1, .int .u32 0, .slice p8 q c8] 61)
        have hg4 := heap_alloc_new W3 (.cells #[.int .i64 1, .int .u32 0, .slice p8 q c8] 61)
        have hs4 : (W3.alloc (.cells #[.int .i64 1, .int .u32 0, .slice p8 q c8] 61)).heap.size = W3.heap.size + 1 := by simp
        have hS6 : (W3.alloc (.cells #[.int .i64 1, .int .u32 0, .slice p8 q c8] 61)).cell? ⟨b, off + k * 3, none⟩ = some (.int .i64 2) := by
         rw [Below.cell (p := ⟨b, off + k * 3, none⟩) hb4 (World.block_lt_of_cell? _ _ hS5)]; exact hS5
        refine held_makes 11 (v := .slice (some ⟨W3.heap.size, 0, none⟩) 1 1) (w' := W3.alloc (.cells #[.int .i64 1, .int .u32 0, .slice p8 q c8] 61)) rfl (by kernel_rfl) (by rfl) (by go_simp) hS6 ?_
        simp only [Act.put, List.setIfInBounds_toArray, List.set_cons_zero, List.set_cons_succ]
        refine held_one 12 rfl (by kernel_rfl) (by rfl) ?_
        refine wp_append_nls (.tmp 88) (.tmp 99) rfl w.heap.size (.slice ax M8.length cx) M8 ⟨1, 0, Y⟩ p8 c8 W3.heap.size rfl rfl (HI3.out.next hb4) (H13.out.next hb4) (fun ad e => ⟨by have := (hoff1.out ad e).1; omega, (hoff1.out ad e).2⟩) (by show _ = some (Obj.cells (ncells _ (.slice p8 Y.length c8)).toArray _ _); rw [HQL.out]; exact hg4) (by omega) hMl ?_
        intro v6 w6 n6 g6
        have hx6 : w6.cell? ⟨b, off + k * 3, none⟩ = some (.int .i64 2) := by
         rw [World.cell?_of_block (w := W3.alloc (.cells #[.int .i64 1, .int .u32 0, .slice p8 q c8] 61)) (g6.by'.block b (World.block_lt_of_cell? _ _ hS6) (fun e => by have := (HI3.out.lt b e.symm).1; omega))]; exact hS6
        refine ⟨hx6, ?_⟩
        simp only [Act.put, List.setIfInBounds_toArray, List.set_cons_zero, List.set_cons_succ]
        refine held_take 13 (v := ?_) rfl (by kernel_rfl) (by kernel_rfl) (by kernel_rfl) (fun _ _ _ h => h) (by assumption) (by rfl) ?_ ?_
        rotate_left
        ·
         (intro W hW; go_simp; try with_reducible rfl)
        simp only [Act.put, List.setIfInBounds_toArray, List.set_cons_zero, List.set_cons_succ]
        refine held_done (by kernel_rfl) ?_
        have HN6 := Lib.hid n6
        have HG6 := Lib.hid (Grew.after HG3.out (by have := Grew.after hb4 g6; exact this))
        have H6 := Lib.hid ((Grew.after hb4 g6).row H23.out (fun ad e => (hoff2.out ad e).2))
        clear n6 g6 hb4 hg4 hS5 hS6 hx6 HI HI3 H1 H13 H2 H23 hoff1 hoff2
        go_wp2
        go_roundw
        case rel => exact ⟨j + 1, mP, P, cP, by rw [← hP, ← hcP, ← hmP], HKQ.out.1, HKQ.out.2, by rw [HST2.out]; exact HN6.out, HG.out.trans HG6.out, H6.out, HPB.out⟩
        case measure => simp [lenOf]; omega
      ·
       have he := Cp.chunks_end 1 HS ns j hns (by omega) hjn
       rw [he, ← HST.out] at hI
       have N9 := Lib.hid hI
       have B9 := Lib.hid (hg.below B7.out HVB.out)
       have V9 := Lib.hid (grew_off hg HVB.out B7.out.size)
       clear hI hrow8 hg he hpb
       go_wp2
       go_roundw
       case rel => exact ⟨k + 1, by go_num, by omega, N9.out, HAL.out, B9.out, V9.out⟩
       case measure => simp [intOf]; omega
  ·
   have hks : L.take k = L := List.take_of_length_le (by rw [Hn.out]; omega)
   rw [hks] at hN hal ⊢
   have hfine := Cp.nts_fine y.c L
   have hby := Cp.bytes_nts y.c L HTT.out (by rw [Hn.out]; exact h60)
   obtain ⟨a2, c2, e2, hat⟩ := hN.at (Cp.nts_ok y.c L)
   obtain ⟨nm, hnm⟩ : ∃ nm, (Cp.nts y.c L).length = nm := ⟨_, rfl⟩
   rw [hnm] at e2 hby ⊢
   simp only [Value.slice.injEq, true_and] at e2
   obtain ⟨rfl, rfl⟩ := e2
   have hbw0 := Below.chain HB0.out hbw
   have hput := S10.refPut_put av nm cv (Cp.nts y.c L) wr hnm (by omega) hat
   have HP := Lib.hid hput
   have herr : S10.Dm.err (Cp.nts y.c L) = 0 := S10.Dm.err_fine _ hfine
   have HE := Lib.hid herr
   have HBW := Lib.hid hbw0
   have HWT := Lib.hid (Cp.write_two L y.c hal)
   clear hN hat hput hbw hbw0 hks herr hfine hby hvb hnm hal
   go_wp2_with fail
   refine HP.out.mono ?_
   rintro e w9 ⟨b9, h9⟩
   rcases h9 with ⟨_, v9, rfl, o9⟩ | ⟨hno, _⟩
   ·
    have O9 := Lib.hid (ownsRow_lower (base' := w.heap.size) o9 HBW.out.size)
    have B9 := Lib.hid (Below.chain HBW.out b9)
    clear o9 b9 HP
    go_wp2
    go_ret2
    rw [HWT.out]
    exact ⟨_, rfl, O9.out, B9.out⟩
   ·
    exact absurd HE.out hno
end Go.Proofs.YtbbnkmhlgfoacaaGreatDoor
