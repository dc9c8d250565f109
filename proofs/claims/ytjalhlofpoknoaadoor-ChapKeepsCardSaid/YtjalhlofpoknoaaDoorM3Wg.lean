/- Contract of Sum. -/
import Derived.Test.YtjalhlofpoknoaaDoorM3Wf
import Derived.Test.YtjalhlofpoknoaaDoorM3Held
namespace Go.Proofs.YtjalhlofpoknoaaDoor.S3
open Go.RowKit

namespace Md
theorem text_length (b : List UInt8) : (text b).length = b.length + (pad b.length + 9) := by rw [text, List.length_append, ending_length]
theorem text_blocks (b : List UInt8) : (text b).length = 64 * ((text b).length / 64) := by
  have h := text_length b
  have := pad_eq b.length
  omega
theorem text_pos (b : List UInt8) : 64 ≤ (text b).length := by
  have h := text_length b
  have := pad_eq b.length
  omega
theorem runs_fine (t : List UInt8) : ∀ (k : Nat) (s : St), s.fine → (runs t k s).fine
  | 0, _, h => h
  | _ + 1, _, _ => pass_fine _ _
theorem words_lt (b : List UInt8) (i : Nat) : (words b).getD i 0 < 4294967296 := by
  rw [List.getD_eq_getElem?_getD]
  by_cases h : i < 16
  · rw [words_get b i h]
    have h1 := val_lt ((b.drop (4 * i)).take 4)
    have h2 : ((b.drop (4 * i)).take 4).length ≤ 4 := by simp; omega
    have h3 : 256 ^ ((b.drop (4 * i)).take 4).length ≤ 256 ^ 4 := Nat.pow_le_pow_right (by omega) h2
    have h4 : (256 : Nat) ^ 4 = 4294967296 := rfl
    simp only [Option.getD_some]
    omega
  · rw [List.getElem?_eq_none (by rw [words_length]; omega)]; simp
theorem block_eq (t : List UInt8) (k : Nat) : (t.take (64 * k + 64)).drop (64 * k) = (t.drop (64 * k)).take 64 := by
  rw [List.drop_take, Nat.add_sub_cancel_left]
end Md

theorem words_at (a : Option Addr) (cap : Nat) (xs : List UInt8) (w : World) (hl : xs.length = 64) (h : RowAt w a cap xs) :
    Calls Tryd.prog 28 #[.slice a 64 cap] w fun e w' => e = .returned (.agg (Md.uc (Md.words xs)).toArray) ∧ Below w.heap.size w w' := by
  rcases h.bytes with rfl | ⟨b, off, rfl, hb, hc⟩
  · simp at hl
  · exact words_any b off cap xs w hl hb hc

theorem run_load_row {P : Program} {w : World} {o : Oper} {a : Act} (ty : TypeId) (x : Operand) (ho : o.op = .load ty x)
    (g : Nat) (hx : a.eval x = .pointer (some ⟨g, 0, none⟩)) (t : TypeId) (cs : Array Value) (fr : Nat × Nat) (d : TypeDesc) (hg : w.heap[g]? = some (.cells cs t fr))
    (hu : P.underlying ty = some d) (hd : (match d with | .struct _ | .array _ _ => true | _ => false) = true) (hi : (P.info? ty).map (·.size) = some cs.size) : (execOp a.eval o).run P w = .ok (.value (.agg cs)) w := by
  unfold execOp
  simp only [ho, hx, Instr.loadAt, Instr.sureAddr, Sem.run_bind, Sem.run_pure, Result.andThen_ok, run_loadVar_row w g t ty cs fr d hg hu hd hi]
theorem run_store_row {P : Program} {w : World} {o : Oper} {a : Act} (ty : TypeId) (x y : Operand) (ho : o.op = .store ty x y)
    (g : Nat) (cells : Array Value) (hx : a.eval x = .pointer (some ⟨g, 0, none⟩)) (hy : a.eval y = .agg cells)
    (t : TypeId) (old : Array Value) (hg : w.heap[g]? = some (.cells old t (0, 0))) (hi : (P.info? ty).map (·.size) = some cells.size)
    (hold : old.size = cells.size) (h1 : cells.all (·.oneCell') = true) : (execOp a.eval o).run P w = .ok .skip (w.setRow g cells) := by
  unfold execOp
  simp only [ho, hx, hy, Instr.storeAt, Instr.sureAddr, Sem.run_bind, Sem.run_pure, Result.andThen_ok, run_storeVar_row w g t ty old cells hg hi hold h1]

theorem ownsRow_next {w w' : World} {base : Nat} {e : TypeId} {size : Nat} {v : Value} {n : Nat} {xs : List Value} (h : w.ownsRow base e size v n xs) (hb : Below w.heap.size w w') : w'.ownsRow base e size v n xs := by
  refine ⟨h.1, ?_⟩
  rcases h.2 with h2 | ⟨g, cap, cur, a, b, c, d⟩
  · exact .inl h2
  · exact .inr ⟨g, cap, cur, a, b, by rw [hb.block g (Array.getElem?_eq_some_iff.1 c).1]; exact c, d⟩
theorem uc_size2 (s t : Md.St) : (Md.uc s.list).toArray.size = (Md.uc t.list).toArray.size := by simp [Md.uc, Md.St.list]
theorem uc_size (s : Md.St) : (Tryd.prog.info? 56).map (·.size) = some (Md.uc s.list).toArray.size := info37

def z24 : Array Value := #[.int .u8 0, .int .u8 0, .int .u8 0, .int .u8 0, .int .u8 0, .int .u8 0, .int .u8 0, .int .u8 0, .int .u8 0, .int .u8 0, .int .u8 0, .int .u8 0, .int .u8 0, .int .u8 0, .int .u8 0, .int .u8 0]
/-- The memory of Sum, between two blocks. -/
structure SumAt (w : World) (g : Nat) (s : Md.St) (a : Option Addr) (c : Nat) (t : List UInt8) (W : World) : Prop where
  st : W.heap[g]? = some (.cells (Md.uc s.list).toArray 56 (0, 0))
  rs : W.heap[w.heap.size]? = some (.cells z24 38 (0, 0))
  tx : RowAt W a c t
  tb : Tabs W
  bl : Below w.heap.size w W
  gt : w.heap.size < g
  s6 : 2 ≤ w.heap.size
  ap : ∀ ad, a = some ad → ad.block ≠ g
theorem SumAt.next {w W W' : World} {g : Nat} {s : Md.St} {a : Option Addr} {c : Nat} {t : List UInt8} (h : SumAt w g s a c t W) (hb : Below W.heap.size W W') : SumAt w g s a c t W' :=
  ⟨by rw [hb.block g (Array.getElem?_eq_some_iff.1 h.st).1]; exact h.st, by rw [hb.block _ (Array.getElem?_eq_some_iff.1 h.rs).1]; exact h.rs, h.tx.next hb, h.tb.next hb, Below.chain h.bl hb, h.gt, h.s6, h.ap⟩

theorem addr_add_block (ad : Addr) (j : Nat) : (ad.add j).block = ad.block := by unfold Addr.add; split <;> rfl
theorem SumAt.store {w W : World} {g : Nat} {s : Md.St} {a : Option Addr} {c : Nat} {t : List UInt8} (h : SumAt w g s a c t W) (s' : Md.St) : SumAt w g s' a c t (W.setRow g (Md.uc s'.list).toArray) := by
  have hs := h.gt
  have h6 := h.s6
  exact ⟨setRow_heap _ _ _ _ _ _ h.st, by rw [setRow_other _ _ _ _ (by omega)]; exact h.rs,
    ⟨h.tx.le, h.tx.max, h.tx.nil, fun ad e j u hu => by rw [cell_setRow_other _ _ _ _ (by rw [addr_add_block]; exact h.ap ad e)]; exact h.tx.cell ad e j u hu⟩,
    ⟨fun i hi => by rw [cell_setRow_other _ _ _ _ (by show 0 ≠ g; omega)]; exact h.tb.sine i hi, fun i hi => by rw [cell_setRow_other _ _ _ _ (by show 1 ≠ g; omega)]; exact h.tb.turn i hi, by rw [setRow_size]; exact h.tb.size⟩,
    below_setRow h.bl (by omega) _, h.gt, h.s6, h.ap⟩
theorem SumAt.drew {w W : World} {g : Nat} {s : Md.St} {a : Option Addr} {c : Nat} {t : List UInt8} (h : SumAt w g s a c t W) : SumAt w g s a c t W.drew := h.next (Below.refl _ _).drew

set_option maxHeartbeats 2000000 in
set_option maxRecDepth 100000 in
theorem sum_any (a : Option Addr) (n cap : Nat) (L : List (List UInt8)) (F : List UInt8) (w : World) (hn : L.length = n) (hF : L.flatten = F) (hL : L.length ≤ 1000) (hsum : F.length ≤ 90000) (h : PartsAt w a L) (ht : Tabs w) :
    Calls Tryd.prog 21 #[.slice a n cap] w fun e w' => e = .returned (.agg (Lib.byteCells (Md.sum F)).toArray) ∧ Below w.heap.size w w' := by
  obtain ⟨i0, hi, hz0, hz1, hz2⟩ := info_parts info5
  subst hn
  subst hF
  have HT := Lib.hid ht
  have HP := Lib.hid h
  have HL := Lib.hid hL
  clear ht h hL
  obtain ⟨F, hF⟩ : ∃ F, F = L.flatten := ⟨_, rfl⟩
  rw [← hF] at hsum ⊢
  have HF := Lib.hid hF
  clear hF
  go_enter Tryd.func21, Tryd.ntmps21
  go_wp2_with fail
  have hcc := concat_at a cap L (w.alloc (.cells #[.int .u8 0, .int .u8 0, .int .u8 0, .int .u8 0, .int .u8 0, .int .u8 0, .int .u8 0, .int .u8 0, .int .u8 0, .int .u8 0, .int .u8 0, .int .u8 0, .int .u8 0, .int .u8 0, .int .u8 0, .int .u8 0] 38)) (Nat.le_trans HL.out (by omega)) (by rw [← HF.out]; omega) (HP.out.next ((Below.refl _ _).alloc (Nat.le_refl _) _))
  rw [← HF.out] at hcc
  refine hcc.mono ?_
  rintro e w1 ⟨v1, rfl, o1, b1⟩
  clear hcc
  obtain ⟨a1, c1, rfl⟩ := own_slice o1
  have O1 := Lib.hid o1
  have B1 := Lib.hid b1
  have i1 : (F.length : Int) ≤ 90000 := by omega
  clear o1 b1
  go_wp2_with fail
  refine (ending_any F.length _ (by omega)).mono ?_
  rintro e w2 ⟨v2, rfl, o2, b2⟩
  have hpad := Md.pad_eq F.length
  have o1 := ownsRow_next O1.out b2
  have hB2 : (w.alloc (.cells #[.int .u8 0, .int .u8 0, .int .u8 0, .int .u8 0, .int .u8 0, .int .u8 0, .int .u8 0, .int .u8 0, .int .u8 0, .int .u8 0, .int .u8 0, .int .u8 0, .int .u8 0, .int .u8 0, .int .u8 0, .int .u8 0] 38)).heap.size ≤ w2.heap.size := Nat.le_trans B1.out.size b2.size
  go_wp2_with (at_builtin; refine wpList_append_owns rfl _ _ 22 rfl _ _ 5 i0 (.int .u8 0) 1 1 Tryd.underlying22 hi hz0 hz1 hz2 rfl (by decide) _ _ _ rfl o1 _ _ _ rfl o2 (cells_one _) (by unfold maxLen; omega) (by omega) hB2 ?_; intro v3 w3 o3 g3)
  have hB13 := Below.grown (B1.out.trans (b2.mono B1.out.size)) g3 hB2 (fun j hj => (o1.lt j hj).1)
  rw [← Lib.byteCells_append, show F ++ Md.ending F.length = Md.text F from rfl] at o3
  have hlen : (Md.text F).length = F.length + (Md.pad F.length + 9) := Md.text_length F
  obtain ⟨a3, c3, rfl, r3⟩ := rowAt_own hlen o3
  have hblk := Md.text_blocks F
  have hpos := Md.text_pos F
  have hM : (Md.text F).length / 64 ≤ 1500 := by omega
  obtain ⟨M, hMe⟩ : ∃ M, M = (Md.text F).length / 64 := ⟨_, rfl⟩
  rw [← hMe] at hblk hM
  obtain ⟨X, hX⟩ : ∃ X, X = Md.text F := ⟨_, rfl⟩
  rw [← hX] at hblk hMe r3 hlen hpos
  have hsumE : Md.sum F = Md.digest (Md.runs X M Md.init) := by rw [hMe, hX]; rfl
  obtain ⟨N, hN⟩ : ∃ N, N = F.length + (Md.pad F.length + 9) := ⟨_, rfl⟩
  rw [← hN] at hlen ⊢
  have hNM : N = 64 * M := by omega
  have hB03 : Below w.heap.size w w3 := below_alloc hB13
  have hz3 : w3.heap[w.heap.size]? = some (.cells z24 38 (0, 0)) := by
    rw [hB13.block _ (by simp)]; exact heap_alloc_new _ _
  have h0 : SumAt w w3.heap.size Md.init a3 c3 X (w3.alloc (.cells #[.int .u32 1732584193, .int .u32 4023233417, .int .u32 2562383102, .int .u32 271733878] 56)) :=
    ⟨heap_alloc_new _ _, by rw [heap_alloc_old _ _ (by have := hB13.size; simp at this; omega)]; exact hz3, r3.next ((Below.refl _ _).alloc (Nat.le_refl _) _), (HT.out.next hB03).next ((Below.refl _ _).alloc (Nat.le_refl _) _), hB03.alloc hB03.size _, by have := hB13.size; simp at this; omega, HT.out.size, fun ad e => by
      rcases r3.bytes with h9 | ⟨b9, o9, e9, l9, _⟩
      · rw [h9] at hpos; simp at hpos
      · rw [e9] at e; cases e; exact Nat.ne_of_lt l9⟩
  have HE := Lib.hid hsumE
  have HXl := Lib.hid hlen
  have H0 := Lib.hid h0
  clear hpos hsumE hX hMe hblk h0 hz3 hB03 hB13 o3 r3 hN g3 o1 o2 b2 hB2 hpad hlen O1 B1
  generalize w3.alloc (.cells #[.int .u32 1732584193, .int .u32 4023233417, .int .u32 2562383102, .int .u32 271733878] 56) = w4 at H0 ⊢
  generalize w3.heap.size = g at H0 ⊢
  go_loopw [5] (fun i wr => ∃ k : Nat, k ≤ M ∧ i = .int .i64 ((64 * k : Nat) : Int) ∧ SumAt w g (Md.runs X k Md.init) a3 c3 X wr) (fun i _ => 64 * M - (intOf i).toNat)
  case atStart => exact ⟨0, by omega, rfl, H0.out⟩
  case round =>
    obtain ⟨k, hk, rfl, hat⟩ := hrel
    clear H0
    by_cases hlt : k < M
    · obtain ⟨l, hl⟩ : ∃ l, l = 64 * k := ⟨_, rfl⟩
      rw [← hl]
      have hle := hat.tx.le
      rw [HXl.out] at hle
      have j1 : (l : Int) < (N : Int) := by omega
      have j2 : (l : Int) + 64 ≤ (N : Int) := by omega
      have j3 : (N : Int) ≤ (c3 : Int) := by omega
      have j4 : (N : Int) ≤ 100000 := by omega
      have j5 : ¬ c3 = l := by omega
      obtain ⟨u, hu⟩ : ∃ u, u = l + 64 := ⟨_, rfl⟩
      have hwu : IntKind.i64.wrap ((l : Int) + 64) = (u : Int) := by rw [IntKind.wrap_i64]; omega
      have k2 : (u : Int) ≤ (c3 : Int) := by omega
      have k3 : l ≤ u := by omega
      have k4 : u - l = 64 := by omega
      have hcut := hat.tx.cut l (l + 64) (by omega) (by rw [HXl.out]; omega)
      rw [if_neg j5] at hcut
      have hbe : (X.take (l + 64)).drop l = (X.drop (64 * k)).take 64 := by rw [hl]; exact Md.block_eq X k
      have hbl : ((X.drop (64 * k)).take 64).length = 64 := by simp; rw [HXl.out]; omega
      rw [hbe] at hcut
      have hrn : Md.runs X (k + 1) Md.init = Md.pass (Md.runs X k Md.init) (Md.words ((X.drop (64 * k)).take 64)) := rfl
      have hfn := Md.runs_fine X k Md.init ⟨by decide, by decide, by decide, by decide⟩
      obtain ⟨s, hs⟩ : ∃ s, s = Md.runs X k Md.init := ⟨_, rfl⟩
      rw [← hs] at hat hrn hfn
      obtain ⟨Y, hY⟩ : ∃ Y, Y = (X.drop (64 * k)).take 64 := ⟨_, rfl⟩
      rw [← hY] at hcut hbl hrn
      obtain ⟨D, hD⟩ : ∃ D, D = Md.words Y := ⟨_, rfl⟩
      obtain ⟨s', hs'⟩ : ∃ s', s' = Md.pass s D := ⟨_, rfl⟩
      have Hpass : Hid (∀ W, Tabs W → Calls Tryd.prog 27 #[.agg (Md.uc s.list).toArray, .agg (Md.uc D).toArray] W fun e w' => e = .returned (.agg (Md.uc s'.list).toArray) ∧ Below W.heap.size W w') := fun W tb => by
        rw [hs', hD]; exact pass_any s (Md.words Y) W hfn (Md.words_length Y) (Md.words_lt Y) tb
      have Hwords : Hid (Calls Tryd.prog 28 #[.slice (a3.map (·.add l)) 64 (c3 - l)] wr.drew fun e w' => e = .returned (.agg (Md.uc D).toArray) ∧ Below wr.drew.heap.size wr.drew w') := by
        rw [hD]; exact words_at _ _ Y _ hbl (hcut.next (Below.refl _ _).drew)
      rw [← hD, ← hs'] at hrn
      have Hat := Lib.hid hat.drew
      have Hrn := Lib.hid hrn
      have Hl := Lib.hid hl
      have HNM := Lib.hid hNM
      clear hs' hD hat hcut hbl hrn hfn hs hY hbe hl hle hNM hu
      go_wp2
      refine held_start (S := fun _ => True) 9 (by kernel_rfl) rfl ?_
      refine held_take 1 (v := ?_) rfl (by kernel_rfl) (by kernel_rfl) (by kernel_rfl) (fun _ _ _ h => h) trivial (by rfl) ?_ ?_
      rotate_left
      · (intro W hW; go_simp; try with_reducible rfl)
      simp only [Act.put, List.setIfInBounds_toArray, List.set_cons_zero, List.set_cons_succ]
      refine held_take 2 (v := ?_) rfl (by kernel_rfl) (by kernel_rfl) (by kernel_rfl) (fun _ _ _ h => h) trivial (by rfl) ?_ ?_
      rotate_left
      · (intro W hW; go_simp; try with_reducible rfl)
      simp only [Act.put, List.setIfInBounds_toArray, List.set_cons_zero, List.set_cons_succ]
      refine held_take 3 (v := ?_) rfl (by kernel_rfl) (by kernel_rfl) (by kernel_rfl) (fun _ _ _ h => h) trivial (by rfl) ?_ ?_
      rotate_left
      · (intro W hW; go_simp; try with_reducible rfl)
      simp only [Act.put, List.setIfInBounds_toArray, List.set_cons_zero, List.set_cons_succ]
      refine held_take 4 (v := ?_) rfl (by kernel_rfl) (by kernel_rfl) (by kernel_rfl) (fun _ _ _ h => h) trivial (by rfl) ?_ ?_
      rotate_left
      · (intro W hW; go_simp; try with_reducible rfl)
      simp only [Act.put, List.setIfInBounds_toArray, List.set_cons_zero, List.set_cons_succ]
      refine held_take 5 (v := .slice (a3.map (·.add l)) 64 (c3 - l)) rfl (by kernel_rfl) (by kernel_rfl) (by kernel_rfl) (fun _ _ _ h => h) trivial (by rfl) ?_ ?_
      · (intro W hW; go_simp; try (simp [k2, k3, k4]))
      simp only [Act.put, List.setIfInBounds_toArray, List.set_cons_zero, List.set_cons_succ]
      refine held_two 0 6 (f := 28) (args := #[.slice (a3.map (·.add l)) 64 (c3 - l)]) rfl rfl (by kernel_rfl) (by rfl) (by rfl) (run_load_row 56 _ rfl g rfl 56 _ _ _ Hat.out.st Tryd.underlying56 rfl (uc_size _)) (by go_simp) trivial ?_ ?_
      · simp only [Act.put, List.setIfInBounds_toArray, List.set_cons_zero, List.set_cons_succ]
        refine held_call 6 (f := 28) (args := #[.slice (a3.map (·.add l)) 64 (c3 - l)]) rfl (by kernel_rfl) (by rfl) (by go_simp) ?_
        refine Hwords.out.mono ?_
        rintro e w5 ⟨rfl, b5⟩
        refine ⟨_, rfl, trivial, ?_⟩
        simp only [Act.put, List.setIfInBounds_toArray, List.set_cons_zero, List.set_cons_succ]
        have Hat5 := Lib.hid (Hat.out.next b5)
        refine held_call 7 (f := 27) (args := #[.agg (Md.uc s.list).toArray, .agg (Md.uc D).toArray]) rfl (by kernel_rfl) (by rfl) (by go_simp) ?_
        refine (Hpass.out _ Hat5.out.tb).mono ?_
        rintro e w6 ⟨rfl, b6⟩
        refine ⟨_, rfl, trivial, ?_⟩
        simp only [Act.put, List.setIfInBounds_toArray, List.set_cons_zero, List.set_cons_succ]
        have Hat6 := Lib.hid (Hat5.out.next b6)
        refine held_alone 8 rfl (by kernel_rfl) (by rfl) (run_store_row 56 _ _ rfl g (Md.uc s'.list).toArray rfl rfl 56 _ Hat6.out.st (uc_size _) (uc_size2 _ _) (Md.uc_one _)) trivial ?_
        simp only [Act.put]
        refine held_done (by kernel_rfl) ?_
        have Hat7 := Lib.hid (Hat6.out.store s')
        go_wp2
        go_roundw
        case rel => exact ⟨k + 1, by omega, by have := Hl.out; congr 1; omega, by rw [Hrn.out]; exact Hat7.out⟩
        case measure => have := Hl.out; have := HNM.out; simp [intOf]; omega
      · refine Hwords.out.mono ?_
        rintro e w5 ⟨rfl, b5⟩
        refine ⟨_, rfl, trivial, ?_⟩
        simp only [Act.put, List.setIfInBounds_toArray, List.set_cons_zero, List.set_cons_succ]
        have Hat5 := Lib.hid (Hat.out.next b5)
        refine held_makes 0 rfl (by kernel_rfl) (by rfl) (run_load_row 56 _ rfl g rfl 56 _ _ _ Hat5.out.st Tryd.underlying56 rfl (uc_size _)) trivial ?_
        simp only [Act.put, List.setIfInBounds_toArray, List.set_cons_zero, List.set_cons_succ]
        refine held_call 7 (f := 27) (args := #[.agg (Md.uc s.list).toArray, .agg (Md.uc D).toArray]) rfl (by kernel_rfl) (by rfl) (by go_simp) ?_
        refine (Hpass.out _ Hat5.out.tb).mono ?_
        rintro e w6 ⟨rfl, b6⟩
        refine ⟨_, rfl, trivial, ?_⟩
        simp only [Act.put, List.setIfInBounds_toArray, List.set_cons_zero, List.set_cons_succ]
        have Hat6 := Lib.hid (Hat5.out.next b6)
        refine held_alone 8 rfl (by kernel_rfl) (by rfl) (run_store_row 56 _ _ rfl g (Md.uc s'.list).toArray rfl rfl 56 _ Hat6.out.st (uc_size _) (uc_size2 _ _) (Md.uc_one _)) trivial ?_
        simp only [Act.put]
        refine held_done (by kernel_rfl) ?_
        have Hat7 := Lib.hid (Hat6.out.store s')
        go_wp2
        go_roundw
        case rel => exact ⟨k + 1, by omega, by have := Hl.out; congr 1; omega, by rw [Hrn.out]; exact Hat7.out⟩
        case measure => have := Hl.out; have := HNM.out; simp [intOf]; omega
    · have hkM : k = M := by omega
      have hfn := Md.runs_fine X k Md.init ⟨by decide, by decide, by decide, by decide⟩
      subst hkM
      have hge : ¬ ((64 * k : Nat) : Int) < (N : Int) := by omega
      obtain ⟨s, hs⟩ : ∃ s, s = Md.runs X k Md.init := ⟨_, rfl⟩
      obtain ⟨l, hl⟩ : ∃ l, l = 64 * k := ⟨_, rfl⟩
      have hE := HE.out
      rw [← hs] at hat hfn hE
      rw [← hl] at hge ⊢
      obtain ⟨D, hD⟩ : ∃ D, D = (Lib.byteCells (Md.digest s)).toArray := ⟨_, rfl⟩
      have Hdig : Hid (Calls Tryd.prog 29 #[.agg (Md.uc s.list).toArray] wr fun e w' => e = .returned (.agg D) ∧ Below wr.heap.size wr w') := by rw [hD]; exact digest_any s wr hfn
      have hsz : (Tryd.prog.info? 38).map (·.size) = some D.size := by rw [hD, info24, List.size_toArray, Lib.byteCells_length, Md.digest_length]
      have hD1 : D.all (·.oneCell') = true := by rw [hD]; exact bc_one _
      have hDs : z24.size = D.size := by
        have h : D.size = 16 := by rw [hD, List.size_toArray, Lib.byteCells_length, Md.digest_length]
        rw [h]; rfl
      rw [← hE] at hD
      have HD := Lib.hid hD
      have Hsz := Lib.hid hsz
      have HD1 := Lib.hid hD1
      have HDs := Lib.hid hDs
      have Hat := Lib.hid hat
      clear hD hsz hD1 hDs hat hE hs hl hfn hlt HE hNM hM HXl
      go_wp2_with (refine wpList_load_row rfl 56 _ rfl g rfl 56 _ _ _ Hat.out.st Tryd.underlying56 rfl (uc_size _) ?_)
      refine Hdig.out.mono ?_
      rintro e w5 ⟨rfl, b5⟩
      have Hat5 := Lib.hid (Hat.out.next b5)
      go_wp2_with (refine wpList_store_row rfl 38 _ _ rfl w.heap.size D rfl rfl 38 _ Hat5.out.rs Hsz.out HDs.out HD1.out ?_)
      refine bodyPost_ret (v := .agg D) ?_ rfl ⟨by rw [HD.out], ?_⟩
      · exact results_cell_row Tryd.results21 _ _ w.heap.size 38 _ _ _ rfl (setRow_heap _ _ _ _ _ _ Hat5.out.rs) Tryd.underlying38 rfl Hsz.out
      · exact below_setRow Hat5.out.bl (Nat.le_refl _) _
end Go.Proofs.YtjalhlofpoknoaaDoor.S3
