/- StuffJoin: the walk. -/
import Derived.Test.YtecdnolchpfbmaaWh
import Derived.Test.YtecdnolchpfbmaaHeld
namespace Go.Proofs.Ytecdnolchpfbmaa
open Go.RowKit

theorem conv_as {w : World} {a : Option Addr} {c n : Nat} {xs : List UInt8} {S : ByteArray} (hS : S = ⟨xs.toArray⟩) (hn : xs.length = n) (h : RowAt w a c xs) : (convert 22 9 (.slice a n c)).run Try.prog w = .ok (.string S) w := by
  rw [hS]; exact conv_row hn h

theorem owns_empty (w : World) : (w.alloc (.cells #[] 5)).ownsRow w.heap.size 5 1 (.slice (some ⟨w.heap.size, 0, none⟩) 0 0) 0 [] := World.ownsRow_made w #[] 0 (Nat.le_refl _) (Nat.zero_le _) rfl

set_option maxRecDepth 10000 in
set_option maxHeartbeats 1000000 in
theorem join_long (m : Nat) (a b : Option Addr) (ca cb na nb : Nat) (w : World) (hg : (1000 : Int) < (na : Int) ∨ ¬ (1000 : Int) < (na : Int) ∧ (1000 : Int) < (nb : Int)) :
    Calls Try.prog 5 #[.slice a na ca, .slice b nb cb, .int .u32 (m : Int)] w fun e w' => e = .returned (.bool true) ∧ Below w.heap.size w w' := by
  rcases hg with hg | ⟨hg, hg2⟩ <;>
  · go_enter Try.func5, Try.ntmps5
    go_wp2_with fail
    refine (awake_any _).mono ?_
    rintro e w1 ⟨rfl, b1⟩
    go_wp2_with fail
    refine (awake_any _).mono ?_
    rintro e w2 ⟨rfl, b2⟩
    go_wp2
    go_ret
    exact ⟨rfl, Below.chain b1 b2⟩

set_option maxRecDepth 100000 in
set_option maxHeartbeats 4000000 in
theorem join_short (m : Nat) (a b : Option Addr) (ca cb : Nat) (xa xb : List UInt8) (na nb : Nat) (w : World) (hm : m < 4294967296) (ha : xa.length = na) (hb : xb.length = nb) (ra : RowAt w a ca xa) (rb : RowAt w b cb xb) (hga : ¬ (1000 : Int) < (na : Int)) (hgb : ¬ (1000 : Int) < (nb : Int)) :
    Calls Try.prog 5 #[.slice a na ca, .slice b nb cb, .int .u32 (m : Int)] w fun e w' => e = .returned (.bool true) ∧ Below w.heap.size w w' := by
  obtain ⟨za, hza⟩ : ∃ z, (St.stuff m xa).length = z := ⟨_, rfl⟩
  obtain ⟨zb, hzb⟩ : ∃ z, (St.stuff m xb).length = z := ⟨_, rfl⟩
  have hla := St.stuff_le m xa
  have hlb := St.stuff_le m xb
  rw [hza, ha] at hla
  rw [hzb, hb] at hlb
  have hzz : (St.stuff m (xa ++ xb)).length = za + zb := by rw [St.stuff_append, List.length_append, hza, hzb]
  have hnn : (xa ++ xb).length = na + nb := by rw [List.length_append, ha, hb]
  have c9a := fun (W : World) (h : RowAt W a ca xa) => stuff_row ca m na za a xa W ha hm (by omega) h hza
  have c9b := fun (W : World) (h : RowAt W b cb xb) => stuff_row cb m nb zb b xb W hb hm (by omega) h hzb
  have c9c := fun (W : World) (p : Option Addr) (c : Nat) (h : RowAt W p c (xa ++ xb)) => stuff_row c m (na + nb) (za + zb) p (xa ++ xb) W hnn hm (by omega) h hzz
  have c10a := fun (W : World) (h : RowAt W a ca xa) => size_any ca m na a xa W ha hm (by omega) h
  have c10b := fun (W : World) (h : RowAt W b cb xb) => size_any cb m nb b xb W hb hm (by omega) h
  have c10c := fun (W : World) (p : Option Addr) (c : Nat) (h : RowAt W p c (xa ++ xb)) => size_any c m (na + nb) p (xa ++ xb) W hnn hm (by omega) h
  rw [hza] at c10a
  rw [hzb] at c10b
  rw [hzz] at c10c
  rw [St.stuff_append] at c9c hzz
  generalize St.stuff m xa = Za at c9a c9c hza hzz
  generalize St.stuff m xb = Zb at c9b c9c hzb hzz
  obtain ⟨Sa, hSa⟩ : ∃ S : ByteArray, S = ⟨Za.toArray⟩ := ⟨_, rfl⟩
  obtain ⟨Sb, hSb⟩ : ∃ S : ByteArray, S = ⟨Zb.toArray⟩ := ⟨_, rfl⟩
  have hSc : Sa ++ Sb = ⟨(Za ++ Zb).toArray⟩ := by rw [hSa, hSb]; apply ByteArray.ext; simp
  have sza : Sa.size = za := by rw [hSa]; show Za.toArray.size = za; simpa using hza
  have szb : Sb.size = zb := by rw [hSb]; show Zb.toArray.size = zb; simpa using hzb
  have Hza := Lib.hid hza
  have Hzb := Lib.hid hzb
  have Hzz := Lib.hid hzz
  have Hna := Lib.hid ha
  have Hnb := Lib.hid hb
  have Hnn := Lib.hid hnn
  have HSa := Lib.hid hSa
  have HSb := Lib.hid hSb
  have HSc := Lib.hid hSc
  have C9a := Lib.hid c9a
  have C9b := Lib.hid c9b
  have C9c := Lib.hid c9c
  have C10a := Lib.hid c10a
  have C10b := Lib.hid c10b
  have C10c := Lib.hid c10c
  have Ra := Lib.hid ra
  have Rb := Lib.hid rb
  clear hza hzb hzz ha hb hnn hSa hSb hSc c9a c9b c9c c10a c10b c10c ra rb
  go_enter Try.func5, Try.ntmps5
  go_wp2_with fail
  refine (awake_any _).mono ?_
  rintro e w1 ⟨rfl, b1⟩
  have hS : RowAt w1.drew a ca xa ∧ RowAt w1.drew b cb xb := ⟨(Ra.out.next b1).drawn, (Rb.out.next b1).drawn⟩
  replace b1 := Below.chain b1 (Below.refl _ _).drew
  go_wp2_with fail
  refine held_start (S := fun W => RowAt W a ca xa ∧ RowAt W b cb xb) 10 (by kernel_rfl) rfl ?_
  generalize w1.drew = w2 at hS b1 ⊢
  refine held_take 0 (v := ?_) rfl (by kernel_rfl) (by kernel_rfl) (by kernel_rfl) (fun _ _ _ h => h) (by assumption) (by rfl) ?_ ?_
  rotate_left
  · (intro W hW; go_simp; try with_reducible rfl)
  simp only [Act.put, List.setIfInBounds_toArray, List.set_cons_zero, List.set_cons_succ]
  refine held_take 1 (v := ?_) rfl (by kernel_rfl) (by kernel_rfl) (by kernel_rfl) (fun _ _ _ h => h) (by assumption) (by rfl) ?_ ?_
  rotate_left
  · (intro W hW; go_simp; try with_reducible rfl)
  simp only [Act.put, List.setIfInBounds_toArray, List.set_cons_zero, List.set_cons_succ]
  refine held_take 4 (v := ?_) rfl (by kernel_rfl) (by kernel_rfl) (by kernel_rfl) (fun _ _ _ h => h) (by assumption) (by rfl) ?_ ?_
  rotate_left
  · (intro W hW; go_simp; try with_reducible rfl)
  simp only [Act.put, List.setIfInBounds_toArray, List.set_cons_zero, List.set_cons_succ]
  refine held_take 5 (v := ?_) rfl (by kernel_rfl) (by kernel_rfl) (by kernel_rfl) (fun _ _ _ h => h) (by assumption) (by rfl) ?_ ?_
  rotate_left
  · (intro W hW; go_simp; try with_reducible rfl)
  simp only [Act.put, List.setIfInBounds_toArray, List.set_cons_zero, List.set_cons_succ]
  refine held_call 2 (f := 9) (args := #[.slice a na ca, .int .u32 (m : Int)]) rfl (by kernel_rfl) (by rfl) (by go_simp) ?_
  refine (C9a.out _ hS.1).mono ?_
  rintro e w3 ⟨p3, c3, rfl, r3, bb⟩
  replace hS : RowAt w3 a ca xa ∧ RowAt w3 b cb xb := ⟨hS.1.next bb, hS.2.next bb⟩
  refine ⟨_, rfl, hS, ?_⟩
  simp only [Act.put, List.setIfInBounds_toArray, List.set_cons_zero, List.set_cons_succ]
  refine held_more (S' := fun W => RowAt W p3 c3 Za ∧ RowAt W a ca xa ∧ RowAt W b cb xb) (fun _ h => h.2) _ _ _ _ ?_
  have hS2 : RowAt w3 p3 c3 Za ∧ RowAt w3 a ca xa ∧ RowAt w3 b cb xb := ⟨r3, hS⟩
  replace b1 := Below.chain b1 bb
  clear r3 hS bb
  refine held_take 3 (v := ?_) rfl (by kernel_rfl) (by kernel_rfl) (by kernel_rfl) (fun _ _ _ h => h) (by assumption) (by rfl) ?_ ?_
  rotate_left
  · (intro W hW; have cv := conv_as HSa.out Hza.out hW.1; go_simp; try with_reducible rfl)
  simp only [Act.put, List.setIfInBounds_toArray, List.set_cons_zero, List.set_cons_succ]
  refine held_call 6 (f := 9) (args := #[.slice b nb cb, .int .u32 (m : Int)]) rfl (by kernel_rfl) (by rfl) (by go_simp) ?_
  refine (C9b.out _ hS2.2.2).mono ?_
  rintro e w4 ⟨p4, c4, rfl, r4, bb⟩
  replace hS2 : RowAt w4 p3 c3 Za ∧ RowAt w4 a ca xa ∧ RowAt w4 b cb xb := ⟨hS2.1.next bb, hS2.2.1.next bb, hS2.2.2.next bb⟩
  refine ⟨_, rfl, hS2, ?_⟩
  simp only [Act.put, List.setIfInBounds_toArray, List.set_cons_zero, List.set_cons_succ]
  refine held_more (S' := fun W => RowAt W p4 c4 Zb ∧ RowAt W p3 c3 Za ∧ RowAt W a ca xa ∧ RowAt W b cb xb) (fun _ h => h.2) _ _ _ _ ?_
  have hS3 : RowAt w4 p4 c4 Zb ∧ RowAt w4 p3 c3 Za ∧ RowAt w4 a ca xa ∧ RowAt w4 b cb xb := ⟨r4, hS2⟩
  replace b1 := Below.chain b1 bb
  clear r4 hS2 bb
  refine held_take 7 (v := ?_) rfl (by kernel_rfl) (by kernel_rfl) (by kernel_rfl) (fun _ _ _ h => h) (by assumption) (by rfl) ?_ ?_
  rotate_left
  · (intro W hW; have cv := conv_as HSb.out Hzb.out hW.1; go_simp; try with_reducible rfl)
  simp only [Act.put, List.setIfInBounds_toArray, List.set_cons_zero, List.set_cons_succ]
  refine held_take 8 (v := ?_) rfl (by kernel_rfl) (by kernel_rfl) (by kernel_rfl) (fun _ _ _ h => h) (by assumption) (by rfl) ?_ ?_
  rotate_left
  · (intro W hW; have hadd := run_string_add_sum (P := Try.prog) (w := W) Sa Sb (by omega); go_simp; try with_reducible rfl)
  simp only [Act.put, List.setIfInBounds_toArray, List.set_cons_zero, List.set_cons_succ]
  refine held_take 9 (v := ?_) rfl (by kernel_rfl) (by kernel_rfl) (by kernel_rfl) (fun _ _ _ h => h) (by assumption) (by rfl) ?_ ?_
  rotate_left
  · (intro W hW; go_simp; try with_reducible rfl)
  simp only [Act.put, List.setIfInBounds_toArray, List.set_cons_zero, List.set_cons_succ]
  refine held_done (by kernel_rfl) ?_
  have h4a := Lib.hid hS3.2.2.1
  have h4b := Lib.hid hS3.2.2.2
  clear hS3
  have hrb : ∀ (W : World), Below w4.heap.size w4 W → RowAt W b cb xb := fun W h => h4b.out.next h
  have Hrb := Lib.hid hrb
  clear hrb
  go_wp2_with (first
    | (at_builtin; refine wpList_append_row rfl (.tmp 31) (.tmp 32) rfl w4.heap.size _ 0 [] rfl (owns_empty w4) a na ca xa rfl Hna.out (h4a.out.next ((Below.refl _ _).alloc (Nat.le_refl _) _)) (by omega) (by simp) ?_; intro v5 w5 o5 g5; rw [Nat.zero_add, List.nil_append] at o5; have b5 : Below w4.heap.size w4 w5 := Below.grown ((Below.refl _ _).alloc (Nat.le_refl _) _) g5 (by simp) (fun j hj => ((owns_empty w4).lt j hj).1); clear g5)
    | (at_builtin; refine wpList_append_row rfl (.tmp 33) (.tmp 34) rfl w4.heap.size _ na (Lib.byteCells xa) rfl o5 b nb cb xb rfl Hnb.out (Hrb.out _ b5) (by omega) b5.size ?_; intro v6 w6 o6 g6))
  have b6 : Below w4.heap.size w4 w6 := Below.grown b5 g6 b5.size (fun j hj => (o5.lt j hj).1)
  rw [← Lib.byteCells_append] at o6
  obtain ⟨a6, c6, rfl, r6⟩ := rowAt_own Hnn.out o6
  have R6 := Lib.hid r6
  have R6a := Lib.hid (h4a.out.next b6)
  have R6b := Lib.hid (h4b.out.next b6)
  replace b1 := Below.chain b1 b6
  clear o6 g6 o5 b5 b6 r6 h4a h4b Hrb
  go_wp2_with fail
  refine (C9c.out _ _ _ R6.out).mono ?_
  rintro e w7 ⟨a7, c7, rfl, r7, b7⟩
  have cv : (convert 22 9 (.slice a7 (za + zb) c7)).run Try.prog w7 = .ok (.string (Sa ++ Sb)) w7 := conv_as HSc.out Hzz.out r7
  have R7 := Lib.hid (R6.out.next b7)
  have R7a := Lib.hid (R6a.out.next b7)
  have R7b := Lib.hid (R6b.out.next b7)
  replace b1 := Below.chain b1 b7
  clear r7 b7 R6 R6a R6b
  go_wp2_with fail
  refine (C10c.out _ _ _ R7.out).mono ?_
  rintro e w8 ⟨rfl, b8⟩
  have R8a := Lib.hid (R7a.out.next b8)
  have R8b := Lib.hid (R7b.out.next b8)
  replace b1 := Below.chain b1 b8
  clear b8 R7 R7a R7b cv
  go_wp2_with fail
  refine (C10a.out _ R8a.out).mono ?_
  rintro e w9 ⟨rfl, b9⟩
  have R9b := Lib.hid (R8b.out.next b9)
  replace b1 := Below.chain b1 b9
  clear b9 R8a R8b
  go_wp2_with fail
  refine (C10b.out _ R9b.out).mono ?_
  rintro e w10 ⟨rfl, b10⟩
  replace b1 := Below.chain b1 b10
  clear b10 R9b
  have i1 : (na : Int) + (nb : Int) ≤ (za : Int) + (zb : Int) := by omega
  have i2 : (za : Int) + (zb : Int) ≤ 2 * ((na : Int) + (nb : Int)) := by omega
  have i3 : (na : Int) + (nb : Int) ≤ 2000 := by omega
  go_wp2
  go_ret
  exact ⟨rfl, b1⟩

theorem join_walk (m : Nat) (a b : Option Addr) (ca cb : Nat) (xa xb : List UInt8) (w : World) (hm : m < 4294967296) (ra : RowAt w a ca xa) (rb : RowAt w b cb xb) :
    Calls Try.prog 5 #[.slice a xa.length ca, .slice b xb.length cb, .int .u32 (m : Int)] w fun e w' => e = .returned (.bool true) ∧ Below w.heap.size w w' := by
  by_cases hg : (1000 : Int) < (xa.length : Int)
  · exact join_long m a b ca cb _ _ w (.inl hg)
  · by_cases hg2 : (1000 : Int) < (xb.length : Int)
    · exact join_long m a b ca cb _ _ w (.inr ⟨hg, hg2⟩)
    · exact join_short m a b ca cb xa xb _ _ w hm rfl rfl ra rb hg hg2
end Go.Proofs.Ytecdnolchpfbmaa
