/- Contract of Spliced. -/
import Derived.Test.YthmljgpnkealaaaFj
import Derived.Test.YthmljgpnkealaaaKb
import Derived.Test.YthmljgpnkealaaaSpoiltPlain
namespace Go.Proofs.Ythmljgpnkealaaa
open Go.RowKit

set_option maxRecDepth 10000 in
set_option maxHeartbeats 2000000 in
theorem refSpliced_any (m : Nat) (wide : Bool) (a a2 : Option Addr) (n cap cap2 : Nat) (body other : List UInt8) (w : World) (q : Nat) (hn : body.length = n) (hn2 : other.length = n) (hm : m < 4294967296) (hl : n ≤ 65535) (h : RowAt w a cap body) (h2 : RowAt w a2 cap2 other) (hq : (Fr.spl m wide body other).length = q) :
    Calls Try.prog 26 #[.slice a n cap, .slice a2 n cap2, .int .u32 (m : Int), .bool wide] w fun e w' => ∃ p c, e = .returned (.slice p q c) ∧ RowAt w' p c (Fr.spl m wide body other) ∧ Below w.heap.size w w' := by
  obtain ⟨i0, hi, hz0, hz1, hz2⟩ := info_parts info5
  have hs2 := Fr.size_two wide
  have hsl := Fc.sealed_length other wide
  have hse := refSeal_any a2 n cap2 other wide w hn2 (by omega) h2
  have hdr : (Fc.sealed other wide).drop n = Fc.seq other wide := by unfold Fc.sealed; rw [← hn2]; exact List.drop_left
  have hsq := Fc.seq_length other wide
  have hst := fun (W : World) (p : Option Addr) (c : Nat) (h : RowAt W p c (body ++ Fc.seq other wide)) => refStuff_row c m (n + Fc.size wide) (St.stuff m (body ++ Fc.seq other wide)).length p (body ++ Fc.seq other wide) W (by rw [List.length_append, hn, hsq]) hm (by omega) h rfl
  have hstl := (St.stuff_le m (body ++ Fc.seq other wide)).2
  rw [List.length_append, hn, hsq] at hstl
  rw [hn2] at hsl
  unfold Fr.spl at hq ⊢
  generalize Fc.seq other wide = S at hdr hsq hst hstl hq ⊢
  generalize Fc.sealed other wide = Y at hse hdr hsl
  obtain ⟨y, hy⟩ : ∃ y, Y.length = y := ⟨_, rfl⟩
  rw [hy] at hse hsl
  obtain ⟨z, hz⟩ : ∃ z, (St.stuff m (body ++ S)).length = z := ⟨_, rfl⟩
  rw [hz] at hst hstl
  have hqz : q = z + 2 := by rw [← hq, List.length_cons, List.length_append, hz]; rfl
  generalize St.stuff m (body ++ S) = Z at hst hz hq ⊢
  generalize Fc.size wide = s at hs2 hsl hsq hst hstl
  obtain ⟨ns, hns⟩ : ∃ ns, n + s = ns := ⟨_, rfl⟩
  rw [hns] at hst hsl hstl
  subst hsl
  have Hqz := Lib.hid hqz
  have Hns := Lib.hid hns
  have Hse := Lib.hid hse
  have Hst := Lib.hid hst
  have Hdr := Lib.hid hdr
  have Hsq := Lib.hid hsq
  have Hy := Lib.hid hy
  have Hz := Lib.hid hz
  have Hn := Lib.hid hn
  have H := Lib.hid h
  clear hse hst hdr hsq hy hz hn hn2 h h2 hq hqz
  go_enter Try.func26, Try.ntmps26
  go_wp2_with fail
  refine Hse.out.mono ?_
  rintro e w1 ⟨v1, rfl, o1, b1⟩
  obtain ⟨g1, c1, rfl, _, hg1, hc1, r1⟩ := own_some o1 (by omega) Hy.out
  have hcut := r1.cut3 n (by omega) (by rw [Hy.out]; omega)
  rw [Hdr.out] at hcut
  have R1 := Lib.hid hcut
  have B1 := Lib.hid b1
  have H1 := Lib.hid (H.out.next b1)
  have ic1 : ¬ c1 = n := by omega
  have ic2 : (n : Int) ≤ (y : Int) := by omega
  have ic3 : (y : Int) ≤ (c1 : Int) := by omega
  have iy : y - n = s := by omega
  have hys : y ≤ 70000 := by omega
  clear o1 b1 r1 hcut Hse Hdr hns
  go_wp2_with (first
    | (at_builtin; refine wpList_append_row rfl (.tmp 15) (.tmp 16) rfl w1.heap.size _ 0 [] rfl (World.ownsRow_nil _ _ _ _) a n cap body rfl Hn.out H1.out (by omega) (Nat.le_refl _) ?_; intro v3 w3 o3 g3; rw [Nat.zero_add, List.nil_append] at o3; have b3 := Lib.hid ((Below.refl w1.heap.size w1).grown g3 (Nat.le_refl _) (fun k e => by cases e)); have O3 := Lib.hid o3; clear o3 g3)
    | (at_builtin; refine wpList_append_row rfl (.tmp 18) (.tmp 22) rfl w1.heap.size v3 n (Lib.byteCells body) rfl O3.out (some ⟨g1, n, none⟩) s (c1 - n) S rfl Hsq.out (R1.out.next b3.out) (by omega) b3.out.size ?_; intro v4 w4 o4 g4; rw [Hns.out, ← Lib.byteCells_append] at o4; have b4 := Lib.hid (b3.out.grown g4 b3.out.size (fun k e => (O3.out.lt k e).1)); obtain ⟨a4, c4, rfl, r4⟩ := rowAt_own (by rw [List.length_append, Hn.out, Hsq.out, Hns.out]) o4; have R4 := Lib.hid r4; clear o4 g4 r4))
  refine (Hst.out _ _ _ (R4.out.next ((Below.refl _ _).alloc (Nat.le_refl _) _))).mono ?_
  rintro e w5 ⟨p5, c5, rfl, r5, b5⟩
  have O5 := Lib.hid (ownsRow_next (owns_built w4 w4.heap.size 5 (.int .u8 126) (Nat.le_refl _)) b5)
  have R5 := Lib.hid r5
  have B5 := Lib.hid (below_alloc b5)
  clear r5 b5
  go_wp2_with (first
    | (at_builtin; refine wpList_append_row rfl (.tmp 25) (.tmp 28) rfl w4.heap.size _ 1 [.int .u8 126] rfl O5.out p5 z c5 Z rfl Hz.out R5.out (by omega) B5.out.size ?_; intro v6 w6 o6 g6; have b6 := Lib.hid (B5.out.grown g6 B5.out.size (fun k e => (O5.out.lt k e).1)); have O6 := Lib.hid o6; clear o6 g6)
    | (at_builtin; refine wpList_append_own _ rfl (.tmp 30) (.tmp 31) 26 rfl w4.heap.size 5 i0 (.int .u8 0) 1 1 Try.underlying26 hi hz0 hz1 hz2 rfl (by decide) _ _ _ rfl (O6.out.alloc _) ⟨w6.heap.size, 0, none⟩ 1 1 [.int .u8 126] rfl rfl (cell_one_new _ _ _) (fun u hu => by simp at hu; subst hu; rfl) (by unfold maxLen; omega) (by omega) (by have := b6.out.size; simp; omega) ?_; intro v7 w7 o7 g7 h77; clear h77))
  have b7 : Below w4.heap.size w4 w7 := Below.grown (b6.out.alloc b6.out.size _) g7 (by have := b6.out.size; simp; omega) (fun k e => (O6.out.lt k e).1)
  have o8 : w7.ownsRow w4.heap.size 5 1 v7 q (Lib.byteCells (126 :: (Z ++ [126]))) := by
    have e1 : Lib.byteCells (126 :: (Z ++ [126])) = [.int .u8 126] ++ Lib.byteCells Z ++ [.int .u8 126] := by
      rw [show (126 :: (Z ++ [126]) : List UInt8) = [126] ++ Z ++ [126] by simp, Lib.byteCells_append, Lib.byteCells_append]; rfl
    rw [e1, Hqz.out, show z + 2 = 1 + z + 1 by omega]; exact o7
  obtain ⟨p8, c8, rfl, r8⟩ := rowAt_own (by rw [List.length_cons, List.length_append, Hz.out, Hqz.out]; rfl) o8
  go_ret
  exact ⟨p8, c8, rfl, r8, Below.chain B1.out (Below.chain b4.out b7)⟩
theorem spliced_any (m : Nat) (wide : Bool) (a a2 : Option Addr) (n cap cap2 : Nat) (body other : List UInt8) (w : World) (q : Nat) (hn : body.length = n) (hn2 : other.length = n) (hm : m < 4294967296) (hl : n ≤ 65535) (h : RowAt w a cap body) (h2 : RowAt w a2 cap2 other) (hq : (Fr.spl m wide body other).length = q) :
    Calls Try.prog 18 #[.slice a n cap, .slice a2 n cap2, .int .u32 (m : Int), .bool wide] w fun e w' => ∃ p c, e = .returned (.slice p q c) ∧ RowAt w' p c (Fr.spl m wide body other) ∧ Below w.heap.size w w' := by
  have hc := Lib.hid (refSpliced_any m wide a a2 n cap cap2 body other w q hn hn2 hm hl h h2 hq)
  clear h h2 hn hn2 hq
  generalize Fr.spl m wide body other = Z at hc ⊢
  go_enter Try.func18, Try.ntmps18
  go_wp2_with fail
  refine hc.out.mono ?_
  rintro e w1 ⟨p, c, rfl, r1, b1⟩
  have R1 := Lib.hid r1
  clear r1
  go_wp2
  go_ret
  exact ⟨p, c, rfl, R1.out, b1⟩
end Go.Proofs.Ythmljgpnkealaaa
