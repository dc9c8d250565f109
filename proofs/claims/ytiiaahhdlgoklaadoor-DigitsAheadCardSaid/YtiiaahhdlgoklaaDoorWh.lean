/- The contract of awake: the answers that the document fixes. -/
import Derived.Test.YtiiaahhdlgoklaaDoorWg
namespace Go.Proofs.YtiiaahhdlgoklaaDoor
open Go.RowKit Go.Sort

set_option maxHeartbeats 4000000 in
set_option maxRecDepth 100000 in
theorem awake_any (w : World) (ht : Tabs w) :
    Calls Tryd.prog 9 #[] w fun e w' => e = .returned (.bool true) ∧ Below w.heap.size w w' := by
  have HT := Lib.hid ht
  clear ht
  go_enter Tryd.func9, Tryd.ntmps9
  go_wp2_with fail
  refine (aw_r1024 _).mono ?_
  rintro e w1 ⟨rfl, b1⟩
  go_wp2_with fail
  refine (aw_r007 _).mono ?_
  rintro e w2 ⟨rfl, b2⟩
  go_wp2_with fail
  refine (aw_rff _).mono ?_
  rintro e w3 ⟨rfl, b3⟩
  go_wp2_with fail
  refine (aw_0aff _).mono ?_
  rintro e w4 ⟨v, rfl, b4, ho⟩
  go_wp2_with fail
  refine (aw_0af _).mono ?_
  rintro e w5 ⟨rfl, hw5⟩
  subst hw5
  go_wp2_with fail
  refine (aw_words _).mono ?_
  rintro e w6 ⟨g, cap, rfl, how, b6⟩
  have b14 : Below w.heap.size w w5 := (b1.trans (b2.mono b1.size)).trans ((b3.mono (Nat.le_trans b1.size b2.size)).trans (b4.mono (Nat.le_trans b1.size (Nat.le_trans b2.size b3.size))))
  have b16 : Below w.heap.size w w6 := b14.trans (b6.mono b14.size)
  have ho6 := ownsRow_below ho b6 (fun g hg => (ho.lt g hg).2)
  clear b1 b2 b3 b4 b14 b6 ho
  have T6 : Tabs w6 := HT.out.below b16 HT.out.2.2
  have HT6 := Lib.hid T6
  clear T6 HT
  go_wp2_with fail
  refine (aw_dec0 _ HT6.out).mono ?_
  rintro e w7 ⟨rfl, b7⟩
  have T7 : Tabs w7 := HT6.out.below b7 HT6.out.2.2
  have HT7 := Lib.hid T7
  clear T7
  go_wp2_with fail
  refine (aw_dec1024 _ HT7.out).mono ?_
  rintro e w8 ⟨rfl, b8⟩
  have T8 : Tabs w8 := HT7.out.below b8 HT7.out.2.2
  have HT8 := Lib.hid T8
  clear T8
  go_wp2_with fail
  refine (aw_hex255 _ HT8.out).mono ?_
  rintro e w9 ⟨rfl, b9⟩
  have b69 : Below w6.heap.size w6 w9 := (b7.trans (b8.mono b7.size)).trans (b9.mono (Nat.le_trans b7.size b8.size))
  have ho9 := ownsRow_below ho6 b69 (fun g hg => (ho6.lt g hg).2)
  have how9 := ownsRow_below how b69 (fun g hg => (how.lt g hg).2)
  have b19 : Below w.heap.size w w9 := b16.trans (b69.mono b16.size)
  clear HT6 HT7 HT8 b7 b8 b9 b69 ho6 how b16
  have hcv := conv_own [10, 255] v w9 _ 2 rfl ho9
  go_wp2_with fail
  refine (aw_bytes v _ _ ho9).mono ?_
  rintro e w10 ⟨rfl, b10⟩
  have how10 := ownsRow_below how9 b10 (fun g hg => (how9.lt g hg).2)
  have b110 : Below w.heap.size w w10 := b19.trans (b10.mono b19.size)
  have c0 : w10.cell? ⟨g, 0, none⟩ = some (.string ⟨#[97]⟩) := how10.cellAt 0 (by omega)
  have c1 : w10.cell? ⟨g, 1, none⟩ = some (.string ⟨#[98]⟩) := how10.cellAt 1 (by omega)
  clear b19 b10 ho9 how9 hcv how10
  go_wp2_with fail
  refine (aw_pl1 _).mono ?_
  rintro e w11 ⟨rfl, b11⟩
  go_wp2_with fail
  refine (aw_pl2 _).mono ?_
  rintro e w12 ⟨rfl, b12⟩
  go_wp2_with fail
  refine (aw_pl3 _).mono ?_
  rintro e w13 ⟨rfl, b13⟩
  go_wp2_with fail
  go_ret
  exact ⟨rfl, (b110.trans (b11.mono b110.size)).trans ((b12.mono (Nat.le_trans b110.size b11.size)).trans (b13.mono (Nat.le_trans b110.size (Nat.le_trans b11.size b12.size))))⟩
end Go.Proofs.YtiiaahhdlgoklaaDoor
