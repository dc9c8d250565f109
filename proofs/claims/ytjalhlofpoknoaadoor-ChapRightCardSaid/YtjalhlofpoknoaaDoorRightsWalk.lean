/- The law of what is right, and what isn't. -/
import Derived.Test.YtjalhlofpoknoaaDoorDb
namespace Go.Proofs.YtjalhlofpoknoaaDoor
open Go.RowKit

/-- What the calls of Right answer, behind a world. -/
structure Rights (w : World) (i : Int) (s v : List UInt8) (p : Option Addr) (n c k : Nat) (D : List UInt8) : Prop where
  good : ∀ W, Below w.heap.size w W → ∀ q d, RowAt W q d D → Calls Tryd.prog 17 #[.int .i64 i, .string ⟨s.toArray⟩, .slice p n c, .slice q 16 d] W fun e w' => e = .returned (.bool true) ∧ Below W.heap.size W w'
  low : ∀ W, Below w.heap.size w W → ∀ q d, RowAt W q d D → Calls Tryd.prog 17 #[.int .i64 (i % 256), .string ⟨s.toArray⟩, .slice p n c, .slice q 16 d] W fun e w' => e = .returned (.bool true) ∧ Below W.heap.size W w'
  less : ∀ W, Below w.heap.size w W → ∀ q d, RowAt W q d (D.take 15) → Calls Tryd.prog 17 #[.int .i64 i, .string ⟨s.toArray⟩, .slice p n c, .slice q 15 d] W fun e w' => e = .returned (.bool false) ∧ Below W.heap.size W w'
  more : ∀ W, Below w.heap.size w W → ∀ q d y, RowAt W q d (D ++ [y]) → Calls Tryd.prog 17 #[.int .i64 i, .string ⟨s.toArray⟩, .slice p n c, .slice q 17 d] W fun e w' => e = .returned (.bool false) ∧ Below W.heap.size W w'
  cut : ∀ W, Below w.heap.size w W → ∀ p' c' q d, RowAt W p' c' (s.drop k ++ v) → RowAt W q d D → Calls Tryd.prog 17 #[.int .i64 i, .string ⟨(s.take k).toArray⟩, .slice p' ((s.drop k).length + n) c', .slice q 16 d] W fun e w' => e = .returned (.bool true) ∧ Below W.heap.size W w'
  other : ∀ W, Below w.heap.size w W → ∀ q d E, E.length = 16 → E ≠ D → RowAt W q d E → Calls Tryd.prog 17 #[.int .i64 i, .string ⟨s.toArray⟩, .slice p n c, .slice q 16 d] W fun e w' => e = .returned (.bool false) ∧ Below W.heap.size W w'
theorem rights (w : World) (i : Int) (s v : List UInt8) (p : Option Addr) (n c k : Nat) (hn : v.length = n) (h : RowAt w p c v) (ht : S3.Tabs w) (h1 : s.length ≤ 1000) (h2 : n ≤ 1000) (hk : k ≤ s.length) : Rights w i s v p n c k (Ch.answer i s v) := by
  have hl := Ch.answer_length i s v
  have e0 : ∀ (E : List UInt8), E ≠ Ch.answer i s v → decide (E = Ch.answer i s v) = false := fun E hE => decide_eq_false hE
  refine ⟨fun W b q d r => ?_, fun W b q d r => ?_, fun W b q d r => ?_, fun W b q d y r => ?_, fun W b p' c' q d x r => ?_, fun W b q d E hE hne r => ?_⟩
  · have := right_any i s v (Ch.answer i s v) p q n c 16 d W hn (by omega) h1 hl (by omega) (h.next b) r (ht.next b)
    rwa [decide_eq_true rfl] at this
  · have := right_any (i % 256) s v (Ch.answer i s v) p q n c 16 d W hn (by omega) h1 hl (by omega) (h.next b) r (ht.next b)
    rwa [Ch.answer_mod (i := i % 256) (j := i) (by omega) s v, decide_eq_true rfl] at this
  · have := right_any i s v ((Ch.answer i s v).take 15) p q n c 15 d W hn (by omega) h1 (by rw [List.length_take, hl]; rfl) (by omega) (h.next b) r (ht.next b)
    rwa [e0 _ (take_ne _ hl)] at this
  · have := right_any i s v (Ch.answer i s v ++ [y]) p q n c 17 d W hn (by omega) h1 (by rw [List.length_append, hl]; rfl) (by omega) (h.next b) r (ht.next b)
    rwa [e0 _ (more_ne _ y)] at this
  · have := right_any i (s.take k) (s.drop k ++ v) (Ch.answer i s v) p' q ((s.drop k).length + n) c' 16 d W (by rw [List.length_append, hn]) (by rw [List.length_drop]; omega) (by rw [List.length_take]; omega) hl (by omega) x r (ht.next b)
    rwa [Ch.answer_cut, decide_eq_true rfl] at this
  · have := right_any i s v E p q n c 16 d W hn (by omega) h1 hE (by omega) (h.next b) r (ht.next b)
    rwa [e0 _ hne] at this

theorem Own.block {W0 W : World} {p : Option Addr} {n c : Nat} {xs : List UInt8} (h : Own W0 W p n c xs) (hn : 0 < n) : ∃ g, p = some ⟨g, 0, none⟩ := by
  rcases h.own.2 with ⟨_, h0⟩ | ⟨g, c', cur, hv, _, _, _, _, _, _⟩
  · omega
  · simp only [Value.slice.injEq, true_and] at hv
    exact ⟨g, hv.1⟩
set_option maxRecDepth 100000 in
set_option maxHeartbeats 4000000 in
theorem rights_walk (i : Int) (s : List UInt8) (p : Option Addr) (n c : Nat) (v : List UInt8) (tn at' : Nat) (w : World) (hn : v.length = n) (h : RowAt w p c v) (htn : tn ≤ 255) (hat : at' ≤ 255) (ht : S3.Tabs w) (hg : S3.Trig w) :
    Calls Tryd.prog 6 #[.int .i64 i, .string ⟨s.toArray⟩, .slice p n c, .int .u8 (tn : Int), .int .u8 (at' : Int)] w fun e w' => e = .returned (.bool true) ∧ Below w.heap.size w w' := by
  have HT := Lib.hid ht
  have HG := Lib.hid hg
  have H := Lib.hid h
  have HN := Lib.hid hn
  clear ht hg h hn
  by_cases h1 : 1000 < s.length
  · have i1 : (1000 : Int) < (s.length : Int) := by omega
    go_enter Tryd.func6, Tryd.ntmps6
    go_wp2_with fail
    refine (awake_any _ HT.out HG.out).mono ?_
    rintro e w1 ⟨rfl, b1⟩
    have B1 := Lib.hid b1
    clear b1
    go_wp2_with fail
    refine (awake_any _ (HT.out.next B1.out) (HG.out.next B1.out)).mono ?_
    rintro e w2 ⟨rfl, b2⟩
    have B2 := Lib.hid (Below.chain B1.out b2)
    clear b2 B1
    go_wp2
    go_ret
    exact ⟨rfl, B2.out⟩
  have i1 : (s.length : Int) ≤ 1000 := by omega
  by_cases h2 : 1000 < n
  · have i2 : (1000 : Int) < (n : Int) := by omega
    go_enter Tryd.func6, Tryd.ntmps6
    go_wp2_with fail
    refine (awake_any _ HT.out HG.out).mono ?_
    rintro e w1 ⟨rfl, b1⟩
    have B1 := Lib.hid b1
    clear b1
    go_wp2_with fail
    refine (awake_any _ (HT.out.next B1.out) (HG.out.next B1.out)).mono ?_
    rintro e w2 ⟨rfl, b2⟩
    have B2 := Lib.hid (Below.chain B1.out b2)
    clear b2 B1
    go_wp2
    go_ret
    exact ⟨rfl, B2.out⟩
  have i2 : (n : Int) ≤ 1000 := by omega
  have j3 : (((s.length : Int) + 1) == 0) = false := by simp; omega
  have j4 : ¬ ((s.length : Int) + 1) = 0 := by omega
  obtain ⟨k, hk⟩ : ∃ k, at' % (s.length + 1) = k := ⟨_, rfl⟩
  have hks : k ≤ s.length := by have := Nat.mod_lt at' (show 0 < s.length + 1 by omega); omega
  have hmod : (at' : Int).tmod ((s.length : Int) + 1) = (k : Int) := by rw [Int.tmod_eq_emod_of_nonneg (by omega), ← hk]; simp
  have jk : (k : Int) ≤ (s.length : Int) := by omega
  have e1 := txt_from s k
  have e2 := txt_to s k
  have hand := i64_and255 i
  have HR := Lib.hid (rights w i s v p n c k HN.out H.out HT.out (by omega) (by omega) hks)
  have HL := Lib.hid (Ch.answer_length i s v)
  have HA := Lib.hid (fun W (b : Below w.heap.size w W) => answer_any i s v p n c W HN.out (by omega) (by omega) (H.out.next b) (HT.out.next b))
  generalize Ch.answer i s v = D at *
  have hcut := HR.out.cut
  have hul : (s.drop k).length ≤ 1000 := by rw [List.length_drop]; omega
  generalize s.drop k = u at hcut hul e1
  have HC := Lib.hid hcut
  clear hcut
  obtain ⟨j, hj⟩ : ∃ j, tn % 16 = j := ⟨_, rfl⟩
  obtain ⟨t, ht⟩ : ∃ t, tn / 32 = t := ⟨_, rfl⟩
  have hj16 : j < 16 := by omega
  have ht8 : t < 8 := by omega
  have hji : (tn : Int) % 16 = (j : Int) := by omega
  have hti : (tn : Int) / 32 = (t : Int) := by omega
  clear h1 h2 hk
  go_enter Tryd.func6, Tryd.ntmps6
  go_wp2_with fail
  refine (awake_any _ HT.out HG.out).mono ?_
  rintro e w1 ⟨rfl, b1⟩
  have B1 := Lib.hid b1
  clear b1 HG HT
  go_wp2_with fail
  refine (HA.out w1 B1.out).mono ?_
  rintro e w2 ⟨rfl, b2⟩
  have B2 := Lib.hid (Below.chain B1.out b2)
  clear b2 B1 HA
  go_wp2_with (first
    | (refine wpList_digIn (w := w2) rfl (.tmp 11) (.tmp 31) rfl D HL.out rfl rfl ?_; intro w3 g3 b3; have G3 := Lib.hid g3; have B3 := Lib.hid (Below.chain B2.out b3); clear g3 b3 B2)
    | (at_builtin; refine wpList_append_mine (W0 := w3) rfl (.tmp 32) (.tmp 33) rfl (some ⟨w3.heap.size, 0, none⟩) 0 0 16 [] rfl ⟨rfl, World.ownsRow_made w3 #[] 0 (Nat.le_refl _) (Nat.zero_le _) rfl, below_one _ _⟩ (some ⟨w2.heap.size, 0, none⟩) 16 16 D rfl HL.out (rowAt_dig HL.out (block_next G3.out (below_one _ _))) (by omega) (by omega) ?_; intro p4 c4 w4 O4'; have O4 : Hid (Own w3 w4 p4 16 c4 D) := O4'; clear O4'))
  have B4 := Lib.hid (Below.chain B3.out O4.out.bel)
  have s3 := B3.out.size
  generalize w2.heap.size = U at *
  clear G3
  obtain ⟨g, rfl⟩ := O4.out.block (by omega)
  refine (HR.out.good w4 B4.out _ c4 O4.out.row).mono ?_
  rintro e w5 ⟨rfl, b5⟩
  have B5 := Lib.hid (Below.chain B4.out b5)
  have O5 := Lib.hid (O4.out.next b5)
  clear b5 B4 O4
  go_wp2_with fail
  refine (HR.out.low w5 B5.out _ c4 O5.out.row).mono ?_
  rintro e w6 ⟨rfl, b6⟩
  have B6 := Lib.hid (Below.chain B5.out b6)
  have O6 := Lib.hid (O5.out.next b6)
  clear b6 B5 O5
  have jc : (15 : Int) ≤ (c4 : Int) := by have := O6.out.row.le; rw [HL.out] at this; omega
  go_wp2_with fail
  refine (HR.out.less w6 B6.out _ c4 (O6.out.row.head 15 (by rw [HL.out]; omega))).mono ?_
  rintro e w7 ⟨rfl, b7⟩
  have B7 := Lib.hid (Below.chain B6.out b7)
  have O7 := Lib.hid (O6.out.next b7)
  clear b7 B6 O6
  go_wp2_with (first
    | (at_builtin; refine wpList_append_mine_if (W0 := w7) (by rfl) (.tmp 62) (.tmp 63) rfl (some ⟨w7.heap.size, 0, none⟩) 0 0 16 [] rfl ⟨rfl, World.ownsRow_made w7 #[] 0 (Nat.le_refl _) (Nat.zero_le _) rfl, below_one _ _⟩ (some ⟨g, 0, none⟩) 16 c4 D rfl HL.out (O7.out.row.next (below_one _ _)) (by omega) (by omega) ?_; intro p8 c8 w8 O8'; have O8 : Hid (Own w7 w8 p8 16 c8 D) := O8'; clear O8')
    | (at_builtin; refine wpList_append_mine_if (W0 := w7) (by rfl) (.tmp 64) (.tmp 65) rfl p8 16 c8 17 D rfl (O8.out.next (below_one w8 _)) (some ⟨w8.heap.size, 0, none⟩) 1 1 [0] rfl rfl (one_built w8 0 _ rfl) rfl (by omega) ?_; intro p9 c9 w9 O9'; have O9 := Lib.hid O9'; clear O9' O8))
  have B9 := Lib.hid (Below.chain B7.out O9.out.bel)
  have X9 := Lib.hid (O7.out.next O9.out.bel)
  refine (HR.out.more w9 B9.out p9 c9 0 O9.out.row).mono ?_
  rintro e w10 ⟨rfl, b10⟩
  have BA := Lib.hid (Below.chain B9.out b10)
  have OA := Lib.hid (X9.out.next b10)
  clear b10 B9 X9 B7 O7 O9
  go_wp2_with (first
    | (refine wpList_bytes_txt (by rfl) (.tmp 77) rfl u (by omega) rfl ?_; intro c11 w11 m11 b11; have M11 := Lib.hid m11; have C11 := Lib.hid b11; clear m11 b11)
    | (at_builtin; refine wpList_append_marked (w0 := w10) rfl (.tmp 78) (.tmp 79) rfl w10.heap.size u.length c11 u rfl M11.out p n c v rfl HN.out (H.out.next (Below.chain BA.out C11.out)) (by omega) C11.out (Nat.le_refl _) ?_; intro p12 c12 w12 r12 b12; have R12 := Lib.hid r12; have B12 := Lib.hid b12; clear r12 b12 M11 C11))
  have BC := Lib.hid (Below.chain BA.out B12.out)
  have OC := Lib.hid (OA.out.next B12.out)
  clear BA OA B12
  refine (HC.out w12 BC.out p12 c12 _ c4 R12.out OC.out.row).mono ?_
  rintro e w13 ⟨rfl, b13⟩
  have BD := Lib.hid (Below.chain BC.out b13)
  have OD := OC.out.next b13
  clear b13 BC OC R12
  have hown := OD.own
  have hgl := (OD.lt ⟨g, 0, none⟩ rfl).1
  simp only at hgl
  have hcell := hown.cellAt j (by omega)
  have hfz := hown.frozenAt j
  have hjD : j < D.length := by rw [HL.out]; exact hj16
  have hyk : (Lib.byteCells D)[j]? = some (.int .u8 ((D[j]'hjD).toNat : Int)) := by simp [Lib.byteCells, hjD]
  rw [hyk] at hcell
  obtain ⟨x, hx⟩ : ∃ x, x = D[j]'hjD := ⟨_, rfl⟩
  rw [← hx] at hcell
  have hx255 := x.toNat_lt
  have h2t : 2 ^ t < 256 := Nat.pow_lt_pow_right (a := 2) (n := 8) (by omega) ht8
  have hne := set_ne D j hjD _ (by rw [← hx]; exact flip_ne x ht8)
  have hto : ((UInt8.ofNat (x.toNat ^^^ 2 ^ t)).toNat : Int) = ((x.toNat ^^^ 2 ^ t : Nat) : Int) := by rw [UInt8.toNat_ofNat_of_lt' (flip_lt x ht8)]
  rw [← xor8 x.toNat (2 ^ t) hx255 h2t] at hto
  generalize UInt8.ofNat (x.toNat ^^^ 2 ^ t) = y at hne hto
  have hst := hown.stored j (.int .u8 (y.toNat : Int))
  rw [← cells_set] at hst
  have hel : (D.set j y).length = 16 := by rw [List.length_set, HL.out]
  generalize D.set j y = E at hne hst hel
  have h2i : (2 : Int) ^ t % 256 = ((2 ^ t : Nat) : Int) := by
    have e1 : ((2 ^ t : Nat) : Int) = (2 : Int) ^ t := by simp
    rw [← e1]; exact Int.emod_eq_of_lt (Int.natCast_nonneg _) (by exact_mod_cast h2t)
  have Hst := Lib.hid hst
  have Hne := Lib.hid hne
  have Hel := Lib.hid hel
  have Hto := Lib.hid hto
  have H2i := Lib.hid h2i
  have hj16i : (j : Int) < 16 := by omega
  clear hst hne hel hto h2i h2t hx hyk hown OD hjD
  go_wp2_with fail
  rw [H2i.out, ← Hto.out]
  have BE := Lib.hid (BD.out.setCell (p := ⟨g, j, none⟩) (show w.heap.size ≤ g by omega) (.int .u8 (y.toNat : Int)))
  have RE := Lib.hid (row_of_own Hel.out Hst.out.1)
  generalize w13.setCell ⟨g, j, none⟩ (.int .u8 (y.toNat : Int)) = w14 at *
  refine (HR.out.other w14 BE.out _ c4 E Hel.out Hne.out RE.out).mono ?_
  rintro e w15 ⟨rfl, b15⟩
  have BF := Lib.hid (Below.chain BE.out b15)
  clear b15 BE RE Hst
  go_wp2
  go_ret
  exact ⟨rfl, BF.out⟩
end Go.Proofs.YtjalhlofpoknoaaDoor
