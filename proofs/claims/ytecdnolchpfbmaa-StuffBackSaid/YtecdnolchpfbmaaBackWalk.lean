/- StuffBack: the walk. -/
import Derived.Test.YtecdnolchpfbmaaHeldb
import Derived.Test.YtecdnolchpfbmaaLb
namespace Go.Proofs.Ytecdnolchpfbmaa
open Go.RowKit

set_option maxRecDepth 10000 in
set_option maxHeartbeats 1000000 in
theorem back_long (m f : Nat) (a aw : Option Addr) (cap n cw nw : Nat) (w : World) (hg : (1000 : Int) < (n : Int) ∨ ¬ (1000 : Int) < (n : Int) ∧ (100 : Int) < (nw : Int)) :
    Calls Try.prog 4 #[.slice a n cap, .int .u32 (m : Int), .int .u32 (f : Int), .slice aw nw cw] w fun e w' => e = .returned (.bool true) ∧ Below w.heap.size w w' := by
  rcases hg with hg | ⟨hg, hg2⟩ <;>
  · go_enter Try.func4, Try.ntmps4
    go_wp2_with fail
    refine (awake_any _).mono ?_
    rintro e w1 ⟨rfl, b1⟩
    go_wp2_with fail
    refine (awake_any _).mono ?_
    rintro e w2 ⟨rfl, b2⟩
    go_wp2
    go_ret
    exact ⟨rfl, Below.chain b1 b2⟩

/-- A slice that is not written stays. -/
theorem RowAt.kept {w w' : World} {a : Option Addr} {c : Nat} {xs : List UInt8} {row : Option Nat} (h : RowAt w a c xs) (hg : w.grownBy w' row) (hr : ∀ ad, a = some ad → row ≠ some ad.block) : RowAt w' a c xs :=
  ⟨h.le, h.max, h.nil, fun ad e j u hu => by
    have h1 := h.cell ad e j u hu
    have hb : (ad.add j).block = ad.block := by unfold Addr.add; split <;> rfl
    have hlt := World.block_lt_of_cell? w _ h1
    rw [World.cell?_of_block (w := w) (hg.block (ad.add j).block hlt (fun e2 => hr ad e (by rw [← hb]; exact e2.symm ▸ rfl)))]; exact h1⟩
/-- What Unstuff answers of bytes that are known. -/
def Uns (xs : List UInt8) (n g : Nat) (G : Nat) : Prop :=
  ∀ (W : World) (p : Option Addr) (c q : Nat) (X : List UInt8), X.length = q → q ≤ 10000 → St.left g X = St.left g (St.stuff G xs) → RowAt W p c X →
    Calls Try.prog 12 #[.slice p q c, .int .u32 (g : Int)] W fun e w' => ∃ a' c', e = .returned (.tuple #[.slice a' n c', .bool true]) ∧ RowAt w' a' c' xs ∧ Below W.heap.size W w'

set_option maxRecDepth 100000 in
set_option maxHeartbeats 4000000 in
theorem back_short (m f : Nat) (a aw : Option Addr) (cap cw : Nat) (xs : List UInt8) (zs : List Nat) (n nw : Nat) (w : World) (hm : m < 4294967296) (hf : f < 4294967296) (hn : xs.length = n) (hnw : zs.length = nw) (hzs : ∀ z ∈ zs, z < 65536) (h : RowAt w a cap xs) (hw : WordsAt w aw zs) (hg : ¬ (1000 : Int) < (n : Int)) (hgw : ¬ (100 : Int) < (nw : Int)) :
    Calls Try.prog 4 #[.slice a n cap, .int .u32 (m : Int), .int .u32 (f : Int), .slice aw nw cw] w fun e w' => e = .returned (.bool true) ∧ Below w.heap.size w w' := by
  obtain ⟨z, hz⟩ : ∃ z, (St.stuff m xs).length = z := ⟨_, rfl⟩
  have hzl := (St.stuff_le m xs).2
  rw [hz, hn] at hzl
  have hclean := St.stuff_clean m hm xs
  have hand := Ac.and32 m f hm hf
  have hgl : m &&& f < 4294967296 := Nat.lt_of_le_of_lt Nat.and_le_left hm
  have hsub : ∀ c, Ac.has (m &&& f) c = true → Ac.has m c = true := fun c h => by rw [St.has_and] at h; simp at h; exact h.1
  have c9 := fun (W : World) (h : RowAt W a cap xs) => stuff_row cap m n z a xs W hn hm (by omega) h hz
  have c10 := fun (W : World) (h : RowAt W a cap xs) => size_any cap m n a xs W hn hm (by omega) h
  have c12 : Uns xs n m m := fun W p c q X hq hl hX hr => unstuff_row c m q p X W hq hm (by omega) hr (xs, true) (St.un_back m m (fun _ h => h) hm xs X hX) n hn
  have c12g : Uns xs n (m &&& f) m := fun W p c q X hq hl hX hr => unstuff_row c (m &&& f) q p X W hq hgl (by omega) hr (xs, true) (St.un_back m (m &&& f) hsub hm xs X hX) n hn
  have c13 := fun W : World => list_row (m &&& f) W hgl
  have hlh := St.list_has (m &&& f)
  have hll := Ac.list_length (m &&& f) 32
  rw [hz] at c10
  generalize m &&& f = g at hand c12g c13 hlh hll
  generalize Ac.list g 32 = L at c13 hlh hll
  obtain ⟨ll, hL⟩ : ∃ ll, L.length = ll := ⟨_, rfl⟩
  rw [hL] at c13 hll
  have HL := Lib.hid hL
  have Hlh := Lib.hid hlh
  have Hn := Lib.hid hn
  have Hnw := Lib.hid hnw
  have Hzs := Lib.hid hzs
  have Hz := Lib.hid hz
  have Hcl := Lib.hid hclean
  have C9 := Lib.hid c9
  have C10 := Lib.hid c10
  have C12 := Lib.hid c12
  have C12g := Lib.hid c12g
  have C13 := Lib.hid c13
  have H := Lib.hid h
  have Hw := Lib.hid hw
  clear hL hlh hn hnw hzs hz hclean c9 c10 c12 c12g c13 h hw hsub hgl
  go_enter Try.func4, Try.ntmps4
  go_wp2_with fail
  refine (awake_any _).mono ?_
  rintro e w1 ⟨rfl, b1⟩
  have H1 := Lib.hid (H.out.next b1)
  go_wp2_with fail
  refine (C9.out _ H1.out).mono ?_
  rintro e w2 ⟨p2, c2, rfl, r2, b2⟩
  have R2 := Lib.hid r2
  clear r2
  have B2 := Lib.hid (Below.chain b1 b2)
  have H2 := Lib.hid (H1.out.next b2)
  clear b1 b2 H1
  go_wp2_with fail
  go_loop [10] (fun i => ∃ k : Nat, k ≤ z ∧ i = .int .i64 (k : Int)) (fun i => z - (intOf i).toNat)
  case atStart => exact ⟨0, Nat.zero_le _, rfl⟩
  case round =>
    obtain ⟨k, hk, rfl⟩ := hrel
    by_cases hlt : (k : Int) < (z : Int)
    · have hk' : k < (St.stuff m xs).length := by rw [Hz.out]; omega
      rcases R2.out.bytes with h0 | ⟨b, off, rfl, hb, hc⟩
      · rw [h0] at hk'; simp at hk'
      · have hcell := hc k hk'
        have hcl := Hcl.out _ (List.getElem_mem hk')
        clear hc
        obtain ⟨x, hxk⟩ : ∃ x, x = (St.stuff m xs)[k] := ⟨_, rfl⟩
        rw [← hxk] at hcell hcl
        clear hxk hk'
        have i6 : ¬ (x.toNat : Int) = 126 := by omega
        have hh := has_any m x.toNat w2 hm
        rw [hcl.2] at hh
        have Hh := Lib.hid hh
        clear hh hcl
        go_wp2_with (go_at_call 11; refine Hh.out.mono ?_; rintro e w3 ⟨rfl, h2⟩; rw [h2]; clear h2)
        go_round
        case rel => exact ⟨k + 1, by omega, by go_num⟩
        case measure => simp [intOf]; omega
    · go_wp2_with fail
      refine (C12.out _ _ _ _ _ Hz.out (by omega) rfl R2.out).mono ?_
      rintro e w3 ⟨p3, c3, rfl, r3, b3⟩
      have H3 := Lib.hid (H2.out.next b3)
      have R3 := Lib.hid (R2.out.next b3)
      have B3 := Lib.hid (Below.chain B2.out b3)
      have k1 : (convert 22 9 (.slice p3 n c3)).run Try.prog w3 = .ok (.string ⟨xs.toArray⟩) w3 := conv_row Hn.out r3
      have k2 : (convert 22 9 (.slice a n cap)).run Try.prog w3 = .ok (.string ⟨xs.toArray⟩) w3 := conv_row Hn.out H3.out
      generalize (⟨xs.toArray⟩ : ByteArray) = Sx at k1 k2
      clear r3 b3 H2 R2 B2
      go_wp2_with fail
      refine (C10.out _ H3.out).mono ?_
      rintro e w4 ⟨rfl, b4⟩
      have H4 := Lib.hid (H3.out.next b4)
      have R4 := Lib.hid (R3.out.next b4)
      have B4 := Lib.hid (Below.chain B3.out b4)
      clear b4 H3 R3 B3 k1 k2
      go_wp2_with fail
      refine (C13.out _).mono ?_
      rintro e w5 ⟨p5, c5, rfl, r5, b5⟩
      have H5 := Lib.hid (H4.out.next b5)
      have R5 := Lib.hid (R4.out.next b5)
      have B5 := Lib.hid (Below.chain B4.out b5)
      have L5 := Lib.hid r5
      have W5 := Lib.hid (Hw.out.next B5.out)
      clear b5 H4 R4 B4 r5
      go_wp2_with fail
      go_loopw [9, 14] (fun xv i wr => ∃ (k : Nat) (p : Option Addr) (c q : Nat) (X : List UInt8), k ≤ nw ∧ i = .int .i64 (k : Int) ∧ xv = .slice p q c ∧ q ≤ z + k ∧ Hid (X.length = q ∧ St.left g X = St.left g (St.stuff m xs) ∧ RowAt wr p c X) ∧ Below w5.heap.size w5 wr) (fun _ i _ => nw - (intOf i).toNat)
      case atStart => exact ⟨0, p2, c2, z, St.stuff m xs, Nat.zero_le _, rfl, rfl, Nat.le_refl _, ⟨Hz.out, rfl, R5.out⟩, Below.refl _ _⟩
      case round =>
        obtain ⟨k, p, c, q, X, hk, rfl, rfl, hq, HX, hbw⟩ := hrel
        by_cases hgo : k < nw ∧ 0 < ll
        · obtain ⟨hlt, hl0⟩ := hgo
          have hk' : k < zs.length := by rw [Hnw.out]; exact hlt
          rcases W5.out with h0 | ⟨b, off, rfl, hb, hc⟩
          · rw [h0] at hk'; simp at hk'
          · have hcell : wr.cell? ⟨b, off + k, none⟩ = some (.int .u16 (zs[k] : Int)) := by rw [hbw.cell (p := ⟨b, off + k, none⟩) hb]; exact hc k hk'
            have hz16 := Hzs.out _ (List.getElem_mem hk')
            clear hc
            obtain ⟨zk, hzk⟩ : ∃ zk, zk = zs[k] := ⟨_, rfl⟩
            rw [← hzk] at hcell hz16
            clear hzk hk'
            have hmod : k % ll < L.length := by rw [HL.out]; exact Nat.mod_lt _ hl0
            rcases L5.out.bytes with h0 | ⟨b2, off2, rfl, hb2, hc2⟩
            · rw [h0] at hmod; simp at hmod
            · have hcell2 : wr.cell? ⟨b2, off2 + k % ll, none⟩ = some (.int .u8 (L[k % ll].toNat : Int)) := by rw [hbw.cell (p := ⟨b2, off2 + k % ll, none⟩) hb2]; exact hc2 _ hmod
              have hhas := Hlh.out _ (List.getElem_mem hmod)
              clear hc2
              obtain ⟨x, hx⟩ : ∃ x, x = L[k % ll] := ⟨_, rfl⟩
              rw [← hx] at hcell2 hhas
              clear hx hmod
              have Hhas := Lib.hid hhas
              clear hhas
              have ht1 : Int.tmod (zk : Int) ((q : Int) + 1) = ((zk % (q + 1) : Nat) : Int) := rfl
              have ht2 : Int.tmod (k : Int) (ll : Int) = ((k % ll : Nat) : Int) := rfl
              have hmq : zk % (q + 1) ≤ q := by have := Nat.mod_lt zk (show 0 < q + 1 by omega); omega
              have hml : k % ll < ll := Nat.mod_lt _ hl0
              generalize zk % (q + 1) = at1 at ht1 hmq
              generalize k % ll = k2 at ht2 hml hcell2
              have i1 : (k : Int) < (nw : Int) := by omega
              have i2 : (0 : Int) < (ll : Int) := by omega
              have i3 : (k2 : Int) < (ll : Int) := by omega
              have i4 : (zk : Int) < 65536 := by omega
              have i5 : (q : Int) ≤ 3000 := by omega
              have i6 : ¬ (ll : Int) = 0 := by omega
              have i7 : ¬ (q : Int) + 1 = 0 := by omega
              have hXc : q ≤ c := by have := HX.out.2.2.le; rw [HX.out.1] at this; exact this
              have hcm := HX.out.2.2.max
              unfold maxLen at hcm
              have i8 : (at1 : Int) ≤ (c : Int) := by omega
              have i9 : (at1 : Int) ≤ (q : Int) := by omega
              have i10 : (q : Int) ≤ (c : Int) := by omega
              go_wp2_with fail
              refine held_start (S := fun _ => True) 13 (by kernel_rfl) rfl ?_
              have hT : True := trivial
              have hbd := Below.chain hbw (Below.refl _ _).drew
              have hXd := HX.out.2.2.drawn
              have hXh := hXd.head at1 (by rw [HX.out.1]; exact hmq)
              have hXt := hXd.cut at1 q hmq (by rw [HX.out.1]; exact Nat.le_refl _)
              rw [List.take_of_length_le (by rw [HX.out.1]; exact Nat.le_refl _)] at hXt
              have hlh : (X.take at1).length = at1 := by rw [List.length_take, HX.out.1]; omega
              have hlt2 : (X.drop at1).length = q - at1 := by rw [List.length_drop, HX.out.1]
              have hli : (X.take at1 ++ [x] ++ X.drop at1).length = q + 1 := by rw [List.length_append, List.length_append, hlh, hlt2, List.length_singleton]; omega
              have hlf : St.left g (X.take at1 ++ [x] ++ X.drop at1) = St.left g (St.stuff m xs) := by rw [St.left_insert g X at1 x Hhas.out]; exact HX.out.2.1
              have Hlh2 := Lib.hid hlh
              have Hlt2 := Lib.hid hlt2
              have Hli := Lib.hid hli
              have Hlf := Lib.hid hlf
              have HXh := Lib.hid hXh
              have HXt := Lib.hid hXt
              clear hXd hXh hXt hlh hlt2 hli hlf
              generalize wr.drew = w6 at hbd HXh HXt ⊢
              generalize X.take at1 = Xh at HXh Hlh2 Hli Hlf
              generalize X.drop at1 = Xt at HXt Hlt2 Hli Hlf
              refine held_take 1 (v := ?_) rfl (by kernel_rfl) (by kernel_rfl) (by kernel_rfl) (fun _ _ _ h => h) (by assumption) (by rfl) ?_ ?_
              rotate_left
              · (intro W hW; go_simp; try with_reducible rfl)
              simp only [Act.put, List.setIfInBounds_toArray, List.set_cons_zero, List.set_cons_succ]
              refine held_take 2 (v := ?_) rfl (by kernel_rfl) (by kernel_rfl) (by kernel_rfl) (fun _ _ _ h => h) (by assumption) (by rfl) ?_ ?_
              rotate_left
              · (intro W hW; go_simp; try with_reducible rfl)
              simp only [Act.put, List.setIfInBounds_toArray, List.set_cons_zero, List.set_cons_succ]
              refine held_take 3 (v := .slice p at1 c) rfl (by kernel_rfl) (by kernel_rfl) (by kernel_rfl) (fun _ _ _ h => h) (by assumption) (by rfl) ?_ ?_
              · (intro W hW; go_simp; try with_reducible rfl)
              simp only [Act.put, List.setIfInBounds_toArray, List.set_cons_zero, List.set_cons_succ]
              refine held_take 5 (v := ?_) rfl (by kernel_rfl) (by kernel_rfl) (by kernel_rfl) (fun _ _ _ h => h) (by assumption) (by rfl) ?_ ?_
              rotate_left
              · (intro W hW; go_simp; try with_reducible rfl)
              simp only [Act.put, List.setIfInBounds_toArray, List.set_cons_zero, List.set_cons_succ]
              refine held_take 8 (v := ?_) rfl (by kernel_rfl) (by kernel_rfl) (by kernel_rfl) (fun _ _ _ h => h) (by assumption) (by rfl) ?_ ?_
              rotate_left
              · (intro W hW; go_simp; try with_reducible rfl)
              simp only [Act.put, List.setIfInBounds_toArray, List.set_cons_zero, List.set_cons_succ]
              refine held_take 9 (v := ?_) rfl (by kernel_rfl) (by kernel_rfl) (by kernel_rfl) (fun _ _ _ h => h) (by assumption) (by rfl) ?_ ?_
              rotate_left
              · (intro W hW; go_simp; try with_reducible rfl)
              simp only [Act.put, List.setIfInBounds_toArray, List.set_cons_zero, List.set_cons_succ]
              refine held_take 10 (v := .slice (if c = at1 then p else p.map (·.add at1)) (q - at1) (c - at1)) rfl (by kernel_rfl) (by kernel_rfl) (by kernel_rfl) (fun _ _ _ h => h) (by assumption) (by rfl) ?_ ?_
              · intro W hW
                by_cases hca : c = at1
                · have j1 : (c : Int) = (at1 : Int) := by omega
                  rw [if_pos hca]
                  go_simp
                · have j1 : ¬ (c : Int) = (at1 : Int) := by omega
                  rw [if_neg hca]
                  go_simp
              simp only [Act.put, List.setIfInBounds_toArray, List.set_cons_zero, List.set_cons_succ]
              generalize (if c = at1 then p else p.map (·.add at1)) = pt at HXt ⊢
              refine held_pair 0 6 rfl rfl (by kernel_rfl) (by rfl) (by rfl) ?_ ?_
              · refine wp_value (v := .slice (some ⟨w6.heap.size, 0, none⟩) 0 0) (w' := w6.alloc (.cells #[] 5)) (by go_simp) ⟨trivial, ?_⟩
                simp only [Act.put, List.setIfInBounds_toArray, List.set_cons_zero, List.set_cons_succ]
                have hb1 : Below w6.heap.size w6 (w6.alloc (.cells #[] 5)) := (Below.refl _ _).alloc (Nat.le_refl _) _
                refine held_pair 4 6 rfl rfl (by kernel_rfl) (by rfl) (by rfl) ?_ ?_
                · refine wp_append_row (.tmp 108) (.tmp 111) rfl w6.heap.size _ 0 [] (by rfl) (owns_empty w6) p at1 c Xh (by rfl) Hlh2.out (HXh.out.next hb1) (by omega) hb1.size ?_
                  intro v4 w7 o4 g4
                  rw [Nat.zero_add, List.nil_append] at o4
                  refine ⟨trivial, ?_⟩
                  simp only [Act.put, List.setIfInBounds_toArray, List.set_cons_zero, List.set_cons_succ]
                  have hb7 : Below w6.heap.size w6 w7 := hb1.grown g4 hb1.size (fun j hj => ((owns_empty w6).lt j hj).1)
                  clear g4 hb1
                  refine held_one 6 rfl (by kernel_rfl) (by rfl) ?_
                  refine wp_value (v := .slice (some ⟨w7.heap.size, 0, none⟩) 1 1) (w' := w7.alloc (.cells #[.int .u8 (x.toNat : Int)] 5)) (by go_simp) ⟨trivial, ?_⟩
                  simp only [Act.put, List.setIfInBounds_toArray, List.set_cons_zero, List.set_cons_succ]
                  have O4 := Lib.hid (o4.alloc (.cells #[.int .u8 (x.toNat : Int)] 5))
                  have R6 := Lib.hid (rowAt_built w7 [x] 1 #[.int .u8 (x.toNat : Int)] rfl rfl (by omega) (0, 0))
                  have B8 := Lib.hid (hb7.alloc hb7.size (.cells #[.int .u8 (x.toNat : Int)] 5))
                  clear o4 hb7
                  generalize w7.alloc (.cells #[.int .u8 (x.toNat : Int)] 5) = w8 at O4 R6 B8 ⊢
                  generalize w7.heap.size = g6 at R6 ⊢
                  refine held_one 7 rfl (by kernel_rfl) (by rfl) ?_
                  refine wp_append_row (.tmp 112) (.tmp 114) rfl w6.heap.size v4 at1 _ (by rfl) O4.out (some ⟨g6, 0, none⟩) 1 1 [x] (by rfl) rfl R6.out (by omega) B8.out.size ?_
                  intro v5 w9 o5 g5
                  refine ⟨trivial, ?_⟩
                  simp only [Act.put, List.setIfInBounds_toArray, List.set_cons_zero, List.set_cons_succ]
                  have B9 := Lib.hid (B8.out.grown g5 B8.out.size (fun j hj => (O4.out.lt j hj).1))
                  have O5 := Lib.hid o5
                  clear o5 g5 O4 R6 B8
                  refine held_one 11 rfl (by kernel_rfl) (by rfl) ?_
                  refine wp_append_row (.tmp 115) (.tmp 118) rfl w6.heap.size v5 (at1 + 1) _ (by rfl) O5.out pt (q - at1) (c - at1) Xt (by rfl) Hlt2.out (HXt.out.next B9.out) (by omega) B9.out.size ?_
                  intro v6 w10 o6 g6'
                  refine ⟨trivial, ?_⟩
                  simp only [Act.put, List.setIfInBounds_toArray, List.set_cons_zero, List.set_cons_succ]
                  have B10 := Lib.hid (hbd.trans ((B9.out.grown g6' B9.out.size (fun j hj => (O5.out.lt j hj).1)).mono hbd.size))
                  rw [← Lib.byteCells_append, ← Lib.byteCells_append, show at1 + 1 + (q - at1) = q + 1 by omega] at o6
                  obtain ⟨p6, c6, rfl, r6⟩ := rowAt_own Hli.out o6
                  have R10 := Lib.hid r6
                  clear o6 g6' r6 O5 B9
                  refine held_take 12 (v := ?_) rfl (by kernel_rfl) (by kernel_rfl) (by kernel_rfl) (fun _ _ _ h => h) (by assumption) (by rfl) ?_ ?_
                  rotate_left
                  · (intro W hW; go_simp; try with_reducible rfl)
                  simp only [Act.put, List.setIfInBounds_toArray, List.set_cons_zero, List.set_cons_succ]
                  refine held_done (by kernel_rfl) ?_
                  go_wp2
                  go_roundw
                  case rel => exact ⟨k + 1, p6, c6, q + 1, Xh ++ [x] ++ Xt, by omega, by go_num, rfl, by omega, ⟨Hli.out, Hlf.out, R10.out⟩, B10.out⟩
                  case measure => simp [intOf]; omega
                · refine wp_value (v := .slice (some ⟨(w6.alloc (.cells #[] 5)).heap.size, 0, none⟩) 1 1) (w' := (w6.alloc (.cells #[] 5)).alloc (.cells #[.int .u8 (x.toNat : Int)] 5)) (by go_simp) ⟨trivial, ?_⟩
                  simp only [Act.put, List.setIfInBounds_toArray, List.set_cons_zero, List.set_cons_succ]
                  have hr6 := rowAt_built (w6.alloc (.cells #[] 5)) [x] 1 #[.int .u8 (x.toNat : Int)] rfl rfl (by omega) (0, 0)
                  have hb2 := hb1.alloc hb1.size (.cells #[.int .u8 (x.toNat : Int)] 5)
                  have ho0 := (owns_empty w6).alloc (.cells #[.int .u8 (x.toNat : Int)] 5)
                  have hne : w6.heap.size ≠ (w6.alloc (.cells #[] 5)).heap.size := by simp
                  generalize (w6.alloc (.cells #[] 5)).alloc (.cells #[.int .u8 (x.toNat : Int)] 5) = w1' at hr6 hb2 ho0 ⊢
                  generalize (w6.alloc (.cells #[] 5)).heap.size = g6 at hr6 hne ⊢
                  refine held_one 4 rfl (by kernel_rfl) (by rfl) ?_
                  refine wp_append_row (.tmp 108) (.tmp 111) rfl w6.heap.size _ 0 [] (by rfl) ho0 p at1 c Xh (by rfl) Hlh2.out (HXh.out.next hb2) (by omega) hb2.size ?_
                  intro v4 w7 o4 g4
                  rw [Nat.zero_add, List.nil_append] at o4
                  refine ⟨trivial, ?_⟩
                  simp only [Act.put, List.setIfInBounds_toArray, List.set_cons_zero, List.set_cons_succ]
                  have B8 := Lib.hid (hb2.grown g4 hb2.size (fun j hj => (ho0.lt j hj).1))
                  have R6 := Lib.hid (hr6.kept g4 (fun ad e e2 => by cases e; simp [Value.ownBlock] at e2; exact hne e2))
                  have O4 := Lib.hid o4
                  clear g4 hb1 hb2 ho0 hr6 o4 hne
                  refine held_one 7 rfl (by kernel_rfl) (by rfl) ?_
                  refine wp_append_row (.tmp 112) (.tmp 114) rfl w6.heap.size v4 at1 _ (by rfl) O4.out (some ⟨g6, 0, none⟩) 1 1 [x] (by rfl) rfl R6.out (by omega) B8.out.size ?_
                  intro v5 w9 o5 g5
                  refine ⟨trivial, ?_⟩
                  simp only [Act.put, List.setIfInBounds_toArray, List.set_cons_zero, List.set_cons_succ]
                  have B9 := Lib.hid (B8.out.grown g5 B8.out.size (fun j hj => (O4.out.lt j hj).1))
                  have O5 := Lib.hid o5
                  clear o5 g5 O4 R6 B8
                  refine held_one 11 rfl (by kernel_rfl) (by rfl) ?_
                  refine wp_append_row (.tmp 115) (.tmp 118) rfl w6.heap.size v5 (at1 + 1) _ (by rfl) O5.out pt (q - at1) (c - at1) Xt (by rfl) Hlt2.out (HXt.out.next B9.out) (by omega) B9.out.size ?_
                  intro v6 w10 o6 g6'
                  refine ⟨trivial, ?_⟩
                  simp only [Act.put, List.setIfInBounds_toArray, List.set_cons_zero, List.set_cons_succ]
                  have B10 := Lib.hid (hbd.trans ((B9.out.grown g6' B9.out.size (fun j hj => (O5.out.lt j hj).1)).mono hbd.size))
                  rw [← Lib.byteCells_append, ← Lib.byteCells_append, show at1 + 1 + (q - at1) = q + 1 by omega] at o6
                  obtain ⟨p6, c6, rfl, r6⟩ := rowAt_own Hli.out o6
                  have R10 := Lib.hid r6
                  clear o6 g6' r6 O5 B9
                  refine held_take 12 (v := ?_) rfl (by kernel_rfl) (by kernel_rfl) (by kernel_rfl) (fun _ _ _ h => h) (by assumption) (by rfl) ?_ ?_
                  rotate_left
                  · (intro W hW; go_simp; try with_reducible rfl)
                  simp only [Act.put, List.setIfInBounds_toArray, List.set_cons_zero, List.set_cons_succ]
                  refine held_done (by kernel_rfl) ?_
                  go_wp2
                  go_roundw
                  case rel => exact ⟨k + 1, p6, c6, q + 1, Xh ++ [x] ++ Xt, by omega, by go_num, rfl, by omega, ⟨Hli.out, Hlf.out, R10.out⟩, B10.out⟩
                  case measure => simp [intOf]; omega
              · refine wp_value (v := .slice (some ⟨w6.heap.size, 0, none⟩) 1 1) (w' := w6.alloc (.cells #[.int .u8 (x.toNat : Int)] 5)) (by go_simp) ⟨trivial, ?_⟩
                simp only [Act.put, List.setIfInBounds_toArray, List.set_cons_zero, List.set_cons_succ]
                have hr6 := rowAt_built w6 [x] 1 #[.int .u8 (x.toNat : Int)] rfl rfl (by omega) (0, 0)
                have hb1 : Below w6.heap.size w6 (w6.alloc (.cells #[.int .u8 (x.toNat : Int)] 5)) := (Below.refl _ _).alloc (Nat.le_refl _) _
                generalize hg6 : w6.alloc (.cells #[.int .u8 (x.toNat : Int)] 5) = w1' at hr6 hb1 ⊢
                clear hg6
                refine held_one 0 rfl (by kernel_rfl) (by rfl) ?_
                refine wp_value (v := .slice (some ⟨w1'.heap.size, 0, none⟩) 0 0) (w' := w1'.alloc (.cells #[] 5)) (by go_simp) ⟨trivial, ?_⟩
                simp only [Act.put, List.setIfInBounds_toArray, List.set_cons_zero, List.set_cons_succ]
                have ho0 := own_mono (owns_empty w1') hb1.size
                have hb2 := hb1.alloc hb1.size (.cells #[] 5)
                have hr7 := hr6.next ((Below.refl _ w1').alloc (Nat.le_refl _) (.cells #[] 5))
                have hlt6 : w6.heap.size < w1'.heap.size := World.block_lt_of_cell? w1' _ (hr6.cell _ rfl 0 _ rfl)
                refine held_one 4 rfl (by kernel_rfl) (by rfl) ?_
                refine wp_append_row (.tmp 108) (.tmp 111) rfl w6.heap.size _ 0 [] (by rfl) ho0 p at1 c Xh (by rfl) Hlh2.out (HXh.out.next hb2) (by omega) hb2.size ?_
                intro v4 w7 o4 g4
                rw [Nat.zero_add, List.nil_append] at o4
                refine ⟨trivial, ?_⟩
                simp only [Act.put, List.setIfInBounds_toArray, List.set_cons_zero, List.set_cons_succ]
                have B8 := Lib.hid (hb2.grown g4 hb2.size (fun j hj => (ho0.lt j hj).1))
                have R6 := Lib.hid (hr7.kept g4 (fun ad e e2 => by cases e; simp [Value.ownBlock] at e2; omega))
                have O4 := Lib.hid o4
                obtain ⟨g6, hg6⟩ : ∃ g6, g6 = w6.heap.size := ⟨_, rfl⟩
                have R6' := R6.out
                rw [← hg6] at R6'
                clear R6
                have R6 := Lib.hid R6'
                clear g4 hb1 hb2 ho0 hr6 hr7 o4 R6' hlt6
                refine held_one 7 rfl (by kernel_rfl) (by rfl) ?_
                refine wp_append_row (.tmp 112) (.tmp 114) rfl w6.heap.size v4 at1 _ (by rfl) O4.out (some ⟨g6, 0, none⟩) 1 1 [x] (by rw [hg6]; rfl) rfl R6.out (by omega) B8.out.size ?_
                intro v5 w9 o5 g5
                refine ⟨trivial, ?_⟩
                simp only [Act.put, List.setIfInBounds_toArray, List.set_cons_zero, List.set_cons_succ]
                have B9 := Lib.hid (B8.out.grown g5 B8.out.size (fun j hj => (O4.out.lt j hj).1))
                have O5 := Lib.hid o5
                clear o5 g5 O4 R6 B8
                refine held_one 11 rfl (by kernel_rfl) (by rfl) ?_
                refine wp_append_row (.tmp 115) (.tmp 118) rfl w6.heap.size v5 (at1 + 1) _ (by rfl) O5.out pt (q - at1) (c - at1) Xt (by rfl) Hlt2.out (HXt.out.next B9.out) (by omega) B9.out.size ?_
                intro v6 w10 o6 g6'
                refine ⟨trivial, ?_⟩
                simp only [Act.put, List.setIfInBounds_toArray, List.set_cons_zero, List.set_cons_succ]
                have B10 := Lib.hid (hbd.trans ((B9.out.grown g6' B9.out.size (fun j hj => (O5.out.lt j hj).1)).mono hbd.size))
                rw [← Lib.byteCells_append, ← Lib.byteCells_append, show at1 + 1 + (q - at1) = q + 1 by omega] at o6
                obtain ⟨p6, c6, rfl, r6⟩ := rowAt_own Hli.out o6
                have R10 := Lib.hid r6
                clear o6 g6' r6 O5 B9
                refine held_take 12 (v := ?_) rfl (by kernel_rfl) (by kernel_rfl) (by kernel_rfl) (fun _ _ _ h => h) (by assumption) (by rfl) ?_ ?_
                rotate_left
                · (intro W hW; go_simp; try with_reducible rfl)
                simp only [Act.put, List.setIfInBounds_toArray, List.set_cons_zero, List.set_cons_succ]
                refine held_done (by kernel_rfl) ?_
                go_wp2
                go_roundw
                case rel => exact ⟨k + 1, p6, c6, q + 1, Xh ++ [x] ++ Xt, by omega, by go_num, rfl, by omega, ⟨Hli.out, Hlf.out, R10.out⟩, B10.out⟩
                case measure => simp [intOf]; omega
        · by_cases hlt : k < nw
          · have hl0 : ll = 0 := by omega
            have i1 : (k : Int) < (nw : Int) := by omega
            have i2 : (ll : Int) = 0 := by omega
            go_wp2_with fail
            refine (C12g.out _ _ _ _ _ HX.out.1 (by omega) HX.out.2.1 HX.out.2.2).mono ?_
            rintro e w7 ⟨p7, c7, rfl, r7, b7⟩
            have k1 : (convert 22 9 (.slice p7 n c7)).run Try.prog w7 = .ok (.string ⟨xs.toArray⟩) w7 := conv_row Hn.out r7
            have k2 : (convert 22 9 (.slice a n cap)).run Try.prog w7 = .ok (.string ⟨xs.toArray⟩) w7 := conv_row Hn.out ((H5.out.next hbw).next b7)
            generalize (⟨xs.toArray⟩ : ByteArray) = Sx at k1 k2
            have B7 := Lib.hid (Below.chain (Below.chain B5.out hbw) b7)
            clear r7 b7
            go_wp2
            go_ret
            exact ⟨rfl, B7.out⟩
          · have i1 : ¬ (k : Int) < (nw : Int) := by omega
            go_wp2_with fail
            refine (C12g.out _ _ _ _ _ HX.out.1 (by omega) HX.out.2.1 HX.out.2.2).mono ?_
            rintro e w7 ⟨p7, c7, rfl, r7, b7⟩
            have k1 : (convert 22 9 (.slice p7 n c7)).run Try.prog w7 = .ok (.string ⟨xs.toArray⟩) w7 := conv_row Hn.out r7
            have k2 : (convert 22 9 (.slice a n cap)).run Try.prog w7 = .ok (.string ⟨xs.toArray⟩) w7 := conv_row Hn.out ((H5.out.next hbw).next b7)
            generalize (⟨xs.toArray⟩ : ByteArray) = Sx at k1 k2
            have B7 := Lib.hid (Below.chain (Below.chain B5.out hbw) b7)
            clear r7 b7
            go_wp2
            go_ret
            exact ⟨rfl, B7.out⟩

theorem back_walk (m f : Nat) (a aw : Option Addr) (cap cw : Nat) (xs : List UInt8) (zs : List Nat) (w : World) (hm : m < 4294967296) (hf : f < 4294967296) (hzs : ∀ z ∈ zs, z < 65536) (h : RowAt w a cap xs) (hw : WordsAt w aw zs) :
    Calls Try.prog 4 #[.slice a xs.length cap, .int .u32 (m : Int), .int .u32 (f : Int), .slice aw zs.length cw] w fun e w' => e = .returned (.bool true) ∧ Below w.heap.size w w' := by
  by_cases hg : (1000 : Int) < (xs.length : Int)
  · exact back_long m f a aw cap _ cw _ w (.inl hg)
  · by_cases hg2 : (100 : Int) < (zs.length : Int)
    · exact back_long m f a aw cap _ cw _ w (.inr ⟨hg, hg2⟩)
    · exact back_short m f a aw cap cw xs zs _ _ w hm hf rfl rfl hzs h hw hg hg2
end Go.Proofs.Ytecdnolchpfbmaa
