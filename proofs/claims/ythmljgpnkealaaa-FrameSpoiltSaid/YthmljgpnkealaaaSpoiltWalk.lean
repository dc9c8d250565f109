/- FrameSpoilt: the walk. -/
import Derived.Test.YthmljgpnkealaaaBackWalk
import Derived.Test.YthmljgpnkealaaaSp
namespace Go.Proofs.Ythmljgpnkealaaa
open Go.RowKit

theorem own_ne {w : World} {B B' n n' : Nat} {v v' : Value} {xs xs' : List Value} (h5 : w.ownsRow B 5 1 v n xs) (h26 : w.ownsRow B' 26 1 v' n' xs') (k : Nat) (e : v.ownBlock = some k) : v'.ownBlock ≠ some k := by
  intro e'
  rcases h5.2 with ⟨rfl, _⟩ | ⟨g, cap, cur, rfl, _, hg, _⟩
  · cases e
  · rcases h26.2 with ⟨rfl, _⟩ | ⟨g', cap', cur', rfl, _, hg', _⟩
    · cases e'
    · simp only [Value.ownBlock, Option.some.injEq] at e e'
      rw [e] at hg
      rw [e', hg] at hg'
      simp at hg'
theorem Lst.row {w : World} {B : Nat} {E : Nat → Prop} {v : Value} {L : List (List UInt8)} (h : Lst w B E v L) : ∃ vs, w.ownsRow B 26 1 v L.length vs := by
  obtain ⟨vs, ho, _⟩ := h
  exact ⟨vs, ho⟩
theorem Lst.grown {w w' : World} {B : Nat} {E : Nat → Prop} {v : Value} {L : List (List UInt8)} {row : Option Nat} (h : Lst w B E v L) (hg : w.grownBy w' row) (h1 : ∀ k, row = some k → v.ownBlock ≠ some k) (h2 : ∀ k, row = some k → ¬ E k) : Lst w' B E v L := by
  obtain ⟨vs, ho, he⟩ := h
  refine ⟨vs, ho.kept hg ?_, fun j hj => ?_⟩
  · cases hv2 : v.ownBlock with
    | none => exact .inl rfl
    | some k => exact .inr fun e => h1 k e.symm hv2
  · obtain ⟨p, c, e1, e2, e3⟩ := he j hj
    exact ⟨p, c, e1, e2.kept hg (fun ad e r => h2 _ r (e3 ad e).2.2), fun ad e => ⟨Nat.lt_of_lt_of_le (e3 ad e).1 hg.size, (e3 ad e).2⟩⟩
theorem own_kept2 {w w' : World} {B n : Nat} {v : Value} {xs : List Value} {row : Option Nat} (h : w.ownsRow B 5 1 v n xs) (hg : w.grownBy w' row) (h1 : ∀ k, v.ownBlock = some k → row ≠ some k) : w'.ownsRow B 5 1 v n xs := by
  refine h.kept hg ?_
  cases hv2 : v.ownBlock with
  | none => exact .inl rfl
  | some k => exact .inr fun e => h1 k hv2 e.symm

theorem owns_empty (w : World) : (w.alloc (.cells #[] 5)).ownsRow w.heap.size 5 1 (.slice (some ⟨w.heap.size, 0, none⟩) 0 0) 0 [] := World.ownsRow_made w #[] 0 (Nat.le_refl _) (Nat.zero_le _) rfl

/-- A body of one's own, its first two bytes to be turned. -/
theorem bad_at {w4 : World} {B q t : Nat} {v4 : Value} {x : List UInt8} {x0 x1 y0 y1 : UInt8} (o4 : w4.ownsRow B 5 1 v4 q (Lib.byteCells x)) (hq : x.length = q) (hq2 : 2 ≤ q) (hc0 : (Lib.byteCells x)[0]? = some (.int .u8 (x0.toNat : Int))) (hc1 : (Lib.byteCells x)[1]? = some (.int .u8 (x1.toNat : Int))) (ht : Fr.trn t x = (x.set 0 y0).set 1 y1) :
    ∃ g c, v4 = .slice (some ⟨g, 0, none⟩) q c ∧ B ≤ g ∧ w4.cell? ⟨g, 0, none⟩ = some (.int .u8 (x0.toNat : Int)) ∧ w4.frozen? ⟨g, 0, none⟩ = false ∧ (w4.setCell ⟨g, 0, none⟩ (.int .u8 (y0.toNat : Int))).cell? ⟨g, 1, none⟩ = some (.int .u8 (x1.toNat : Int)) ∧ (w4.setCell ⟨g, 0, none⟩ (.int .u8 (y0.toNat : Int))).frozen? ⟨g, 1, none⟩ = false ∧
      ((w4.setCell ⟨g, 0, none⟩ (.int .u8 (y0.toNat : Int))).setCell ⟨g, 1, none⟩ (.int .u8 (y1.toNat : Int))).ownsRow B 5 1 (.slice (some ⟨g, 0, none⟩) q c) q (Lib.byteCells (Fr.trn t x)) := by
  obtain ⟨g5, c5, rfl, hg5, _, hc5, r5⟩ := own_some o4 (by omega) hq
  have st0 := o4.stored 0 (.int .u8 (y0.toNat : Int))
  have d0 := o4.cellAt 0 (by omega)
  rw [hc0] at d0
  have e0 := o4.frozenAt 0
  have d1 := st0.1.cellAt 1 (by omega)
  rw [List.getElem?_set_ne (by decide), hc1] at d1
  have e1 := st0.1.frozenAt 1
  have st1 := st0.1.stored 1 (.int .u8 (y1.toNat : Int))
  rw [← cells_set, ← cells_set, ← ht] at st1
  exact ⟨g5, c5, rfl, hg5, d0, e0, d1, e1, st1.1⟩

set_option maxRecDepth 100000 in
set_option maxHeartbeats 4000000 in
theorem spoilt_n (m : Nat) (wide : Bool) (a : Option Addr) (cap n : Nat) (L : List (List UInt8)) (at_ z : Nat) (w : World) (hn : L.length = n) (hm : m < 4294967296) (hat : at_ < 256) (hz : z < 65536) (h : PartsAt w a L) :
    Calls Try.prog 6 #[.slice a n cap, .int .u32 (m : Int), .bool wide, .int .u8 (at_ : Int), .int .u16 (z : Int)] w fun e w' => e = .returned (.bool true) ∧ Below w.heap.size w w' := by
  have Hn := Lib.hid hn
  have H := Lib.hid h
  clear hn h
  go_enter Try.func6, Try.ntmps6
  go_wp2_with fail
  refine (awake_any _).mono ?_
  rintro e w1 ⟨rfl, b1⟩
  have H1 := Lib.hid (H.out.next b1)
  go_wp2_with fail
  refine (few_any a cap n L _ Hn.out H1.out).mono ?_
  rintro e w2 ⟨⟨r, rfl, hr⟩, h2⟩
  rw [h2]
  clear h2
  cases r with
  | false =>
    clear hr
    go_wp2_with fail
    refine (awake_any _).mono ?_
    rintro e w3 ⟨rfl, b3⟩
    go_wp2
    go_ret
    exact ⟨rfl, Below.chain b1 b3⟩
  | true =>
    obtain ⟨h50, h70⟩ := hr rfl
    clear hr
    have B1 := Lib.hid b1
    have HF := Lib.hid h70
    clear b1 h70
    by_cases hn0 : n = 0
    · have i0 : (n : Int) = 0 := by omega
      clear hn0
      go_wp2_with fail
      refine (awake_any _).mono ?_
      rintro e w3 ⟨rfl, b3⟩
      go_wp2
      go_ret
      exact ⟨rfl, Below.chain B1.out b3⟩
    · have i0 : ¬ (n : Int) = 0 := by omega
      by_cases hz0' : z = 0
      · have iz : (z : Int) = 0 := by omega
        clear hz0' hn0
        go_wp2_with fail
        refine (awake_any _).mono ?_
        rintro e w3 ⟨rfl, b3⟩
        go_wp2
        go_ret
        exact ⟨rfl, Below.chain B1.out b3⟩
      · have iz : ¬ (z : Int) = 0 := by omega
        obtain ⟨k, hk⟩ : ∃ k, k = at_ % n := ⟨_, rfl⟩
        have ht1 : Int.tmod (at_ : Int) (n : Int) = (k : Int) := by rw [hk]; rfl
        have ht2 : (at_ : Int) % (n : Int) = (k : Int) := by rw [hk]; simp
        have hkn : k < n := by rw [hk]; exact Nat.mod_lt _ (by omega)
        have je : ((n : Int) == 0) = false := by simpa using i0
        have jz : ((z : Int) == 0) = false := by simpa using iz
        clear hk
        go_wp2_with fail
        go_loopw [12, 13, 14] (fun vb vr i wr => ∃ j : Nat, j ≤ n ∧ i = .int .i64 (j : Int) ∧ Hid (Fr.err (L.take j) = 0) ∧ wr.ownsRow w1.heap.size 5 1 vb (Fr.sp m wide z k L j).length (Lib.byteCells (Fr.sp m wide z k L j)) ∧ Lst wr w1.heap.size (fun x => x < w1.heap.size) vr (Fr.rs k L j) ∧ Below w1.heap.size w1 wr) (fun _ _ i _ => n - (intOf i).toNat)
        case atStart => exact ⟨0, Nat.zero_le _, rfl, rfl, World.ownsRow_nil _ _ _ _, lst_none _ _ _, Below.refl _ _⟩
        case round =>
          obtain ⟨j, hj, rfl, He, hown, hls, hbw⟩ := hrel
          by_cases hlt : (j : Int) < (n : Int)
          · have hj' : j < L.length := by rw [Hn.out]; omega
            obtain ⟨b, off, p, c, rfl, hcell1, hrow1⟩ := PartsAt.at H1.out j hj'
            have het := Fr.err_take L j hj' He.out
            have hsp1 := fun hk => Fr.sp_at m wide z k L j hj' hk
            have hsp2 := fun hk => Fr.sp_not m wide z k L j hj' hk
            have hrs2 := fun hk => Fr.rs_not k L j hj' hk
            have hrs1 := fun hk => Fr.rs_at k L j hk
            have hln := Fr.sp_len m wide z k L j (by omega)
            have hrl := Fr.rs_len k L j
            have hf1 := flat_le L j
            have hf2 := flat_le L (j + 1)
            rw [flat_step L j hj', List.length_append] at hf2
            have hf3 := HF.out
            obtain ⟨x, hx⟩ : ∃ x, x = L[j] := ⟨_, rfl⟩
            rw [← hx] at hcell1 hrow1 het hf2
            simp only [← hx] at hsp1 hsp2 hrs2
            clear hx hj'
            obtain ⟨q, hq⟩ : ∃ q, x.length = q := ⟨_, rfl⟩
            rw [hq] at hcell1
            have hblk := World.block_lt_of_cell? _ _ hcell1
            have hcell := hcell1
            rw [← hbw.cell hblk] at hcell
            have hrow := hrow1.next hbw
            have hpu := put_any m wide p c q x wr hq hm (by omega) hrow
            by_cases hz1 : Fr.fault x = 0
            · have hz2' := (Fr.fault_zero x).1 hz1
              rw [Fr.row_one m wide x hz1] at hpu
              have hplt : ∀ ad, p = some ad → ad.block < w1.heap.size := by
                rcases hrow1.lt with h0 | h0
                · rw [h0] at hz2'; simp at hz2'
                · exact h0
              obtain ⟨G, hG⟩ : ∃ G, G = Fr.sp m wide z k L j := ⟨_, rfl⟩
              rw [← hG] at hown hln
              simp only [← hG] at hsp1 hsp2
              obtain ⟨lg, hlg⟩ : ∃ lg, G.length = lg := ⟨_, rfl⟩
              rw [hlg] at hown hln
              have hl3 : lg ≤ 200000 := by omega
              obtain ⟨Rj, hRj⟩ : ∃ Rj, Rj = Fr.rs k L j := ⟨_, rfl⟩
              rw [← hRj] at hls hrl hrs1
              simp only [← hRj] at hrs2
              have hRl : Rj.length + 1 ≤ 1000000 := by rw [hrl]; split <;> omega
              have hfrl := Fr.fr_length m wide x
              have hszz := Fr.size_two wide
              obtain ⟨Y, hY⟩ : ∃ Y, Y = 126 :: Fr.fr m wide x := ⟨_, rfl⟩
              obtain ⟨ly, hly⟩ : ∃ ly, Y.length = ly := ⟨_, rfl⟩
              have hl4 : ly ≤ 200000 := by rw [← hly, hY, List.length_cons]; omega
              rw [← hY] at hpu
              have Het := Lib.hid (het.trans hz1)
              have Hpu := Lib.hid hpu
              have Hly := Lib.hid hly
              have Hlg := Lib.hid hlg
              have HY := Lib.hid hY
              have Ho := Lib.hid hown
              have Hls := Lib.hid hls
              have Hrow1 := Lib.hid hrow1
              have Hq := Lib.hid hq
              obtain ⟨av, cv, rfl⟩ := own_slice hown
              obtain ⟨ar, cr, rfl⟩ := lst_slice hls
              clear hpu het hz1 hrow hln hrl hf1 hf2 hf3 hG hRj hfrl hszz hY hly hlg hown hls hrow1 hq
              go_wp2_with fail
              refine Hpu.out.mono ?_
              intro e w3 h3
              obtain ⟨p3, c3, rfl, r3, b3⟩ := h3.row Hly.out
              have O3 := Lib.hid (ownsRow_next Ho.out b3)
              have L3 := Lib.hid (Hls.out.next b3)
              have R3 := Lib.hid r3
              have B3 := Lib.hid (hbw.trans (b3.mono hbw.size))
              have hs3 := B3.out.size
              have hcell3 := hcell1
              rw [← B3.out.cell hblk] at hcell3
              clear h3 r3 b3 Ho Hls Hpu hcell
              by_cases hjk : j = k
              · have hs' := Lib.hid (hsp1 hjk)
                have hr' := Lib.hid (hrs1 hjk)
                clear hsp1 hsp2 hrs1 hrs2
                subst hjk
                have hcell3a : ∀ o, (w3.alloc o).cell? ⟨b, off + j, none⟩ = some (.slice p q c) := fun o => by rw [World.cell?_alloc_lt _ _ _ (World.block_lt_of_cell? _ _ hcell3)]; exact hcell3
                have hrow3 := Lib.hid (Hrow1.out.next B3.out)
                have h0x : 0 < x.length := by omega
                have h1x : 1 < x.length := by omega
                have htrn := Fr.trn_set z x hz2'.1
                obtain ⟨x0, hx0⟩ : ∃ x0, x0 = x[0] := ⟨_, rfl⟩
                obtain ⟨x1, hx1⟩ : ∃ x1, x1 = x[1] := ⟨_, rfl⟩
                rw [← hx0, ← hx1] at htrn
                have hc0 : (Lib.byteCells x)[0]? = some (.int .u8 (x0.toNat : Int)) := by rw [hx0]; simp [Lib.byteCells, h0x]
                have hc1 : (Lib.byteCells x)[1]? = some (.int .u8 (x1.toNat : Int)) := by rw [hx1]; simp [Lib.byteCells, h1x]
                have hb0 := Fc.xor8 x0.toNat (z % 256) x0.toNat_lt (Nat.mod_lt _ (by omega))
                have hb1 := Fc.xor8 x1.toNat (z / 256) x1.toNat_lt (by omega)
                rw [show x0.toNat ^^^ z % 256 = (x0 ^^^ UInt8.ofNat z).toNat by rw [UInt8.toNat_xor]; simp] at hb0
                rw [show x1.toNat ^^^ z / 256 = (x1 ^^^ UInt8.ofNat (z / 256)).toNat by rw [UInt8.toNat_xor, show (UInt8.ofNat (z / 256)).toNat = z / 256 by simp; omega]] at hb1
                generalize x0 ^^^ UInt8.ofNat z = y0 at htrn hb0
                generalize x1 ^^^ UInt8.ofNat (z / 256) = y1 at htrn hb1
                have iz1 : ((z % 256 : Nat) : Int) = (z : Int) % 256 := rfl
                have iz2 : ((z / 256 : Nat) : Int) = (z : Int) / 256 := rfl
                rw [iz1] at hb0
                rw [iz2] at hb1
                have iz3 : (z : Int) / 256 % 256 = (z : Int) / 256 := by omega
                have Htrn := Lib.hid htrn
                have Hc0 := Lib.hid hc0
                have Hc1 := Lib.hid hc1
                have hq2 : 2 ≤ q := by have := Hq.out; omega
                have iq0 : (0 : Int) < (q : Int) := by omega
                have iq1 : (1 : Int) < (q : Int) := by omega
                clear hx0 hx1 htrn hc0 hc1 h0x h1x iz1 iz2
                go_wp2_with (at_builtin; refine wpList_append_row rfl (.tmp 78) (.tmp 82) rfl w3.heap.size _ 0 [] rfl (owns_empty w3) p q c x rfl Hq.out (hrow3.out.next ((Below.refl _ _).alloc (Nat.le_refl _) _)) (by have := Hq.out; omega) (by simp) ?_; intro v4 w4 o4 g4; rw [Nat.zero_add, List.nil_append] at o4; have b34 := Lib.hid (Below.grown ((Below.refl w3.heap.size w3).alloc (Nat.le_refl _) _) g4 (by simp) (fun j hj => ((owns_empty w3).lt j hj).1)); obtain ⟨g5, c5, rfl, hg5, d0, e0, d1, e1, st1⟩ := bad_at o4 Hq.out hq2 Hc0.out Hc1.out Htrn.out; have ST1 := Lib.hid st1; clear st1 o4 g4 hcell3a)
                have b36 := Lib.hid ((b34.out.setCell (p := ⟨g5, 0, none⟩) hg5 (.int .u8 (y0.toNat : Int))).setCell (p := ⟨g5, 1, none⟩) hg5 (.int .u8 (y1.toNat : Int)))
                generalize (w4.setCell ⟨g5, 0, none⟩ (.int .u8 (y0.toNat : Int))).setCell ⟨g5, 1, none⟩ (.int .u8 (y1.toNat : Int)) = w6 at b36 ST1 ⊢
                have hX2l := Fr.trn_len z x
                have hne : Y = 126 :: Fr.fr m wide (Fr.trn z x) → False := by
                  intro e
                  rw [HY.out] at e
                  have e2 := Fr.fr_inj m wide hm _ _ (List.cons.inj e).2 hX2l.symm
                  exact Fr.trn_ne z x wide hz2'.1 hz hz0' e2.symm
                have hfz : Fr.fault (Fr.trn z x) = 0 := by rw [Fr.fault_zero, hX2l]; exact hz2'
                have hpl := fun (W : World) (h1 : RowAt W p c x) (h2 : RowAt W (some ⟨g5, 0, none⟩) c5 (Fr.trn z x)) => spliced_any m wide p (some ⟨g5, 0, none⟩) q c c5 x (Fr.trn z x) W (Fr.spl m wide x (Fr.trn z x)).length Hq.out (by rw [hX2l]; exact Hq.out) hm (by have := Hq.out; omega) h1 h2 rfl
                have hspl := Fr.spl_len m wide x (Fr.trn z x)
                have hro := Fr.row_one m wide (Fr.trn z x) hfz
                generalize Fr.spl m wide x (Fr.trn z x) = Z at hpl hspl hs'
                rw [Hq.out] at hX2l
                have hX2l' := hX2l
                generalize Fr.trn z x = X2 at ST1 hne hpl hro hX2l hX2l' Htrn
                obtain ⟨a6, c6, he6, r6⟩ := rowAt_own hX2l ST1.out
                simp only [Value.slice.injEq, true_and] at he6
                obtain ⟨rfl, rfl⟩ := he6
                have hpu2 := put_any m wide (some ⟨g5, 0, none⟩) c5 q X2 w6 hX2l hm (by have := Hq.out; omega) r6
                rw [hro] at hpu2
                obtain ⟨Y2, hY2⟩ : ∃ Y2, Y2 = 126 :: Fr.fr m wide X2 := ⟨_, rfl⟩
                rw [← hY2] at hpu2 hne
                obtain ⟨l2, hl2⟩ : ∃ l2, Y2.length = l2 := ⟨_, rfl⟩
                obtain ⟨lz, hlz⟩ : ∃ lz, Z.length = lz := ⟨_, rfl⟩
                rw [hlz] at hpl hspl
                have hrr := fun (W : World) (h : RowAt W p c x) => refRow_any m wide _ 1 1 [x] _ rfl hm (by omega) (by simp; have := Hq.out; omega) (parts_one Hq.out h)
                rw [Fr.row_one m wide x ((Fr.fault_zero x).2 hz2'), ← HY.out] at hrr
                have Hpu2 := Lib.hid hpu2
                have Hpl := Lib.hid hpl
                have Hrr := Lib.hid hrr
                have Hl2 := Lib.hid hl2
                have Hlz := Lib.hid hlz
                have R6 := Lib.hid r6
                have he1 : ¬ Y2 = Y := fun e => hne e.symm
                have he2 : (Y2 == Y) = false := by simpa using he1
                have hlz3 : lz ≤ 200000 := by have := Hq.out; omega
                clear hne hfz hpl hspl hro hX2l hX2l' r6 hpu2 hrr hl2 hlz hY2 d0 d1 e0 e1 hb0 hb1
                refine Hpu2.out.mono ?_
                intro e w7 h7
                obtain ⟨p7, c7, rfl, r7, b7⟩ := h7.row Hl2.out
                have b37 := Lib.hid (Below.chain b36.out b7)
                have B7 := Lib.hid (B3.out.trans (b37.out.mono hs3))
                have hcell7 := hcell1
                rw [← B7.out.cell hblk] at hcell7
                have R7 := Lib.hid r7
                have S7 := Lib.hid (R6.out.next b7)
                clear h7 r7 b7 Hpu2 hcell3 R6 ST1
                go_wp2_with fail
                refine (Hrr.out _ (Hrow1.out.next B7.out)).mono ?_
                intro e w8 h8
                obtain ⟨p8, c8, rfl, r8, b8⟩ := h8.row Hly.out
                have b78 := below_alloc b8
                have b38 := Lib.hid (Below.chain b37.out b78)
                have B8 := Lib.hid (B3.out.trans (b38.out.mono hs3))
                have hcell8 := hcell1
                rw [← B8.out.cell hblk] at hcell8
                have S8 := Lib.hid (S7.out.next b78)
                have k1 : (convert 26 9 (.slice p7 l2 c7)).run Try.prog w8 = .ok (.string ⟨Y2.toArray⟩) w8 := conv_row Hl2.out (R7.out.next b78)
                have k2 : (convert 26 9 (.slice p8 ly c8)).run Try.prog w8 = .ok (.string ⟨Y.toArray⟩) w8 := conv_row Hly.out r8
                clear h8 r8 b8 b78 b37 B7 hcell7 R7 S7 Hrr
                go_wp2_with fail
                refine (Hpl.out _ (Hrow1.out.next B8.out) S8.out).mono ?_
                rintro e w9 ⟨p9, c9, rfl, r9, b9⟩
                have b39 := Lib.hid (Below.chain b38.out b9)
                have B9 := Lib.hid (B3.out.trans (b39.out.mono hs3))
                have O9 := Lib.hid (ownsRow_next O3.out b39.out)
                have L9 := Lib.hid (L3.out.next b39.out)
                have R9 := Lib.hid r9
                have hs9 := B9.out.size
                clear r9 b9 b38 B8 S8 k1 k2 hcell8 Hpl O3 L3
                go_wp2_with (at_builtin; refine wpList_append_row rfl (.tmp 130) (.tmp 131) rfl w1.heap.size (.slice av lg cv) lg (Lib.byteCells G) rfl O9.out p9 lz c9 Z rfl Hlz.out R9.out (by omega) hs9 ?_; intro v10 w10 o10 g10; have b10 := Lib.hid (Below.grown B9.out g10 hs9 (fun j hj => (O9.out.lt j hj).1)); have L10 := Lib.hid (L9.out.grown g10 (fun k' e => by obtain ⟨vs, ho⟩ := L9.out.row; exact own_ne O9.out ho k' e) (fun k' e => by have := (O9.out.lt k' e).1; omega)); have O10 := Lib.hid o10; clear g10 o10)
                have O11 : w10.ownsRow w1.heap.size 5 1 v10 (Fr.sp m wide z j L (j + 1)).length (Lib.byteCells (Fr.sp m wide z j L (j + 1))) := by
                  rw [hs'.out, List.length_append, Hlg.out, Hlz.out, Lib.byteCells_append]; exact O10.out
                have L11 : Lst w10 w1.heap.size (fun x => x < w1.heap.size) (.slice ar Rj.length cr) (Fr.rs j L (j + 1)) := by rw [hr'.out]; exact L10.out
                have HO11 := Lib.hid O11
                have HL11 := Lib.hid L11
                clear O11 L11 O10 L10
                go_roundw
                case rel => exact ⟨j + 1, by omega, by go_num, Het.out, HO11.out, HL11.out, b10.out⟩
                case measure => simp [intOf]; omega
              · have ijk : ¬ (j : Int) = (k : Int) := by omega
                have hs' := Lib.hid (hsp2 hjk)
                have hr' := Lib.hid (hrs2 hjk)
                clear hsp1 hsp2 hrs1 hrs2 hjk
                go_wp2_with (first
                  | (at_builtin; refine wpList_append_row rfl (.tmp 68) (.tmp 69) rfl w1.heap.size (.slice av lg cv) lg (Lib.byteCells G) rfl O3.out p3 ly c3 Y rfl Hly.out R3.out (by omega) hs3 ?_; intro v4 w4 o4 g4; have b4 := Lib.hid (Below.grown B3.out g4 hs3 (fun j hj => (O3.out.lt j hj).1)); have L4 := Lib.hid (L3.out.grown g4 (fun k' e => by obtain ⟨vs, ho⟩ := L3.out.row; exact own_ne O3.out ho k' e) (fun k' e => by have := (O3.out.lt k' e).1; omega)); have O4 := Lib.hid o4; have hs4 := b4.out.size; have hcell4 := hcell1; rw [← b4.out.cell hblk] at hcell4; have hit4 := Lib.hid (litems_one (E := fun x => x < w1.heap.size) (v := .slice ar Rj.length cr) Hq.out (Hrow1.out.next b4.out) (fun ad e => ⟨by have := hplt ad e; omega, fun e2 => by have := (L4.out.lt _ e2).1; have := hplt ad e; omega, hplt ad e⟩)); clear g4 o4 hcell3)
                  | (at_builtin; refine wpList_append_lst rfl (.tmp 71) (.tmp 76) rfl w1.heap.size (fun x => x < w1.heap.size) (.slice ar Rj.length cr) (.slice (some ⟨w4.heap.size, 0, none⟩) 1 1) Rj [x] rfl rfl (L4.out.next ((Below.refl _ _).alloc (Nat.le_refl _) _)) hit4.out (by simp; omega) hRl ?_; intro v5 w5 o5 g5 b5))
                have B5 : Below w1.heap.size w1 w5 := Below.grown (b4.out.alloc hs4 _) g5 (by simp; omega) b5
                have O5 : w5.ownsRow w1.heap.size 5 1 v4 (Fr.sp m wide z k L (j + 1)).length (Lib.byteCells (Fr.sp m wide z k L (j + 1))) := by
                  rw [hs'.out, ← HY.out, List.length_append, Hlg.out, Hly.out, Lib.byteCells_append]
                  refine own_kept2 (O4.out.alloc _) g5 (fun k' e e2 => ?_)
                  obtain ⟨vs, ho⟩ := L4.out.row
                  exact own_ne O4.out ho k' e e2
                have L5 : Lst w5 w1.heap.size (fun x => x < w1.heap.size) v5 (Fr.rs k L (j + 1)) := by rw [hr'.out]; exact o5
                have HO5 := Lib.hid O5
                have HL5 := Lib.hid L5
                clear O5 L5 o5 g5 b5
                go_roundw
                case rel => exact ⟨j + 1, by omega, by go_num, Het.out, HO5.out, HL5.out, B5⟩
                case measure => simp [intOf]; omega
            · have hf4 := Fr.fault_le x
              rw [Fr.row_none m wide x hz1] at hpu
              generalize Fr.fault x = er at hz1 hpu hf4
              have ie : ¬ (er : Int) = 0 := by omega
              have Hpu := Lib.hid hpu
              clear hpu hz1 hown hls het hsp1 hsp2 hrs1 hrs2 hln hrl hf1 hf2 hf3 hrow hrow1
              go_wp2_with fail
              refine Hpu.out.mono ?_
              intro e w3 h3
              obtain ⟨p3, c3, rfl, r3, b3⟩ := h3.row (q := 0) rfl
              have B3 := Lib.hid (Below.chain B1.out (hbw.trans (b3.mono hbw.size)))
              clear h3 r3 b3 Hpu hcell
              go_wp2
              go_ret
              exact ⟨rfl, B3.out⟩
          · have hjn : j = n := by omega
            subst hjn
            have hks : L.take j = L := List.take_of_length_le (by rw [Hn.out]; exact Nat.le_refl _)
            rw [hks] at He
            obtain ⟨⟨bb, hr1⟩, hr2, hr3⟩ := Fr.run_sp m wide hm z k hz hz0' L (Fr.err_zero L He.out) j (by rw [Hn.out]; exact Nat.le_refl _)
            have hrt : (Fr.run m wide Fr.init (Fr.sp m wide z k L j)).tal = ⟨(Fr.rs k L j).length, 0, 0, 0, 1⟩ := by rw [hr1, if_pos hkn]
            have hln := Fr.sp_len m wide z k L j (by rw [Hn.out]; exact Nat.le_refl _)
            have hrl := Fr.rs_len k L j
            have hf1 := flat_le L j
            have hf3 := HF.out
            obtain ⟨lg, hlg⟩ : ∃ lg, (Fr.sp m wide z k L j).length = lg := ⟨_, rfl⟩
            rw [hlg] at hown hln
            obtain ⟨ag, cg, rfl, rg⟩ := rowAt_own hlg hown
            have hal := all_any m wide ag lg cg _ _ hlg (by omega) rg hm hr3
            rw [hr2, hrt] at hal
            have hR3 : (Fr.rs k L j).length ≤ 1000 := by rw [hrl]; split <;> omega
            generalize Fr.rs k L j = R at hls hal hR3
            obtain ⟨ar, cr, rfl, par⟩ := hls.parts
            have hsame := fun (W : World) (p : Option Addr) (c : Nat) (h1 : PartsAt W p R) (h2 : PartsAt W ar R) => same_any p ar c cr R.length R R W rfl rfl (by omega) h1 h2
            rw [show (R == R) = true by simp] at hsame
            have Hal := Lib.hid hal
            have Hsame := Lib.hid hsame
            have PR := Lib.hid par
            clear hown hls hks hr1 hr2 hr3 hrt hln hrl hf1 hf3 hlg rg hal hsame par
            go_wp2_with fail
            refine Hal.out.mono ?_
            rintro e w3 ⟨p3, c3, rfl, pa3, b3⟩
            have P3 := Lib.hid pa3
            have Q3 := Lib.hid (PR.out.next b3)
            have B3 := Lib.hid (Below.chain B1.out (hbw.trans (b3.mono hbw.size)))
            clear pa3 b3 Hal PR
            simp only [tcells]
            go_wp2_with fail
            refine (Hsame.out _ _ _ (P3.out.next ((Below.refl _ _).alloc (Nat.le_refl _) _)) (Q3.out.next ((Below.refl _ _).alloc (Nat.le_refl _) _))).mono ?_
            rintro e w4 ⟨rfl, b4⟩
            have T4 : w4.heap[w3.heap.size]? = some (.cells #[.int .i64 (R.length : Int), .int .i64 0, .int .i64 0, .int .i64 0, .int .i64 1] 40 (0, 0)) := by
              rw [b4.block _ (by simp)]; exact heap_alloc_new w3 _
            have t0 : w4.cell? ⟨w3.heap.size, 0, none⟩ = some (.int .i64 (R.length : Int)) := cell_of_row _ _ _ _ _ _ T4
            have t1 : w4.cell? ⟨w3.heap.size, 1, none⟩ = some (.int .i64 0) := cell_of_row _ _ _ _ _ _ T4
            have t2 : w4.cell? ⟨w3.heap.size, 2, none⟩ = some (.int .i64 0) := cell_of_row _ _ _ _ _ _ T4
            have t3 : w4.cell? ⟨w3.heap.size, 3, none⟩ = some (.int .i64 0) := cell_of_row _ _ _ _ _ _ T4
            have t4 : w4.cell? ⟨w3.heap.size, 4, none⟩ = some (.int .i64 1) := cell_of_row _ _ _ _ _ _ T4
            have B4 := Lib.hid (Below.chain B3.out (below_alloc b4))
            clear T4 b4 B3
            generalize w3.heap.size = T at t0 t1 t2 t3 t4 ⊢
            go_wp2
            go_ret
            exact ⟨rfl, B4.out⟩
theorem spoilt_walk (m : Nat) (wide : Bool) (a : Option Addr) (cap : Nat) (L : List (List UInt8)) (at_ z : Nat) (w : World) (hm : m < 4294967296) (hat : at_ < 256) (hz : z < 65536) (h : PartsAt w a L) :
    Calls Try.prog 6 #[.slice a L.length cap, .int .u32 (m : Int), .bool wide, .int .u8 (at_ : Int), .int .u16 (z : Int)] w fun e w' => e = .returned (.bool true) ∧ Below w.heap.size w w' := spoilt_n m wide a cap _ L at_ z w rfl hm hat hz h
end Go.Proofs.Ythmljgpnkealaaa
