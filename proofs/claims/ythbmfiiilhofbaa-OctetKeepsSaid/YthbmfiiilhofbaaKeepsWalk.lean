/- OctetKeeps: the walk. -/
import Derived.Test.YthbmfiiilhofbaaWe
namespace Go.Proofs.Ythbmfiiilhofbaa
open Go.RowKit

theorem ownsRow_below {w w' : World} {base B : Nat} {e : TypeId} {size : Nat} {v : Value} {n : Nat} {xs : List Value} (h : w.ownsRow base e size v n xs) (hb : Below B w w') (hB : ∀ g, v.ownBlock = some g → g < B) : w'.ownsRow base e size v n xs := by
  obtain ⟨h1, h2⟩ := h
  refine ⟨h1, ?_⟩
  rcases h2 with h2 | ⟨g, cap, cur, a, b, c, d⟩
  · exact .inl h2
  · exact .inr ⟨g, cap, cur, a, b, by rw [hb.block g (hB g (by rw [a]; rfl))]; exact c, d⟩
theorem ownsRow_next {w w' : World} {base : Nat} {e : TypeId} {size : Nat} {v : Value} {n : Nat} {xs : List Value} (h : w.ownsRow base e size v n xs) (hb : Below w.heap.size w w') : w'.ownsRow base e size v n xs :=
  ownsRow_below h hb fun g hg => (h.lt g hg).2
theorem keeps_drewN {w : World} {a : Option Addr} {c : Nat} {xs : List UInt8} (h : RowAt w a c xs) (n : Nat) : RowAt (w.drewN n) a c xs := h.next ((Below.refl _ _).trans ⟨rfl, rfl, rfl, Nat.le_refl _, fun _ _ => rfl⟩)
theorem keeps_below {B : Nat} {a w : World} (h : Below B a w) (n : Nat) : Below B a (w.drewN n) := h.trans ⟨rfl, rfl, rfl, Nat.le_refl _, fun _ _ => rfl⟩

theorem parts_two {w : World} {p : Option Addr} {c n : Nat} {ys : List UInt8} (hn : ys.length = n) (h : RowAt w p c ys) : PartsAt (w.alloc (.cells #[.slice p n c, .slice p n c] 24)) (some ⟨w.heap.size, 0, none⟩) [ys, ys] := by
  subst hn
  refine .inr ⟨w.heap.size, 0, rfl, by simp, fun j hj => ?_⟩
  have h2 : j = 0 ∨ j = 1 := by simp at hj; omega
  have hr := h.next ((Below.refl _ _).alloc (Nat.le_refl _) (.cells #[.slice p ys.length c, .slice p ys.length c] 24))
  rcases h2 with rfl | rfl
  · exact ⟨p, c, by simp only [World.cell?, heap_alloc_new]; rfl, hr⟩
  · exact ⟨p, c, by simp only [World.cell?, heap_alloc_new]; rfl, hr⟩

/-- Cut from the beginning. -/
theorem cut_zero (a : Option Addr) (cap : Nat) (xs : List UInt8) (t : Nat) (w : World) (hm : xs.length ≤ 100000) (ht : t ≤ xs.length) (h : RowAt w a cap xs) :
    Calls Try.prog 16 #[.slice a xs.length cap, .int .i64 0, .int .i64 (t : Int)] w fun e w' => ∃ v, e = .returned (.tuple #[v, .bool true]) ∧ w'.ownsRow w.heap.size 5 1 v t (Lib.byteCells (xs.take t)) ∧ Below w.heap.size w w' := by
  have h0 := cut_good a cap xs 0 t w hm (by omega) h
  rw [List.drop_zero] at h0
  exact h0
theorem behind_nat (a : Option Addr) (cap : Nat) (xs : List UInt8) (t : Nat) (w : World) (hm : xs.length ≤ 100000) (h : RowAt w a cap xs) :
    Calls Try.prog 18 #[.slice a xs.length cap, .int .i64 (t : Int)] w fun e w' => ∃ v, e = .returned v ∧ w'.ownsRow w.heap.size 5 1 v (xs.length - t) (Lib.byteCells (xs.drop t)) ∧ Below w.heap.size w w' := by
  have h0 := behind_at a cap xs t w hm h
  rw [Int.toNat_natCast, List.length_drop] at h0
  exact h0
theorem join_one (a : Option Addr) (cap : Nat) (xs : List UInt8) (w : World) (hm : xs.length ≤ 50000) (h : RowAt w a cap xs) :
    Calls Try.prog 20 #[.slice (some ⟨w.heap.size, 0, none⟩) 1 1] (w.alloc (.cells #[.slice a xs.length cap] 24)) fun e w' => ∃ v, e = .returned v ∧ w'.ownsRow w.heap.size 5 1 v xs.length (Lib.byteCells xs) ∧ Below w.heap.size w w' := by
  refine (join_at _ 1 1 [xs] xs _ rfl (by simp) (by simp) (by omega) (parts_one rfl h)).mono ?_
  rintro e w' ⟨v, rfl, o1, b1⟩
  exact ⟨v, rfl, ownsRow_lower o1 (by simp), below_alloc b1⟩
theorem join_two (a : Option Addr) (cap : Nat) (xs : List UInt8) (w : World) (hm : xs.length ≤ 50000) (h : RowAt w a cap xs) :
    Calls Try.prog 20 #[.slice (some ⟨w.heap.size, 0, none⟩) 2 2] (w.alloc (.cells #[.slice a xs.length cap, .slice a xs.length cap] 24)) fun e w' => ∃ v, e = .returned v ∧ w'.ownsRow w.heap.size 5 1 v (xs ++ xs).length (Lib.byteCells (xs ++ xs)) ∧ Below w.heap.size w w' := by
  refine (join_at _ 2 2 [xs, xs] (xs ++ xs) _ rfl (by simp) (by simp) (by simp; omega) (parts_two rfl h)).mono ?_
  rintro e w' ⟨v, rfl, o1, b1⟩
  exact ⟨v, rfl, ownsRow_lower o1 (by simp), below_alloc b1⟩

theorem RowAt.head {w : World} {a : Option Addr} {c : Nat} {xs : List UInt8} (h : RowAt w a c xs) (r : Nat) (hr : r ≤ xs.length) : RowAt w a c (xs.take r) := by
  refine ⟨by have := h.le; simp; omega, h.max, h.nil, fun ad e j u hu => h.cell ad e j u ?_⟩
  have hj : j < r := by
    have := (List.getElem?_eq_some_iff.1 hu).1
    rw [Lib.byteCells_length] at this
    simp at this
    omega
  simp only [Lib.byteCells, List.getElem?_map, List.getElem?_take, if_pos hj] at hu ⊢
  exact hu

/-- A slice of one's own stays when another one is written. -/
theorem row_kept {w w0 w' : World} {B B5 n m : Nat} {v v5 : Value} {xs ys : List UInt8} (hn : xs.length = n) (h : w.ownsRow B 5 1 v n (Lib.byteCells xs)) (h5 : w0.ownsRow B5 5 1 v5 m (Lib.byteCells ys)) (hB : w0.heap.size ≤ B) (hg : w.grownBy w' v5.ownBlock) :
    ∃ a c, v = .slice a n c ∧ RowAt w' a c xs := by
  refine rowAt_own hn (h.kept hg ?_)
  cases hv : v.ownBlock with
  | none => exact .inl rfl
  | some k =>
    right
    intro e
    have h1 := (h.lt k hv).1
    have h2 := (h5.lt k e.symm).2
    omega
theorem grownBy_trans {a b c : World} {r : Option Nat} (h : a.grownBy b r) (k : b.grownBy c r) : a.grownBy c r :=
  ⟨k.os.trans h.os, k.tape.trans h.tape, k.output.trans h.output, Nat.le_trans h.size k.size, fun i hi hr => (k.block i (Nat.lt_of_lt_of_le hi h.size) hr).trans (h.block i hi hr)⟩

set_option maxHeartbeats 4000000 in
set_option maxRecDepth 100000 in
theorem keeps_main (a : Option Addr) (cap : Nat) (xs : List UInt8) (n : Nat) (w : World) (h : RowAt w a cap xs) (hn : n < 256) (hg : ¬ (1000 : Int) < (xs.length : Int)) :
    Calls Try.prog 8 #[.slice a xs.length cap, .int .u8 (n : Int)] w fun e w' => e = .returned (.bool true) ∧ Below w.heap.size w w' := by
  have hle := h.le
  have hmx := h.max
  unfold maxLen at hmx
  have H := Lib.hid h
  clear h
  have hx : xs.length ≤ 1000 := by omega
  obtain ⟨t, ht⟩ : ∃ t, t = n % (xs.length + 1) := ⟨_, rfl⟩
  have htl : t ≤ xs.length := by have := Nat.mod_lt n (show 0 < xs.length + 1 by omega); omega
  have hrem : (n : Int) % ((xs.length : Int) + 1) = (t : Int) := by rw [ht]; simp
  have hnz : (((xs.length : Int) + 1) == 0) = false := by simp; omega
  clear ht
  go_enter Try.func8, Try.ntmps8
  go_wp2_with fail
  refine (awake_any _).mono ?_
  rintro e w1 ⟨rfl, b1⟩
  have H1 := Lib.hid (H.out.next b1)
  go_wp2_with (at_builtin; refine wpList_append_row rfl _ _ rfl w1.heap.size _ 0 [] rfl (World.ownsRow_made w1 #[] 0 (Nat.le_refl _) (Nat.zero_le _) rfl) a xs.length cap xs rfl rfl (H1.out.next ((Below.refl _ _).alloc (Nat.le_refl _) _)) (by omega) (by simp) ?_; intro v5 w5 o5 g5; rw [Nat.zero_add, List.nil_append] at o5; obtain ⟨a5, c5, rfl, r5⟩ := rowAt_own rfl o5)
  have b5 : Below w1.heap.size w1 w5 := Below.grown ((Below.refl _ _).alloc (Nat.le_refl _) _) g5 (by simp) (fun j hj => ((World.ownsRow_made (base := w1.heap.size) (e := 5) (size := 1) w1 #[] 0 (Nat.le_refl _) (Nat.zero_le _) rfl).lt j hj).1)
  have b05 := Below.chain b1 b5
  have s1 := b1.size
  have R5 := Lib.hid r5
  have O5 := Lib.hid o5
  clear r5 o5 g5 b5 b1 H1
  refine (cut_zero a5 c5 xs t _ (by omega) htl R5.out).mono ?_
  rintro e w6 ⟨v6, rfl, o6, b6⟩
  have O6 := Lib.hid o6
  clear o6
  have s6 := b6.size
  go_wp2_with fail
  refine (behind_nat a5 c5 xs t _ (by omega) (R5.out.next b6)).mono ?_
  rintro e w7 ⟨v7, rfl, o7, b7⟩
  have O7 := Lib.hid o7
  clear o7
  have s7 := b7.size
  have b57 := Below.chain b6 b7
  go_wp2_with fail
  refine (join_one a5 c5 xs _ (by omega) (R5.out.next b57)).mono ?_
  rintro e w8 ⟨v8, rfl, o8, b8⟩
  have O8 := Lib.hid o8
  clear o8
  have s8 := b8.size
  have b58 := Below.chain b57 b8
  go_wp2_with fail
  refine (join_two a5 c5 xs _ (by omega) (R5.out.next b58)).mono ?_
  rintro e w9 ⟨v9, rfl, o9, b9⟩
  have O9 := Lib.hid o9
  clear o9
  have b59 := Below.chain b58 b9
  have b09 := Below.chain b05 b59
  have O5w := Lib.hid (ownsRow_next O5.out b59)
  have O6w := Lib.hid (ownsRow_next (ownsRow_next (ownsRow_next O6.out b7) b8) b9)
  have O7w := Lib.hid (ownsRow_next (ownsRow_next O7.out b8) b9)
  have O8w := Lib.hid (ownsRow_next O8.out b9)
  have hcv5 := conv_row rfl (R5.out.next b59)
  have hcva := conv_row rfl (H.out.next b09)
  clear b6 b7 b8 b9 b57 b58 O6 O7 O8 R5
  go_wp2_with fail
  clear hcv5 hcva
  go_loopw [12] (fun i wr => ∃ (k : Nat) (ys : List UInt8), k ≤ xs.length ∧ i = .int .i64 (k : Int) ∧ ys.length = xs.length ∧ wr.ownsRow w1.heap.size 5 1 (.slice a5 xs.length c5) xs.length (Lib.byteCells ys) ∧ w9.grownBy wr (Value.slice a5 xs.length c5).ownBlock ∧ Below w1.heap.size w9 wr) (fun i _ => xs.length - (intOf i).toNat)
  case atStart => exact ⟨0, xs, Nat.zero_le _, rfl, rfl, O5w.out, ⟨rfl, rfl, rfl, Nat.le_refl _, fun _ _ _ => rfl⟩, Below.refl _ _⟩
  case round =>
    obtain ⟨k, ys, hk, rfl, hyl, hown, hgr, hbw⟩ := hrel
    by_cases hlt : (k : Int) < (xs.length : Int)
    · have hk' : k < xs.length := by omega
      rcases hown.2 with ⟨hv, h0⟩ | ⟨g, c', cur, hv, hB, _, _, _, _, _⟩
      · omega
      · simp only [Value.slice.injEq, true_and] at hv
        obtain ⟨rfl, rfl⟩ := hv
        have hcell := hown.cellAt k (by omega)
        have hfz := hown.frozenAt k
        have hyk : (Lib.byteCells ys)[k]? = some (.int .u8 ((ys[k]'(by omega)).toNat : Int)) := by simp [Lib.byteCells, hyl, hk']
        rw [hyk] at hcell
        clear hyk
        obtain ⟨y, hy⟩ : ∃ y, y = ys[k]'(by omega) := ⟨_, rfl⟩
        rw [← hy] at hcell
        have hy255 := y.toNat_lt
        clear hy
        have hst := hown.stored k (.int .u8 ((y + 1).toNat : Int))
        rw [← cells_set] at hst
        have Hst := Lib.hid hst
        have hvy : ((y + 1).toNat : Int) = ((y.toNat : Int) + 1) % 256 := by simp
        have Hvy := Lib.hid hvy
        clear hst hvy
        go_wp2
        go_roundw
        case rel => exact ⟨k + 1, ys.set k (y + 1), by omega, by go_num, by simpa using hyl, by rw [← Hvy.out]; exact Hst.out.1, by rw [← Hvy.out]; exact grownBy_trans hgr Hst.out.2, by rw [← Hvy.out]; exact hbw.setCell hB _⟩
        case measure => simp [intOf]; omega
    · have hkl : k = xs.length := by omega
      subst hkl
      have b0r : Below w.heap.size w wr := b09.trans (hbw.mono s1)
      have htk : (xs.take t).length = t := by simp; omega
      have hdk : (xs.drop t).length = xs.length - t := by simp
      obtain ⟨a6, c6, rfl, r6⟩ := row_kept htk O6w.out O5.out (Nat.le_refl _) hgr
      obtain ⟨a7, c7, rfl, r7⟩ := row_kept hdk O7w.out O5.out s6 hgr
      obtain ⟨a8, c8, rfl, r8⟩ := row_kept rfl O8w.out O5.out (Nat.le_trans s6 s7) hgr
      obtain ⟨a9, c9, rfl, r9⟩ := row_kept (n := (xs ++ xs).length) rfl O9.out O5.out (Nat.le_trans s6 (Nat.le_trans s7 s8)) hgr
      have rb := H.out.next b0r
      have rh := rb.head t htl
      have rt := rb.cut t xs.length htl (Nat.le_refl _)
      rw [List.take_length] at rt
      clear O5 O5w O6w O7w O8w O9 hown hgr hbw b09 b05 b59
      by_cases hcl : cap = t
      · rw [if_pos hcl, hcl, Nat.sub_self] at rt
        have hdz : (xs.drop t).length = 0 := by simp; omega
        clear hdk
        have hdk := hdz
        subst hcl
        have ht2 : (cap : Int) ≤ (xs.length : Int) := by omega
        obtain ⟨Sx, hSx⟩ : ∃ S : ByteArray, S = ⟨(xs.take cap).toArray⟩ := ⟨_, rfl⟩
        obtain ⟨Sy, hSy⟩ : ∃ S : ByteArray, S = ⟨(xs.drop cap).toArray⟩ := ⟨_, rfl⟩
        obtain ⟨Sb, hSb⟩ : ∃ S : ByteArray, S = ⟨xs.toArray⟩ := ⟨_, rfl⟩
        have zb : Sb.size ≤ 1000 := by rw [hSb]; show xs.toArray.size ≤ 1000; simpa using hx
        have e9 : (⟨(xs ++ xs).toArray⟩ : ByteArray) = Sb ++ Sb := by rw [hSb]; apply ByteArray.ext; simp
        have hcx := fun m => conv_row htk (keeps_drewN r6 m)
        have hcy := fun m => conv_row hdk (keeps_drewN r7 m)
        have hcz := fun m => conv_row rfl (keeps_drewN r8 m)
        have hcw := fun m => conv_row (n := xs.length + xs.length) List.length_append (keeps_drewN r9 m)
        have hb1 := fun m => conv_row htk (keeps_drewN rh m)
        have hb2 := fun m => conv_row hdz (keeps_drewN rt m)
        have hb3 := fun m => conv_row rfl (keeps_drewN rb m)
        rw [← hSx] at hcx hb1
        rw [← hSy] at hcy hb2
        rw [← hSb] at hcz hb3
        rw [e9] at hcw
        clear r6 r7 r8 r9 rh rt rb hSx hSy hSb e9
        go_wp2_with fail
        go_quiet (fail)
        go_wp2
        go_ret
        exact ⟨rfl, keeps_below b0r _⟩
      · rw [if_neg hcl] at rt
        have ht2 : (t : Int) ≤ (xs.length : Int) := by omega
        have ht1 : (t : Int) ≤ (cap : Int) := by omega
        obtain ⟨Sx, hSx⟩ : ∃ S : ByteArray, S = ⟨(xs.take t).toArray⟩ := ⟨_, rfl⟩
        obtain ⟨Sy, hSy⟩ : ∃ S : ByteArray, S = ⟨(xs.drop t).toArray⟩ := ⟨_, rfl⟩
        obtain ⟨Sb, hSb⟩ : ∃ S : ByteArray, S = ⟨xs.toArray⟩ := ⟨_, rfl⟩
        have zb : Sb.size ≤ 1000 := by rw [hSb]; show xs.toArray.size ≤ 1000; simpa using hx
        have e9 : (⟨(xs ++ xs).toArray⟩ : ByteArray) = Sb ++ Sb := by rw [hSb]; apply ByteArray.ext; simp
        have hcx := fun m => conv_row htk (keeps_drewN r6 m)
        have hcy := fun m => conv_row hdk (keeps_drewN r7 m)
        have hcz := fun m => conv_row rfl (keeps_drewN r8 m)
        have hcw := fun m => conv_row (n := xs.length + xs.length) List.length_append (keeps_drewN r9 m)
        have hb1 := fun m => conv_row htk (keeps_drewN rh m)
        have hb2 := fun m => conv_row hdk (keeps_drewN rt m)
        have hb3 := fun m => conv_row rfl (keeps_drewN rb m)
        rw [← hSx] at hcx hb1
        rw [← hSy] at hcy hb2
        rw [← hSb] at hcz hb3
        rw [e9] at hcw
        clear r6 r7 r8 r9 rh rt rb hSx hSy hSb e9
        go_wp2_with fail
        go_quiet (fail)
        go_wp2
        go_ret
        exact ⟨rfl, keeps_below b0r _⟩

theorem keeps_walk (a : Option Addr) (cap : Nat) (xs : List UInt8) (n : Nat) (w : World) (h : RowAt w a cap xs) (hn : n < 256) :
    Calls Try.prog 8 #[.slice a xs.length cap, .int .u8 (n : Int)] w fun e w' => e = .returned (.bool true) ∧ Below w.heap.size w w' := by
  by_cases hg : (1000 : Int) < (xs.length : Int)
  · have hle := h.le
    have hmx := h.max
    unfold maxLen at hmx
    clear h
    go_enter Try.func8, Try.ntmps8
    go_wp2_with fail
    refine (awake_any _).mono ?_
    rintro e w1 ⟨rfl, b1⟩
    go_wp2_with fail
    refine (awake_any _).mono ?_
    rintro e w2 ⟨rfl, b2⟩
    go_wp2_with fail
    go_ret
    exact ⟨rfl, Below.chain b1 b2⟩
  · exact keeps_main a cap xs n w h hn hg
end Go.Proofs.Ythbmfiiilhofbaa
