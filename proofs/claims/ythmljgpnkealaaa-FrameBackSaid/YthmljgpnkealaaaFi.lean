/- Contracts of fault, Row and Put, and of the document's Few and Row. -/
import Derived.Test.YthmljgpnkealaaaFh
import Derived.Test.YthmljgpnkealaaaSd
namespace Go.Proofs.Ythmljgpnkealaaa
open Go.RowKit
namespace Fr
/-- What Row answers. -/
def rowOf (m : Nat) (wide : Bool) (L : List (List UInt8)) : List UInt8 × Nat := if err L = 0 then (126 :: frs m wide L, 0) else ([], err L)
theorem frs_len (m : Nat) (wide : Bool) (L : List (List UInt8)) : (frs m wide L).length ≤ 2 * L.flatten.length + 9 * L.length := by
  induction L with
  | nil => simp [frs]
  | cons b L ih =>
    have h1 := fr_length m wide b
    have h2 := size_two wide
    simp only [frs, List.flatMap_cons, List.flatten_cons, List.length_append, List.length_cons] at ih ⊢
    omega
theorem rowOf_ok (m : Nat) (wide : Bool) (L : List (List UInt8)) (h : err L = 0) : rowOf m wide L = (126 :: frs m wide L, 0) := if_pos h
theorem rowOf_bad (m : Nat) (wide : Bool) (L : List (List UInt8)) (h : err L ≠ 0) : rowOf m wide L = ([], err L) := if_neg h
theorem fault_short (b : List UInt8) (h : b.length < 2) : fault b = 1 := if_pos h
theorem fault_long (b : List UInt8) (h : ¬ b.length < 2) (h2 : 65535 < b.length) : fault b = 4 := by unfold fault; rw [if_neg h, if_pos h2]
theorem fault_none (b : List UInt8) (h : ¬ b.length < 2) (h2 : ¬ 65535 < b.length) : fault b = 0 := by unfold fault; rw [if_neg h, if_neg h2]
/-- As Few counts them. -/
def cnt (L : List (List UInt8)) : Nat := (L.map fun b => min b.length 100000).sum
theorem cnt_take (L : List (List UInt8)) (k : Nat) (h : k < L.length) : cnt (L.take (k + 1)) = cnt (L.take k) + min L[k].length 100000 := by
  unfold cnt
  rw [List.take_succ_eq_append_getElem h, List.map_append, List.sum_append]; simp
theorem cnt_le (L : List (List UInt8)) : cnt L ≤ 100000 * L.length := by
  induction L with
  | nil => simp [cnt]
  | cons b L ih => simp only [cnt, List.map_cons, List.sum_cons, List.length_cons] at ih ⊢; omega
theorem cnt_flat (L : List (List UInt8)) (h : cnt L ≤ 70000) : L.flatten.length ≤ 70000 := by
  have key : ∀ L : List (List UInt8), cnt L ≤ 70000 → L.flatten.length = cnt L := by
    intro L
    induction L with
    | nil => intro _; rfl
    | cons b L ih =>
      intro h
      simp only [cnt, List.map_cons, List.sum_cons, List.flatten_cons, List.length_append] at ih h ⊢
      have := ih (by omega)
      omega
  rw [key L h]; exact h
end Fr

theorem fault_any (a : Option Addr) (n cap : Nat) (xs : List UInt8) (w : World) (hn : xs.length = n) : Calls Try.prog 20 #[.slice a n cap] w fun e w' => e = .returned (.int .i64 (Fr.fault xs : Nat)) ∧ w' = w := by
  by_cases h1 : xs.length < 2
  · rw [Fr.fault_short xs h1]
    have i1 : (n : Int) < 2 := by omega
    clear h1 hn
    go_enter Try.func20, Try.ntmps20
    go_wp2
    go_ret
    exact ⟨rfl, rfl⟩
  · by_cases h2 : 65535 < xs.length
    · rw [Fr.fault_long xs h1 h2]
      have i1 : ¬ (n : Int) < 2 := by omega
      have i2 : 65535 < (n : Int) := by omega
      clear h1 h2 hn
      go_enter Try.func20, Try.ntmps20
      go_wp2
      go_ret
      exact ⟨rfl, rfl⟩
    · rw [Fr.fault_none xs h1 h2]
      have i1 : ¬ (n : Int) < 2 := by omega
      have i2 : ¬ 65535 < (n : Int) := by omega
      clear h1 h2 hn
      go_enter Try.func20, Try.ntmps20
      go_wp2
      go_ret
      exact ⟨rfl, rfl⟩

/-- What Row yields. -/
def RowRes (w w' : World) (e : Ending) (A : List UInt8 × Nat) : Prop :=
  ∃ v, e = .returned (.tuple #[v, .int .i64 (A.2 : Nat)]) ∧ w'.ownsRow w.heap.size 5 1 v A.1.length (Lib.byteCells A.1) ∧ Below w.heap.size w w'
theorem Fr.fault_le (b : List UInt8) : Fr.fault b ≤ 4 := by
  unfold Fr.fault
  split
  · omega
  · split <;> omega

set_option maxRecDepth 10000 in
set_option maxHeartbeats 2000000 in
theorem row_any (m : Nat) (wide : Bool) (a : Option Addr) (cap n : Nat) (L : List (List UInt8)) (w : World) (hn : L.length = n) (hm : m < 4294967296) (h100 : n ≤ 100) (hfl : L.flatten.length ≤ 100000) (h : PartsAt w a L) :
    Calls Try.prog 10 #[.slice a n cap, .int .u32 (m : Int), .bool wide] w fun e w' => RowRes w w' e (Fr.rowOf m wide L) := by
  obtain ⟨i0, hi, hz0, hz1, hz2⟩ := info_parts info5
  have Hn := Lib.hid hn
  have H := Lib.hid h
  have Hfl := Lib.hid hfl
  clear hn h hfl
  have h100' : (n : Int) ≤ 100 := by omega
  go_enter Try.func10, Try.ntmps10
  go_wp2
  go_loopw [8, 15] (fun v i wr => ∃ k : Nat, k ≤ n ∧ i = .int .i64 (k : Int) ∧ Hid (Fr.err (L.take k) = 0) ∧ wr.ownsRow w.heap.size 5 1 v (126 :: Fr.frs m wide (L.take k)).length (Lib.byteCells (126 :: Fr.frs m wide (L.take k))) ∧ Below w.heap.size w wr) (fun _ i _ => n - (intOf i).toNat)
  case atStart => exact ⟨0, Nat.zero_le _, rfl, rfl, owns_built w _ 5 _ (Nat.le_refl _), (Below.refl _ _).alloc (Nat.le_refl _) _⟩
  case round =>
    obtain ⟨k, hk, rfl, He, hown, hbw⟩ := hrel
    by_cases hlt : (k : Int) < (n : Int)
    · have hk' : k < L.length := by rw [Hn.out]; omega
      obtain ⟨b, off, p, c, rfl, hcell, hrow⟩ := PartsAt.at (H.out.next hbw) k hk'
      have het := Fr.err_take L k hk' He.out
      have hft := Fr.frs_take m wide L k hk'
      have hln := Fr.frs_len m wide (L.take k)
      have hf1 := flat_le L k
      have hf2 := flat_le L (k + 1)
      rw [flat_step L k hk', List.length_append] at hf2
      have hf3 := Hfl.out
      rw [List.length_take] at hln
      obtain ⟨x, hx⟩ : ∃ x, x = L[k] := ⟨_, rfl⟩
      rw [← hx] at hcell hrow het hft hf2
      clear hx hk'
      obtain ⟨F, hF⟩ : ∃ F, F = Fr.frs m wide (L.take k) := ⟨_, rfl⟩
      rw [← hF] at hown hft hln
      clear hF
      have hFl : F.length ≤ 300000 := by omega
      have hft2 : 126 :: Fr.frs m wide (L.take (k + 1)) = (126 :: F) ++ Fr.fr m wide x := by rw [hft]; rfl
      obtain ⟨G, hG⟩ : ∃ G, G = 126 :: F := ⟨_, rfl⟩
      obtain ⟨lg, hlg⟩ : ∃ lg, G.length = lg := ⟨_, rfl⟩
      have hL3 : lg ≤ 300001 := by rw [← hlg, hG]; simp; omega
      rw [← hG] at hown hft2
      rw [hlg] at hown
      clear hG hft
      have hxl : x.length ≤ 100000 := by omega
      obtain ⟨q, hq⟩ : ∃ q, x.length = q := ⟨_, rfl⟩
      rw [hq] at hcell
      have hfa := fault_any p q c x wr hq
      by_cases hz : Fr.fault x = 0
      · rw [hz] at hfa
        have hz2' := (Fr.fault_zero x).1 hz
        have hse := fun (W : World) (h : RowAt W p c x) => seal_row p q c x wide W hq (by omega) h
        have hsl := Fc.sealed_length x wide
        obtain ⟨y, hy⟩ : ∃ y, (Fc.sealed x wide).length = y := ⟨_, rfl⟩
        obtain ⟨z, hz'⟩ : ∃ z, (St.stuff m (Fc.sealed x wide)).length = z := ⟨_, rfl⟩
        have hst := fun (W : World) (p' : Option Addr) (c' : Nat) (h : RowAt W p' c' (Fc.sealed x wide)) => stuff_row c' m y z p' (Fc.sealed x wide) W hy hm (by have := Fr.size_two wide; omega) h hz'
        have hstl := (St.stuff_le m (Fc.sealed x wide)).2
        have hsz := Fr.size_two wide
        rw [hy] at hse hsl hstl
        rw [hz'] at hstl
        rw [Fr.fr] at hft2
        generalize St.stuff m (Fc.sealed x wide) = Z at hft2 hst hz'
        generalize Fc.sealed x wide = Y at hse hst hy
        have hZl : z ≤ 300000 := by omega
        have Hz' := Lib.hid hz'
        have Hse := Lib.hid hse
        have Hst := Lib.hid hst
        have Hft := Lib.hid hft2
        have Het := Lib.hid (het.trans hz)
        have Hrow := Lib.hid hrow
        have Hfa := Lib.hid hfa
        have Hown := Lib.hid hown
        obtain ⟨av, cv, rfl⟩ := own_slice hown
        clear hse hst hft2 het hrow hfa hown hz hz2' hstl hsl hsz hln hf1 hf2 hf3 hxl hz' hy
        go_wp2_with fail
        refine Hfa.out.mono ?_
        rintro e w1 ⟨rfl, h1⟩
        rw [h1]
        clear h1 Hfa
        go_wp2_with fail
        refine (Hse.out _ Hrow.out).mono ?_
        rintro e w2 ⟨p2, c2, rfl, r2, b2⟩
        go_wp2_with fail
        refine (Hst.out _ _ _ r2).mono ?_
        rintro e w3 ⟨p3, c3, rfl, r3, b3⟩
        have o3 := Lib.hid (ownsRow_next (ownsRow_next Hown.out b2) b3)
        have b03 := Lib.hid (hbw.trans ((Below.chain b2 b3).mono hbw.size))
        have R3 := Lib.hid r3
        have hs3 := b03.out.size
        clear r2 r3 b2 b3 Hown Hse Hst
        go_wp2_with (first
          | (at_builtin; refine wpList_append_row rfl (.tmp 24) (.tmp 29) rfl w.heap.size _ _ _ rfl o3.out p3 z c3 Z rfl Hz'.out R3.out (by omega) hs3 ?_; intro v4 w4 o4 g4; have b4 := Lib.hid (Below.grown b03.out g4 hs3 (fun j hj => (o3.out.lt j hj).1)); have hs4 := b4.out.size; have O4 := Lib.hid o4; clear g4 o4)
          | (at_builtin; refine wpList_append_own _ rfl _ _ 26 rfl w.heap.size 5 i0 (.int .u8 0) 1 1 Try.underlying26 hi hz0 hz1 hz2 rfl (by decide) _ _ _ rfl (O4.out.alloc _) ⟨w4.heap.size, 0, none⟩ 1 1 [.int .u8 126] rfl rfl (cell_one_new _ _ _) (fun u hu => by simp at hu; subst hu; rfl) (by unfold maxLen; omega) (by omega) (by simp; omega) ?_; intro v5 w5 o5 g5 _))
        have b5 : Below w.heap.size w w5 := Below.grown (b4.out.alloc hs4 _) g5 (by simp; omega) (fun j hj => (O4.out.lt j hj).1)
        have o6 : w5.ownsRow w.heap.size 5 1 v5 (126 :: Fr.frs m wide (L.take (k + 1))).length (Lib.byteCells (126 :: Fr.frs m wide (L.take (k + 1)))) := by
          rw [Hft.out, ← List.append_assoc, List.length_append, List.length_append, hlg, Hz'.out, Lib.byteCells_append, Lib.byteCells_append]; exact o5
        go_roundw
        case rel => exact ⟨k + 1, by omega, by go_num, Het.out, o6, b5⟩
        case measure => simp [intOf]; omega
      · have hro : Fr.rowOf m wide L = ([], Fr.fault x) := by
          have h1 := Fr.err_stop L (k + 1) (by rw [het]; exact hz)
          rw [Fr.rowOf_bad m wide L (by rw [h1, het]; exact hz), h1, het]
        have hf4 := Fr.fault_le x
        have Hro := Lib.hid hro
        generalize Fr.fault x = f at hz hfa Hro hf4
        have if0 : ¬ (f : Int) = 0 := by omega
        have Hfa := Lib.hid hfa
        clear hro hfa hz hown hrow het hft2 hln hf1 hf2 hf3
        go_wp2_with fail
        refine Hfa.out.mono ?_
        rintro e w1 ⟨rfl, h1⟩
        rw [h1]
        clear h1 Hfa
        go_wp2
        go_ret2
        rw [Hro.out]
        exact ⟨.slice none 0 0, rfl, World.ownsRow_nil _ _ _ _, hbw⟩
    · have hks : L.take k = L := List.take_of_length_le (by rw [Hn.out]; omega)
      rw [hks] at hown He
      have hro := Fr.rowOf_ok m wide L He.out
      have Hro := Lib.hid hro
      have Hown := Lib.hid hown
      clear hro hown hks
      go_wp2
      go_ret2
      rw [Hro.out]
      exact ⟨_, rfl, Hown.out, hbw⟩

theorem refStuff_row (cap m n q : Nat) (a : Option Addr) (xs : List UInt8) (w : World) (hn : xs.length = n) (hm : m < 4294967296) (hx : n ≤ 100000) (hr : RowAt w a cap xs) (hq : (St.stuff m xs).length = q) :
    Calls Try.prog 23 #[.slice a n cap, .int .u32 (m : Int)] w fun e w' => ∃ a' c', e = .returned (.slice a' q c') ∧ RowAt w' a' c' (St.stuff m xs) ∧ Below w.heap.size w w' := by
  refine (refStuff_own cap m n a xs w hn hm hx hr.bytes).mono ?_
  rintro e w' ⟨v, rfl, o, b⟩
  obtain ⟨a', c', rfl, r⟩ := rowAt_own rfl o
  exact ⟨a', c', by rw [hq], r, b⟩

theorem put_any (m : Nat) (wide : Bool) (a : Option Addr) (cap n : Nat) (b : List UInt8) (w : World) (hn : b.length = n) (hm : m < 4294967296) (hl : n ≤ 100000) (h : RowAt w a cap b) :
    Calls Try.prog 12 #[.slice a n cap, .int .u32 (m : Int), .bool wide] w fun e w' => RowRes w w' e (Fr.rowOf m wide [b]) := by
  have hr := Lib.hid (row_any m wide _ 1 1 [b] _ rfl hm (by omega) (by simp; omega) (parts_one hn h))
  clear h
  generalize Fr.rowOf m wide [b] = A at hr ⊢
  go_enter Try.func12, Try.ntmps12
  go_wp2_with fail
  refine hr.out.mono ?_
  rintro e w1 ⟨v, rfl, o1, b1⟩
  have O1 := Lib.hid o1
  clear o1
  go_wp2
  go_ret2
  exact ⟨v, rfl, ownsRow_lower O1.out (by simp), below_alloc b1⟩

set_option maxRecDepth 10000 in
set_option maxHeartbeats 2000000 in
theorem refRow_any (m : Nat) (wide : Bool) (a : Option Addr) (cap n : Nat) (L : List (List UInt8)) (w : World) (hn : L.length = n) (hm : m < 4294967296) (h100 : n ≤ 100) (hfl : L.flatten.length ≤ 100000) (h : PartsAt w a L) :
    Calls Try.prog 11 #[.slice a n cap, .int .u32 (m : Int), .bool wide] w fun e w' => RowRes w w' e (Fr.rowOf m wide L) := by
  obtain ⟨i0, hi, hz0, hz1, hz2⟩ := info_parts info5
  have Hn := Lib.hid hn
  have H := Lib.hid h
  have Hfl := Lib.hid hfl
  clear hn h hfl
  have h100' : (n : Int) ≤ 100 := by omega
  go_enter Try.func11, Try.ntmps11
  go_wp2
  go_loopw [8, 9] (fun v i wr => ∃ k : Nat, k ≤ n ∧ i = .int .i64 (k : Int) ∧ Hid (Fr.err (L.take k) = 0) ∧ wr.ownsRow w.heap.size 5 1 v (126 :: Fr.frs m wide (L.take k)).length (Lib.byteCells (126 :: Fr.frs m wide (L.take k))) ∧ Below w.heap.size w wr) (fun _ i _ => n - (intOf i).toNat)
  case atStart => exact ⟨0, Nat.zero_le _, rfl, rfl, owns_built w _ 5 _ (Nat.le_refl _), (Below.refl _ _).alloc (Nat.le_refl _) _⟩
  case round =>
    obtain ⟨k, hk, rfl, He, hown, hbw⟩ := hrel
    by_cases hlt : (k : Int) < (n : Int)
    · have hk' : k < L.length := by rw [Hn.out]; omega
      obtain ⟨b, off, p, c, rfl, hcell, hrow⟩ := PartsAt.at (H.out.next hbw) k hk'
      have het := Fr.err_take L k hk' He.out
      have hft := Fr.frs_take m wide L k hk'
      have hln := Fr.frs_len m wide (L.take k)
      have hf1 := flat_le L k
      have hf2 := flat_le L (k + 1)
      rw [flat_step L k hk', List.length_append] at hf2
      have hf3 := Hfl.out
      rw [List.length_take] at hln
      obtain ⟨x, hx⟩ : ∃ x, x = L[k] := ⟨_, rfl⟩
      rw [← hx] at hcell hrow het hft hf2
      clear hx hk'
      obtain ⟨F, hF⟩ : ∃ F, F = Fr.frs m wide (L.take k) := ⟨_, rfl⟩
      rw [← hF] at hown hft hln
      clear hF
      have hFl : F.length ≤ 300000 := by omega
      have hft2 : 126 :: Fr.frs m wide (L.take (k + 1)) = (126 :: F) ++ Fr.fr m wide x := by rw [hft]; rfl
      obtain ⟨G, hG⟩ : ∃ G, G = 126 :: F := ⟨_, rfl⟩
      obtain ⟨lg, hlg⟩ : ∃ lg, G.length = lg := ⟨_, rfl⟩
      have hL3 : lg ≤ 300001 := by rw [← hlg, hG]; simp; omega
      rw [← hG] at hown hft2
      rw [hlg] at hown
      clear hG hft
      have hxl : x.length ≤ 100000 := by omega
      obtain ⟨q, hq⟩ : ∃ q, x.length = q := ⟨_, rfl⟩
      rw [hq] at hcell
      by_cases hz : Fr.fault x = 0
      · have hz2' := (Fr.fault_zero x).1 hz
        have iq1 : ¬ (q : Int) < 2 := by omega
        have iq2 : ¬ 65535 < (q : Int) := by omega
        have hse := fun (W : World) (h : RowAt W p c x) => refSeal_row p q c x wide W hq (by omega) h
        have hsl := Fc.sealed_length x wide
        obtain ⟨y, hy⟩ : ∃ y, (Fc.sealed x wide).length = y := ⟨_, rfl⟩
        obtain ⟨z, hz'⟩ : ∃ z, (St.stuff m (Fc.sealed x wide)).length = z := ⟨_, rfl⟩
        have hst := fun (W : World) (p' : Option Addr) (c' : Nat) (h : RowAt W p' c' (Fc.sealed x wide)) => refStuff_row c' m y z p' (Fc.sealed x wide) W hy hm (by have := Fr.size_two wide; omega) h hz'
        have hstl := (St.stuff_le m (Fc.sealed x wide)).2
        have hsz := Fr.size_two wide
        rw [hy] at hse hsl hstl
        rw [hz'] at hstl
        rw [Fr.fr] at hft2
        generalize St.stuff m (Fc.sealed x wide) = Z at hft2 hst hz'
        generalize Fc.sealed x wide = Y at hse hst hy
        have hZl : z ≤ 300000 := by omega
        have Hz' := Lib.hid hz'
        have Hse := Lib.hid hse
        have Hst := Lib.hid hst
        have Hft := Lib.hid hft2
        have Het := Lib.hid (het.trans hz)
        have Hrow := Lib.hid hrow
        have Hown := Lib.hid hown
        obtain ⟨av, cv, rfl⟩ := own_slice hown
        clear hse hst hft2 het hrow hown hz hz2' hstl hsl hsz hln hf1 hf2 hf3 hxl hz' hy
        go_wp2_with fail
        refine (Hse.out _ Hrow.out).mono ?_
        rintro e w2 ⟨p2, c2, rfl, r2, b2⟩
        go_wp2_with fail
        refine (Hst.out _ _ _ r2).mono ?_
        rintro e w3 ⟨p3, c3, rfl, r3, b3⟩
        have o3 := Lib.hid (ownsRow_next (ownsRow_next Hown.out b2) b3)
        have b03 := Lib.hid (hbw.trans ((Below.chain b2 b3).mono hbw.size))
        have R3 := Lib.hid r3
        have hs3 := b03.out.size
        clear r2 r3 b2 b3 Hown Hse Hst
        go_wp2_with (first
          | (at_builtin; refine wpList_append_row rfl (.tmp 29) (.tmp 37) rfl w.heap.size _ _ _ rfl o3.out p3 z c3 Z rfl Hz'.out R3.out (by omega) hs3 ?_; intro v4 w4 o4 g4; have b4 := Lib.hid (Below.grown b03.out g4 hs3 (fun j hj => (o3.out.lt j hj).1)); have hs4 := b4.out.size; have O4 := Lib.hid o4; clear g4 o4)
          | (at_builtin; refine wpList_append_own _ rfl _ _ 26 rfl w.heap.size 5 i0 (.int .u8 0) 1 1 Try.underlying26 hi hz0 hz1 hz2 rfl (by decide) _ _ _ rfl (O4.out.alloc _) ⟨w4.heap.size, 0, none⟩ 1 1 [.int .u8 126] rfl rfl (cell_one_new _ _ _) (fun u hu => by simp at hu; subst hu; rfl) (by unfold maxLen; omega) (by omega) (by simp; omega) ?_; intro v5 w5 o5 g5 _))
        have b5 : Below w.heap.size w w5 := Below.grown (b4.out.alloc hs4 _) g5 (by simp; omega) (fun j hj => (O4.out.lt j hj).1)
        have o6 : w5.ownsRow w.heap.size 5 1 v5 (126 :: Fr.frs m wide (L.take (k + 1))).length (Lib.byteCells (126 :: Fr.frs m wide (L.take (k + 1)))) := by
          rw [Hft.out, ← List.append_assoc, List.length_append, List.length_append, hlg, Hz'.out, Lib.byteCells_append, Lib.byteCells_append]; exact o5
        go_roundw
        case rel => exact ⟨k + 1, by omega, by go_num, Het.out, o6, b5⟩
        case measure => simp [intOf]; omega
      · have hro : Fr.rowOf m wide L = ([], Fr.fault x) := by
          have h1 := Fr.err_stop L (k + 1) (by rw [het]; exact hz)
          rw [Fr.rowOf_bad m wide L (by rw [h1, het]; exact hz), h1, het]
        by_cases hx2 : x.length < 2
        · rw [Fr.fault_short x hx2] at hro
          have iq1 : (q : Int) < 2 := by omega
          have Hro := Lib.hid hro
          clear hro hz hown hrow het hft2 hln hf1 hf2 hf3 hx2
          go_wp2
          go_ret2
          rw [Hro.out]
          exact ⟨.slice none 0 0, rfl, World.ownsRow_nil _ _ _ _, hbw⟩
        · have hx3 : 65535 < x.length := by
            refine Nat.lt_of_not_le fun h => hz ((Fr.fault_zero x).2 ⟨by omega, h⟩)
          rw [Fr.fault_long x hx2 hx3] at hro
          have iq1 : ¬ (q : Int) < 2 := by omega
          have iq2 : 65535 < (q : Int) := by omega
          have Hro := Lib.hid hro
          clear hro hz hown hrow het hft2 hln hf1 hf2 hf3 hx2 hx3
          go_wp2
          go_ret2
          rw [Hro.out]
          exact ⟨.slice none 0 0, rfl, World.ownsRow_nil _ _ _ _, hbw⟩
    · have hks : L.take k = L := List.take_of_length_le (by rw [Hn.out]; omega)
      rw [hks] at hown He
      have hro := Fr.rowOf_ok m wide L He.out
      have Hro := Lib.hid hro
      have Hown := Lib.hid hown
      clear hro hown hks
      go_wp2
      go_ret2
      rw [Hro.out]
      exact ⟨_, rfl, Hown.out, hbw⟩

/-- What Few yields. -/
def FewAt (e : Ending) (n : Nat) (L : List (List UInt8)) : Prop := ∃ r : Bool, e = .returned (.bool r) ∧ (r = true → n ≤ 50 ∧ L.flatten.length ≤ 70000)
theorem few_any (a : Option Addr) (cap n : Nat) (L : List (List UInt8)) (w : World) (hn : L.length = n) (h : PartsAt w a L) :
    Calls Try.prog 9 #[.slice a n cap] w fun e w' => FewAt e n L ∧ w' = w := by
  have Hn := Lib.hid hn
  have H := Lib.hid h
  clear hn h
  go_enter Try.func9, Try.ntmps9
  go_wp2
  go_loop [3, 4] (fun v i => ∃ k : Nat, k ≤ n ∧ k ≤ 100 ∧ i = .int .i64 (k : Int) ∧ v = .int .i64 (Fr.cnt (L.take k) : Nat)) (fun _ i => 100 - (intOf i).toNat)
  case atStart => exact ⟨0, Nat.zero_le _, by omega, rfl, rfl⟩
  case round =>
    obtain ⟨k, hk, hk1, rfl, rfl⟩ := hrel
    have hcl := Fr.cnt_le (L.take k)
    rw [List.length_take] at hcl
    by_cases hlt : (k : Int) < (n : Int)
    · by_cases hlt2 : (k : Int) < 100
      · have hk' : k < L.length := by rw [Hn.out]; omega
        obtain ⟨b, off, p, c, rfl, hcell, hrow⟩ := PartsAt.at H.out k hk'
        clear hrow
        have hst := Fr.cnt_take L k hk'
        obtain ⟨q, hq⟩ : ∃ q, q = L[k].length := ⟨_, rfl⟩
        rw [← hq] at hcell hst
        generalize Fr.cnt (L.take k) = C at hst hcl ⊢
        have hC : C ≤ 10000000 := by omega
        have hC' : (C : Int) ≤ 10000000 := by omega
        clear hq hk' hcl
        by_cases hm : q ≤ 100000
        · have i1 : (q : Int) ≤ 100000 := by omega
          rw [Nat.min_eq_left hm] at hst
          have Hst := Lib.hid hst
          clear hst hm
          go_wp2
          go_round
          case rel => exact ⟨k + 1, by omega, by omega, by go_num, by rw [Hst.out]; go_num⟩
          case measure => simp [intOf]; omega
        · have i1 : ¬ (q : Int) ≤ 100000 := by omega
          rw [Nat.min_eq_right (by omega)] at hst
          have Hst := Lib.hid hst
          clear hst hm
          go_wp2
          go_round
          case rel => exact ⟨k + 1, by omega, by omega, by go_num, by rw [Hst.out]; go_num⟩
          case measure => simp [intOf]; omega
      · have i50 : ¬ (n : Int) ≤ 50 := by omega
        generalize Fr.cnt (L.take k) = C at hcl ⊢
        go_wp2
        go_ret
        exact ⟨⟨false, rfl, (fun e => by cases e)⟩, rfl⟩
    · have hks : L.take k = L := List.take_of_length_le (by rw [Hn.out]; omega)
      have hcf := Fr.cnt_flat L
      rw [hks]
      have Hcf := Lib.hid hcf
      clear hks hcf hcl
      generalize Fr.cnt L = C at Hcf ⊢
      by_cases i50 : (n : Int) ≤ 50
      · by_cases i70 : (C : Int) ≤ 70000
        · go_wp2
          go_ret
          exact ⟨⟨true, rfl, (fun _ => ⟨by omega, Hcf.out (by omega)⟩)⟩, rfl⟩
        · go_wp2
          go_ret
          exact ⟨⟨false, rfl, (fun e => by cases e)⟩, rfl⟩
      · go_wp2
        go_ret
        exact ⟨⟨false, rfl, (fun e => by cases e)⟩, rfl⟩
end Go.Proofs.Ythmljgpnkealaaa
