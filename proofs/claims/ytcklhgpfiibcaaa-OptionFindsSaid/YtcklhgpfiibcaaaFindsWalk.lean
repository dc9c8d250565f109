/- The walk of OptionFinds. -/
import Derived.Test.YtcklhgpfiibcaaaPutsWalk
import Derived.Test.YtcklhgpfiibcaaaOj
namespace Go.Proofs.Ytcklhgpfiibcaaa
open Go.RowKit

/-- What Find and the document's Find tell of one list. -/
structure Found (L : List Ot.O) (t : Int) (A : Option (List UInt8)) (v : Int) : Prop where
  none : A = none → v = -1
  some : ∀ d, A = some d → ∃ k, ∃ h : k < L.length, v = (k : Int) ∧ L[k].data = d
theorem found {L : List Ot.O} {t v : Int} (h : PlaceIs L t v) : Found L t (Ot.find L t) v := by
  rcases h with ⟨rfl, hn⟩ | ⟨k, hk, rfl, he, hn⟩
  · rw [Ot.find_none L t hn]
    exact ⟨fun _ => rfl, fun d e => by cases e⟩
  · rw [Ot.find_at L t k hk hn he]
    exact ⟨fun e => (by cases e), fun d e => ⟨k, hk, rfl, Option.some.inj e⟩⟩

theorem finds_one (a b : Option Addr) (n m ca cb : Nat) (L : List Ot.O) (t : Int) (w : World) (hL : L.length = n) (ha : OptsAt w a L) (hf : Ot.few L = false) :
    Calls Try.prog 6 #[.slice a n ca, .slice b m cb, .int .i64 t] w fun e w' => e = .returned (.bool true) ∧ Below w.heap.size w w' := by
  go_enter Try.func6, Try.ntmps6
  go_wp2_with fail
  refine (awake_any w).mono ?_
  rintro e w1 ⟨rfl, b1⟩
  go_wp2_with fail
  refine (few_any a n ca L w1 hL (ha.next b1)).mono ?_
  rintro e w2 ⟨rfl, h2⟩; rw [h2, hf]; clear h2
  go_wp2_with fail
  refine (awake_any w1).mono ?_
  rintro e w3 ⟨rfl, b3⟩
  go_wp2
  go_ret
  exact ⟨rfl, Below.chain b1 b3⟩
theorem finds_two (a b : Option Addr) (n m ca cb : Nat) (L M : List Ot.O) (t : Int) (w : World) (hL : L.length = n) (hM : M.length = m) (ha : OptsAt w a L) (hb : OptsAt w b M) (hf : Ot.few L = true) (hg : Ot.few M = false) :
    Calls Try.prog 6 #[.slice a n ca, .slice b m cb, .int .i64 t] w fun e w' => e = .returned (.bool true) ∧ Below w.heap.size w w' := by
  go_enter Try.func6, Try.ntmps6
  go_wp2_with fail
  refine (awake_any w).mono ?_
  rintro e w1 ⟨rfl, b1⟩
  go_wp2_with fail
  refine (few_any a n ca L w1 hL (ha.next b1)).mono ?_
  rintro e w2 ⟨rfl, h2⟩; rw [h2, hf]; clear h2
  go_wp2_with fail
  refine (few_any b m cb M w1 hM (hb.next b1)).mono ?_
  rintro e w2 ⟨rfl, h2⟩; rw [h2, hg]; clear h2
  go_wp2_with fail
  refine (awake_any w1).mono ?_
  rintro e w3 ⟨rfl, b3⟩
  go_wp2
  go_ret
  exact ⟨rfl, Below.chain b1 b3⟩


set_option maxRecDepth 100000 in
set_option maxHeartbeats 1000000 in
theorem finds_few (a b : Option Addr) (n m ca cb : Nat) (L M : List Ot.O) (t : Int) (w : World) (hL : L.length = n) (hM : M.length = m) (hca : n ≤ ca) (hcb : m ≤ cb) (hw : ∀ x ∈ L, (Lit.int .i64 x.ty).wf = true) (ha : OptsAt w a L) (hb : OptsAt w b M) (hf : Ot.few L = true) (hg : Ot.few M = true) :
    Calls Try.prog 6 #[.slice a n ca, .slice b m cb, .int .i64 t] w fun e w' => e = .returned (.bool true) ∧ Below w.heap.size w w' := by
  obtain ⟨hn, hd⟩ := few_short hf hL
  obtain ⟨hm, _⟩ := few_short hg hM
  have HA := Lib.hid ha
  have HB := Lib.hid hb
  have HW := Lib.hid hw
  clear ha hb hw
  go_enter Try.func6, Try.ntmps6
  go_wp2_with fail
  refine (awake_any w).mono ?_
  rintro e w1 ⟨rfl, b1⟩
  have B1 := Lib.hid b1
  clear b1
  go_wp2_with fail
  refine (few_any a n ca L w1 hL (HA.out.next B1.out)).mono ?_
  rintro e w2 ⟨rfl, h2⟩; rw [h2, hf]; clear h2
  go_wp2_with fail
  refine (few_any b m cb M w1 hM (HB.out.next B1.out)).mono ?_
  rintro e w2 ⟨rfl, h2⟩; rw [h2, hg]; clear h2
  go_wp2_with fail
  have c1 := find_any a n ca L t w1 hL (by omega) hd (HA.out.next B1.out)
  have hfo := fun v (h : PlaceIs L t v) => found h
  generalize Ot.find L t = A at *
  refine c1.mono ?_
  rintro e w2 ⟨b2, v2, rfl, o2⟩
  have B2 := Lib.hid (Below.chain B1.out b2)
  clear b2 c1
  have HFO := Lib.hid hfo
  clear hfo
  cases A with
  | none =>
    obtain ⟨a2, c2, rfl, r2⟩ := rowAt_own (n := 0) rfl o2
    simp only [Option.isSome_none]
    clear o2
    go_wp2_with fail
    refine (place_any a n ca L t w2 hL (by omega) (HA.out.next B2.out)).mono ?_
    rintro e w3 ⟨⟨v, rfl, hv⟩, h3⟩; rw [h3]; clear h3
    obtain rfl := (HFO.out v hv).none rfl
    clear hv HFO
    go_wp2_with fail
    go_quiet (fail)
    have BB := Lib.hid (keeps_below B2.out nq)
    generalize w2.drewN nq = Wq at *
    go_wp2_with fail
    refine (same_any a b n m ca cb L M _ hL hM (by omega) (HA.out.next BB.out) (HB.out.next BB.out)).mono ?_
    rintro e w6 ⟨rfl, b6⟩
    have B6 := Lib.hid (Below.chain BB.out b6)
    clear b6 BB
    obtain ⟨Z1, hZ1⟩ : ∃ Z, decide (L = M) = Z := ⟨_, rfl⟩
    rw [hZ1]
    have HZ1 := Lib.hid hZ1
    clear hZ1
    go_wp2_with fail
    refine (refSame_any a b n m ca cb L M w6 hL hM (by omega) (HA.out.next B6.out) (HB.out.next B6.out)).mono ?_
    rintro e w7 ⟨rfl, b7⟩
    rw [HZ1.out]
    have B7 := Lib.hid (Below.chain B6.out b7)
    clear b7 B6 HZ1
    obtain ⟨Z2, hZ2⟩ : ∃ Z, Ot.within L M = Z := ⟨_, rfl⟩
    have HZ2 := Lib.hid hZ2
    obtain ⟨Z3, hZ3⟩ : ∃ Z, Ot.within M L = Z := ⟨_, rfl⟩
    have HZ3 := Lib.hid hZ3
    obtain ⟨Z4, hZ4⟩ : ∃ Z, Ot.twice L = Z := ⟨_, rfl⟩
    have HZ4 := Lib.hid hZ4
    clear hZ2 hZ3 hZ4
    go_wp2_with fail
    refine (within_any a b n m ca cb L M w7 hL hM (by omega) (by omega) hcb (HA.out.next B7.out) (HB.out.next B7.out)).mono ?_
    rintro e w8 ⟨rfl, b8⟩
    rw [HZ2.out]
    have B8 := Lib.hid (Below.chain B7.out b8)
    clear b8 B7
    go_wp2_with fail
    refine (refWithin_any a b n m ca cb L M w8 hL hM (by omega) (by omega) (HA.out.next B8.out) (HB.out.next B8.out)).mono ?_
    rintro e w9 ⟨rfl, b9⟩
    rw [HZ2.out]
    have B9 := Lib.hid (Below.chain B8.out b9)
    clear b9 B8 HZ2
    go_wp2_with fail
    refine (within_any b a m n cb ca M L w9 hM hL (by omega) (by omega) hca (HB.out.next B9.out) (HA.out.next B9.out)).mono ?_
    rintro e w10 ⟨rfl, b10⟩
    rw [HZ3.out]
    have B10 := Lib.hid (Below.chain B9.out b10)
    clear b10 B9
    go_wp2_with fail
    refine (refWithin_any b a m n cb ca M L w10 hM hL (by omega) (by omega) (HB.out.next B10.out) (HA.out.next B10.out)).mono ?_
    rintro e w11 ⟨rfl, b11⟩
    rw [HZ3.out]
    have B11 := Lib.hid (Below.chain B10.out b11)
    clear b11 B10 HZ3
    go_wp2_with fail
    refine (twice_any a n ca L w11 hL (by omega) HW.out (HA.out.next B11.out)).mono ?_
    rintro e w12 ⟨rfl, b12⟩
    rw [HZ4.out]
    have B12 := Lib.hid (Below.chain B11.out b12)
    clear b12 B11
    go_wp2_with fail
    refine (refTwice_any a n ca L w12 hL (by omega) hca (HA.out.next B12.out)).mono ?_
    rintro e w13 ⟨rfl, b13⟩
    rw [HZ4.out]
    have B13 := Lib.hid (Below.chain B12.out b13)
    clear b13 B12 HZ4
    go_wp2
    go_ret
    exact ⟨rfl, B13.out⟩
  | some d =>
    obtain ⟨nd, hnd⟩ : ∃ nd, d.length = nd := ⟨_, rfl⟩
    simp only [Option.getD_some, Option.isSome_some] at o2 ⊢
    rw [hnd] at o2
    obtain ⟨a2, c2, rfl, r2⟩ := rowAt_own hnd o2
    clear o2
    go_wp2_with fail
    refine (place_any a n ca L t w2 hL (by omega) (HA.out.next B2.out)).mono ?_
    rintro e w3 ⟨⟨v, rfl, hv⟩, h3⟩; rw [h3]; clear h3
    obtain ⟨k, hk, rfl, hkd⟩ := (HFO.out v hv).some d rfl
    obtain ⟨bl, off, q, c, hae, q1, _⟩ := (HA.out.next B2.out).at k hk
    have x2 := q1.data
    have k1 := fun m => conv_row hnd (keeps_drewN r2 m)
    have k2 := fun m => conv_row rfl (keeps_drewN q1.row m)
    generalize L[k] = r at *
    subst hae
    have hkn : k < n := by omega
    have i1 : (0 : Int) ≤ (k : Int) := by omega
    have i2 : (k : Int) < (n : Int) := by omega
    rw [hkd, hnd] at x2
    rw [hkd] at k2
    simp only [hnd] at k2
    clear hv HFO q1 r2 hkd hk
    go_wp2_with fail
    go_quiet (fail)
    have BB := Lib.hid (keeps_below B2.out nq)
    generalize w2.drewN nq = Wq at *
    clear k1 k2 x2
    go_wp2_with fail
    refine (same_any (some ⟨bl, off, none⟩) b n m ca cb L M _ hL hM (by omega) (HA.out.next BB.out) (HB.out.next BB.out)).mono ?_
    rintro e w6 ⟨rfl, b6⟩
    have B6 := Lib.hid (Below.chain BB.out b6)
    clear b6 BB
    obtain ⟨Z1, hZ1⟩ : ∃ Z, decide (L = M) = Z := ⟨_, rfl⟩
    rw [hZ1]
    have HZ1 := Lib.hid hZ1
    clear hZ1
    go_wp2_with fail
    refine (refSame_any (some ⟨bl, off, none⟩) b n m ca cb L M w6 hL hM (by omega) (HA.out.next B6.out) (HB.out.next B6.out)).mono ?_
    rintro e w7 ⟨rfl, b7⟩
    rw [HZ1.out]
    have B7 := Lib.hid (Below.chain B6.out b7)
    clear b7 B6 HZ1
    obtain ⟨Z2, hZ2⟩ : ∃ Z, Ot.within L M = Z := ⟨_, rfl⟩
    have HZ2 := Lib.hid hZ2
    obtain ⟨Z3, hZ3⟩ : ∃ Z, Ot.within M L = Z := ⟨_, rfl⟩
    have HZ3 := Lib.hid hZ3
    obtain ⟨Z4, hZ4⟩ : ∃ Z, Ot.twice L = Z := ⟨_, rfl⟩
    have HZ4 := Lib.hid hZ4
    clear hZ2 hZ3 hZ4
    go_wp2_with fail
    refine (within_any (some ⟨bl, off, none⟩) b n m ca cb L M w7 hL hM (by omega) (by omega) hcb (HA.out.next B7.out) (HB.out.next B7.out)).mono ?_
    rintro e w8 ⟨rfl, b8⟩
    rw [HZ2.out]
    have B8 := Lib.hid (Below.chain B7.out b8)
    clear b8 B7
    go_wp2_with fail
    refine (refWithin_any (some ⟨bl, off, none⟩) b n m ca cb L M w8 hL hM (by omega) (by omega) (HA.out.next B8.out) (HB.out.next B8.out)).mono ?_
    rintro e w9 ⟨rfl, b9⟩
    rw [HZ2.out]
    have B9 := Lib.hid (Below.chain B8.out b9)
    clear b9 B8 HZ2
    go_wp2_with fail
    refine (within_any b (some ⟨bl, off, none⟩) m n cb ca M L w9 hM hL (by omega) (by omega) hca (HB.out.next B9.out) (HA.out.next B9.out)).mono ?_
    rintro e w10 ⟨rfl, b10⟩
    rw [HZ3.out]
    have B10 := Lib.hid (Below.chain B9.out b10)
    clear b10 B9
    go_wp2_with fail
    refine (refWithin_any b (some ⟨bl, off, none⟩) m n cb ca M L w10 hM hL (by omega) (by omega) (HB.out.next B10.out) (HA.out.next B10.out)).mono ?_
    rintro e w11 ⟨rfl, b11⟩
    rw [HZ3.out]
    have B11 := Lib.hid (Below.chain B10.out b11)
    clear b11 B10 HZ3
    go_wp2_with fail
    refine (twice_any (some ⟨bl, off, none⟩) n ca L w11 hL (by omega) HW.out (HA.out.next B11.out)).mono ?_
    rintro e w12 ⟨rfl, b12⟩
    rw [HZ4.out]
    have B12 := Lib.hid (Below.chain B11.out b12)
    clear b12 B11
    go_wp2_with fail
    refine (refTwice_any (some ⟨bl, off, none⟩) n ca L w12 hL (by omega) hca (HA.out.next B12.out)).mono ?_
    rintro e w13 ⟨rfl, b13⟩
    rw [HZ4.out]
    have B13 := Lib.hid (Below.chain B12.out b13)
    clear b13 B12 HZ4
    go_wp2
    go_ret
    exact ⟨rfl, B13.out⟩
theorem finds_walk (a b : Option Addr) (n m ca cb : Nat) (L M : List Ot.O) (t : Int) (w : World) (hL : L.length = n) (hM : M.length = m) (hca : n ≤ ca) (hcb : m ≤ cb) (hw : ∀ x ∈ L, (Lit.int .i64 x.ty).wf = true) (ha : OptsAt w a L) (hb : OptsAt w b M) :
    Calls Try.prog 6 #[.slice a n ca, .slice b m cb, .int .i64 t] w fun e w' => e = .returned (.bool true) ∧ Below w.heap.size w w' := by
  cases hf : Ot.few L with
  | false => exact finds_one a b n m ca cb L t w hL ha hf
  | true =>
    cases hg : Ot.few M with
    | false => exact finds_two a b n m ca cb L M t w hL hM ha hb hf hg
    | true => exact finds_few a b n m ca cb L M t w hL hM hca hcb hw ha hb hf hg
end Go.Proofs.Ytcklhgpfiibcaaa
