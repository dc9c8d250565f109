/- OctetBack: the walk. -/
import Derived.Test.YthbmfiiilhofbaaGetsWalk
namespace Go.Proofs.Ythbmfiiilhofbaa
open Go.RowKit

theorem back_drewN {B : Nat} {a w : World} (h : Below B a w) (n : Nat) : Below B a (w.drewN n) := h.trans ⟨rfl, rfl, rfl, Nat.le_refl _, fun _ _ => rfl⟩

/-- The bytes of a number, as they were put. -/
theorem put_row (n s : Nat) (big : Bool) (w : World) (h1 : 1 ≤ s) (h8 : s ≤ 8) (h : n < 256 ^ s) :
    Calls Try.prog 10 #[.int .u64 (n : Int), .int .i64 (s : Int), .bool big] w fun e w' => ∃ b off c, e = .returned (.tuple #[.slice (some ⟨b, off, none⟩) s c, .bool true]) ∧ RowAt w' (some ⟨b, off, none⟩) c (Oc.put n s big) ∧ b < w'.heap.size ∧ (∀ j (_ : j < s) x, (Oc.put n s big)[j]? = some x → w'.cell? ⟨b, off + j, none⟩ = some (.int .u8 (x.toNat : Int))) ∧ Below w.heap.size w w' := by
  refine (put_fits n s big w h1 h8 h).mono ?_
  rintro e w' ⟨v, rfl, o1, b1⟩
  obtain ⟨a, c, rfl, r⟩ := rowAt_own (Oc.put_length _ _ _) o1
  rcases r.bytes with h0 | ⟨b, off, rfl, hb, hc⟩
  · have := Oc.put_length n s big
    rw [h0] at this
    simp at this
    omega
  · refine ⟨b, off, c, rfl, r, hb, fun j hj x hx => ?_, b1⟩
    obtain ⟨h2, rfl⟩ := List.getElem?_eq_some_iff.1 hx
    exact hc j h2

theorem put_mirror (n s k : Nat) (big : Bool) (hk : k < s) : ∃ x, (Oc.put n s big)[k]? = some x ∧ (Oc.put n s (!big))[s - 1 - k]? = some x := by
  have hl := Oc.put_length n s big
  obtain ⟨x, hx⟩ : ∃ x, (Oc.put n s big)[k]? = some x := ⟨_, List.getElem?_eq_getElem (by omega)⟩
  refine ⟨x, hx, ?_⟩
  rw [Oc.put_not, List.getElem?_reverse (by omega), hl, show s - 1 - (s - 1 - k) = k by omega]
  exact hx

/-- The number that was got fits, and is put to the same bytes. -/
theorem put_back (xs : List UInt8) (big : Bool) (w : World) (h1 : 1 ≤ xs.length) (h8 : xs.length ≤ 8) :
    Calls Try.prog 10 #[.int .u64 (Oc.get xs big : Nat), .int .i64 (xs.length : Int), .bool big] w fun e w' => ∃ a c, e = .returned (.tuple #[.slice a xs.length c, .bool true]) ∧ RowAt w' a c xs ∧ Below w.heap.size w w' := by
  refine (put_fits (Oc.get xs big) xs.length big w h1 h8 (Oc.get_lt xs big)).mono ?_
  rintro e w' ⟨v, rfl, o1, b1⟩
  rw [Oc.put_get] at o1
  obtain ⟨a, c, rfl, r⟩ := rowAt_own rfl o1
  exact ⟨a, c, rfl, r, b1⟩

set_option maxHeartbeats 2000000 in
set_option maxRecDepth 100000 in
theorem back_n1 (n : Nat) (size : Int) (a : Option Addr) (cap : Nat) (xs : List UInt8) (big : Bool) (w : World) (_H : Hid (RowAt w a cap xs)) (hf : Oc.fits n size = false) (_hg : ¬ (1000 : Int) < (xs.length : Int)) (h1 : (xs.length : Int) < 1) :
    Calls Try.prog 5 #[.int .u64 (n : Int), .int .i64 size, .slice a xs.length cap, .bool big] w fun e w' => e = .returned (.bool true) ∧ Below w.heap.size w w' := by
  go_enter Try.func5, Try.ntmps5
  go_wp2_with fail
  refine (awake_any _).mono ?_
  rintro e w1 ⟨rfl, bx⟩
  go_wp2_with fail
  refine (put_not n size big _ hf).mono ?_
  rintro e w2 ⟨rfl, hw2⟩
  subst hw2
  go_wp2_with fail
  refine (put_not n size (!big) _ hf).mono ?_
  rintro e w3 ⟨rfl, hw3⟩
  subst hw3
  go_wp2_with fail
  refine wp_loop_rounds 1 ?_
  rw [rounds_succ]
  go_wp2_with fail
  refine (get_few a xs.length cap big _ (by omega)).mono ?_
  rintro e wg ⟨rfl, rfl⟩
  go_wp2_with fail
  go_ret
  exact ⟨rfl, bx⟩

set_option maxHeartbeats 2000000 in
set_option maxRecDepth 100000 in
theorem back_n2 (n : Nat) (size : Int) (a : Option Addr) (cap : Nat) (xs : List UInt8) (big : Bool) (w : World) (_H : Hid (RowAt w a cap xs)) (hf : Oc.fits n size = false) (hg : ¬ (1000 : Int) < (xs.length : Int)) (h1 : ¬ (xs.length : Int) < 1) (h8 : 8 < (xs.length : Int)) :
    Calls Try.prog 5 #[.int .u64 (n : Int), .int .i64 size, .slice a xs.length cap, .bool big] w fun e w' => e = .returned (.bool true) ∧ Below w.heap.size w w' := by
  go_enter Try.func5, Try.ntmps5
  go_wp2_with fail
  refine (awake_any _).mono ?_
  rintro e w1 ⟨rfl, bx⟩
  go_wp2_with fail
  refine (put_not n size big _ hf).mono ?_
  rintro e w2 ⟨rfl, hw2⟩
  subst hw2
  go_wp2_with fail
  refine (put_not n size (!big) _ hf).mono ?_
  rintro e w3 ⟨rfl, hw3⟩
  subst hw3
  go_wp2_with fail
  refine wp_loop_rounds 1 ?_
  rw [rounds_succ]
  go_wp2_with fail
  refine (get_few a xs.length cap big _ (by omega)).mono ?_
  rintro e wg ⟨rfl, rfl⟩
  go_wp2_with fail
  go_ret
  exact ⟨rfl, bx⟩

set_option maxHeartbeats 2000000 in
set_option maxRecDepth 100000 in
theorem back_n3 (n : Nat) (size : Int) (a : Option Addr) (cap : Nat) (xs : List UInt8) (big : Bool) (w : World) (H : Hid (RowAt w a cap xs)) (hf : Oc.fits n size = false) (hg : ¬ (1000 : Int) < (xs.length : Int)) (h1 : ¬ (xs.length : Int) < 1) (h8 : ¬ 8 < (xs.length : Int)) :
    Calls Try.prog 5 #[.int .u64 (n : Int), .int .i64 size, .slice a xs.length cap, .bool big] w fun e w' => e = .returned (.bool true) ∧ Below w.heap.size w w' := by
  go_enter Try.func5, Try.ntmps5
  go_wp2_with fail
  refine (awake_any _).mono ?_
  rintro e w1 ⟨rfl, bx⟩
  go_wp2_with fail
  refine (put_not n size big _ hf).mono ?_
  rintro e w2 ⟨rfl, hw2⟩
  subst hw2
  go_wp2_with fail
  refine (put_not n size (!big) _ hf).mono ?_
  rintro e w3 ⟨rfl, hw3⟩
  subst hw3
  go_wp2_with fail
  refine wp_loop_rounds 1 ?_
  rw [rounds_succ]
  go_wp2_with fail
  refine (get_at a cap xs big _ (by omega) (by omega) (H.out.next bx).bytes).mono ?_
  rintro e wg ⟨rfl, hwg⟩
  subst hwg
  go_wp2_with fail
  refine (put_back xs big _ (by omega) (by omega)).mono ?_
  rintro e wp ⟨ap, cp, rfl, rp, bp⟩
  have hcvp := conv_row rfl rp
  have hcvb := conv_row rfl ((H.out.next bx).next bp)
  clear rp
  go_wp2_with fail
  go_ret
  exact ⟨rfl, Below.chain bx bp⟩

set_option maxHeartbeats 2000000 in
set_option maxRecDepth 100000 in
theorem back_f1 (n s : Nat) (a : Option Addr) (cap : Nat) (xs : List UInt8) (big : Bool) (w : World) (_H : Hid (RowAt w a cap xs)) (s1 : 1 ≤ s) (s8 : s ≤ 8) (G : Hid (n < 256 ^ s)) (_hg : ¬ (1000 : Int) < (xs.length : Int)) (h1 : (xs.length : Int) < 1) :
    Calls Try.prog 5 #[.int .u64 (n : Int), .int .i64 (s : Int), .slice a xs.length cap, .bool big] w fun e w' => e = .returned (.bool true) ∧ Below w.heap.size w w' := by
  go_enter Try.func5, Try.ntmps5
  go_wp2_with fail
  refine (awake_any _).mono ?_
  rintro e w1 ⟨rfl, b1⟩
  go_wp2_with fail
  refine (put_row n s big _ s1 s8 G.out).mono ?_
  rintro e w2 ⟨g2, o2, c2, rfl, r2, l2, k2, b2⟩
  have R2 := Lib.hid r2
  have K2 := Lib.hid k2
  clear r2 k2
  go_wp2_with fail
  refine (put_row n s (!big) _ s1 s8 G.out).mono ?_
  rintro e w3 ⟨g3, o3, c3, rfl, _, l3, k3, b3⟩
  have K3 := Lib.hid k3
  clear k3
  have hb3 := b3.size
  have b03 := Below.chain (Below.chain b1 b2) b3
  clear b1 b2
  go_wp2_with fail
  go_loopw [13] (fun i wr => ∃ k : Nat, k ≤ s ∧ i = .int .i64 (k : Int) ∧ Below w3.heap.size w3 wr) (fun i _ => s - (intOf i).toNat)
  case atStart => exact ⟨0, Nat.zero_le _, rfl, Below.refl _ _⟩
  case round =>
    obtain ⟨k, hk, rfl, hbw⟩ := hrel
    by_cases hlt : (k : Int) < (s : Int)
    · have hk' : k < s := by omega
      obtain ⟨x, hx1, hx2⟩ := put_mirror n s k big hk'
      have hc2 : wr.cell? ⟨g2, o2 + k, none⟩ = some (.int .u8 (x.toNat : Int)) := by
        rw [hbw.cell (p := ⟨g2, o2 + k, none⟩) (by show g2 < _; omega), b3.cell (p := ⟨g2, o2 + k, none⟩) (by show g2 < _; omega)]
        exact K2.out k hk' x hx1
      have hc3 : wr.cell? ⟨g3, o3 + (s - 1 - k), none⟩ = some (.int .u8 (x.toNat : Int)) := by
        rw [hbw.cell (p := ⟨g3, o3 + (s - 1 - k), none⟩) (by show g3 < _; omega)]
        exact K3.out (s - 1 - k) (by omega) x hx2
      have hpos : ((s - 1 - k : Nat) : Int) = (s : Int) - 1 - (k : Int) := by omega
      have p1 : (0 : Int) ≤ (s : Int) - 1 - (k : Int) := by omega
      have p2 : (s : Int) - 1 - (k : Int) < (s : Int) := by omega
      have p3 : ((s : Int) - 1 - (k : Int)).toNat = s - 1 - k := by omega
      have q1 : IntKind.i64.wrap ((s : Int) - 1) = (s : Int) - 1 := by rw [IntKind.wrap_i64]; omega
      have q2 : IntKind.i64.wrap ((s : Int) - 1 - (k : Int)) = (s : Int) - 1 - (k : Int) := by rw [IntKind.wrap_i64]; omega
      clear hx1 hx2
      go_wp2
      go_quiet (fail)
      go_wp2
      go_roundw
      case rel => exact ⟨k + 1, by omega, by go_num, back_drewN hbw _⟩
      case measure => simp [intOf]; omega
    · have hks : k = s := by omega
      subst hks
      have bx0 := Below.chain b03 hbw
      have R2w := Lib.hid ((R2.out.next b3).next hbw)
      have hgp : Oc.get (Oc.put n k big) big = n := Oc.get_put n k big G.out
      have HGP := Lib.hid hgp
      have hpl := Oc.put_length n k big
      clear hgp
      go_wp2_with fail
      have hgx := get_at (some ⟨g2, o2, none⟩) c2 (Oc.put n k big) big wr (by omega) (by omega) R2w.out.bytes
      rw [HGP.out, hpl] at hgx
      refine hgx.mono ?_
      rintro e wx ⟨rfl, hwx⟩
      subst hwx
      clear hpl hgx
      have bx := bx0
      clear bx0
      go_wp2_with fail
      refine (get_few a xs.length cap big _ (by omega)).mono ?_
      rintro e wg ⟨rfl, rfl⟩
      go_wp2_with fail
      go_ret
      exact ⟨rfl, bx⟩

set_option maxHeartbeats 2000000 in
set_option maxRecDepth 100000 in
theorem back_f2 (n s : Nat) (a : Option Addr) (cap : Nat) (xs : List UInt8) (big : Bool) (w : World) (_H : Hid (RowAt w a cap xs)) (s1 : 1 ≤ s) (s8 : s ≤ 8) (G : Hid (n < 256 ^ s)) (hg : ¬ (1000 : Int) < (xs.length : Int)) (h1 : ¬ (xs.length : Int) < 1) (h8 : 8 < (xs.length : Int)) :
    Calls Try.prog 5 #[.int .u64 (n : Int), .int .i64 (s : Int), .slice a xs.length cap, .bool big] w fun e w' => e = .returned (.bool true) ∧ Below w.heap.size w w' := by
  go_enter Try.func5, Try.ntmps5
  go_wp2_with fail
  refine (awake_any _).mono ?_
  rintro e w1 ⟨rfl, b1⟩
  go_wp2_with fail
  refine (put_row n s big _ s1 s8 G.out).mono ?_
  rintro e w2 ⟨g2, o2, c2, rfl, r2, l2, k2, b2⟩
  have R2 := Lib.hid r2
  have K2 := Lib.hid k2
  clear r2 k2
  go_wp2_with fail
  refine (put_row n s (!big) _ s1 s8 G.out).mono ?_
  rintro e w3 ⟨g3, o3, c3, rfl, _, l3, k3, b3⟩
  have K3 := Lib.hid k3
  clear k3
  have hb3 := b3.size
  have b03 := Below.chain (Below.chain b1 b2) b3
  clear b1 b2
  go_wp2_with fail
  go_loopw [13] (fun i wr => ∃ k : Nat, k ≤ s ∧ i = .int .i64 (k : Int) ∧ Below w3.heap.size w3 wr) (fun i _ => s - (intOf i).toNat)
  case atStart => exact ⟨0, Nat.zero_le _, rfl, Below.refl _ _⟩
  case round =>
    obtain ⟨k, hk, rfl, hbw⟩ := hrel
    by_cases hlt : (k : Int) < (s : Int)
    · have hk' : k < s := by omega
      obtain ⟨x, hx1, hx2⟩ := put_mirror n s k big hk'
      have hc2 : wr.cell? ⟨g2, o2 + k, none⟩ = some (.int .u8 (x.toNat : Int)) := by
        rw [hbw.cell (p := ⟨g2, o2 + k, none⟩) (by show g2 < _; omega), b3.cell (p := ⟨g2, o2 + k, none⟩) (by show g2 < _; omega)]
        exact K2.out k hk' x hx1
      have hc3 : wr.cell? ⟨g3, o3 + (s - 1 - k), none⟩ = some (.int .u8 (x.toNat : Int)) := by
        rw [hbw.cell (p := ⟨g3, o3 + (s - 1 - k), none⟩) (by show g3 < _; omega)]
        exact K3.out (s - 1 - k) (by omega) x hx2
      have hpos : ((s - 1 - k : Nat) : Int) = (s : Int) - 1 - (k : Int) := by omega
      have p1 : (0 : Int) ≤ (s : Int) - 1 - (k : Int) := by omega
      have p2 : (s : Int) - 1 - (k : Int) < (s : Int) := by omega
      have p3 : ((s : Int) - 1 - (k : Int)).toNat = s - 1 - k := by omega
      have q1 : IntKind.i64.wrap ((s : Int) - 1) = (s : Int) - 1 := by rw [IntKind.wrap_i64]; omega
      have q2 : IntKind.i64.wrap ((s : Int) - 1 - (k : Int)) = (s : Int) - 1 - (k : Int) := by rw [IntKind.wrap_i64]; omega
      clear hx1 hx2
      go_wp2
      go_quiet (fail)
      go_wp2
      go_roundw
      case rel => exact ⟨k + 1, by omega, by go_num, back_drewN hbw _⟩
      case measure => simp [intOf]; omega
    · have hks : k = s := by omega
      subst hks
      have bx0 := Below.chain b03 hbw
      have R2w := Lib.hid ((R2.out.next b3).next hbw)
      have hgp : Oc.get (Oc.put n k big) big = n := Oc.get_put n k big G.out
      have HGP := Lib.hid hgp
      have hpl := Oc.put_length n k big
      clear hgp
      go_wp2_with fail
      have hgx := get_at (some ⟨g2, o2, none⟩) c2 (Oc.put n k big) big wr (by omega) (by omega) R2w.out.bytes
      rw [HGP.out, hpl] at hgx
      refine hgx.mono ?_
      rintro e wx ⟨rfl, hwx⟩
      subst hwx
      clear hpl hgx
      have bx := bx0
      clear bx0
      go_wp2_with fail
      refine (get_few a xs.length cap big _ (by omega)).mono ?_
      rintro e wg ⟨rfl, rfl⟩
      go_wp2_with fail
      go_ret
      exact ⟨rfl, bx⟩

set_option maxHeartbeats 2000000 in
set_option maxRecDepth 100000 in
theorem back_f3 (n s : Nat) (a : Option Addr) (cap : Nat) (xs : List UInt8) (big : Bool) (w : World) (H : Hid (RowAt w a cap xs)) (s1 : 1 ≤ s) (s8 : s ≤ 8) (G : Hid (n < 256 ^ s)) (hg : ¬ (1000 : Int) < (xs.length : Int)) (h1 : ¬ (xs.length : Int) < 1) (h8 : ¬ 8 < (xs.length : Int)) :
    Calls Try.prog 5 #[.int .u64 (n : Int), .int .i64 (s : Int), .slice a xs.length cap, .bool big] w fun e w' => e = .returned (.bool true) ∧ Below w.heap.size w w' := by
  go_enter Try.func5, Try.ntmps5
  go_wp2_with fail
  refine (awake_any _).mono ?_
  rintro e w1 ⟨rfl, b1⟩
  go_wp2_with fail
  refine (put_row n s big _ s1 s8 G.out).mono ?_
  rintro e w2 ⟨g2, o2, c2, rfl, r2, l2, k2, b2⟩
  have R2 := Lib.hid r2
  have K2 := Lib.hid k2
  clear r2 k2
  go_wp2_with fail
  refine (put_row n s (!big) _ s1 s8 G.out).mono ?_
  rintro e w3 ⟨g3, o3, c3, rfl, _, l3, k3, b3⟩
  have K3 := Lib.hid k3
  clear k3
  have hb3 := b3.size
  have b03 := Below.chain (Below.chain b1 b2) b3
  clear b1 b2
  go_wp2_with fail
  go_loopw [13] (fun i wr => ∃ k : Nat, k ≤ s ∧ i = .int .i64 (k : Int) ∧ Below w3.heap.size w3 wr) (fun i _ => s - (intOf i).toNat)
  case atStart => exact ⟨0, Nat.zero_le _, rfl, Below.refl _ _⟩
  case round =>
    obtain ⟨k, hk, rfl, hbw⟩ := hrel
    by_cases hlt : (k : Int) < (s : Int)
    · have hk' : k < s := by omega
      obtain ⟨x, hx1, hx2⟩ := put_mirror n s k big hk'
      have hc2 : wr.cell? ⟨g2, o2 + k, none⟩ = some (.int .u8 (x.toNat : Int)) := by
        rw [hbw.cell (p := ⟨g2, o2 + k, none⟩) (by show g2 < _; omega), b3.cell (p := ⟨g2, o2 + k, none⟩) (by show g2 < _; omega)]
        exact K2.out k hk' x hx1
      have hc3 : wr.cell? ⟨g3, o3 + (s - 1 - k), none⟩ = some (.int .u8 (x.toNat : Int)) := by
        rw [hbw.cell (p := ⟨g3, o3 + (s - 1 - k), none⟩) (by show g3 < _; omega)]
        exact K3.out (s - 1 - k) (by omega) x hx2
      have hpos : ((s - 1 - k : Nat) : Int) = (s : Int) - 1 - (k : Int) := by omega
      have p1 : (0 : Int) ≤ (s : Int) - 1 - (k : Int) := by omega
      have p2 : (s : Int) - 1 - (k : Int) < (s : Int) := by omega
      have p3 : ((s : Int) - 1 - (k : Int)).toNat = s - 1 - k := by omega
      have q1 : IntKind.i64.wrap ((s : Int) - 1) = (s : Int) - 1 := by rw [IntKind.wrap_i64]; omega
      have q2 : IntKind.i64.wrap ((s : Int) - 1 - (k : Int)) = (s : Int) - 1 - (k : Int) := by rw [IntKind.wrap_i64]; omega
      clear hx1 hx2
      go_wp2
      go_quiet (fail)
      go_wp2
      go_roundw
      case rel => exact ⟨k + 1, by omega, by go_num, back_drewN hbw _⟩
      case measure => simp [intOf]; omega
    · have hks : k = s := by omega
      subst hks
      have bx0 := Below.chain b03 hbw
      have R2w := Lib.hid ((R2.out.next b3).next hbw)
      have hgp : Oc.get (Oc.put n k big) big = n := Oc.get_put n k big G.out
      have HGP := Lib.hid hgp
      have hpl := Oc.put_length n k big
      clear hgp
      go_wp2_with fail
      have hgx := get_at (some ⟨g2, o2, none⟩) c2 (Oc.put n k big) big wr (by omega) (by omega) R2w.out.bytes
      rw [HGP.out, hpl] at hgx
      refine hgx.mono ?_
      rintro e wx ⟨rfl, hwx⟩
      subst hwx
      clear hpl hgx
      have bx := bx0
      clear bx0
      go_wp2_with fail
      refine (get_at a cap xs big _ (by omega) (by omega) (H.out.next bx).bytes).mono ?_
      rintro e wg ⟨rfl, hwg⟩
      subst hwg
      go_wp2_with fail
      refine (put_back xs big _ (by omega) (by omega)).mono ?_
      rintro e wp ⟨ap, cp, rfl, rp, bp⟩
      have hcvp := conv_row rfl rp
      have hcvb := conv_row rfl ((H.out.next bx).next bp)
      clear rp
      go_wp2_with fail
      go_ret
      exact ⟨rfl, Below.chain bx bp⟩

theorem back_walk (n : Nat) (size : Int) (a : Option Addr) (cap : Nat) (xs : List UInt8) (big : Bool) (w : World) (h : RowAt w a cap xs) :
    Calls Try.prog 5 #[.int .u64 (n : Int), .int .i64 size, .slice a xs.length cap, .bool big] w fun e w' => e = .returned (.bool true) ∧ Below w.heap.size w w' := by
  by_cases hg : (1000 : Int) < (xs.length : Int)
  · have hle := h.le
    have hmx := h.max
    unfold maxLen at hmx
    clear h
    go_enter Try.func5, Try.ntmps5
    go_wp2_with fail
    refine (awake_any _).mono ?_
    rintro e w1 ⟨rfl, b1⟩
    go_wp2_with fail
    refine (awake_any _).mono ?_
    rintro e w2 ⟨rfl, b2⟩
    go_wp2_with fail
    go_ret
    exact ⟨rfl, Below.chain b1 b2⟩
  · cases hf : Oc.fits n size with
    | false =>
      by_cases h1 : (xs.length : Int) < 1
      · exact back_n1 n size a cap xs big w h hf hg h1
      · by_cases h8 : 8 < (xs.length : Int)
        · exact back_n2 n size a cap xs big w h hf hg h1 h8
        · exact back_n3 n size a cap xs big w h hf hg h1 h8
    | true =>
      obtain ⟨g1, g2, g3⟩ := (Oc.fits_iff n size).1 hf
      obtain ⟨s, rfl⟩ := Int.eq_ofNat_of_zero_le (by omega : 0 ≤ size)
      rw [Int.toNat_natCast] at g3
      by_cases h1 : (xs.length : Int) < 1
      · exact back_f1 n s a cap xs big w h (by omega) (by omega) g3 hg h1
      · by_cases h8 : 8 < (xs.length : Int)
        · exact back_f2 n s a cap xs big w h (by omega) (by omega) g3 hg h1 h8
        · exact back_f3 n s a cap xs big w h (by omega) (by omega) g3 hg h1 h8
end Go.Proofs.Ythbmfiiilhofbaa
