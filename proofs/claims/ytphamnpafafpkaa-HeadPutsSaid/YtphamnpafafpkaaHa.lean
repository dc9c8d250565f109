/- Contracts of isLower, May, number and pass. -/
import Derived.Test.YtphamnpafafpkaaWd
import Derived.Test.YtphamnpafafpkaaPlainh
namespace Go.Proofs.Ytphamnpafafpkaa
open Go.RowKit

theorem i64_and1 (n : Int) : bits .and .i64 n 1 = n % 2 := by
  have h1 : (BitVec.ofInt 64 1).toNat = 2 ^ 1 - 1 := by decide
  have key : (BitVec.ofInt 64 n &&& BitVec.ofInt 64 1).toNat = (n % ((2 ^ 64 : Nat) : Int)).toNat % 2 ^ 1 := by
    rw [BitVec.toNat_and, BitVec.toNat_ofInt, h1, Nat.and_two_pow_sub_one_eq_mod]
  show IntKind.i64.wrap ((BitVec.ofInt 64 n &&& BitVec.ofInt 64 1).toNat : Nat) = n % 2
  rw [key, IntKind.wrap_i64]
  omega

theorem lower_any (c : Int) (w : World) :
    Calls Try.prog 19 #[.int .i64 c] w fun e w' => e = .returned (.bool (c % 2 == 1)) ∧ w' = w := by
  have h := i64_and1 c
  go_enter Try.func19, Try.ntmps19
  go_wp2
  go_ret
  exact ⟨rfl, rfl⟩

theorem may_any (p : Int) (w : World) :
    Calls Try.prog 11 #[.int .i64 p] w fun e w' => e = .returned (.bool (Hd.may p)) ∧ w' = w := by
  by_cases h1 : 1 ≤ p
  · by_cases h2 : p ≤ 65535
    · by_cases h3 : p % 2 = 1
      · by_cases h4 : p / 256 % 2 = 1
        · have hm : Hd.may p = false := (Hd.may_not p).2 (by omega)
          rw [hm]
          go_enter Try.func11, Try.ntmps11
          go_wp2_with (go_at_call 19; refine (lower_any _ _).mono ?_; rintro e w' ⟨rfl, h⟩; rw [h]; clear h)
          go_ret
          exact ⟨rfl, rfl⟩
        · by_cases h5 : p = 255
          · have hm : Hd.may p = false := (Hd.may_not p).2 (by omega)
            rw [hm]
            subst h5
            go_enter Try.func11, Try.ntmps11
            go_wp2_with (go_at_call 19; refine (lower_any _ _).mono ?_; rintro e w' ⟨rfl, h⟩; rw [h]; clear h)
            go_ret
            exact ⟨rfl, rfl⟩
          · have hm : Hd.may p = true := (Hd.may_iff p).2 (by omega)
            rw [hm]
            go_enter Try.func11, Try.ntmps11
            go_wp2_with (go_at_call 19; refine (lower_any _ _).mono ?_; rintro e w' ⟨rfl, h⟩; rw [h]; clear h)
            go_ret
            exact ⟨ret_bool (by simp; omega), rfl⟩
      · have hm : Hd.may p = false := (Hd.may_not p).2 (by omega)
        rw [hm]
        go_enter Try.func11, Try.ntmps11
        go_wp2_with (go_at_call 19; refine (lower_any _ _).mono ?_; rintro e w' ⟨rfl, h⟩; rw [h]; clear h)
        go_ret
        exact ⟨rfl, rfl⟩
    · have hm : Hd.may p = false := (Hd.may_not p).2 (by omega)
      rw [hm]
      go_enter Try.func11, Try.ntmps11
      go_wp2
      go_ret
      exact ⟨rfl, rfl⟩
  · have hm : Hd.may p = false := (Hd.may_not p).2 (by omega)
    rw [hm]
    go_enter Try.func11, Try.ntmps11
    go_wp2
    go_ret
    exact ⟨rfl, rfl⟩

theorem get_n (a : Option Addr) (cap n : Nat) (xs : List UInt8) (w : World) (hn : xs.length = n) (h1 : 1 ≤ n) (h8 : n ≤ 8) (h : RowAt w a cap xs) :
    Calls Try.prog 28 #[.slice a n cap, .bool true] w fun e w' => e = .returned (.tuple #[.int .u64 (Oc.get xs true : Nat), .bool true]) ∧ w' = w := by
  subst hn
  exact get_at a cap xs true w h1 h8 h.bytes

theorem number_in (a : Option Addr) (cap : Nat) (xs : List UInt8) (k s G : Nat) (w : World) (hm : xs.length ≤ 100000) (hs1 : 1 ≤ s) (hs2 : s ≤ 2) (hks : k + s ≤ xs.length) (hG : Oc.get ((xs.drop k).take s) true = G) (hG2 : G < 65536) (h : RowAt w a cap xs) :
    Calls Try.prog 25 #[.slice a xs.length cap, .int .i64 (k : Int), .int .i64 (s : Int)] w fun e w' => e = .returned (.tuple #[.int .i64 (G : Int), .bool true]) ∧ Below w.heap.size w w' := by
  have hc := cut_good a cap xs k s w hm hks h
  have hyl : ((xs.drop k).take s).length = s := by simp; omega
  obtain ⟨ys, hy⟩ : ∃ ys, ys = (xs.drop k).take s := ⟨_, rfl⟩
  rw [← hy] at hc hyl hG
  have C := Lib.hid hc
  have Hyl := Lib.hid hyl
  have HG := Lib.hid hG
  clear hc hyl hG hy h
  go_enter Try.func25, Try.ntmps25
  go_wp2_with fail
  refine C.out.mono ?_
  rintro e w1 ⟨v, rfl, o1, b1⟩
  obtain ⟨a1, c1, rfl, r1⟩ := rowAt_own Hyl.out o1
  have R1 := Lib.hid r1
  clear o1 r1
  go_wp2_with fail
  refine (get_n a1 c1 s ys _ Hyl.out hs1 (by omega) R1.out).mono ?_
  rintro e w2 ⟨rfl, h2⟩
  rw [h2, HG.out]
  clear h2
  go_wp2
  go_ret2
  exact ⟨rfl, b1⟩
theorem number_out (a : Option Addr) (len cap k s : Nat) (w : World) (hm : len ≤ 100000) (hk : k ≤ 100000) (hks : len < k + s) :
    Calls Try.prog 25 #[.slice a len cap, .int .i64 (k : Int), .int .i64 (s : Int)] w fun e w' => e = .returned (.tuple #[.int .i64 0, .bool false]) ∧ Below w.heap.size w w' := by
  have C := Lib.hid (cut_bad a len cap k s w hm (by omega) (by omega) (by omega))
  go_enter Try.func25, Try.ntmps25
  go_wp2_with fail
  refine C.out.mono ?_
  rintro e w1 ⟨rfl, h1⟩
  rw [h1]
  clear h1
  go_wp2_with fail
  refine (get_few none 0 0 true _ (by omega)).mono ?_
  rintro e w2 ⟨rfl, h2⟩
  rw [h2]
  clear h2
  go_wp2
  go_ret2
  exact ⟨rfl, Below.refl _ _⟩

/-- One byte. -/
theorem number_one (a : Option Addr) (cap : Nat) (xs : List UInt8) (k : Nat) (w : World) (hm : xs.length ≤ 90000) (hk : k ≤ 90000) (h : RowAt w a cap xs) :
    Calls Try.prog 25 #[.slice a xs.length cap, .int .i64 (k : Int), .int .i64 1] w fun e w' => e = .returned (.tuple #[.int .i64 (Hd.bt xs k : Nat), .bool (decide (k < xs.length))]) ∧ Below w.heap.size w w' := by
  by_cases hks : k < xs.length
  · rw [decide_eq_true hks]
    exact number_in a cap xs k 1 _ w (by omega) (by omega) (by omega) (by omega) (Hd.get_one xs k (by omega)) (by have := Hd.bt_lt xs k; omega) h
  · rw [decide_eq_false hks, Hd.bt_out xs k (by omega)]
    exact number_out a _ cap k 1 w (by omega) (by omega) (by omega)
/-- Two bytes. -/
theorem number_two (a : Option Addr) (cap : Nat) (xs : List UInt8) (k : Nat) (w : World) (hm : xs.length ≤ 90000) (hk : k ≤ 90000) (h : RowAt w a cap xs) :
    Calls Try.prog 25 #[.slice a xs.length cap, .int .i64 (k : Int), .int .i64 2] w fun e w' => e = .returned (.tuple #[.int .i64 (Hd.two xs k : Nat), .bool (decide (k + 2 ≤ xs.length))]) ∧ Below w.heap.size w w' := by
  by_cases hks : k + 2 ≤ xs.length
  · rw [decide_eq_true hks]
    exact number_in a cap xs k 2 _ w (by omega) (by omega) (by omega) (by omega) (Hd.get_two xs k hks) (Hd.two_lt xs k) h
  · rw [decide_eq_false hks, show Hd.two xs k = 0 by unfold Hd.two; rw [if_neg hks]]
    exact number_out a _ cap k 2 w (by omega) (by omega) (by omega)

theorem pass_any (a : Option Addr) (cap n : Nat) (xs : List UInt8) (w : World) (hn : xs.length = n) (hm : n ≤ 90000) (h : RowAt w a cap xs) :
    Calls Try.prog 20 #[.slice a n cap] w fun e w' => e = .returned (.tuple #[.int .i64 ((Hd.pass xs).1 : Nat), .int .i64 ((Hd.pass xs).2 : Nat)]) ∧ Below w.heap.size w w' := by
  have c1 := fun W h => hn ▸ number_one a cap xs 0 W (by omega) (by omega) h
  have c2 := fun W h => hn ▸ number_one a cap xs 1 W (by omega) (by omega) h
  have q0 := Hd.pass_zero xs
  have q1 := Hd.pass_end xs
  have q2 := Hd.pass_form xs
  have q3 := Hd.pass_full xs
  rw [hn] at q1 q2 q3
  generalize Hd.bt xs 0 = x at c1 q0 q1 q2 q3
  generalize Hd.bt xs 1 = y at c2 q2 q3
  generalize Hd.pass xs = A at q0 q1 q2 q3 ⊢
  have C1 := Lib.hid c1
  have C2 := Lib.hid c2
  have H := Lib.hid h
  clear c1 c2 h hn
  by_cases hx : x = 255
  · by_cases h2 : n < 2
    · obtain rfl := q1 hx h2
      subst hx
      clear q0 q1 q2 q3
      have e2 : decide (1 < n) = false := decide_eq_false (by omega)
      rw [e2] at C2
      clear e2
      go_enter Try.func20, Try.ntmps20
      go_wp2_with fail
      refine (C1.out _ H.out).mono ?_
      rintro e w1 ⟨rfl, b1⟩
      go_wp2_with fail
      refine (C2.out _ (H.out.next b1)).mono ?_
      rintro e w2 ⟨rfl, b2⟩
      go_wp2
      go_ret2
      exact ⟨rfl, Below.chain b1 b2⟩
    · have e2 : decide (1 < n) = true := decide_eq_true (by omega)
      rw [e2] at C2
      clear e2
      by_cases h3 : y = 3
      · obtain rfl := q3 hx h2 h3
        subst hx
        subst h3
        clear q0 q1 q2 q3
        go_enter Try.func20, Try.ntmps20
        go_wp2_with fail
        refine (C1.out _ H.out).mono ?_
        rintro e w1 ⟨rfl, b1⟩
        go_wp2_with fail
        refine (C2.out _ (H.out.next b1)).mono ?_
        rintro e w2 ⟨rfl, b2⟩
        go_wp2
        go_ret2
        exact ⟨rfl, Below.chain b1 b2⟩
      · obtain rfl := q2 hx h2 h3
        subst hx
        have i3 : ((y : Int) == 3) = false := by simp; omega
        clear q0 q1 q2 q3
        go_enter Try.func20, Try.ntmps20
        go_wp2_with fail
        refine (C1.out _ H.out).mono ?_
        rintro e w1 ⟨rfl, b1⟩
        go_wp2_with fail
        refine (C2.out _ (H.out.next b1)).mono ?_
        rintro e w2 ⟨rfl, b2⟩
        go_wp2
        go_ret2
        exact ⟨rfl, Below.chain b1 b2⟩
  · obtain rfl := q0 hx
    have i3 : ((x : Int) == 255) = false := by simp; omega
    clear q0 q1 q2 q3
    go_enter Try.func20, Try.ntmps20
    go_wp2_with fail
    refine (C1.out _ H.out).mono ?_
    rintro e w1 ⟨rfl, b1⟩
    go_wp2_with fail
    refine (C2.out _ (H.out.next b1)).mono ?_
    rintro e w2 ⟨rfl, b2⟩
    go_wp2
    go_ret2
    exact ⟨rfl, Below.chain b1 b2⟩
end Go.Proofs.Ytphamnpafafpkaa
