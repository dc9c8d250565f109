/- Contracts of within, and of whatever takes the next byte. -/
import Derived.Test.YthmljgpnkealaaaFe
namespace Go.Proofs.Ythmljgpnkealaaa
open Go.RowKit

theorem within_flag {w : World} {m : Nat} {wide : Bool} {D : Nat} {hv : Value} {s : Fr.DS} (h : DefAt w m wide D hv s) (hm : m < 4294967296) (hl : s.held.length ≤ 2 * Fr.most wide) (hT : s.tal.le 1000000) :
    Calls Try.prog 36 #[.pointer (some ⟨D, 0, none⟩), .int .u8 126] w fun e w' => NextAt w w' e m wide D hv ⟨s.ins, [], Fr.count s.tal (Fr.judge wide (St.ans m s.held))⟩ (Fr.bodyOf wide (St.ans m s.held)) := by
  have he := Lib.hid (end_any h hm hl hT)
  clear h hT
  generalize Fr.bodyOf wide (St.ans m s.held) = B at he ⊢
  generalize Fr.count s.tal (Fr.judge wide (St.ans m s.held)) = T at he ⊢
  go_enter Try.func36, Try.ntmps36
  go_wp2_with fail
  refine he.out.mono ?_
  rintro e w1 ⟨hv', p, c, rfl, h1⟩
  go_wp2
  go_ret
  exact ⟨hv', p, c, rfl, h1⟩
theorem within_left {w : World} {m : Nat} {wide : Bool} {D : Nat} {hv : Value} {s : Fr.DS} (h : DefAt w m wide D hv s) (c : UInt8) (hm : m < 4294967296) (hc : ¬ c.toNat = 126) (hh : Ac.has m c.toNat = true) :
    Calls Try.prog 36 #[.pointer (some ⟨D, 0, none⟩), .int .u8 (c.toNat : Int)] w fun e w' => NextAt w w' e m wide D hv s [] := by
  have hl := leftOut_any h c hm hc
  rw [hh] at hl
  have i6 : ¬ (c.toNat : Int) = 126 := by omega
  have H := Lib.hid h
  clear h hc hh
  go_enter Try.func36, Try.ntmps36
  go_wp2_with fail
  refine hl.mono ?_
  rintro e w1 ⟨rfl, b1⟩
  go_wp2
  go_ret
  exact nextAt_none rfl (H.out.next b1) (fed_below _ _ b1)
theorem within_byte {w : World} {m : Nat} {wide : Bool} {D : Nat} {hv : Value} {s : Fr.DS} (h : DefAt w m wide D hv s) (c : UInt8) (hm : m < 4294967296) (hc : ¬ c.toNat = 126) (hh : Ac.has m c.toNat = false) (hl : s.held.length + 1 ≤ 2 * Fr.most wide) :
    Calls Try.prog 36 #[.pointer (some ⟨D, 0, none⟩), .int .u8 (c.toNat : Int)] w fun e w' => NextAt w w' e m wide D hv ⟨s.ins, s.held ++ [c], s.tal⟩ [] := by
  have h49 := leftOut_any h c hm hc
  rw [hh] at h49
  have i6 : ¬ (c.toNat : Int) = 126 := by omega
  have H := Lib.hid h
  have hh2 := Lib.hid (fun (W : World) (b : Below w.heap.size w W) => hold_any (h.next b) c hl)
  clear h hc hh hl
  go_enter Try.func36, Try.ntmps36
  go_wp2_with fail
  refine h49.mono ?_
  rintro e w1 ⟨rfl, b1⟩
  go_wp2_with fail
  refine (hh2.out w1 b1).mono ?_
  rintro e w2 ⟨u, hv', rfl, h2, f2⟩
  have H2 := Lib.hid h2
  have F2 := Lib.hid ((fed_below D hv b1).trans f2)
  clear h2 f2 b1
  go_wp2
  go_ret
  exact nextAt_none rfl H2.out F2.out

namespace Fr
theorem next_out_flag (m : Nat) (wide : Bool) (h : List UInt8) (t : Tal) (c : UInt8) (hc : c.toNat = 126) : next m wide ⟨false, h, t⟩ c = ⟨true, h, t⟩ ∧ out m wide ⟨false, h, t⟩ c = [] := by simp [next, out, hc]
theorem next_out_byte (m : Nat) (wide : Bool) (h : List UInt8) (t : Tal) (c : UInt8) (hc : ¬ c.toNat = 126) : next m wide ⟨false, h, t⟩ c = ⟨false, h, t⟩ ∧ out m wide ⟨false, h, t⟩ c = [] := by simp [next, out, hc]
theorem next_in_flag (m : Nat) (wide : Bool) (h : List UInt8) (t : Tal) (c : UInt8) (hc : c.toNat = 126) : next m wide ⟨true, h, t⟩ c = ⟨true, [], count t (judge wide (St.ans m h))⟩ ∧ out m wide ⟨true, h, t⟩ c = bodyOf wide (St.ans m h) := by simp [next, out, hc]
theorem next_in_left (m : Nat) (wide : Bool) (h : List UInt8) (t : Tal) (c : UInt8) (hc : ¬ c.toNat = 126) (hh : Ac.has m c.toNat = true) : next m wide ⟨true, h, t⟩ c = ⟨true, h, t⟩ ∧ out m wide ⟨true, h, t⟩ c = [] := by simp [next, out, hc, hh]
theorem next_in_byte (m : Nat) (wide : Bool) (h : List UInt8) (t : Tal) (c : UInt8) (hc : ¬ c.toNat = 126) (hh : Ac.has m c.toNat = false) : next m wide ⟨true, h, t⟩ c = ⟨true, h ++ [c], t⟩ ∧ out m wide ⟨true, h, t⟩ c = [] := by simp [next, out, hc, hh]
end Fr

/-- The next byte, taken by what is kept for it. -/
theorem next_any {w : World} {m : Nat} {wide : Bool} {D : Nat} {hv : Value} {s : Fr.DS} (h : DefAt w m wide D hv s) (c : UInt8) (hm : m < 4294967296) (hl : s.held.length ≤ 2 * Fr.most wide) (hl2 : (Fr.next m wide s c).held.length ≤ 2 * Fr.most wide) (hT : s.tal.le 1000000) :
    Calls Try.prog (if s.ins = true then 36 else 25) #[.pointer (some ⟨D, 0, none⟩), .int .u8 (c.toNat : Int)] w fun e w' => NextAt w w' e m wide D hv (Fr.next m wide s c) (Fr.out m wide s c) := by
  obtain ⟨i, hh, t⟩ := s
  cases i with
  | false =>
    by_cases hc : c.toNat = 126
    · have hn := Fr.next_out_flag m wide hh t c hc
      rw [hn.1, hn.2, hc]
      refine (outside_flag h).mono ?_
      rintro e w1 ⟨rfl, h1, f1⟩
      exact nextAt_none rfl h1 f1
    · have hn := Fr.next_out_byte m wide hh t c hc
      rw [hn.1, hn.2]
      refine (outside_byte D c.toNat w hc).mono ?_
      rintro e w1 ⟨rfl, rfl⟩
      exact nextAt_none rfl h (Fed.refl _ _ _)
  | true =>
    by_cases hc : c.toNat = 126
    · have hn := Fr.next_in_flag m wide hh t c hc
      rw [hn.1, hn.2, hc]
      exact within_flag h hm hl hT
    · cases hx : Ac.has m c.toNat with
      | true =>
        have hn := Fr.next_in_left m wide hh t c hc hx
        rw [hn.1, hn.2]
        exact within_left h c hm hc hx
      | false =>
        have hn := Fr.next_in_byte m wide hh t c hc hx
        rw [hn.1] at hl2
        rw [hn.1, hn.2]
        exact within_byte h c hm hc hx (by simpa using hl2)
end Go.Proofs.Ythmljgpnkealaaa
