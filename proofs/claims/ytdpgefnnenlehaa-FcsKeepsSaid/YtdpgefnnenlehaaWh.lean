/- The answers that awake asks for; contract of awake. -/
import Derived.Test.YtdpgefnnenlehaaRa
import Derived.Lib.SlBytesConst
namespace Go.Proofs.Ytdpgefnnenlehaa
open Go.RowKit
namespace Fc
def nine : List UInt8 := [49, 50, 51, 52, 53, 54, 55, 56, 57]
def nineS : List UInt8 := [49, 50, 51, 52, 53, 54, 55, 56, 57, 110, 144]
theorem nine_of : of nine false = 36974 := by decide +kernel
theorem nine_wide : of nine true = 3421780262 := by decide +kernel
theorem nine_sealed : sealed nine false = nineS := by decide +kernel
theorem nine_good : good nineS false = true := by decide +kernel
theorem nine_bad : good nineS true = false := by decide +kernel
theorem nine_opened : opened nineS false = nine := by decide +kernel
theorem nil_bad : good [] false = false := by decide +kernel
theorem nine_more : moreOf 65535 nine false = 28561 := by decide +kernel
end Fc


/-- What awake knows of the memory: the text, and the sealed text. -/
structure Awk (w0 w : World) (a b : Option Addr) (c d : Nat) : Prop where
  one : RowAt w a c Fc.nine
  two : RowAt w b d Fc.nineS
  bel : Below w0.heap.size w0 w
theorem Awk.next {w0 w w' : World} {a b : Option Addr} {c d : Nat} (h : Awk w0 w a b c d) (k : Below w.heap.size w w') : Awk w0 w' a b c d := ⟨h.one.next k, h.two.next k, Below.chain h.bel k⟩

set_option maxRecDepth 10000 in
set_option maxHeartbeats 2000000 in
theorem awake_any (w : World) : Calls Try.prog 9 #[] w fun e w' => e = .returned (.bool true) ∧ Below w.heap.size w w' := by
  have kc := fun (w : World) (C : Array Value) (n c : Nat) => Lib.run_convert_bytes_const (P := Try.prog) w 23 5 C n c Try.underlying23 Try.underlying5
  go_enter Try.func9, Try.ntmps9
  go_wp2_with fail
  have hr := rowAt_built w Fc.nine 9 _ rfl rfl (by omega) (9, 10)
  have hb := (Below.refl w.heap.size w).alloc (Nat.le_refl _) (.cells (Lib.byteCells Fc.nine).toArray 5 (9, 10))
  have hcs : #[.int .u8 49, .int .u8 50, .int .u8 51, .int .u8 52, .int .u8 53, .int .u8 54, .int .u8 55, .int .u8 56, .int .u8 57] = (Lib.byteCells Fc.nine).toArray := rfl
  rw [hcs]
  generalize w.alloc (.cells (Lib.byteCells Fc.nine).toArray 5 (9, 10)) = w1 at hr hb ⊢
  generalize (some ⟨w.heap.size, 0, none⟩ : Option Addr) = a at hr ⊢
  clear kc
  refine (seal_row a 9 9 Fc.nine false w1 rfl (by omega) hr).mono ?_
  rw [Fc.nine_sealed, show Fc.nineS.length = 11 from rfl]
  rintro e w2 ⟨b, d, rfl, r2, b2⟩
  have hA : Awk w w2 a b 9 d := ⟨hr.next b2, r2, Below.chain hb b2⟩
  clear hr hb r2 b2 hcs
  go_wp2_with fail
  have h16 := open_any b 11 d Fc.nineS false w2 rfl (by omega) hA.two
  rw [Fc.nine_opened, Fc.nine_good, show Fc.nine.length = 9 from rfl] at h16
  refine h16.mono ?_
  clear h16
  rintro e w3 ⟨y, f, rfl, r3, b3⟩
  replace hA := hA.next b3
  clear b3
  go_wp2_with fail
  have h12 := of_any a 9 9 Fc.nine false w3 rfl (by omega) hA.one
  rw [Fc.nine_of] at h12
  refine h12.mono ?_
  clear h12
  rintro e w4 ⟨rfl, b4⟩
  replace hA := hA.next b4
  replace r3 := r3.next b4
  clear b4
  go_wp2_with fail
  have h12 := of_any a 9 9 Fc.nine true w4 rfl (by omega) hA.one
  rw [Fc.nine_wide] at h12
  refine h12.mono ?_
  clear h12
  rintro e w5 ⟨rfl, b5⟩
  replace hA := hA.next b5
  replace r3 := r3.next b5
  clear b5
  have k1 : (convert 23 9 (.slice b 11 d)).run Try.prog w5 = .ok (.string ⟨#[49, 50, 51, 52, 53, 54, 55, 56, 57, 110, 144]⟩) w5 := conv_row rfl hA.two
  have k2 : (convert 23 9 (.slice y 9 f)).run Try.prog w5 = .ok (.string ⟨#[49, 50, 51, 52, 53, 54, 55, 56, 57]⟩) w5 := conv_row rfl r3
  have k3 : (convert 23 9 (.slice a 9 9)).run Try.prog w5 = .ok (.string ⟨#[49, 50, 51, 52, 53, 54, 55, 56, 57]⟩) w5 := conv_row rfl hA.one
  go_wp2_with fail
  have h18 := good_any b 11 d Fc.nineS false w5 rfl (by omega) hA.two
  rw [Fc.nine_good] at h18
  refine h18.mono ?_
  clear h18 k1 k2 k3
  rintro e w6 ⟨rfl, b6⟩
  replace hA := hA.next b6
  clear b6
  go_wp2_with fail
  have h18 := good_any b 11 d Fc.nineS true w6 rfl (by omega) hA.two
  rw [Fc.nine_bad] at h18
  refine h18.mono ?_
  clear h18
  rintro e w7 ⟨rfl, b7⟩
  replace hA := hA.next b7
  clear b7
  go_wp2_with fail
  have h18 := good_any none 0 0 [] false w7 rfl (by omega) (rowAt_nil _)
  rw [Fc.nil_bad] at h18
  refine h18.mono ?_
  clear h18
  rintro e w8 ⟨rfl, b8⟩
  replace hA := hA.next b8
  clear b8
  go_wp2_with fail
  refine (size_any true _).mono ?_
  rintro e w9 ⟨rfl, rfl⟩
  rw [show Fc.size true = 4 from rfl]
  go_wp2_with fail
  have h10 := more_any 65535 a 9 9 Fc.nine false w9 rfl (by omega) (by omega) hA.one
  rw [Fc.nine_more] at h10
  refine h10.mono ?_
  clear h10
  rintro e w10 ⟨rfl, b10⟩
  replace hA := hA.next b10
  clear b10
  go_wp2
  go_ret
  exact ⟨rfl, hA.bel⟩
end Go.Proofs.Ytdpgefnnenlehaa
