/- What is written is read: contracts of Write and Read, one behind the other. -/
import Derived.Test.YtbbnkmhlgfoacaaDoorCn
import Derived.Test.YtbbnkmhlgfoacaaDoorCo
namespace Go.Proofs.YtbbnkmhlgfoacaaDoor
open Go.RowKit
open S10

namespace Cp
theorem rcds_short (L : List It) (hl : L.length ≤ 1000000) (h : ∀ x ∈ L, may x = true) : ∀ r ∈ (S9.Pc.read (S9.Pc.put hdr (rcds L))).2.1, r.data.length ≤ 90000 := by
  rw [S9.Pc.read_put hdr (rcds L) ⟨by decide, by decide⟩ (rcds_ok L hl h).1 (rcds_ok L hl h).2]
  intro r hr
  obtain ⟨i, _, x, hx, rfl⟩ := rcds_mem L r hr
  have h1 := (may_parts x (h x hx)).2.2
  have h2 := body_length x
  show (markOf x :: body x).length ≤ 90000
  rw [List.length_cons]; omega
theorem nts_safe (c : Cf) (hc : c.accm < 4294967296) (L : List It) (h : ∀ x ∈ L, may x = true) : SafeN c (S10.Dm.read (S10.Dm.bytes (nts c L))).1 := by
  rw [S10.Dm.read_put _ (nts_fine c L)]
  exact (parted_sm c hc L _ (nts_parted c L) h).2
theorem write_len (L : List It) (f : Int) (c : Cf) (h60 : L.length ≤ 60) (ht : tot L ≤ 70000) (hm : ∀ x ∈ L, may x = true) (hf : f = 1 ∨ f = 2) : (write L f c).1.length ≤ 200000 := by
  rcases hf with rfl | rfl
  · rw [write_one L c hm]
    have h1 := S9.Pc.put_length hdr (rcds L)
    have h2 := size_rcds L
    have h3 := rcds_length L
    simp only
    omega
  · rw [write_two L c hm]
    exact (bytes_nts c L ht h60).1
theorem write_ok (L : List It) (f : Int) (c : Cf) (hm : ∀ x ∈ L, may x = true) (hf : f = 1 ∨ f = 2) : (write L f c).2 = 0 := by
  rcases hf with rfl | rfl
  · rw [write_one L c hm]
  · rw [write_two L c hm]
theorem read_write (L : List It) (f : Int) (c : Cf) (hc : c.accm < 4294967296) (hl : L.length ≤ 1000000) (hm : ∀ x ∈ L, may x = true) (hf : f = 1 ∨ f = 2) : read (write L f c).1 f c = (L, 0, 0) := by
  rcases hf with rfl | rfl
  · rw [write_one L c hm, read_one]
    exact read_writeP L hl hm c.dir
  · rw [write_two L c hm, read_two]
    exact read_writeD c hc L hm
end Cp
theorem Its.at' {w : World} {B n : Nat} {E : Nat → Prop} {v : Value} {L : List Cp.It} (h : Its w B E v L) (hn : L.length = n) : ∃ a c, v = .slice a n c ∧ ItsAt w a L := by
  subst hn; exact h.at
/-- Write, of items that may be. -/
theorem ways_write (f : Int) (hf : f = 1 ∨ f = 2) (y : Xc) (a : Option Addr) (n cap : Nat) (L : List Cp.It) (w : World) (hn : L.length = n) (h60 : n ≤ 60) (htt : Cp.tot L ≤ 70000) (hm : ∀ x ∈ L, Cp.may x = true) (hac : y.c.accm < 4294967296) (h : ItsAt w a L) (ht : Tab w) (m : Nat) (hX : (Cp.write L f y.c).1.length = m) :
    Calls Tryd.prog 8 #[.slice a n cap, .int .i64 f, .agg (ccells y).toArray] w fun e w' => ∃ p c, e = .returned (.tuple #[.slice p m c, .int .i64 0]) ∧ RowAt w' p c (Cp.write L f y.c).1 ∧ Below w.heap.size w w' := by
  have hlen : ∀ x ∈ L, x.data.length ≤ 1000000000 := fun x hx => by have := Cp.tot_mem L x hx; omega
  refine (capWrite_any f y a n cap L w hn (by omega) hlen (fun _ => by omega) (fun _ => ⟨h60, htt⟩) hac h ht).mono ?_
  rintro e w' ⟨v, rfl, o, b⟩
  rw [Cp.write_ok L f y.c hm hf]
  obtain ⟨p, c, rfl, r⟩ := rowAt_own hX (by rw [← hX]; exact o)
  exact ⟨p, c, rfl, r, b⟩
/-- Read, of what was written. -/
theorem ways_read (f : Int) (hf : f = 1 ∨ f = 2) (y : Xc) (L : List Cp.It) (w : World) (n : Nat) (hn : L.length = n) (h60 : n ≤ 60) (htt : Cp.tot L ≤ 70000) (hm : ∀ x ∈ L, Cp.may x = true) (hac : y.c.accm < 4294967296) (p : Option Addr) (m c : Nat) (hX : (Cp.write L f y.c).1.length = m) (hr : RowAt w p c (Cp.write L f y.c).1) (ht : Tab w) :
    Calls Tryd.prog 9 #[.slice p m c, .int .i64 f, .agg (ccells y).toArray] w fun e w' => ∃ a c', e = .returned (.tuple #[.slice a n c', .agg (scells 0 0).toArray]) ∧ ItsAt w' a L ∧ Below w.heap.size w w' := by
  have hl := Cp.write_len L f y.c (by omega) htt hm hf
  refine (capRead_any f y p m c (Cp.write L f y.c).1 w hX (by omega) hr ht hac ?_ ?_).mono ?_
  · rintro rfl
    rw [Cp.write_one L y.c hm]
    exact Cp.rcds_short L (by omega) hm
  · rintro rfl
    rw [Cp.write_two L y.c hm]
    exact Cp.nts_safe y.c hac L hm
  · rintro e w' ⟨v, rfl, i, b⟩
    rw [Cp.read_write L f y.c hac (by omega) hm hf] at i ⊢
    obtain ⟨a, c', rfl, hi⟩ := Its.at' i hn
    exact ⟨a, c', rfl, hi, b⟩
/-- Write, of an item that may not be, or of another format. -/
theorem ways_not (f : Int) (y : Xc) (a : Option Addr) (n cap : Nat) (L : List Cp.It) (w : World) (hn : L.length = n) (h60 : n ≤ 60) (htt : Cp.tot L ≤ 70000) (hac : y.c.accm < 4294967296) (h : ItsAt w a L) (ht : Tab w) (k : Nat) (hk : Cp.write L f y.c = ([], k)) :
    Calls Tryd.prog 8 #[.slice a n cap, .int .i64 f, .agg (ccells y).toArray] w fun e w' => ∃ p c, e = .returned (.tuple #[.slice p 0 c, .int .i64 (k : Int)]) ∧ RowAt w' p c [] ∧ Below w.heap.size w w' := by
  have hlen : ∀ x ∈ L, x.data.length ≤ 1000000000 := fun x hx => by have := Cp.tot_mem L x hx; omega
  refine (capWrite_any f y a n cap L w hn (by omega) hlen (fun _ => by omega) (fun _ => ⟨h60, htt⟩) hac h ht).mono ?_
  rintro e w' ⟨v, rfl, o, b⟩
  rw [hk] at o ⊢
  obtain ⟨p, c, rfl, r⟩ := rowAt_own rfl o
  exact ⟨p, c, rfl, r, b⟩
end Go.Proofs.YtbbnkmhlgfoacaaDoor
