/- Contract of addItems. -/
import Derived.Test.YtbbnkmhlgfoacaaDoorCd
namespace Go.Proofs.YtbbnkmhlgfoacaaDoor
open Go.RowKit
open S10

/-- Bodies in memory, all of them where F says. -/
def BodsAt (w : World) (a : Option Addr) (L : List (List UInt8)) (F : Nat → Prop) : Prop :=
  L = [] ∨ ∃ b off, a = some ⟨b, off, none⟩ ∧ b < w.heap.size ∧ F b ∧ ∀ j (h : j < L.length), ∃ p c, w.cell? ⟨b, off + j, none⟩ = some (.slice p L[j].length c) ∧ RowAt w p c L[j] ∧ ∀ ad, p = some ad → ad.block < w.heap.size ∧ F ad.block
theorem BodsAt.at {w : World} {a : Option Addr} {L : List (List UInt8)} {F : Nat → Prop} (h : BodsAt w a L F) (k : Nat) (hk : k < L.length) :
    ∃ b off p c, a = some ⟨b, off, none⟩ ∧ w.cell? ⟨b, off + k, none⟩ = some (.slice p L[k].length c) ∧ RowAt w p c L[k] ∧ ∀ ad, p = some ad → ad.block < w.heap.size ∧ F ad.block := by
  rcases h with rfl | ⟨b, off, rfl, _, _, h2⟩
  · simp at hk
  · obtain ⟨p, c, h3, h4, h5⟩ := h2 k hk
    exact ⟨b, off, p, c, rfl, h3, h4, h5⟩
theorem BodsAt.grew {w w' : World} {a : Option Addr} {L : List (List UInt8)} {v v' : Value} (h : BodsAt w a L (fun k => v.ownBlock ≠ some k)) (g : Grew w w' v v') : BodsAt w' a L (fun k => v'.ownBlock ≠ some k) := by
  rcases h with rfl | ⟨b, off, rfl, h1, h2, h3⟩
  · exact .inl rfl
  · have e := g.away b h1 h2
    refine .inr ⟨b, off, rfl, Nat.lt_of_lt_of_le h1 g.by'.size, e.2, fun j hj => ?_⟩
    obtain ⟨p, c, h4, h5, h6⟩ := h3 j hj
    refine ⟨p, c, ?_, g.row h5 (fun ad e => (h6 ad e).2), fun ad e2 => ⟨Nat.lt_of_lt_of_le (h6 ad e2).1 g.by'.size, (g.away _ (h6 ad e2).1 (h6 ad e2).2).2⟩⟩
    rw [World.cell?_of_block (w := w) e.1]; exact h4

set_option maxHeartbeats 1000000 in
theorem addItems_any (v : Value) (d : Int) (a : Option Addr) (n cap : Nat) (bs : List (List UInt8)) (L : List Cp.It) (B : Nat) (E : Nat → Prop) (w : World) (hn : bs.length = n) (hs : ∀ b ∈ bs, b.length ≤ 90000) (hb : BodsAt w a bs (fun k => v.ownBlock ≠ some k)) (hL : Its w B E v L) (hB : B ≤ w.heap.size) (hE : ∀ k, w.heap.size ≤ k → E k) (hl : L.length + n ≤ 1000000) :
    Calls Tryd.prog 44 #[v, .int .i64 d, .slice a n cap] w fun e w' => ∃ v', e = .returned v' ∧ Its w' B E v' (L ++ Cp.its d bs) ∧ Grew w w' v v' := by
  have Hn := Lib.hid hn
  have Hs := Lib.hid hs
  have Hb := Lib.hid hb
  have HL := Lib.hid hL
  have HE := Lib.hid hE
  clear hn hs hb hL hE
  obtain ⟨av, cv, rfl⟩ := its_slice HL.out
  go_enter Tryd.func44, Tryd.ntmps44
  go_wp2
  go_loopw [0, 11] (fun x i wr => ∃ k : Nat, k ≤ n ∧ i = .int .i64 (k : Int) ∧ Its wr B E x (L ++ Cp.its d (bs.take k)) ∧ Grew w wr (.slice av L.length cv) x) (fun _ i _ => n - (intOf i).toNat)
  case atStart => exact ⟨0, Nat.zero_le _, rfl, by simpa [Cp.its] using HL.out, Grew.refl _ _⟩
  case round =>
    obtain ⟨k, hk, rfl, hI, hg⟩ := hrel
    by_cases hlt : (k : Int) < (n : Int)
    · have hk' : k < bs.length := by rw [Hn.out]; omega
      obtain ⟨b, off, p, c, rfl, hcell, hrow, _⟩ := (Hb.out.grew hg).at k hk'
      have hsn := Cp.its_snoc d bs k hk'
      have hxl := Hs.out _ (List.getElem_mem hk')
      have hle := Cp.its_le d (bs.take k)
      rw [List.length_take] at hle
      obtain ⟨y, hy⟩ : ∃ y, y = bs[k] := ⟨_, rfl⟩
      rw [← hy] at hcell hrow hsn hxl
      clear hy hk'
      obtain ⟨q, hq⟩ : ∃ q, y.length = q := ⟨_, rfl⟩
      rw [hq] at hcell hxl
      obtain ⟨M, hM⟩ : ∃ M, M = L ++ Cp.its d (bs.take k) := ⟨_, rfl⟩
      have hM2 : L ++ Cp.its d (bs.take (k + 1)) = M ++ Cp.item d y := by rw [hsn, hM, List.append_assoc]
      have hMl : M.length ≤ 1000000 := by rw [hM, List.length_append]; omega
      rw [← hM] at hI
      have hsz := hg.by'.size
      obtain ⟨ax, cx, rfl⟩ := its_slice hI
      have C1 := Lib.hid (addItem_any _ d p q c y M B E wr hq hxl hrow hI (by omega) (fun j hj => HE.out j (by omega)) hMl)
      have HG := Lib.hid hg
      have HM := Lib.hid hM2
      clear hI hg hM hM2 hsn hrow hle hxl hq
      go_wp2_with fail
      refine C1.out.mono ?_
      rintro e w1 ⟨v1, rfl, i1, g1⟩
      have I1 := Lib.hid i1
      have G1 := Lib.hid g1
      clear i1 g1 C1
      go_wp2
      go_roundw
      case rel => exact ⟨k + 1, by omega, by go_num, by rw [HM.out]; exact I1.out, HG.out.trans G1.out⟩
      case measure => simp [intOf]; omega
    · have hks : bs.take k = bs := List.take_of_length_le (by rw [Hn.out]; omega)
      rw [hks] at hI
      have HI := Lib.hid hI
      clear hI hks
      go_wp2
      go_ret
      exact ⟨_, rfl, HI.out, hg⟩
end Go.Proofs.YtbbnkmhlgfoacaaDoor
