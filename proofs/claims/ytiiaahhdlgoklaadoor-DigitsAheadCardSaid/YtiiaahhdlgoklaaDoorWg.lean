/- The contract of awake: the answers that the document fixes. -/
import Derived.Test.YtiiaahhdlgoklaaDoorWf
namespace Go.Proofs.YtiiaahhdlgoklaaDoor
open Go.RowKit Go.Sort

theorem p0 : Dg.putB 10 0 = [48] := by rw [Dg.putB_small 10 0 (by omega)]; decide
theorem p1024 : Dg.putB 10 1024 = [49, 48, 50, 52] := by
  rw [Dg.putB_big 10 1024 (by omega) (by omega), Dg.putB_big 10 (1024 / 10) (by omega) (by omega), Dg.putB_big 10 (1024 / 10 / 10) (by omega) (by omega), Dg.putB_small 10 (1024 / 10 / 10 / 10) (by omega)]; decide
theorem p255 : Dg.putB 16 255 = [102, 102] := by
  rw [Dg.putB_big 16 255 (by omega) (by omega), Dg.putB_small 16 (255 / 16) (by omega)]; decide
theorem r1024 : Dg.rdN 10 [49, 48, 50, 52] = some 1024 := by decide
theorem r007 : Dg.rdN 10 [48, 48, 55] = none := by decide
theorem rff : Dg.rdN 16 [102, 102] = some 255 := by decide
theorem u0aff : Dg.unhex [48, 97, 102, 102] = some [10, 255] := by decide
theorem h0aff : Dg.hexs [10, 255] = [48, 97, 102, 102] := by decide
theorem wab : Dg.words [32, 97, 32, 32, 98] = [[97], [98]] := by decide

theorem aw_dec0 (w : World) (ht : Tabs w) : Calls Tryd.prog 10 #[.int .u64 0] w fun e w' => e = .returned (.string ⟨#[48]⟩) ∧ Below w.heap.size w w' := by
  have h := dec_any 0 (by omega) w ht
  rw [p0] at h
  exact h
theorem aw_dec1024 (w : World) (ht : Tabs w) : Calls Tryd.prog 10 #[.int .u64 1024] w fun e w' => e = .returned (.string ⟨#[49, 48, 50, 52]⟩) ∧ Below w.heap.size w w' := by
  have h := dec_any 1024 (by omega) w ht
  rw [p1024] at h
  exact h
theorem aw_hex255 (w : World) (ht : Tabs w) : Calls Tryd.prog 12 #[.int .u64 255] w fun e w' => e = .returned (.string ⟨#[102, 102]⟩) ∧ Below w.heap.size w w' := by
  have h := hex_any 255 (by omega) w ht
  rw [p255] at h
  exact h
theorem aw_r1024 (w : World) : Calls Tryd.prog 15 #[.string ⟨#[49, 48, 50, 52]⟩] w fun e w' => e = .returned (.tuple #[.int .u64 1024, .bool true]) ∧ Below w.heap.size w w' := by
  have h := readDec_any ⟨#[49, 48, 50, 52]⟩ w (by decide)
  rw [r1024] at h
  exact h
theorem aw_r007 (w : World) : Calls Tryd.prog 15 #[.string ⟨#[48, 48, 55]⟩] w fun e w' => e = .returned (.tuple #[.int .u64 0, .bool false]) ∧ Below w.heap.size w w' := by
  have h := readDec_any ⟨#[48, 48, 55]⟩ w (by decide)
  rw [r007] at h
  exact h
theorem aw_rff (w : World) : Calls Tryd.prog 17 #[.string ⟨#[102, 102]⟩] w fun e w' => e = .returned (.tuple #[.int .u64 255, .bool true]) ∧ Below w.heap.size w w' := by
  have h := readHex_any ⟨#[102, 102]⟩ w (by decide)
  rw [rff] at h
  exact h
theorem aw_0aff (w : World) : Calls Tryd.prog 18 #[.string ⟨#[48, 97, 102, 102]⟩] w fun e w' => ∃ v, e = .returned (.tuple #[v, .bool true]) ∧ Below w.heap.size w w' ∧ w'.ownsRow w.heap.size 5 1 v 2 (Lib.byteCells [10, 255]) := by
  refine (readBytes_any ⟨#[48, 97, 102, 102]⟩ w (by decide)).mono ?_
  rintro e w' ⟨hb, ⟨h1, _⟩ | ⟨v, ys, h1, _, h3, h4⟩⟩
  · exact absurd h1 (by decide)
  · rw [show (⟨#[48, 97, 102, 102]⟩ : ByteArray).data.toList = [48, 97, 102, 102] from rfl, u0aff] at h1
    cases h1
    exact ⟨v, h3, hb, h4⟩
theorem aw_0af (w : World) : Calls Tryd.prog 18 #[.string ⟨#[48, 97, 102]⟩] w fun e w' => e = .returned (.tuple #[.slice none 0 0, .bool false]) ∧ w' = w :=
  readBytes_odd ⟨#[48, 97, 102]⟩ 1 w rfl (by omega)
theorem aw_words (w : World) : Calls Tryd.prog 21 #[.string ⟨#[32, 97, 32, 32, 98]⟩] w fun e w' => ∃ g cap, e = .returned (.slice (some ⟨g, 0, none⟩) 2 cap) ∧ w'.ownsRow (w.heap.size + 1) 9 1 (.slice (some ⟨g, 0, none⟩) 2 cap) 2 [.string ⟨#[97]⟩, .string ⟨#[98]⟩] ∧ Below w.heap.size w w' := by
  have h := words_any ⟨#[32, 97, 32, 32, 98]⟩ w (by decide)
  rw [show (⟨#[32, 97, 32, 32, 98]⟩ : ByteArray).data.toList = [32, 97, 32, 32, 98] from rfl, wab] at h
  refine h.mono ?_
  rintro e w' ⟨v, h1, h2, h3⟩
  have h4 : w'.ownsRow (w.heap.size + 1) 9 1 v 2 [.string ⟨#[97]⟩, .string ⟨#[98]⟩] := h2
  rcases h4.2 with ⟨_, h0⟩ | ⟨g, cap, cur, rfl, _⟩
  · cases h0
  · exact ⟨g, cap, h1, h4, h3⟩
theorem bytes_own (v : Value) (B : Nat) (l : List UInt8) (w : World) (hl : l.length ≤ 100000) (hown : w.ownsRow B 5 1 v l.length (Lib.byteCells l)) :
    Calls Tryd.prog 13 #[v] w fun e w' => e = .returned (.string ⟨(Dg.hexs l).toArray⟩) ∧ Below w.heap.size w w' := by
  rcases hown.2 with ⟨rfl, h0⟩ | ⟨g, cap, cur, rfl, _⟩
  · have : l = [] := List.eq_nil_of_length_eq_zero h0
    subst this
    exact bytes_none none 0 w
  · refine bytes_some g 0 cap l w hl (hown.lt g rfl).2 (fun j hj => ?_)
    have := hown.cellAt j (by omega)
    rw [Nat.zero_add, this]
    simp [Lib.byteCells, hj]
theorem aw_bytes (v : Value) (B : Nat) (w : World) (hown : w.ownsRow B 5 1 v 2 (Lib.byteCells [10, 255])) :
    Calls Tryd.prog 13 #[v] w fun e w' => e = .returned (.string ⟨#[48, 97, 102, 102]⟩) ∧ Below w.heap.size w w' := by
  have h := bytes_own v B [10, 255] w (by decide) hown
  rw [h0aff] at h
  exact h
theorem aw_pl1 (w : World) : Calls Tryd.prog 23 #[.string ⟨#[97, 35]⟩] w fun e w' => e = .returned (.bool true) ∧ Below w.heap.size w w' := plain_any ⟨#[97, 35]⟩ w
theorem aw_pl2 (w : World) : Calls Tryd.prog 23 #[.string ⟨#[97, 32, 98]⟩] w fun e w' => e = .returned (.bool false) ∧ Below w.heap.size w w' := plain_any ⟨#[97, 32, 98]⟩ w
theorem aw_pl3 (w : World) : Calls Tryd.prog 23 #[.string ⟨#[]⟩] w fun e w' => e = .returned (.bool false) ∧ Below w.heap.size w w' := plain_any ⟨#[]⟩ w
end Go.Proofs.YtiiaahhdlgoklaaDoor
