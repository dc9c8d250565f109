/- Contracts for the way back: what is read of the program's own digits. -/
import Derived.Test.YtiiaahhdlgoklaaDoorPutsWalk
import Derived.Test.YtiiaahhdlgoklaaDoorPlaind
namespace Go.Proofs.YtiiaahhdlgoklaaDoor
open Go.RowKit Go.Sort

theorem data_mk (l : List UInt8) : (⟨l.toArray⟩ : ByteArray).data.toList = l := by simp
theorem size_mk (l : List UInt8) : (⟨l.toArray⟩ : ByteArray).size = l.length := by rw [Lib.size_eq, data_mk]

theorem readDec_dec (n : Nat) (hn : n < 18446744073709551616) (w : World) :
    Calls Tryd.prog 15 #[.string ⟨(Dg.putB 10 n).toArray⟩] w fun e w' => e = .returned (.tuple #[.int .u64 (n : Int), .bool true]) ∧ Below w.heap.size w w' := by
  have h := readDec_any ⟨(Dg.putB 10 n).toArray⟩ w (by rw [size_mk]; have := Dg.putB_len20 10 n (by omega) hn; unfold maxLen; omega)
  rw [data_mk, Dg.rdN_putB 10 n (by omega) (by omega) hn] at h
  exact h
theorem readHex_hex (n : Nat) (hn : n < 18446744073709551616) (w : World) :
    Calls Tryd.prog 17 #[.string ⟨(Dg.putB 16 n).toArray⟩] w fun e w' => e = .returned (.tuple #[.int .u64 (n : Int), .bool true]) ∧ Below w.heap.size w w' := by
  have h := readHex_any ⟨(Dg.putB 16 n).toArray⟩ w (by rw [size_mk]; have := Dg.putB_len20 16 n (by omega) hn; unfold maxLen; omega)
  rw [data_mk, Dg.rdN_putB 16 n (by omega) (by omega) hn] at h
  exact h
/-- ReadBytes, in one form. -/
theorem readBytes_u (s : ByteArray) (w : World) (hs : s.size ≤ 1000000) :
    Calls Tryd.prog 18 #[.string s] w fun e w' => ∃ v, e = .returned (.tuple #[v, .bool (Dg.unhex s.data.toList).isSome]) ∧ w'.ownsRow w.heap.size 5 1 v ((Dg.unhex s.data.toList).getD []).length (Lib.byteCells ((Dg.unhex s.data.toList).getD [])) ∧ Below w.heap.size w w' := by
  refine (readBytes_any s w hs).mono ?_
  rintro e w' ⟨hb, ⟨h1, h2⟩ | ⟨v, ys, h1, _, h3, h4⟩⟩
  · rw [h1]
    exact ⟨_, h2, World.ownsRow_nil _ _ _ _, hb⟩
  · rw [h1]
    exact ⟨v, h3, h4, hb⟩
theorem readBytes_hex (xs : List UInt8) (hx : xs.length ≤ 2000) (w : World) :
    Calls Tryd.prog 18 #[.string ⟨(Dg.hexs xs).toArray⟩] w fun e w' => ∃ v, e = .returned (.tuple #[v, .bool true]) ∧ w'.ownsRow w.heap.size 5 1 v xs.length (Lib.byteCells xs) ∧ Below w.heap.size w w' := by
  have h := readBytes_u ⟨(Dg.hexs xs).toArray⟩ w (by rw [size_mk, Dg.hexs_length]; omega)
  rw [data_mk, Dg.unhex_hexs] at h
  exact h
theorem conv_none (a : Option Addr) (cap : Nat) (w : World) : (convert 23 9 (.slice a 0 cap)).run Tryd.prog w = .ok (.string ⟨#[]⟩) w := by
  cases a with
  | none => kernel_rfl
  | some a => exact run_convert_bytes_back (P := Tryd.prog) w 23 9 5 a cap [] Tryd.underlying23 Tryd.underlying5 Tryd.underlying9 (fun j hj => by simp at hj)
theorem conv_at (a : Option Addr) (cap : Nat) (xs : List UInt8) (w : World) (h : BytesAt w a xs) : (convert 23 9 (.slice a xs.length cap)).run Tryd.prog w = .ok (.string ⟨xs.toArray⟩) w := by
  rcases h with rfl | ⟨b, off, rfl, hb, hc⟩
  · exact conv_none a cap w
  · exact run_convert_bytes_back (P := Tryd.prog) w 23 9 5 ⟨b, off, none⟩ cap xs Tryd.underlying23 Tryd.underlying5 Tryd.underlying9 (fun j hj => by rw [Lib.add_plain]; exact hc j hj)

theorem Dg.rd_lt : ∀ (b : Nat) (l : List UInt8) (m v : Nat), 0 < b → m < 18446744073709551616 → Dg.rd b m l = some v → v < 18446744073709551616
  | _, [], m, v, _, hm, h => by simp [Dg.rd] at h; omega
  | b, c :: t, m, v, hb, hm, h => by
    cases hv : Dg.dv c.toNat with
    | none => rw [Dg.rd_none b m c t hv] at h; cases h
    | some d =>
      rw [Dg.rd_cons b m c t d hv] at h
      split at h
      · rename_i hd
        have hf := Dg.fits_nat m d b (by have := Dg.dv_lt hv; omega) hb hd.2
        exact Dg.rd_lt b t _ v hb (by omega) h
      · cases h
theorem Dg.rdN_lt (b : Nat) (l : List UInt8) (v : Nat) (hb : 0 < b) (h : Dg.rdN b l = some v) : v < 18446744073709551616 := by
  match l, h with
  | [], h => simp [Dg.rdN] at h
  | x :: t, h =>
    rw [Dg.rdN_cons] at h
    split at h
    · cases h
    · exact Dg.rd_lt b (x :: t) 0 v hb (by omega) h
theorem mk_data (s : ByteArray) : (⟨s.data.toList.toArray⟩ : ByteArray) = s := by cases s; simp
theorem dec_back (s : ByteArray) (u : Nat) (h : Dg.rdN 10 s.data.toList = some u) (w : World) (ht : Tabs w) :
    Calls Tryd.prog 10 #[.int .u64 (u : Int)] w fun e w' => e = .returned (.string s) ∧ Below w.heap.size w w' := by
  have h1 := dec_any u (Dg.rdN_lt 10 _ u (by omega) h) w ht
  rw [Dg.putB_rdN 10 _ u (by omega) h, mk_data] at h1
  exact h1
theorem hex_back (s : ByteArray) (u : Nat) (h : Dg.rdN 16 s.data.toList = some u) (w : World) (ht : Tabs w) :
    Calls Tryd.prog 12 #[.int .u64 (u : Int)] w fun e w' => e = .returned (.string s) ∧ Below w.heap.size w w' := by
  have h1 := hex_any u (Dg.rdN_lt 16 _ u (by omega) h) w ht
  rw [Dg.putB_rdN 16 _ u (by omega) h, mk_data] at h1
  exact h1
theorem bytes_back (s : ByteArray) (hs : s.size ≤ 2000) (ys : List UInt8) (h : Dg.unhex s.data.toList = some ys) (v : Value) (B : Nat) (w : World) (ho : w.ownsRow B 5 1 v ys.length (Lib.byteCells ys)) :
    Calls Tryd.prog 13 #[v] w fun e w' => e = .returned (.string s) ∧ Below w.heap.size w w' := by
  have e := Dg.hexs_unhex _ ys h
  have hl : ys.length ≤ 100000 := by
    have h2 := Dg.hexs_length ys
    rw [e, ← Lib.size_eq] at h2
    omega
  have h1 := bytes_own v B ys w hl ho
  rw [e, mk_data] at h1
  exact h1
end Go.Proofs.YtiiaahhdlgoklaaDoor
