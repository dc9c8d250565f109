/- Contracts of put and of the document's Texts. -/
import Derived.Test.YtbbfhajokiajpaaSa
namespace Go.Proofs.Ytbbfhajokiajpaa
open Go.RowKit

/-- The bytes that are answered. -/
def BytesRes (w w' : World) (v : Value) (xs : List UInt8) : Prop := ∃ p c, v = .slice p xs.length c ∧ Own w w' p xs.length c xs
theorem bytesRes_nil {w w' : World} (b : Below w.heap.size w w') : BytesRes w w' (.slice none 0 0) [] := ⟨none, 0, rfl, rfl, World.ownsRow_nil _ _ _ _, b⟩
theorem BytesRes.bel {w w' : World} {v : Value} {xs : List UInt8} (h : BytesRes w w' v xs) : Below w.heap.size w w' := by
  obtain ⟨_, _, _, o⟩ := h
  exact o.bel
theorem byte_len (s : List UInt8) : (s.length : Int) % 256 = ((UInt8.ofNat s.length).toNat : Int) := by simp
theorem byte_len' (s : List UInt8) (h : s.length ≤ 255) : (s.length : Int) = ((UInt8.ofNat s.length).toNat : Int) := by simp; omega
/-- What put answers. -/
def PutRes (w w' : World) (e : Ending) (A : List UInt8 × Nat) : Prop := ∃ v, e = .returned (.tuple #[v, .int .i64 (A.2 : Int)]) ∧ BytesRes w w' v A.1
/-- What the document's answers. -/
def TextsRes (w w' : World) (e : Ending) (A : List UInt8 × Nat) : Prop := ∃ v, e = .returned (.tuple #[v, .bool (A.2 == 0)]) ∧ BytesRes w w' v A.1


set_option maxHeartbeats 1000000 in
theorem put_any (a : Option Addr) (n c : Nat) (l : List (List UInt8)) (w : World) (hn : l.length = n) (hm : n ≤ 1000) (h : TxtsAt w a l) :
    Calls Try.prog 16 #[.slice a n c] w fun e w' => PutRes w w' e (Pp.put l) := by
  have i1 : (n : Int) ≤ 1000 := by omega
  go_enter Try.func16, Try.ntmps16
  go_wp2
  go_loopw [4, 9] (fun v i wr => ∃ (k m : Nat) (p : Option Addr) (d : Nat), k ≤ n ∧ i = .int .i64 (k : Int) ∧ v = .slice p m d ∧ Pp.bad (l.take k) = false ∧ Own w wr p m d (Pp.bytes (l.take k))) (fun _ i _ => n - (intOf i).toNat)
  case atStart => exact ⟨0, 0, none, 0, Nat.zero_le _, rfl, rfl, by simp [Pp.bad], by simp [Pp.bytes]; exact own_nil w⟩
  case round =>
    obtain ⟨k, m, p, d, hk, rfl, rfl, hb, hO⟩ := hrel
    by_cases hlt : k < n
    · obtain ⟨s, hs⟩ : ∃ s, l[k]? = some s := ⟨_, List.getElem?_eq_getElem (by omega)⟩
      have i2 : (k : Int) < (n : Int) := by omega
      have hT := h.next hO.bel
      rcases hT with h0 | ⟨b, off, rfl, hbl, hc⟩
      · subst h0; simp at hs
      have HCC : Hid (∀ w', Below w.heap.size w w' → w'.cell? ⟨b, off + k, none⟩ = some (.string ⟨s.toArray⟩)) := fun w' hb' => by
        rcases h.next hb' with h0 | ⟨b', off', e, _, hc'⟩
        · subst h0; simp at hs
        · cases e; exact hc' k s hs
      have c1 : wr.cell? ⟨b, off + k, none⟩ = some (.string ⟨s.toArray⟩) := hc k s hs
      have ht := Pp.bad_take hs hb
      by_cases hs5 : 255 < s.length
      · have i3 : (255 : Int) < (s.length : Int) := by omega
        have B := hO.bel
        rw [decide_eq_true hs5] at ht
        have hp := Lib.hid (Pp.put_bad (Pp.bad_of_take ht))
        clear hc hO h ht hb
        go_wp2
        go_ret2
        exact ⟨_, by rw [hp.out]; rfl, by rw [hp.out]; exact bytesRes_nil B⟩
      · have i3 : (s.length : Int) ≤ 255 := by omega
        have HB := Lib.hid (byte_len s)
        have HC := Lib.hid (byte_len' s (by omega))
        rw [decide_eq_false hs5] at ht
        have HT := Lib.hid ht
        have HE := Lib.hid (Pp.bytes_take hs)
        have hsm := Pp.bytes_small (l.take k) hb
        rw [hO.len] at hsm
        have hkl : (l.take k).length ≤ 1000 := by rw [List.length_take]; omega
        have hm2 : m ≤ 256000 := by omega
        have HO := Lib.hid hO
        clear hc hO ht hb hsm hkl
        go_wp2_with (first
          | (at_builtin; refine wpList_append_mine rfl (.tmp 16) (.tmp 20) rfl p m d (m + 1) (Pp.bytes (l.take k)) rfl (HO.out.next (below_one wr _)) (some ⟨wr.heap.size, 0, none⟩) 1 1 [UInt8.ofNat s.length] rfl rfl (one_built wr _ _ (by first | exact HB.out | exact HC.out)) rfl (by omega) ?_; intro p2 d2 w2 o2; have c2 := HCC.out w2 o2.bel; have O2 := Lib.hid o2; clear o2)
          | (refine wpList_append_txt rfl (.tmp 22) (.tmp 23) rfl p2 (m + 1) d2 (m + 1 + s.length) _ rfl O2.out s rfl rfl (by omega) ?_; intro p3 d3 w3 o3; rw [← HE.out] at o3; have O3 := Lib.hid o3; clear o3 O2))
        go_roundw
        case rel => exact ⟨k + 1, _, p3, d3, by omega, by go_num, rfl, HT.out, O3.out⟩
        case measure => simp [intOf]; omega
    · have hkn : k = n := by omega
      subst hkn
      have hO2 := hO
      rw [List.take_of_length_le (by omega)] at hO2 hb
      have hp := Lib.hid (Pp.put_good hb)
      have HO := Lib.hid hO2
      have hle := hO2.len
      clear hO hb hO2
      go_wp2
      go_ret2
      subst hle
      exact ⟨_, by rw [hp.out]; rfl, by rw [hp.out]; exact ⟨p, d, rfl, HO.out⟩⟩

set_option maxHeartbeats 1000000 in
theorem texts_any (a : Option Addr) (n c : Nat) (l : List (List UInt8)) (w : World) (hn : l.length = n) (hm : n ≤ 1000) (h : TxtsAt w a l) :
    Calls Try.prog 10 #[.slice a n c] w fun e w' => TextsRes w w' e (Pp.put l) := by
  have i1 : (n : Int) ≤ 1000 := by omega
  go_enter Try.func10, Try.ntmps10
  go_wp2
  go_loopw [4, 5] (fun v i wr => ∃ (k m : Nat) (p : Option Addr) (d : Nat), k ≤ n ∧ i = .int .i64 (k : Int) ∧ v = .slice p m d ∧ Pp.bad (l.take k) = false ∧ Own w wr p m d (Pp.bytes (l.take k))) (fun _ i _ => n - (intOf i).toNat)
  case atStart => exact ⟨0, 0, none, 0, Nat.zero_le _, rfl, rfl, by simp [Pp.bad], by simp [Pp.bytes]; exact own_nil w⟩
  case round =>
    obtain ⟨k, m, p, d, hk, rfl, rfl, hb, hO⟩ := hrel
    by_cases hlt : k < n
    · obtain ⟨s, hs⟩ : ∃ s, l[k]? = some s := ⟨_, List.getElem?_eq_getElem (by omega)⟩
      have i2 : (k : Int) < (n : Int) := by omega
      have hT := h.next hO.bel
      rcases hT with h0 | ⟨b, off, rfl, hbl, hc⟩
      · subst h0; simp at hs
      have HCC : Hid (∀ w', Below w.heap.size w w' → w'.cell? ⟨b, off + k, none⟩ = some (.string ⟨s.toArray⟩)) := fun w' hb' => by
        rcases h.next hb' with h0 | ⟨b', off', e, _, hc'⟩
        · subst h0; simp at hs
        · cases e; exact hc' k s hs
      have c1 : wr.cell? ⟨b, off + k, none⟩ = some (.string ⟨s.toArray⟩) := hc k s hs
      have ht := Pp.bad_take hs hb
      by_cases hs5 : 255 < s.length
      · have i3 : (255 : Int) < (s.length : Int) := by omega
        have B := hO.bel
        rw [decide_eq_true hs5] at ht
        have hp := Lib.hid (Pp.put_bad (Pp.bad_of_take ht))
        clear hc hO h ht hb
        go_wp2
        go_ret2
        exact ⟨_, by rw [hp.out]; rfl, by rw [hp.out]; exact bytesRes_nil B⟩
      · have i3 : (s.length : Int) ≤ 255 := by omega
        have HB := Lib.hid (byte_len s)
        have HC := Lib.hid (byte_len' s (by omega))
        rw [decide_eq_false hs5] at ht
        have HT := Lib.hid ht
        have HE := Lib.hid (Pp.bytes_take hs)
        have hsm := Pp.bytes_small (l.take k) hb
        rw [hO.len] at hsm
        have hkl : (l.take k).length ≤ 1000 := by rw [List.length_take]; omega
        have hm2 : m ≤ 256000 := by omega
        have HO := Lib.hid hO
        clear hc hO ht hb hsm hkl
        go_wp2_with (first
          | (at_builtin; refine wpList_append_mine rfl (.tmp 18) (.tmp 25) rfl p m d (m + 1) (Pp.bytes (l.take k)) rfl (HO.out.next (below_one wr _)) (some ⟨wr.heap.size, 0, none⟩) 1 1 [UInt8.ofNat s.length] rfl rfl (one_built wr _ _ (by first | exact HB.out | exact HC.out)) rfl (by omega) ?_; intro p2 d2 w2 o2; have c2 := HCC.out w2 o2.bel; have O2 := Lib.hid o2; clear o2)
          | (refine wpList_append_txt rfl (.tmp 27) (.tmp 31) rfl p2 (m + 1) d2 (m + 1 + s.length) _ rfl O2.out s rfl rfl (by omega) ?_; intro p3 d3 w3 o3; rw [← HE.out] at o3; have O3 := Lib.hid o3; clear o3 O2))
        go_roundw
        case rel => exact ⟨k + 1, _, p3, d3, by omega, by go_num, rfl, HT.out, O3.out⟩
        case measure => simp [intOf]; omega
    · have hkn : k = n := by omega
      subst hkn
      have hO2 := hO
      rw [List.take_of_length_le (by omega)] at hO2 hb
      have hp := Lib.hid (Pp.put_good hb)
      have HO := Lib.hid hO2
      have hle := hO2.len
      clear hO hb hO2
      go_wp2
      go_ret2
      subst hle
      exact ⟨_, by rw [hp.out]; rfl, by rw [hp.out]; exact ⟨p, d, rfl, HO.out⟩⟩
end Go.Proofs.Ytbbfhajokiajpaa
