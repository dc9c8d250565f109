/- Contract of the document's Put. -/
import Derived.Test.YtbmlacmpiaklpaaDoorRo
import Derived.Test.YtbmlacmpiaklpaaDoorRe
namespace Go.Proofs.YtbmlacmpiaklpaaDoor
open Go.RowKit

set_option maxRecDepth 100000 in
set_option maxHeartbeats 4000000 in
theorem refPut_put (a : Option Addr) (n cap : Nat) (L : List Dm.Nt) (w : World) (hn : L.length = n) (hb : 5 * n + Dm.size L ≤ 300000) (h : NtsAt w a L) :
    Calls Tryd.prog 12 #[.slice a n cap] w fun e w' => PutRes w w' e L := by
  have H := Lib.hid h
  have Hn := Lib.hid hn
  clear h hn
  have hFl : (Dm.bytes L).length ≤ 300000 := by have := Dm.bytes_le L; rw [Hn.out] at this; omega
  have HPost : ∀ W v N, Below w.heap.size w W → Dm.err L = 0 → (Dm.bytes L).length = N → W.ownsRow w.heap.size 5 1 v N (Lib.byteCells (Dm.bytes L)) → PutRes w W (.returned (.tuple #[v, .int .i64 0])) L := fun W v N h1 h2 h3 h4 => ⟨h1, .inl ⟨h2, v, rfl, by rw [h3]; exact h4⟩⟩
  have HPost2 : ∀ W (q : Nat), Below w.heap.size w W → q ≠ 0 → Dm.err L = q → PutRes w W (.returned (.tuple #[.slice none 0 0, .int .i64 (q : Int)])) L := fun W q h1 h2 h3 => ⟨h1, .inr ⟨by omega, by rw [h3]⟩⟩
  have P1 := Lib.hid HPost
  have P2 := Lib.hid HPost2
  clear HPost HPost2
  go_enter Tryd.func12, Tryd.ntmps12
  go_wp2
  go_loopw [4, 5] (fun v i wr => ∃ (k N : Nat) (q : Option Addr) (c : Nat), i = .int .i64 (k : Int) ∧ v = .slice q N c ∧ k ≤ n ∧ Dm.fine (L.take k) ∧ Own w wr q N c (Dm.bytes (L.take k))) (fun _ i _ => n - (intOf i).toNat)
  case atStart => exact ⟨0, 0, none, 0, rfl, rfl, Nat.zero_le _, by rw [List.take_zero]; exact Dm.fine_nil, by rw [List.take_zero]; exact own_nil _⟩
  case round =>
    obtain ⟨k, N, q0, c0, rfl, rfl, hk, hsm, hO⟩ := hrel
    by_cases hlt : (k : Int) < (n : Int)
    · have hkn : k < L.length := by rw [Hn.out]; omega
      obtain ⟨b, off, p, c, rfl, hra0, hbl⟩ := H.out.at k hkn
      have hra := hra0.next hbl hO.bel
      have hbt := Dm.bytes_take L k hkn
      have hup := Dm.bytes_upto L (k + 1)
      rw [hbt, List.length_append, hO.len] at hup
      have hst := Dm.fine_take hkn hsm
      have her := Dm.err_at L k hkn hsm
      have hok := hra0.ok
      have hsz := Dm.size_mem k hkn
      generalize Dm.bytes (L.take k) = X at *
      generalize L[k] = x at *
      have hdl : x.data.length ≤ 300000 := by omega
      have hN : N + (Dm.one x).length ≤ 300000 := by omega
      have HO := Lib.hid hO
      have HBT := Lib.hid hbt
      have HER := Lib.hid her
      have HRG := Lib.hid hra.range
      have HSC : Hid (∀ W, Below w.heap.size w W → NtAt W b (off + k * 3) x p c) := fun W bb => hra0.next hbl bb
      clear hO hbt her hra hra0 hsm hup hsz
      go_wp2_with (refine wpList_load_mid rfl 37 (.tmp 14) rfl b (off + k * 3) rfl (ncells x (.slice p x.data.length c)) _ HRG.out Tryd.underlying37 rfl (info37n _ _) ?_)
      refine (refMay_any x p c wr hok.n).mono ?_
      rintro e w2 ⟨rfl, b2⟩
      have HO2 := Lib.hid (HO.out.next b2)
      clear b2 HO HRG
      cases hmay : Dm.may x (Dm.form x.kind)
      · have hbad := Dm.bad_may x hmay
        have herr := HER.out (by rw [hbad]; omega)
        rw [hbad] at herr
        clear hst
        go_wp2
        go_ret2
        exact P2.out _ 1 HO2.out.bel (by omega) herr
      · have d2 := (HSC.out _ HO2.out.bel).data
        have hlg : Dm.long x (Dm.form x.kind) = decide (65535 < x.data.length) := by
          unfold Dm.long
          cases hd : (Dm.form x.kind).data
          · have hm := hmay
            simp only [Dm.may, hd, Bool.false_or, Bool.and_eq_true, decide_eq_true_eq] at hm
            simp [hm.2.2]
          · simp
        by_cases hlong : 65535 < x.data.length
        · have hbad := Dm.bad_long x hmay (by rw [hlg]; simp [hlong])
          have herr := HER.out (by rw [hbad]; omega)
          rw [hbad] at herr
          have j1 : (65535 : Int) < (x.data.length : Int) := by omega
          clear hst
          go_wp2
          go_ret2
          exact P2.out _ 4 HO2.out.bel (by omega) herr
        · have hbad := Dm.bad_good x hmay (by rw [hlg]; simp [hlong])
          have HST := Lib.hid (hst hbad)
          have hgood := Dm.good_of x hbad
          have j1 : ¬ (65535 : Int) < (x.data.length : Int) := by omega
          clear hst hlg
          have HRG2 := Lib.hid (HSC.out _ HO2.out.bel).range
          go_wp2_with (refine wpList_load_mid rfl 37 (.tmp 28) rfl b (off + k * 3) rfl (ncells x (.slice p x.data.length c)) _ HRG2.out Tryd.underlying37 rfl (info37n _ _) ?_)
          refine (refOne_any x p c w2 hgood hok.n (HSC.out _ HO2.out.bel).row).mono ?_
          rintro e w3 ⟨v3, rfl, o3, b3⟩
          obtain ⟨p3, c3, rfl, r3⟩ := rowAt_own rfl o3
          have HO3 := Lib.hid (HO2.out.next b3)
          have R3 := Lib.hid r3
          clear o3 r3 b3 HO2 d2 HRG2
          generalize hM : (Dm.one x).length = M at *
          have HM := Lib.hid hM
          clear hM
          go_wp2_with (at_builtin; refine wpList_append_mine rfl (.tmp 25) (.tmp 30) rfl q0 N c0 (N + M) X rfl HO3.out p3 M c3 (Dm.one x) rfl HM.out R3.out rfl (by omega) ?_; intro p4 c4 w4 o4)
          go_roundw
          case rel => exact ⟨k + 1, N + M, p4, c4, by simp, rfl, by omega, HST.out, by rw [HBT.out]; exact o4⟩
          case measure => simp [intOf]; omega
    · have hkn : k = n := by omega
      subst hkn
      rw [List.take_of_length_le (by rw [Hn.out]; exact Nat.le_refl _)] at hsm hO
      have herr := Dm.err_fine _ hsm
      have HO := Lib.hid hO
      clear hO hsm
      go_wp2
      go_ret2
      exact P1.out _ _ _ HO.out.bel herr HO.out.len HO.out.own
end Go.Proofs.YtbmlacmpiaklpaaDoor
