/- The walk of DumpCuts. -/
import Derived.Test.YtbmlacmpiaklpaaDoorPutsWalk
namespace Go.Proofs.YtbmlacmpiaklpaaDoor
open Go.RowKit

theorem NtsAt.take {w : World} {a : Option Addr} {L : List Dm.Nt} (h : NtsAt w a L) (i : Nat) : NtsAt w a (L.take i) := by
  rcases h with rfl | ⟨b, off, rfl, hb, h⟩
  · exact .inl (by simp)
  · refine .inr ⟨b, off, rfl, hb, fun j hj => ?_⟩
    have hj2 : j < L.length := by rw [List.length_take] at hj; omega
    obtain ⟨p, c, h2⟩ := h j hj2
    exact ⟨p, c, by rw [List.getElem_take]; exact h2⟩
theorem NtAt.one {w : World} {b k : Nat} {r : Dm.Nt} {p : Option Addr} {c : Nat} (h : NtAt w b k r p c) (hb : b < w.heap.size) : NtsAt w (some ⟨b, k, none⟩) [r] := by
  refine .inr ⟨b, k, rfl, hb, fun j hj => ?_⟩
  have : j = 0 := by simpa using hj
  subst this
  exact ⟨p, c, by rw [Nat.zero_mul, Nat.add_zero]; exact h⟩

set_option maxRecDepth 100000 in
set_option maxHeartbeats 4000000 in
theorem cuts_walk (a : Option Addr) (n cap : Nat) (L : List Dm.Nt) (cut : Nat) (w : World) (hcut : cut < 65536) (hcap : n ≤ cap) (hn : L.length = n) (h : NtsAt w a L) (ht : Tab w) :
    Calls Tryd.prog 6 #[.slice a n cap, .int .u16 (cut : Int)] w fun e w' => e = .returned (.bool true) ∧ Below w.heap.size w w' := by
  have H := Lib.hid h
  have Hn := Lib.hid hn
  have HT := Lib.hid ht
  clear h hn ht
  go_enter Tryd.func6, Tryd.ntmps6
  go_wp2_with fail
  refine (awake_any w HT.out).mono ?_
  rintro e w1 ⟨rfl, b1⟩
  have B1 := Lib.hid b1
  clear b1
  go_wp2_with fail
  refine (few_any a n cap L w1 Hn.out (H.out.next B1.out)).mono ?_
  rintro e w2 ⟨r, rfl, rfl, hfew⟩
  cases r
  · go_wp2_with fail
    refine (awake_any _ (HT.out.next B1.out)).mono ?_
    rintro e w3 ⟨rfl, b3⟩
    have B3 := Lib.hid (Below.chain B1.out b3)
    clear b3
    go_wp2
    go_ret
    exact ⟨rfl, B3.out⟩
  · obtain ⟨h50, h14⟩ := hfew rfl
    clear hfew
    have hble := Dm.bytes_le L
    have hbge := Dm.bytes_ge L
    rw [Hn.out] at hble hbge
    go_wp2_with fail
    refine (put_any a n cap L w2 Hn.out (by omega) (by omega) (H.out.next B1.out) (HT.out.next B1.out)).mono ?_
    intro e w3 hres
    by_cases h0 : Dm.err L = 0
    · obtain ⟨a3, c3, rfl, r3, b3, _⟩ := put_fine hres h0
      have B3 := Lib.hid (Below.chain B1.out b3)
      have R3 := Lib.hid r3
      have hlc := r3.le
      have HF := Lib.hid (Dm.fine_err L h0)
      clear b3 r3 hres h0
      generalize hkk : (Dm.bytes L).length = k at *
      have HK := Lib.hid hkk
      clear hkk
      by_cases hk0 : k = 0
      · have hn0 : n = 0 := by omega
        subst hk0
        subst hn0
        go_wp2
        go_ret
        exact ⟨rfl, B3.out⟩
      · have i1 : ((k : Int) == 0) = false := by simp; omega
        have i2 : ¬ (k : Int) = 0 := by omega
        have hwc : IntKind.i64.wrap (cut : Int) = (cut : Int) := by rw [IntKind.wrap_i64]; omega
        obtain ⟨N, hN⟩ : ∃ N, cut % k = N := ⟨_, rfl⟩
        have hNk : N < k := by rw [← hN]; exact Nat.mod_lt _ (by omega)
        have hmod : (cut : Int).tmod (k : Int) = (N : Int) := by rw [Int.tmod_eq_emod_of_nonneg (by omega), ← hN]; simp
        go_wp2_with fail
        have hlt : ((Dm.bytes L).take N).length = N := by rw [List.length_take, HK.out]; omega
        have hrd := read_any a3 N c3 ((Dm.bytes L).take N) w3 hlt (by omega) (R3.out.head N (by rw [HK.out]; omega)) (HT.out.next B3.out)
        have F2 := fun i => Dm.read_cut L N i HF.out
        have rr := (Dm.read_back ((Dm.bytes L).take N)).ok
        generalize Dm.read ((Dm.bytes L).take N) = A at *
        obtain ⟨LR, sa, se⟩ := A
        have HF2 := Lib.hid F2
        refine hrd.mono ?_
        rintro e w4 ⟨v4, rfl, rec4, b4⟩
        obtain ⟨a4, c4, rfl, ra4⟩ := rec4.at rr
        have V5 : Hid ((w4.alloc (.cells #[.int .i64 (sa : Int), .int .i64 (se : Int)] 32)).heap[w4.heap.size]? = some (.cells (scells sa se).toArray 32 (0, 0))) := heap_alloc_new w4 _
        have B5 : Hid (Below w.heap.size w (w4.alloc (.cells #[.int .i64 (sa : Int), .int .i64 (se : Int)] 32))) := Below.chain (Below.chain B3.out b4) (below_one _ _)
        have A5 : Hid (NtsAt (w4.alloc (.cells #[.int .i64 (sa : Int), .int .i64 (se : Int)] 32)) a4 LR) := ra4.next (below_one _ _)
        simp only [scells]
        clear F2 rr hrd rec4 ra4 b4 B3 R3 hlt hN hmod hwc i1 i2
        go_wp2_with fail
        generalize w4.alloc (.cells #[.int .i64 (sa : Int), .int .i64 (se : Int)] 32) = w5 at *
        generalize w4.heap.size = V at *
        go_loopw [10, 11] (fun p i wr => ∃ j : Nat, i = .int .i64 (j : Int) ∧ j ≤ n ∧ p = .int .i64 ((Dm.bytes (L.take j)).length : Int) ∧ (Dm.bytes (L.take j)).length ≤ N ∧ Below w5.heap.size w5 wr) (fun _ i _ => n - (intOf i).toNat)
        case atStart => exact ⟨0, rfl, Nat.zero_le _, rfl, Nat.zero_le _, Below.refl _ _⟩
        case round =>
          obtain ⟨j, rfl, hj, rfl, hjn, hbw⟩ := hrel
          obtain ⟨P, hP⟩ : ∃ P, (Dm.bytes (L.take j)).length = P := ⟨_, rfl⟩
          rw [hP] at hjn ⊢
          have HP := Lib.hid hP
          clear hP
          by_cases hjl : j < n
          · have i1 : (j : Int) < (n : Int) := by omega
            have hjL : j < L.length := by rw [Hn.out]; exact hjl
            have B6 := Lib.hid (Below.chain B5.out hbw)
            have V6 := Lib.hid (block_next V5.out hbw)
            have A6 := Lib.hid (A5.out.next hbw)
            have HBW := Lib.hid hbw
            clear hbw
            obtain ⟨b, off, p, c, rfl, r1, hbl⟩ := NtsAt.at (H.out.next B6.out) j hjL
            have hnx := Dm.bytes_take L j hjL
            have hF2 := HF2.out j hjL
            have hfx := HF.out _ (List.getElem_mem hjL)
            have hup := Dm.bytes_upto L (j + 1)
            rw [hnx, List.length_append, HP.out, HK.out] at hup
            have hx0 := Dm.one_length L[j]
            generalize hx : L[j] = x at *
            have herr : Dm.err [x] = 0 := by simp [Dm.err, hfx]
            have c11 := put_any (some ⟨b, off + j * 3, none⟩) 1 (cap - j) [x] wr rfl (by rw [Dm.bytes_one]; omega) (by omega) (r1.one hbl) (HT.out.next B6.out)
            have C11 := Lib.hid c11
            have HNX := Lib.hid hnx
            have HF2j := Lib.hid hF2
            clear c11 hnx hF2 r1 hbl hfx
            have j5 : (j : Int) + 1 ≤ (cap : Int) := by omega
            have j6 : j + 1 ≤ cap := by omega
            go_wp2_with fail
            refine C11.out.mono ?_
            intro e w7 h7
            obtain ⟨a7, c7, rfl, r7, b7, _⟩ := put_fine h7 herr
            rw [Dm.bytes_one]
            generalize hM : (Dm.one x).length = M at *
            have HM := Lib.hid hM
            have hM1 : 1 ≤ M := by omega
            clear hx0
            have HB7 := Lib.hid (Below.chain HBW.out b7)
            have B7 := Lib.hid (Below.chain B6.out b7)
            have hV7 := block_next V6.out b7
            have A7 := Lib.hid (A6.out.next b7)
            clear C11 h7 r7 b7 herr hM V6 A6 HBW B6
            have v0 : w7.cell? ⟨V, 0, none⟩ = some (.int .i64 (sa : Int)) := cell_of_row _ _ _ _ _ _ hV7
            have v1 : w7.cell? ⟨V, 1, none⟩ = some (.int .i64 (se : Int)) := cell_of_row _ _ _ _ _ _ hV7
            clear hV7
            by_cases hin : P + M ≤ N
            · have i3 : ((P : Int) == (N : Int)) = false := by simp; omega
              have i4 : ¬ (P : Int) + (M : Int) > (N : Int) := by omega
              clear v0 v1
              go_wp2
              go_roundw
              case rel => exact ⟨j + 1, by simp, by omega, by rw [HNX.out, List.length_append, HP.out, HM.out]; simp, by rw [HNX.out, List.length_append, HP.out, HM.out]; exact hin, HB7.out⟩
              case measure => simp [intOf]; omega
            · have hA := HF2j.out (by rw [HP.out]; exact hjn) (by rw [HP.out]; omega)
              rw [HP.out] at hA
              simp only [Prod.mk.injEq] at hA
              obtain ⟨rfl, hsp⟩ := hA
              have hlj : (L.take j).length = j := by rw [List.length_take]; omega
              rw [hlj]
              have j7 : (j : Int) ≤ (cap : Int) := by omega
              have j8 : j ≤ cap := by omega
              have c17 := same_any a4 (some ⟨b, off, none⟩) c4 cap j (L.take j) w7 hlj (by omega) A7.out ((H.out.next B7.out).take j)
              have C17 := Lib.hid c17
              clear HF2 HF2j c17 hlj
              by_cases hlt : P < N
              · have i3 : ((P : Int) == (N : Int)) = false := by simp; omega
                have i4 : (P : Int) + (M : Int) > (N : Int) := by omega
                rw [if_pos hlt] at hsp
                simp only [Prod.mk.injEq] at hsp
                obtain ⟨rfl, rfl⟩ := hsp
                go_wp2_with fail
                refine C17.out.mono ?_
                rintro e w8 ⟨rfl, b8⟩
                have B8 := Lib.hid (Below.chain B7.out b8)
                clear b8
                go_wp2
                go_ret
                exact ⟨rfl, B8.out⟩
              · have i3 : P = N := by omega
                rw [if_neg hlt] at hsp
                simp only [Prod.mk.injEq] at hsp
                obtain ⟨rfl, rfl⟩ := hsp
                subst i3
                go_wp2_with fail
                refine C17.out.mono ?_
                rintro e w8 ⟨rfl, b8⟩
                have B8 := Lib.hid (Below.chain B7.out b8)
                clear b8
                go_wp2
                go_ret
                exact ⟨rfl, B8.out⟩
          · have hjn2 : j = n := by omega
            have hPk : P = k := by rw [← HP.out, ← HK.out, hjn2, List.take_of_length_le (by rw [Hn.out]; exact Nat.le_refl _)]
            omega
    · obtain ⟨rfl, b3⟩ := put_bad hres h0
      have B3 := Lib.hid (Below.chain B1.out b3)
      have i0 : ((Dm.err L : Int) != 0) = true := by simp; omega
      clear b3 hres
      generalize Dm.err L = q at *
      go_wp2
      go_ret
      exact ⟨rfl, B3.out⟩
end Go.Proofs.YtbmlacmpiaklpaaDoor
