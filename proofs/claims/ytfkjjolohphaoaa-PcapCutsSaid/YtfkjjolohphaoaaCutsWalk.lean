/- The walk of PcapCuts. -/
import Derived.Test.YtfkjjolohphaoaaPutsWalk
namespace Go.Proofs.Ytfkjjolohphaoaa
open Go.RowKit

theorem RecsAt.take {w : World} {a : Option Addr} {L : List Pc.Rcd} (h : RecsAt w a L) (i : Nat) : RecsAt w a (L.take i) := by
  rcases h with rfl | ⟨b, off, rfl, hb, h⟩
  · exact .inl (by simp)
  · refine .inr ⟨b, off, rfl, hb, fun j hj => ?_⟩
    have hj2 : j < L.length := by rw [List.length_take] at hj; omega
    obtain ⟨p, c, h2⟩ := h j hj2
    exact ⟨p, c, by rw [List.getElem_take]; exact h2⟩

set_option maxRecDepth 100000 in
set_option maxHeartbeats 4000000 in
theorem cuts_walk (m : Pc.Hdr) (a : Option Addr) (n cap : Nat) (L : List Pc.Rcd) (cut : Nat) (w : World) (hm : m.Ok) (hcut : cut < 4294967296) (hcap : n ≤ cap) (hn : L.length = n) (h : RecsAt w a L) :
    Calls Try.prog 7 #[.agg (hcells m).toArray, .slice a n cap, .int .u32 (cut : Int)] w fun e w' => e = .returned (.bool true) ∧ Below w.heap.size w w' := by
  have H := Lib.hid h
  have Hn := Lib.hid hn
  have b0 : Below w.heap.size w (w.alloc (.cells #[.bool m.big, .bool m.nano, .int .u32 (m.snap : Int), .int .u32 (m.link : Int)] 24)) := (Below.refl _ _).alloc (Nat.le_refl _) _
  have hT0 : (w.alloc (.cells #[.bool m.big, .bool m.nano, .int .u32 (m.snap : Int), .int .u32 (m.link : Int)] 24)).heap[w.heap.size]? = some (.cells (hcells m).toArray 24 (0, 0)) := heap_alloc_new w _
  have B0 := Lib.hid b0
  have T0 := Lib.hid hT0
  clear h hn b0 hT0
  go_enter Try.func7, Try.ntmps7
  simp only [hcells]
  go_wp2_with fail
  generalize w.alloc (.cells #[.bool m.big, .bool m.nano, .int .u32 (m.snap : Int), .int .u32 (m.link : Int)] 24) = w0 at *
  refine (awake_any w0).mono ?_
  rintro e w1 ⟨rfl, b1⟩
  have B1 := Lib.hid (Below.chain B0.out b1)
  have T1 := Lib.hid (block_next T0.out b1)
  generalize w.heap.size = T at T1 ⊢
  clear b1 B0 T0
  go_wp2_with fail
  refine (few_any a n cap L w1 Hn.out (H.out.next B1.out)).mono ?_
  rintro e w2 ⟨r, rfl, rfl, hfew⟩
  cases r
  · go_wp2_with fail
    refine (awake_any _).mono ?_
    rintro e w3 ⟨rfl, b3⟩
    have B3 := Lib.hid (Below.chain B1.out b3)
    clear b3
    go_wp2
    go_ret
    exact ⟨rfl, B3.out⟩
  · obtain ⟨h50, h14⟩ := hfew rfl
    clear hfew
    have t0 : w2.cell? ⟨T, 0, none⟩ = some (.bool m.big) := cell_of_row _ _ _ _ _ _ T1.out
    have t1 : w2.cell? ⟨T, 1, none⟩ = some (.bool m.nano) := cell_of_row _ _ _ _ _ _ T1.out
    have t2 : w2.cell? ⟨T, 2, none⟩ = some (.int .u32 (m.snap : Int)) := cell_of_row _ _ _ _ _ _ T1.out
    have t3 : w2.cell? ⟨T, 3, none⟩ = some (.int .u32 (m.link : Int)) := cell_of_row _ _ _ _ _ _ T1.out
    go_wp2_with fail
    refine (put_any m a n cap L w2 hm Hn.out (by omega) (H.out.next B1.out)).mono ?_
    intro e w3 hres
    obtain ⟨b3, hres⟩ := hres.row
    have B3 := Lib.hid (Below.chain B1.out b3)
    clear b3 t0 t1 t2 t3 B1 T1
    rcases hres with ⟨hs, a3, c3, rfl, r3⟩ | ⟨hs, rfl⟩
    · have hlen := Pc.put_length m L
      rw [Hn.out] at hlen
      have hlc := r3.le
      have R3 := Lib.hid r3
      have HS := Lib.hid hs
      have HLEN : Hid ((Pc.put m L).length = 24 + 16 * n + Pc.size L) := hlen
      have hk24 : 24 ≤ (Pc.put m L).length := by omega
      have hk3 : (Pc.put m L).length ≤ 300000 := by omega
      generalize hkk : (Pc.put m L).length = k at *
      clear hlen r3 hs
      have i1 : ((k : Int) == 0) = false := by simp; omega
      have i2 : ¬ (k : Int) = 0 := by omega
      have hwc : IntKind.i64.wrap (cut : Int) = (cut : Int) := by rw [IntKind.wrap_i64]; omega
      obtain ⟨N, hN⟩ : ∃ N, cut % k = N := ⟨_, rfl⟩
      have hNk : N < k := by rw [← hN]; exact Nat.mod_lt _ (by omega)
      have hmod : (cut : Int).tmod (k : Int) = (N : Int) := by rw [Int.tmod_eq_emod_of_nonneg (by omega), ← hN]; simp
      go_wp2_with fail
      have hok : ∀ r ∈ L, r.Ok := fun r hr => by
        obtain ⟨j, hj, rfl⟩ := List.getElem_of_mem hr
        obtain ⟨_, _, _, _, _, q⟩ := RecsAt.at H.out j hj
        exact q.ok
      have hlt : ((Pc.put m L).take N).length = N := by rw [List.length_take, hkk]; omega
      have hrd := read_any a3 N c3 ((Pc.put m L).take N) w3 hlt (by omega) (R3.out.head N (by omega))
      have F1 := Pc.read_short m L N
      have F2 := fun i => Pc.read_cut m L N i hm hok HS.out
      have rr := Pc.read_recs ((Pc.put m L).take N)
      generalize Pc.read ((Pc.put m L).take N) = A at *
      obtain ⟨mr, LR, sa, se⟩ := A
      have HF1 := Lib.hid F1
      have HF2 := Lib.hid F2
      refine hrd.mono ?_
      rintro e w4 ⟨v4, rfl, rec4, b4⟩
      obtain ⟨a4, c4, rfl, ra4⟩ := rec4.at rr
      have ba : Below w4.heap.size w4 ((w4.alloc (.cells #[.bool mr.big, .bool mr.nano, .int .u32 (mr.snap : Int), .int .u32 (mr.link : Int)] 24)).alloc (.cells #[.int .i64 (sa : Int), .int .i64 (se : Int)] 36)) := (two_blocks w4 _ _).2.2
      have V5 : Hid (((w4.alloc (.cells #[.bool mr.big, .bool mr.nano, .int .u32 (mr.snap : Int), .int .u32 (mr.link : Int)] 24)).alloc (.cells #[.int .i64 (sa : Int), .int .i64 (se : Int)] 36)).heap[w4.heap.size + 1]? = some (.cells (scells sa se).toArray 36 (0, 0))) := (two_blocks w4 _ _).2.1
      have B5 := Lib.hid (Below.chain (Below.chain B3.out b4) ba)
      have A5 := Lib.hid (ra4.next ba)
      simp only [hcells, scells]
      clear F1 F2 rr hrd rec4 ra4 b4 ba B3 R3 hok hlt hN hmod hwc i1 i2 hkk hres
      go_wp2_with fail
      generalize (w4.alloc (.cells #[.bool mr.big, .bool mr.nano, .int .u32 (mr.snap : Int), .int .u32 (mr.link : Int)] 24)).alloc (.cells #[.int .i64 (sa : Int), .int .i64 (se : Int)] 36) = w5 at *
      generalize w4.heap.size + 1 = V at *
      go_loopw [13, 14] (fun p i wr => ∃ j : Nat, i = .int .i64 (j : Int) ∧ j ≤ n ∧ p = .int .i64 ((24 + 16 * j + Pc.size (L.take j) : Nat) : Int) ∧ (j = 0 ∨ 24 + 16 * j + Pc.size (L.take j) ≤ N) ∧ wr = w5) (fun _ i _ => n - (intOf i).toNat)
      case atStart => exact ⟨0, rfl, Nat.zero_le _, by simp [Pc.size], .inl rfl, rfl⟩
      case round =>
        obtain ⟨j, rfl, hj, rfl, hjn, rfl⟩ := hrel
        have hpl : 24 + 16 * j + Pc.size (L.take j) ≤ k := by rw [HLEN.out]; have := Pc.size_take L j; omega
        obtain ⟨P, hP⟩ : ∃ P, 24 + 16 * j + Pc.size (L.take j) = P := ⟨_, rfl⟩
        rw [hP] at hjn hpl ⊢
        have HP := Lib.hid hP
        clear hP
        by_cases hjl : j < n
        · have i1 : (j : Int) < (n : Int) := by omega
          have hjL : j < L.length := by rw [Hn.out]; exact hjl
          obtain ⟨b, off, p, c, rfl, r1⟩ := RecsAt.at (H.out.next B5.out) j hjL
          have x3 := r1.data
          have hnx := Pc.size_next L j hjL
          have hsm := HS.out _ (List.getElem_mem hjL)
          have hF2 := HF2.out j hjL
          have HF2j := Lib.hid hF2
          generalize L[j] = r at *
          have HNX := Lib.hid hnx
          clear hnx r1 hF2
          by_cases hin : P + 16 + r.data.length ≤ N
          · have i3 : (P : Int) + 16 + (r.data.length : Int) ≤ (N : Int) := by omega
            go_wp2
            go_roundw
            case rel => exact ⟨j + 1, by simp, by omega, by rw [HNX.out, ← HP.out]; simp; omega, .inr (by rw [HNX.out]; have := HP.out; omega), trivial⟩
            case measure => simp [intOf]; omega
          · have i3 : ¬ (P : Int) + 16 + (r.data.length : Int) ≤ (N : Int) := by omega
            by_cases h24 : N < 24
            · have i4 : (N : Int) < 24 := by omega
              have hA := HF1.out h24
              simp only [Prod.mk.injEq] at hA
              obtain ⟨rfl, rfl, rfl, rfl⟩ := hA
              have v0 : wr.cell? ⟨V, 0, none⟩ = some (.int .i64 0) := cell_of_row _ _ _ _ _ _ V5.out
              have v1 : wr.cell? ⟨V, 1, none⟩ = some (.int .i64 2) := cell_of_row _ _ _ _ _ _ V5.out
              go_wp2
              go_ret
              exact ⟨rfl, B5.out⟩
            · have i4 : ¬ (N : Int) < 24 := by omega
              have hPN : P ≤ N := by
                rcases hjn with rfl | h
                · have := HP.out; simp [Pc.size] at this; omega
                · exact h
              have hA := HF2j.out (by rw [HP.out]; exact hPN) (by rw [HP.out]; omega)
              rw [HP.out] at hA
              simp only [Prod.mk.injEq] at hA
              obtain ⟨rfl, rfl, hsp⟩ := hA
              have hlj : (L.take j).length = j := by rw [List.length_take]; omega
              rw [hlj]
              have j5 : (j : Int) ≤ (cap : Int) := by omega
              have j6 : j ≤ cap := by omega
              clear HF1 HF2 HF2j
              by_cases hlt : P < N
              · have i5 : (P : Int) < (N : Int) := by omega
                rw [if_pos hlt] at hsp
                simp only [Prod.mk.injEq] at hsp
                obtain ⟨rfl, rfl⟩ := hsp
                have ba : ∀ o, Below wr.heap.size wr (wr.alloc o) := fun o => (Below.refl _ _).alloc (Nat.le_refl _) o
                have s6 := fun o : Obj => same_any a4 (some ⟨b, off, none⟩) c4 cap j (L.take j) (wr.alloc o) hlj (by omega) (A5.out.next (ba o)) ((H.out.next B5.out).take j |>.next (ba o))
                have S6 := Lib.hid s6
                have VV := Lib.hid (fun o => block_next V5.out (ba o))
                have GG := Lib.hid (fun o => heap_alloc_new wr o)
                have BB := Lib.hid (fun o => Below.chain B5.out (ba o))
                clear s6 ba
                go_wp2_with fail
                refine (S6.out _).mono ?_
                rintro e w6 ⟨rfl, b6⟩
                have B6 := Lib.hid (Below.chain (BB.out _) b6)
                have v0 : w6.cell? ⟨V, 0, none⟩ = some (.int .i64 (sa : Int)) := cell_of_row _ _ _ _ _ _ (block_next (VV.out _) b6)
                have v1 : w6.cell? ⟨V, 1, none⟩ = some (.int .i64 2) := cell_of_row _ _ _ _ _ _ (block_next (VV.out _) b6)
                have u0 : w6.cell? ⟨wr.heap.size, 0, none⟩ = some (.int .i64 (sa : Int)) := cell_of_row _ _ _ _ _ _ (block_next (GG.out _) b6)
                have u1 : w6.cell? ⟨wr.heap.size, 1, none⟩ = some (.int .i64 2) := cell_of_row _ _ _ _ _ _ (block_next (GG.out _) b6)
                clear b6 S6 VV GG BB
                generalize wr.heap.size = G at *
                go_wp2
                go_ret
                exact ⟨rfl, B6.out⟩
              · have i5 : ¬ (P : Int) < (N : Int) := by omega
                rw [if_neg hlt] at hsp
                simp only [Prod.mk.injEq] at hsp
                obtain ⟨rfl, rfl⟩ := hsp
                have ba : ∀ o, Below wr.heap.size wr (wr.alloc o) := fun o => (Below.refl _ _).alloc (Nat.le_refl _) o
                have s6 := fun o : Obj => same_any a4 (some ⟨b, off, none⟩) c4 cap j (L.take j) (wr.alloc o) hlj (by omega) (A5.out.next (ba o)) ((H.out.next B5.out).take j |>.next (ba o))
                have S6 := Lib.hid s6
                have VV := Lib.hid (fun o => block_next V5.out (ba o))
                have GG := Lib.hid (fun o => heap_alloc_new wr o)
                have BB := Lib.hid (fun o => Below.chain B5.out (ba o))
                clear s6 ba
                go_wp2_with fail
                refine (S6.out _).mono ?_
                rintro e w6 ⟨rfl, b6⟩
                have B6 := Lib.hid (Below.chain (BB.out _) b6)
                have v0 : w6.cell? ⟨V, 0, none⟩ = some (.int .i64 0) := cell_of_row _ _ _ _ _ _ (block_next (VV.out _) b6)
                have v1 : w6.cell? ⟨V, 1, none⟩ = some (.int .i64 0) := cell_of_row _ _ _ _ _ _ (block_next (VV.out _) b6)
                have u0 : w6.cell? ⟨wr.heap.size, 0, none⟩ = some (.int .i64 0) := cell_of_row _ _ _ _ _ _ (block_next (GG.out _) b6)
                have u1 : w6.cell? ⟨wr.heap.size, 1, none⟩ = some (.int .i64 0) := cell_of_row _ _ _ _ _ _ (block_next (GG.out _) b6)
                clear b6 S6 VV GG BB
                generalize wr.heap.size = G at *
                go_wp2
                go_ret
                exact ⟨rfl, B6.out⟩
        · have i1 : ¬ (j : Int) < (n : Int) := by omega
          have hjn2 : j = n := by omega
          have hPk : P = k := by rw [← HP.out, HLEN.out, hjn2, List.take_of_length_le (by rw [Hn.out]; exact Nat.le_refl _)]
          have hn0 : j = 0 := by omega
          have h24 : N < 24 := by
            have := HP.out
            rw [hn0] at this
            simp [Pc.size] at this
            omega
          have i4 : (N : Int) < 24 := by omega
          have hA := HF1.out h24
          simp only [Prod.mk.injEq] at hA
          obtain ⟨rfl, rfl, rfl, rfl⟩ := hA
          have v0 : wr.cell? ⟨V, 0, none⟩ = some (.int .i64 0) := cell_of_row _ _ _ _ _ _ V5.out
          have v1 : wr.cell? ⟨V, 1, none⟩ = some (.int .i64 2) := cell_of_row _ _ _ _ _ _ V5.out
          clear hPk hjn2 hn0
          go_wp2
          go_ret
          exact ⟨rfl, B5.out⟩
    · go_wp2
      go_ret
      exact ⟨rfl, B3.out⟩
end Go.Proofs.Ytfkjjolohphaoaa
