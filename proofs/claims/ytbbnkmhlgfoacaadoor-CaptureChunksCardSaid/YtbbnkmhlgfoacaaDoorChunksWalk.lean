/- The walk of CaptureChunks. -/
import Derived.Test.YtbbnkmhlgfoacaaDoorCr
import Derived.Test.YtbbnkmhlgfoacaaDoorCq
import Derived.Test.YtbbnkmhlgfoacaaDoorCt
namespace Go.Proofs.YtbbnkmhlgfoacaaDoor
open Go.RowKit
open S10

def cw (wide : Bool) : Xc := ⟨0, 0, 0, 0, ⟨#[]⟩, ⟨#[]⟩, ⟨0, 0, wide⟩⟩
set_option maxRecDepth 100000 in
set_option maxHeartbeats 1000000 in
theorem chunks_walk (a : Option Addr) (n cap : Nat) (L : List Cp.It) (a1 : Option Addr) (n1 cap1 : Nat) (cuts : List UInt8) (wide : Bool) (w : World) (hn : L.length = n) (h : ItsAt w a L) (hn1 : cuts.length = n1) (hr1 : RowAt w a1 cap1 cuts) (ht : Tab w) :
    Calls Tryd.prog 5 #[.slice a n cap, .slice a1 n1 cap1, .bool wide] w fun e w' => e = .returned (.bool true) ∧ Below w.heap.size w w' := by
  have H := Lib.hid h
  have Hn := Lib.hid hn
  have HT := Lib.hid ht
  have Hn1 := Lib.hid hn1
  have HR1 := Lib.hid hr1
  clear h hn ht hn1 hr1
  go_enter Tryd.func5, Tryd.ntmps5
  go_wp2_with fail
  refine (awake_any w HT.out).mono ?_
  rintro e w1 ⟨rfl, b1⟩
  have B1 := Lib.hid b1
  clear b1
  go_wp2_with fail
  refine (itfew_any a n cap L w1 Hn.out (H.out.next B1.out)).mono ?_
  rintro e w2 ⟨r, rfl, rfl, hfew⟩
  by_cases hgo : r = true ∧ ¬ (100 : Int) < (n1 : Int)
  · obtain ⟨rfl, h100⟩ := hgo
    obtain ⟨h60, htt⟩ := hfew rfl
    clear hfew
    have hac : (cw wide).c.accm < 4294967296 := by show 0 < _; decide
    have hB3 := below_one w2 (.cells (ccells (cw wide)).toArray 25)
    have hD3 := heap_alloc_new w2 (.cells (ccells (cw wide)).toArray 25)
    simp only [ccells, cw] at hB3 hD3
    cases hall : decide (∀ x ∈ L, Cp.may x = true) with
    | false =>
      have hbad : Cp.write L 2 (cw wide).c = ([], 1) := Cp.write_bad L 2 _ (by decide) (by simpa using hall)
      have cW := fun W h t => ways_not 2 (cw wide) a n cap L W Hn.out h60 htt hac h t 1 hbad
      go_wp2_with (refine wpList_load_row rfl 25 (.tmp 7) rfl w2.heap.size rfl 25 (ccells (cw wide)).toArray (0, 0) _ hD3 Tryd.underlying25 rfl infoConf ?_; simp only [ccells, cw])
      refine (cW _ (H.out.next (Below.chain B1.out hB3)) (HT.out.next (Below.chain B1.out hB3))).mono ?_
      rintro e w3 ⟨p3, c3, rfl, _, b3⟩
      go_wp2
      go_ret
      exact ⟨rfl, Below.chain (Below.chain B1.out hB3) b3⟩
    | true =>
      have hm : ∀ x ∈ L, Cp.may x = true := by simpa using hall
      obtain ⟨m, hX⟩ : ∃ m, (Cp.write L 2 (cw wide).c).1.length = m := ⟨_, rfl⟩
      have cW := fun W h t => ways_write 2 (.inr rfl) (cw wide) a n cap L W Hn.out h60 htt hm hac h t m hX
      go_wp2_with (refine wpList_load_row rfl 25 (.tmp 7) rfl w2.heap.size rfl 25 (ccells (cw wide)).toArray (0, 0) _ hD3 Tryd.underlying25 rfl infoConf ?_; simp only [ccells, cw])
      refine (cW _ (H.out.next (Below.chain B1.out hB3)) (HT.out.next (Below.chain B1.out hB3))).mono ?_
      rintro e w3 ⟨p3, c3, rfl, r3, b3⟩
      have hwr := Cp.write_two L (cw wide).c hm
      rw [hwr] at hX r3
      simp only at hX r3
      have hby := Cp.bytes_nts (cw wide).c L htt (by rw [Hn.out]; exact h60)
      have hrp := S10.Dm.read_put _ (Cp.nts_fine (cw wide).c L)
      have hok := Cp.nts_ok (cw wide).c L
      have hfit := Cp.nts_fit (cw wide).c L
      have hcut := fun os => Cp.read_cut (cw wide).c hac L hm os
      generalize Cp.nts (cw wide).c L = ns at *
      rw [hX] at hby
      have B3 := Lib.hid (Below.chain (Below.chain B1.out hB3) b3)
      have D3 := block_next hD3 b3
      have cR := refRead_any p3 m c3 (S10.Dm.bytes ns) w3 hX (by omega) r3 (HT.out.next B3.out)
      rw [hrp] at cR
      clear hX r3 b3 hD3 hB3 hwr hm hall cW hrp B1
      go_wp2_with fail
      refine cR.mono ?_
      rintro e w4 ⟨v4, rfl, nt4, b4⟩
      obtain ⟨a4, c4, rfl, na4⟩ := nt4.at hok
      simp only [scells]
      have ba := below_one w4 (.cells (scells 0 0).toArray 33)
      simp only [scells] at ba
      obtain ⟨nl, hnl⟩ : ∃ nl, ns.length = nl := ⟨_, rfl⟩
      rw [hnl] at hby ⊢
      go_wp2_with fail
      generalize w4.alloc (.cells #[.int .i64 0, .int .i64 0] 33) = W5 at *
      have B5 := Lib.hid (Below.chain (Below.chain B3.out b4) ba)
      have D5 := Lib.hid (block_next (block_next D3 b4) ba)
      have N5 := Lib.hid (na4.next ba)
      have R15 := Lib.hid (HR1.out.next B5.out)
      have HNL := Lib.hid hnl
      have HFIT := Lib.hid hfit
      have HCUT := Lib.hid hcut
      clear B3 D3 cR nt4 na4 b4 ba hok hfit hcut hnl HR1
      go_loopw [12, 13, 14] (fun v at' i wr => ∃ (k j : Nat) (os : List S10.Dm.Nt), i = .int .i64 (k : Int) ∧ k ≤ nl ∧ at' = .int .i64 (j : Int) ∧ j ≤ n1 ∧ Nls wr W5.heap.size v os ∧ Cp.CutS ns os k j ∧ Below W5.heap.size W5 wr) (fun _ _ i _ => nl - (intOf i).toNat)
      case atStart => exact ⟨0, 0, [], rfl, Nat.zero_le _, rfl, Nat.zero_le _, nls_none _ _, Cp.cutS_nil ns, Below.refl _ _⟩
      case round =>
        obtain ⟨k, j, os, rfl, hk, rfl, hj, hN, hC, hbw⟩ := hrel
        obtain ⟨av, cv, rfl⟩ := nls_slice hN
        have hosl := hC.len
        by_cases hlt : (k : Int) < (nl : Int)
        · have hk' : k < ns.length := by rw [HNL.out]; omega
          obtain ⟨b, off, p, c, rfl, hnt, hbl⟩ := N5.out.at k hk'
          have hrl := row_lt hnt.row
          have hnt2 := hnt.next hbl hbw
          have hrow := hnt2.row
          have k0 := hnt2.kind
          have k2 := hnt2.data
          have hf := HFIT.out _ (List.getElem_mem hk')
          have hCI := hC.enter ns[k]
          have hlv := fun (os' : List S10.Dm.Nt) (j' : Nat) (h : Cp.CutI ns ns[k] k j' os' []) => h.leave hk'
          obtain ⟨r, hr⟩ : ∃ r, r = ns[k] := ⟨_, rfl⟩
          rw [← hr] at hrl hrow k0 k2 hf hCI hlv
          have K0 := Lib.hid (fun (W : World) (hb : Below W5.heap.size W5 W) => (hnt.next hbl hb).kind)
          rw [← hr] at K0
          have HLV := Lib.hid hlv
          have HF := Lib.hid hf
          clear hr hnt hnt2 hlv hf hC
          obtain ⟨dl, hdl⟩ : ∃ dl, r.data.length = dl := ⟨_, rfl⟩
          rw [hdl] at k2
          obtain ⟨ol, hol⟩ : ∃ ol, os.length = ol := ⟨_, rfl⟩
          rw [hol] at hN ⊢
          have st0 : ∃ (j' : Nat) (os' : List S10.Dm.Nt) (d : List UInt8) (q : Option Addr) (c' m' : Nat), (Value.int .i64 (j : Int)) = .int .i64 (j' : Int) ∧ j' ≤ n1 ∧ (Value.slice p dl c) = .slice q m' c' ∧ d.length = m' ∧ RowAt wr q c' d ∧ (d = [] ∨ ∀ ad, q = some ad → ad.block < W5.heap.size) ∧ Nls wr W5.heap.size (.slice av ol cv) os' ∧ Cp.CutI ns r k j' os' d ∧ Below W5.heap.size W5 wr :=
            ⟨j, os, r.data, p, c, dl, rfl, hj, rfl, hdl, hrow, hrl, hN, hCI, hbw⟩
          have ST0 := Lib.hid st0
          clear st0 hN hCI hbw hrow hrl hdl hol
          go_wp2
          go_loopw [12, 13, 15] (fun v at' dv wr2 => ∃ (j' : Nat) (os' : List S10.Dm.Nt) (d : List UInt8) (q : Option Addr) (c' m' : Nat), at' = .int .i64 (j' : Int) ∧ j' ≤ n1 ∧ dv = .slice q m' c' ∧ d.length = m' ∧ RowAt wr2 q c' d ∧ (d = [] ∨ ∀ ad, q = some ad → ad.block < W5.heap.size) ∧ Nls wr2 W5.heap.size v os' ∧ Cp.CutI ns r k j' os' d ∧ Below W5.heap.size W5 wr2) (fun _ at' dv _ => lenOf dv + (n1 - (intOf at').toNat))
          case atStart => exact ST0.out
          case round =>
            obtain ⟨j', os', d, q, c', m', rfl, hj', rfl, hdm, hrow, hoff, hN, hCI, hbw⟩ := hrel
            obtain ⟨av', cv', rfl⟩ := nls_slice hN
            obtain ⟨ol', hol'⟩ : ∃ ol', os'.length = ol' := ⟨_, rfl⟩
            rw [hol'] at hN ⊢
            by_cases hlt2 : (0 : Int) < (m' : Int)
            · have hdne : d ≠ [] := fun e => by rw [e] at hdm; simp at hdm; omega
              have hoff' := hoff.resolve_left hdne
              have k00 := K0.out _ hbw
              have hdm0 : decide ((0 : Int) < (m' : Int)) = true := by simpa using hlt2
              by_cases hcu : (j' : Int) < (n1 : Int)
              · have hcl : j' < cuts.length := by rw [Hn1.out]; omega
                rcases (R15.out.next hbw).bytes with hnil | ⟨b1, off1, e1, hcells⟩
                · rw [hnil] at hcl; simp at hcl
                · subst e1
                  have hcc := hcells.2 j' hcl
                  have hu := UInt8.toNat_lt cuts[j']
                  generalize cuts[j'].toNat = u at hcc hu
                  clear hcells hcl
                  by_cases hum : (u : Int) < (m' : Int)
                  ·
                    have hle := hrow.le
                    rw [hdm] at hle
                    have h1 := hrow.head u (by rw [hdm]; omega)
                    have h2 := hrow.cut u m' (by omega) (by rw [hdm]; exact Nat.le_refl _)
                    rw [List.take_of_length_le (by rw [hdm]; exact Nat.le_refl _)] at h2
                    have hCI2 := hCI.step HF.out.1 HF.out.2.2 hdne u (j' + 1) (by rw [hdm]; omega) (by rw [hdm]; omega)
                    have hdl2 : (d.drop u).length = m' - u := by rw [List.length_drop, hdm]
                    have hql : (d.take u).length = u := by rw [List.length_take, hdm]; omega
                    have hosl := hCI.len2
                    generalize d.take u = Y at *
                    generalize d.drop u = D2 at *
                    obtain ⟨P, hP⟩ : ∃ P, (if c' = u then q else q.map (·.add u)) = P := ⟨_, rfl⟩
                    obtain ⟨cP, hcP⟩ : ∃ cP, c' - u = cP := ⟨_, rfl⟩
                    obtain ⟨mP, hmP⟩ : ∃ mP, m' - u = mP := ⟨_, rfl⟩
                    rw [hP, hcP] at h2
                    rw [hmP] at hdl2
                    have hPb : ∀ ad, P = some ad → ad.block < W5.heap.size := by
                      intro ad e
                      rw [← hP] at e
                      split at e
                      · exact hoff' ad e
                      · cases q with
                        | none => simp at e
                        | some a9 =>
                          simp only [Option.map_some, Option.some.injEq] at e
                          have := hoff' a9 rfl
                          rw [← e]
                          have e3 : (a9.add u).block = a9.block := by unfold Addr.add; split <;> rfl
                          rw [e3]; exact this
                    have j3 : (u : Int) ≤ (c' : Int) := by omega
                    have j4 : (u : Int) ≤ (m' : Int) := by omega
                    have hbs := hbw.size
                    have hB6 := hbw.drew
                    have hN6 : Nls wr.drew W5.heap.size (.slice av' ol' cv') os' := hN.next (Below.refl _ _).drew
                    have h16 : RowAt wr.drew q c' Y := h1.next (Below.refl _ _).drew
                    have h26 : RowAt wr.drew P cP D2 := h2.next (Below.refl _ _).drew
                    have hs6 : wr.drew.heap.size = wr.heap.size := rfl
                    have HCI2 := Lib.hid hCI2
                    have HPB := Lib.hid hPb
                    have HO := Lib.hid hoff'
                    have HN6 := Lib.hid hN6
                    have H16 := Lib.hid h16
                    have H26 := Lib.hid h26
                    have HB6 := Lib.hid hB6
                    have HQL := Lib.hid hql
                    have HDL := Lib.hid hdl2
                    clear h1 h2 hCI hCI2 hPb hoff hoff' hN hN6 h16 h26 hB6 hql hdl2 hrow hbw hdm hle hdne
                    go_wp2_with fail
                    refine held_start (S := fun W => W.cell? ⟨b, off + k * 3, none⟩ = some (.int .i64 r.kind)) 14 (by kernel_rfl) rfl ?_
                    have hS6 : wr.drew.cell? ⟨b, off + k * 3, none⟩ = some (.int .i64 r.kind) := k00
                    generalize wr.drew = W6 at *
                    refine held_take 0 (v := ?_) rfl (by kernel_rfl) (by kernel_rfl) (by kernel_rfl) (fun _ _ _ h => h) (by assumption) (by rfl) ?_ ?_
                    rotate_left
                    · (intro W hW; go_simp; try with_reducible rfl)
                    simp only [Act.put, List.setIfInBounds_toArray, List.set_cons_zero, List.set_cons_succ]
                    refine held_take 1 (v := ?_) rfl (by kernel_rfl) (by kernel_rfl) (by kernel_rfl) (fun _ _ _ h => h) (by assumption) (by rfl) ?_ ?_
                    rotate_left
                    · (intro W hW; go_simp; try with_reducible rfl)
                    simp only [Act.put, List.setIfInBounds_toArray, List.set_cons_zero, List.set_cons_succ]
                    refine held_take 2 (v := ?_) rfl (by kernel_rfl) (by kernel_rfl) (by kernel_rfl) (fun _ _ _ h => h) (by assumption) (by rfl) ?_ ?_
                    rotate_left
                    · (intro W hW; go_simp; try with_reducible rfl)
                    simp only [Act.put, List.setIfInBounds_toArray, List.set_cons_zero, List.set_cons_succ]
                    refine held_take 3 (v := ?_) rfl (by kernel_rfl) (by kernel_rfl) (by kernel_rfl) (fun _ _ _ h => h) (by assumption) (by rfl) ?_ ?_
                    rotate_left
                    · (intro W hW; go_simp; try with_reducible rfl)
                    simp only [Act.put, List.setIfInBounds_toArray, List.set_cons_zero, List.set_cons_succ]
                    refine held_take 4 (v := ?_) rfl (by kernel_rfl) (by kernel_rfl) (by kernel_rfl) (fun _ _ _ h => h) (by assumption) (by rfl) ?_ ?_
                    rotate_left
                    · (intro W hW; go_simp; try with_reducible rfl)
                    simp only [Act.put, List.setIfInBounds_toArray, List.set_cons_zero, List.set_cons_succ]
                    refine held_take 5 (v := ?_) rfl (by kernel_rfl) (by kernel_rfl) (by kernel_rfl) (fun _ _ _ h => h) (by assumption) (by rfl) ?_ ?_
                    rotate_left
                    · (intro W hW; have hc : W.cell? ⟨b, off + k * 3, none⟩ = some (.int .i64 r.kind) := hW; go_simp; try with_reducible rfl)
                    simp only [Act.put, List.setIfInBounds_toArray, List.set_cons_zero, List.set_cons_succ]
                    refine held_take 6 (v := ?_) rfl (by kernel_rfl) (by kernel_rfl) (by kernel_rfl) (fun _ _ _ h => h) (by assumption) (by rfl) ?_ ?_
                    rotate_left
                    · (intro W hW; go_simp; try with_reducible rfl)
                    simp only [Act.put, List.setIfInBounds_toArray, List.set_cons_zero, List.set_cons_succ]
                    refine held_take 7 (v := ?_) rfl (by kernel_rfl) (by kernel_rfl) (by kernel_rfl) (fun _ _ _ h => h) (by assumption) (by rfl) ?_ ?_
                    rotate_left
                    · (intro W hW; go_simp; try with_reducible rfl)
                    simp only [Act.put, List.setIfInBounds_toArray, List.set_cons_zero, List.set_cons_succ]
                    refine held_take 8 (v := ?_) rfl (by kernel_rfl) (by kernel_rfl) (by kernel_rfl) (fun _ _ _ h => h) (by assumption) (by rfl) ?_ ?_
                    rotate_left
                    · (intro W hW; go_simp; try with_reducible rfl)
                    simp only [Act.put, List.setIfInBounds_toArray, List.set_cons_zero, List.set_cons_succ]
                    refine held_take 9 (v := ?_) rfl (by kernel_rfl) (by kernel_rfl) (by kernel_rfl) (fun _ _ _ h => h) (by assumption) (by rfl) ?_ ?_
                    rotate_left
                    · (intro W hW; go_simp; try with_reducible rfl)
                    simp only [Act.put, List.setIfInBounds_toArray, List.set_cons_zero, List.set_cons_succ]
                    refine held_take 10 (v := ?_) rfl (by kernel_rfl) (by kernel_rfl) (by kernel_rfl) (fun _ _ _ h => h) (by assumption) (by rfl) ?_ ?_
                    rotate_left
                    · (intro W hW; go_simp; try with_reducible rfl)
                    simp only [Act.put, List.setIfInBounds_toArray, List.set_cons_zero, List.set_cons_succ]
                    have ba := below_one W6 (.cells #[.int .i64 r.kind, .int .u32 0, .slice q u c', .int .i64 6, .int .u32 3, .slice none 0 0] 54)
                    have hg7 := heap_alloc_new W6 (.cells #[.int .i64 r.kind, .int .u32 0, .slice q u c', .int .i64 6, .int .u32 3, .slice none 0 0] 54)
                    have hB7 := Below.chain HB6.out ba
                    have hS7 := K0.out _ hB7
                    refine held_makes 11 (v := .slice (some ⟨W6.heap.size, 0, none⟩) 2 2) (w' := W6.alloc (.cells #[.int .i64 r.kind, .int .u32 0, .slice q u c', .int .i64 6, .int .u32 3, .slice none 0 0] 54)) rfl (by kernel_rfl) (by rfl) (by go_simp) hS7 ?_
                    simp only [Act.put, List.setIfInBounds_toArray, List.set_cons_zero, List.set_cons_succ]
                    refine held_one 12 rfl (by kernel_rfl) (by rfl) ?_
                    refine wp_append_nls2 (.tmp 80) (.tmp 91) rfl W5.heap.size (.slice av' ol' cv') os' ⟨r.kind, 0, Y⟩ ⟨6, 3, []⟩ rfl q c' W6.heap.size rfl rfl (HN6.out.next ba) (H16.out.next ba) (fun ad e => ⟨by have := HO.out ad e; have := hB7.size; omega, fun e2 => by have := (HN6.out.lt _ e2).1; have := HO.out ad e; omega⟩) (by show _ = some (Obj.cells (ncells _ (.slice q Y.length c') ++ _).toArray _ _); rw [HQL.out]; exact hg7) hB7.size (by omega) ?_
                    intro v7 W7 n7 g7
                    have b7 := g7.below hB7 (fun x e => (HN6.out.lt x e).1)
                    have hS8 := K0.out _ b7
                    refine ⟨hS8, ?_⟩
                    simp only [Act.put, List.setIfInBounds_toArray, List.set_cons_zero, List.set_cons_succ]
                    refine held_take 13 (v := ?_) rfl (by kernel_rfl) (by kernel_rfl) (by kernel_rfl) (fun _ _ _ h => h) (by assumption) (by rfl) ?_ ?_
                    rotate_left
                    · (intro W hW; go_simp; try with_reducible rfl)
                    simp only [Act.put, List.setIfInBounds_toArray, List.set_cons_zero, List.set_cons_succ]
                    refine held_done (by kernel_rfl) ?_
                    have N7 := Lib.hid n7
                    have B7 := Lib.hid b7
                    have R7 := Lib.hid ((g7.row (H26.out.next ba) (fun ad e e2 => by have := (HN6.out.lt _ e2).1; have := HPB.out ad e; omega)))
                    clear n7 b7 g7 hS8 hS7 hS6 hg7 ba hB7 HN6 H16 H26 HB6
                    go_wp2
                    go_roundw
                    case rel => exact ⟨j' + 1, os' ++ [⟨r.kind, 0, Y⟩, ⟨6, 3, []⟩], D2, P, cP, mP, by go_num, by omega, by rw [← hP, ← hcP, ← hmP], HDL.out, R7.out, .inr HPB.out, N7.out, HCI2.out, B7.out⟩
                    case measure => simp [intOf, lenOf]; omega
                  ·
                    have hle := hrow.le
                    rw [hdm] at hle
                    have h1 := hrow.head m' (by rw [hdm]; omega)
                    have h2 := hrow.cut m' m' (by omega) (by rw [hdm]; exact Nat.le_refl _)
                    rw [List.take_of_length_le (by rw [hdm]; exact Nat.le_refl _)] at h2
                    have hCI2 := hCI.step HF.out.1 HF.out.2.2 hdne m' (j' + 1) (by rw [hdm]; omega) (by rw [hdm]; omega)
                    have hdl2 : (d.drop m').length = m' - m' := by rw [List.length_drop, hdm]
                    have hql : (d.take m').length = m' := by rw [List.length_take, hdm]; omega
                    have hosl := hCI.len2
                    generalize d.take m' = Y at *
                    generalize d.drop m' = D2 at *
                    obtain ⟨P, hP⟩ : ∃ P, (if c' = m' then q else q.map (·.add m')) = P := ⟨_, rfl⟩
                    obtain ⟨cP, hcP⟩ : ∃ cP, c' - m' = cP := ⟨_, rfl⟩
                    obtain ⟨mP, hmP⟩ : ∃ mP, m' - m' = mP := ⟨_, rfl⟩
                    rw [hP, hcP] at h2
                    rw [hmP] at hdl2
                    have hPb : ∀ ad, P = some ad → ad.block < W5.heap.size := by
                      intro ad e
                      rw [← hP] at e
                      split at e
                      · exact hoff' ad e
                      · cases q with
                        | none => simp at e
                        | some a9 =>
                          simp only [Option.map_some, Option.some.injEq] at e
                          have := hoff' a9 rfl
                          rw [← e]
                          have e3 : (a9.add m').block = a9.block := by unfold Addr.add; split <;> rfl
                          rw [e3]; exact this
                    have j3 : (m' : Int) ≤ (c' : Int) := by omega
                    have j4 : (m' : Int) ≤ (m' : Int) := by omega
                    have hbs := hbw.size
                    have hB6 := hbw.drew
                    have hN6 : Nls wr.drew W5.heap.size (.slice av' ol' cv') os' := hN.next (Below.refl _ _).drew
                    have h16 : RowAt wr.drew q c' Y := h1.next (Below.refl _ _).drew
                    have h26 : RowAt wr.drew P cP D2 := h2.next (Below.refl _ _).drew
                    have hs6 : wr.drew.heap.size = wr.heap.size := rfl
                    have HCI2 := Lib.hid hCI2
                    have HPB := Lib.hid hPb
                    have HO := Lib.hid hoff'
                    have HN6 := Lib.hid hN6
                    have H16 := Lib.hid h16
                    have H26 := Lib.hid h26
                    have HB6 := Lib.hid hB6
                    have HQL := Lib.hid hql
                    have HDL := Lib.hid hdl2
                    clear h1 h2 hCI hCI2 hPb hoff hoff' hN hN6 h16 h26 hB6 hql hdl2 hrow hbw hdm hle hdne
                    go_wp2_with fail
                    refine held_start (S := fun W => W.cell? ⟨b, off + k * 3, none⟩ = some (.int .i64 r.kind)) 14 (by kernel_rfl) rfl ?_
                    have hS6 : wr.drew.cell? ⟨b, off + k * 3, none⟩ = some (.int .i64 r.kind) := k00
                    generalize wr.drew = W6 at *
                    refine held_take 0 (v := ?_) rfl (by kernel_rfl) (by kernel_rfl) (by kernel_rfl) (fun _ _ _ h => h) (by assumption) (by rfl) ?_ ?_
                    rotate_left
                    · (intro W hW; go_simp; try with_reducible rfl)
                    simp only [Act.put, List.setIfInBounds_toArray, List.set_cons_zero, List.set_cons_succ]
                    refine held_take 1 (v := ?_) rfl (by kernel_rfl) (by kernel_rfl) (by kernel_rfl) (fun _ _ _ h => h) (by assumption) (by rfl) ?_ ?_
                    rotate_left
                    · (intro W hW; go_simp; try with_reducible rfl)
                    simp only [Act.put, List.setIfInBounds_toArray, List.set_cons_zero, List.set_cons_succ]
                    refine held_take 2 (v := ?_) rfl (by kernel_rfl) (by kernel_rfl) (by kernel_rfl) (fun _ _ _ h => h) (by assumption) (by rfl) ?_ ?_
                    rotate_left
                    · (intro W hW; go_simp; try with_reducible rfl)
                    simp only [Act.put, List.setIfInBounds_toArray, List.set_cons_zero, List.set_cons_succ]
                    refine held_take 3 (v := ?_) rfl (by kernel_rfl) (by kernel_rfl) (by kernel_rfl) (fun _ _ _ h => h) (by assumption) (by rfl) ?_ ?_
                    rotate_left
                    · (intro W hW; go_simp; try with_reducible rfl)
                    simp only [Act.put, List.setIfInBounds_toArray, List.set_cons_zero, List.set_cons_succ]
                    refine held_take 4 (v := ?_) rfl (by kernel_rfl) (by kernel_rfl) (by kernel_rfl) (fun _ _ _ h => h) (by assumption) (by rfl) ?_ ?_
                    rotate_left
                    · (intro W hW; go_simp; try with_reducible rfl)
                    simp only [Act.put, List.setIfInBounds_toArray, List.set_cons_zero, List.set_cons_succ]
                    refine held_take 5 (v := ?_) rfl (by kernel_rfl) (by kernel_rfl) (by kernel_rfl) (fun _ _ _ h => h) (by assumption) (by rfl) ?_ ?_
                    rotate_left
                    · (intro W hW; have hc : W.cell? ⟨b, off + k * 3, none⟩ = some (.int .i64 r.kind) := hW; go_simp; try with_reducible rfl)
                    simp only [Act.put, List.setIfInBounds_toArray, List.set_cons_zero, List.set_cons_succ]
                    refine held_take 6 (v := ?_) rfl (by kernel_rfl) (by kernel_rfl) (by kernel_rfl) (fun _ _ _ h => h) (by assumption) (by rfl) ?_ ?_
                    rotate_left
                    · (intro W hW; go_simp; try with_reducible rfl)
                    simp only [Act.put, List.setIfInBounds_toArray, List.set_cons_zero, List.set_cons_succ]
                    refine held_take 7 (v := ?_) rfl (by kernel_rfl) (by kernel_rfl) (by kernel_rfl) (fun _ _ _ h => h) (by assumption) (by rfl) ?_ ?_
                    rotate_left
                    · (intro W hW; go_simp; try with_reducible rfl)
                    simp only [Act.put, List.setIfInBounds_toArray, List.set_cons_zero, List.set_cons_succ]
                    refine held_take 8 (v := ?_) rfl (by kernel_rfl) (by kernel_rfl) (by kernel_rfl) (fun _ _ _ h => h) (by assumption) (by rfl) ?_ ?_
                    rotate_left
                    · (intro W hW; go_simp; try with_reducible rfl)
                    simp only [Act.put, List.setIfInBounds_toArray, List.set_cons_zero, List.set_cons_succ]
                    refine held_take 9 (v := ?_) rfl (by kernel_rfl) (by kernel_rfl) (by kernel_rfl) (fun _ _ _ h => h) (by assumption) (by rfl) ?_ ?_
                    rotate_left
                    · (intro W hW; go_simp; try with_reducible rfl)
                    simp only [Act.put, List.setIfInBounds_toArray, List.set_cons_zero, List.set_cons_succ]
                    refine held_take 10 (v := ?_) rfl (by kernel_rfl) (by kernel_rfl) (by kernel_rfl) (fun _ _ _ h => h) (by assumption) (by rfl) ?_ ?_
                    rotate_left
                    · (intro W hW; go_simp; try with_reducible rfl)
                    simp only [Act.put, List.setIfInBounds_toArray, List.set_cons_zero, List.set_cons_succ]
                    have ba := below_one W6 (.cells #[.int .i64 r.kind, .int .u32 0, .slice q m' c', .int .i64 6, .int .u32 3, .slice none 0 0] 54)
                    have hg7 := heap_alloc_new W6 (.cells #[.int .i64 r.kind, .int .u32 0, .slice q m' c', .int .i64 6, .int .u32 3, .slice none 0 0] 54)
                    have hB7 := Below.chain HB6.out ba
                    have hS7 := K0.out _ hB7
                    refine held_makes 11 (v := .slice (some ⟨W6.heap.size, 0, none⟩) 2 2) (w' := W6.alloc (.cells #[.int .i64 r.kind, .int .u32 0, .slice q m' c', .int .i64 6, .int .u32 3, .slice none 0 0] 54)) rfl (by kernel_rfl) (by rfl) (by go_simp) hS7 ?_
                    simp only [Act.put, List.setIfInBounds_toArray, List.set_cons_zero, List.set_cons_succ]
                    refine held_one 12 rfl (by kernel_rfl) (by rfl) ?_
                    refine wp_append_nls2 (.tmp 80) (.tmp 91) rfl W5.heap.size (.slice av' ol' cv') os' ⟨r.kind, 0, Y⟩ ⟨6, 3, []⟩ rfl q c' W6.heap.size rfl rfl (HN6.out.next ba) (H16.out.next ba) (fun ad e => ⟨by have := HO.out ad e; have := hB7.size; omega, fun e2 => by have := (HN6.out.lt _ e2).1; have := HO.out ad e; omega⟩) (by show _ = some (Obj.cells (ncells _ (.slice q Y.length c') ++ _).toArray _ _); rw [HQL.out]; exact hg7) hB7.size (by omega) ?_
                    intro v7 W7 n7 g7
                    have b7 := g7.below hB7 (fun x e => (HN6.out.lt x e).1)
                    have hS8 := K0.out _ b7
                    refine ⟨hS8, ?_⟩
                    simp only [Act.put, List.setIfInBounds_toArray, List.set_cons_zero, List.set_cons_succ]
                    refine held_take 13 (v := ?_) rfl (by kernel_rfl) (by kernel_rfl) (by kernel_rfl) (fun _ _ _ h => h) (by assumption) (by rfl) ?_ ?_
                    rotate_left
                    · (intro W hW; go_simp; try with_reducible rfl)
                    simp only [Act.put, List.setIfInBounds_toArray, List.set_cons_zero, List.set_cons_succ]
                    refine held_done (by kernel_rfl) ?_
                    have N7 := Lib.hid n7
                    have B7 := Lib.hid b7
                    have R7 := Lib.hid ((g7.row (H26.out.next ba) (fun ad e e2 => by have := (HN6.out.lt _ e2).1; have := HPB.out ad e; omega)))
                    clear n7 b7 g7 hS8 hS7 hS6 hg7 ba hB7 HN6 H16 H26 HB6
                    go_wp2
                    go_roundw
                    case rel => exact ⟨j' + 1, os' ++ [⟨r.kind, 0, Y⟩, ⟨6, 3, []⟩], D2, P, cP, mP, by go_num, by omega, by rw [← hP, ← hcP, ← hmP], HDL.out, R7.out, .inr HPB.out, N7.out, HCI2.out, B7.out⟩
                    case measure => simp [intOf, lenOf]; omega
              ·
                have hle := hrow.le
                rw [hdm] at hle
                have h1 := hrow.head m' (by rw [hdm]; omega)
                have h2 := hrow.cut m' m' (by omega) (by rw [hdm]; exact Nat.le_refl _)
                rw [List.take_of_length_le (by rw [hdm]; exact Nat.le_refl _)] at h2
                have hCI2 := hCI.step HF.out.1 HF.out.2.2 hdne m' (j') (by rw [hdm]; omega) (by rw [hdm]; omega)
                have hdl2 : (d.drop m').length = m' - m' := by rw [List.length_drop, hdm]
                have hql : (d.take m').length = m' := by rw [List.length_take, hdm]; omega
                have hosl := hCI.len2
                generalize d.take m' = Y at *
                generalize d.drop m' = D2 at *
                obtain ⟨P, hP⟩ : ∃ P, (if c' = m' then q else q.map (·.add m')) = P := ⟨_, rfl⟩
                obtain ⟨cP, hcP⟩ : ∃ cP, c' - m' = cP := ⟨_, rfl⟩
                obtain ⟨mP, hmP⟩ : ∃ mP, m' - m' = mP := ⟨_, rfl⟩
                rw [hP, hcP] at h2
                rw [hmP] at hdl2
                have hPb : ∀ ad, P = some ad → ad.block < W5.heap.size := by
                  intro ad e
                  rw [← hP] at e
                  split at e
                  · exact hoff' ad e
                  · cases q with
                    | none => simp at e
                    | some a9 =>
                      simp only [Option.map_some, Option.some.injEq] at e
                      have := hoff' a9 rfl
                      rw [← e]
                      have e3 : (a9.add m').block = a9.block := by unfold Addr.add; split <;> rfl
                      rw [e3]; exact this
                have j3 : (m' : Int) ≤ (c' : Int) := by omega
                have j4 : (m' : Int) ≤ (m' : Int) := by omega
                have hbs := hbw.size
                have hB6 := hbw.drew
                have hN6 : Nls wr.drew W5.heap.size (.slice av' ol' cv') os' := hN.next (Below.refl _ _).drew
                have h16 : RowAt wr.drew q c' Y := h1.next (Below.refl _ _).drew
                have h26 : RowAt wr.drew P cP D2 := h2.next (Below.refl _ _).drew
                have hs6 : wr.drew.heap.size = wr.heap.size := rfl
                have HCI2 := Lib.hid hCI2
                have HPB := Lib.hid hPb
                have HO := Lib.hid hoff'
                have HN6 := Lib.hid hN6
                have H16 := Lib.hid h16
                have H26 := Lib.hid h26
                have HB6 := Lib.hid hB6
                have HQL := Lib.hid hql
                have HDL := Lib.hid hdl2
                clear h1 h2 hCI hCI2 hPb hoff hoff' hN hN6 h16 h26 hB6 hql hdl2 hrow hbw hdm hle hdne
                go_wp2_with fail
                refine held_start (S := fun W => W.cell? ⟨b, off + k * 3, none⟩ = some (.int .i64 r.kind)) 14 (by kernel_rfl) rfl ?_
                have hS6 : wr.drew.cell? ⟨b, off + k * 3, none⟩ = some (.int .i64 r.kind) := k00
                generalize wr.drew = W6 at *
                refine held_take 0 (v := ?_) rfl (by kernel_rfl) (by kernel_rfl) (by kernel_rfl) (fun _ _ _ h => h) (by assumption) (by rfl) ?_ ?_
                rotate_left
                · (intro W hW; go_simp; try with_reducible rfl)
                simp only [Act.put, List.setIfInBounds_toArray, List.set_cons_zero, List.set_cons_succ]
                refine held_take 1 (v := ?_) rfl (by kernel_rfl) (by kernel_rfl) (by kernel_rfl) (fun _ _ _ h => h) (by assumption) (by rfl) ?_ ?_
                rotate_left
                · (intro W hW; go_simp; try with_reducible rfl)
                simp only [Act.put, List.setIfInBounds_toArray, List.set_cons_zero, List.set_cons_succ]
                refine held_take 2 (v := ?_) rfl (by kernel_rfl) (by kernel_rfl) (by kernel_rfl) (fun _ _ _ h => h) (by assumption) (by rfl) ?_ ?_
                rotate_left
                · (intro W hW; go_simp; try with_reducible rfl)
                simp only [Act.put, List.setIfInBounds_toArray, List.set_cons_zero, List.set_cons_succ]
                refine held_take 3 (v := ?_) rfl (by kernel_rfl) (by kernel_rfl) (by kernel_rfl) (fun _ _ _ h => h) (by assumption) (by rfl) ?_ ?_
                rotate_left
                · (intro W hW; go_simp; try with_reducible rfl)
                simp only [Act.put, List.setIfInBounds_toArray, List.set_cons_zero, List.set_cons_succ]
                refine held_take 4 (v := ?_) rfl (by kernel_rfl) (by kernel_rfl) (by kernel_rfl) (fun _ _ _ h => h) (by assumption) (by rfl) ?_ ?_
                rotate_left
                · (intro W hW; go_simp; try with_reducible rfl)
                simp only [Act.put, List.setIfInBounds_toArray, List.set_cons_zero, List.set_cons_succ]
                refine held_take 5 (v := ?_) rfl (by kernel_rfl) (by kernel_rfl) (by kernel_rfl) (fun _ _ _ h => h) (by assumption) (by rfl) ?_ ?_
                rotate_left
                · (intro W hW; have hc : W.cell? ⟨b, off + k * 3, none⟩ = some (.int .i64 r.kind) := hW; go_simp; try with_reducible rfl)
                simp only [Act.put, List.setIfInBounds_toArray, List.set_cons_zero, List.set_cons_succ]
                refine held_take 6 (v := ?_) rfl (by kernel_rfl) (by kernel_rfl) (by kernel_rfl) (fun _ _ _ h => h) (by assumption) (by rfl) ?_ ?_
                rotate_left
                · (intro W hW; go_simp; try with_reducible rfl)
                simp only [Act.put, List.setIfInBounds_toArray, List.set_cons_zero, List.set_cons_succ]
                refine held_take 7 (v := ?_) rfl (by kernel_rfl) (by kernel_rfl) (by kernel_rfl) (fun _ _ _ h => h) (by assumption) (by rfl) ?_ ?_
                rotate_left
                · (intro W hW; go_simp; try with_reducible rfl)
                simp only [Act.put, List.setIfInBounds_toArray, List.set_cons_zero, List.set_cons_succ]
                refine held_take 8 (v := ?_) rfl (by kernel_rfl) (by kernel_rfl) (by kernel_rfl) (fun _ _ _ h => h) (by assumption) (by rfl) ?_ ?_
                rotate_left
                · (intro W hW; go_simp; try with_reducible rfl)
                simp only [Act.put, List.setIfInBounds_toArray, List.set_cons_zero, List.set_cons_succ]
                refine held_take 9 (v := ?_) rfl (by kernel_rfl) (by kernel_rfl) (by kernel_rfl) (fun _ _ _ h => h) (by assumption) (by rfl) ?_ ?_
                rotate_left
                · (intro W hW; go_simp; try with_reducible rfl)
                simp only [Act.put, List.setIfInBounds_toArray, List.set_cons_zero, List.set_cons_succ]
                refine held_take 10 (v := ?_) rfl (by kernel_rfl) (by kernel_rfl) (by kernel_rfl) (fun _ _ _ h => h) (by assumption) (by rfl) ?_ ?_
                rotate_left
                · (intro W hW; go_simp; try with_reducible rfl)
                simp only [Act.put, List.setIfInBounds_toArray, List.set_cons_zero, List.set_cons_succ]
                have ba := below_one W6 (.cells #[.int .i64 r.kind, .int .u32 0, .slice q m' c', .int .i64 6, .int .u32 3, .slice none 0 0] 54)
                have hg7 := heap_alloc_new W6 (.cells #[.int .i64 r.kind, .int .u32 0, .slice q m' c', .int .i64 6, .int .u32 3, .slice none 0 0] 54)
                have hB7 := Below.chain HB6.out ba
                have hS7 := K0.out _ hB7
                refine held_makes 11 (v := .slice (some ⟨W6.heap.size, 0, none⟩) 2 2) (w' := W6.alloc (.cells #[.int .i64 r.kind, .int .u32 0, .slice q m' c', .int .i64 6, .int .u32 3, .slice none 0 0] 54)) rfl (by kernel_rfl) (by rfl) (by go_simp) hS7 ?_
                simp only [Act.put, List.setIfInBounds_toArray, List.set_cons_zero, List.set_cons_succ]
                refine held_one 12 rfl (by kernel_rfl) (by rfl) ?_
                refine wp_append_nls2 (.tmp 80) (.tmp 91) rfl W5.heap.size (.slice av' ol' cv') os' ⟨r.kind, 0, Y⟩ ⟨6, 3, []⟩ rfl q c' W6.heap.size rfl rfl (HN6.out.next ba) (H16.out.next ba) (fun ad e => ⟨by have := HO.out ad e; have := hB7.size; omega, fun e2 => by have := (HN6.out.lt _ e2).1; have := HO.out ad e; omega⟩) (by show _ = some (Obj.cells (ncells _ (.slice q Y.length c') ++ _).toArray _ _); rw [HQL.out]; exact hg7) hB7.size (by omega) ?_
                intro v7 W7 n7 g7
                have b7 := g7.below hB7 (fun x e => (HN6.out.lt x e).1)
                have hS8 := K0.out _ b7
                refine ⟨hS8, ?_⟩
                simp only [Act.put, List.setIfInBounds_toArray, List.set_cons_zero, List.set_cons_succ]
                refine held_take 13 (v := ?_) rfl (by kernel_rfl) (by kernel_rfl) (by kernel_rfl) (fun _ _ _ h => h) (by assumption) (by rfl) ?_ ?_
                rotate_left
                · (intro W hW; go_simp; try with_reducible rfl)
                simp only [Act.put, List.setIfInBounds_toArray, List.set_cons_zero, List.set_cons_succ]
                refine held_done (by kernel_rfl) ?_
                have N7 := Lib.hid n7
                have B7 := Lib.hid b7
                have R7 := Lib.hid ((g7.row (H26.out.next ba) (fun ad e e2 => by have := (HN6.out.lt _ e2).1; have := HPB.out ad e; omega)))
                clear n7 b7 g7 hS8 hS7 hS6 hg7 ba hB7 HN6 H16 H26 HB6
                go_wp2
                go_roundw
                case rel => exact ⟨j', os' ++ [⟨r.kind, 0, Y⟩, ⟨6, 3, []⟩], D2, P, cP, mP, by go_num, by omega, by rw [← hP, ← hcP, ← hmP], HDL.out, R7.out, .inr HPB.out, N7.out, HCI2.out, B7.out⟩
                case measure => simp [intOf, lenOf]; omega
            · have hd0 : d = [] := List.eq_nil_of_length_eq_zero (by omega)
              subst hd0
              have hcs := HLV.out os' j' hCI
              have HN := Lib.hid hN
              have HCS := Lib.hid hcs
              have HBW := Lib.hid hbw
              have hdm0 : decide ((0 : Int) < (m' : Int)) = false := by simpa using hlt2
              clear hN hcs hbw hCI hrow hoff hdm
              go_wp2
              go_roundw
              case rel => exact ⟨k + 1, j', os', by go_num, by omega, rfl, hj', HN.out, HCS.out, HBW.out⟩
              case measure => simp [intOf]; omega
        · have hks : ns.take k = ns := List.take_of_length_le (by rw [HNL.out]; omega)
          have hcu := hC.cut
          have hsz := hC.size
          rw [hks] at hcu hsz
          have hff := Cp.fit_fine os hC.fit
          have hrd := HCUT.out os hcu hC.fit
          have hbl := S10.Dm.bytes_le os
          obtain ⟨a6, c6, e6, hat⟩ := hN.at hff.2
          simp only [Value.slice.injEq, true_and] at e6
          obtain ⟨rfl, rfl⟩ := e6
          have cP := refPut_put av os.length cv os wr rfl (by omega) hat
          have herr := S10.Dm.err_fine os hff.1
          have hb5 := B5.out
          have B6 := Lib.hid (Below.chain B5.out hbw)
          have D6 := Lib.hid (block_next D5.out hbw)
          obtain ⟨m8, hm8⟩ : ∃ m8, (S10.Dm.bytes os).length = m8 := ⟨_, rfl⟩
          have cR := fun p c W hr t => capRead_any 2 (cw wide) p m8 c (S10.Dm.bytes os) W hm8 (by omega) hr t hac (fun e => by cases e) (fun _ => hrd.2)
          have hz : Cp.read (S10.Dm.bytes os) 2 (cw wide).c = (L, 0, 0) := by rw [Cp.read_two]; exact hrd.1
          rw [hz] at cR
          obtain ⟨ol, hol⟩ : ∃ ol, os.length = ol := ⟨_, rfl⟩
          rw [hol] at cP ⊢
          have HE := Lib.hid herr
          have CP := Lib.hid cP
          have CR := Lib.hid cR
          have H8 := Lib.hid hm8
          clear hcu hsz hff hrd hbl hat cP herr hbw hN hC hks cR hz hol hm8 hosl hb5 N5 R15 D5 B5
          go_wp2_with fail
          refine CP.out.mono ?_
          rintro e w7 ⟨b7, h7⟩
          rcases h7 with ⟨_, v7, rfl, o7⟩ | ⟨hno, _⟩
          · obtain ⟨p8, c8, rfl, r8⟩ := rowAt_own H8.out (by rw [H8.out] at o7; exact o7)
            have B7 := Lib.hid (Below.chain B6.out b7)
            have D7 := Lib.hid (block_next D6.out b7)
            have R8 := Lib.hid r8
            clear o7 r8 b7 B6 D6 CP
            go_wp2_with (refine wpList_load_row rfl 25 (.tmp 7) rfl w2.heap.size rfl 25 (ccells (cw wide)).toArray (0, 0) _ D7.out Tryd.underlying25 rfl infoConf ?_; simp only [ccells, cw])
            refine (CR.out p8 c8 w7 R8.out (HT.out.next B7.out)).mono ?_
            rintro e w8 ⟨v8, rfl, i8, b8⟩
            obtain ⟨a9, c9, rfl, hi9⟩ := Its.at' i8 Hn.out
            simp only [scells]
            have hs9 := heap_alloc_new w8 (.cells (scells 0 0).toArray 33)
            have ba := below_one w8 (.cells (scells 0 0).toArray 33)
            have q0 : (w8.alloc (.cells (scells 0 0).toArray 33)).cell? ⟨w8.heap.size, 0, none⟩ = some (.int .i64 0) := cell_of_row _ _ _ _ _ _ hs9
            have q1 : (w8.alloc (.cells (scells 0 0).toArray 33)).cell? ⟨w8.heap.size, 1, none⟩ = some (.int .i64 0) := cell_of_row _ _ _ _ _ _ hs9
            simp only [scells] at ba q0 q1
            have B9 := Lib.hid (Below.chain (Below.chain B7.out b8) ba)
            have I9 := Lib.hid (hi9.next ba)
            clear i8 b8 hi9 hs9 ba CR R8 D7
            go_wp2_with fail
            refine (itsame_any a9 a c9 cap n L _ Hn.out (by omega) I9.out (H.out.next B9.out)).mono ?_
            rintro e w10 ⟨rfl, b10⟩
            go_wp2
            go_ret
            exact ⟨rfl, Below.chain B9.out b10⟩
          · exact absurd HE.out hno
  · have cA := fun W => awake_any W
    by_cases hr : r = true
    · subst hr
      have h100 : (100 : Int) < (n1 : Int) := by
        by_cases h : (100 : Int) < (n1 : Int)
        · exact h
        · exact absurd ⟨rfl, h⟩ hgo
      clear hgo hfew
      go_wp2_with fail
      refine (cA _ (HT.out.next B1.out)).mono ?_
      rintro e w3 ⟨rfl, b3⟩
      have B3 := Lib.hid (Below.chain B1.out b3)
      clear b3
      go_wp2
      go_ret
      exact ⟨rfl, B3.out⟩
    · obtain rfl : r = false := by simpa using hr
      clear hgo hfew hr
      go_wp2_with fail
      refine (cA _ (HT.out.next B1.out)).mono ?_
      rintro e w3 ⟨rfl, b3⟩
      have B3 := Lib.hid (Below.chain B1.out b3)
      clear b3
      go_wp2
      go_ret
      exact ⟨rfl, B3.out⟩
end Go.Proofs.YtbbnkmhlgfoacaaDoor
