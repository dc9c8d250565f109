/- Contract of the document's Sum. -/
import Derived.Test.YtjalhlofpoknoaaDoorM3Rb
namespace Go.Proofs.YtjalhlofpoknoaaDoor.S3
open Go.RowKit

theorem Md.get_lt (s : Md.St) (q : Nat) (h : s.fine) : s.get q < 4294967296 := by
  unfold Md.St.get
  split
  · exact h.1
  · split
    · exact h.2.1
    · split
      · exact h.2.2.1
      · exact h.2.2.2
set_option maxHeartbeats 40000000 in
set_option maxRecDepth 100000 in
theorem refSum_at (a : Option Addr) (cap n : Nat) (xs : List UInt8) (w : World) (hn : xs.length = n) (hl : n ≤ 10000) (h : RowAt w a cap xs) (ht : Trig w) :
    Calls Tryd.prog 19 #[.slice a n cap] w fun e w' => e = .returned (.agg (Lib.byteCells (Md.sum xs)).toArray) ∧ Below w.heap.size w w' := by
  have HT := Lib.hid ht
  have HR := Lib.hid h
  have Hn := Lib.hid hn
  clear ht h hn
  go_enter Tryd.func19, Tryd.ntmps19
  go_wp2_with fail
  have hb1 : Below w.heap.size w (w.alloc (.cells z24 38)) := (Below.refl _ _).alloc (Nat.le_refl _) _
  refine (text_at a cap n xs (w.alloc (.cells z24 38)) Hn.out hl (HR.out.next hb1)).mono ?_
  rintro e w2 ⟨v2, rfl, o2, b2⟩
  have hpos := Md.text_pos xs
  have hblk := Md.text_blocks xs
  have hlen := Md.text_length xs
  have hpad := Md.pad_eq xs.length
  have hM : (Md.text xs).length / 64 ≤ 200 := by have := Hn.out; omega
  obtain ⟨a3, c3, rfl, r3⟩ := rowAt_own rfl o2
  have hz2 : w2.heap[w.heap.size]? = some (.cells z24 38 (0, 0)) := hkeep (heap_alloc_new _ _) b2
  have h0 := refW_at hz2 r3 ((HT.out.next hb1).next b2) (Below.chain hb1 b2)
  have hsumE : Md.sum xs = Md.digest (Md.runs (Md.text xs) ((Md.text xs).length / 64) Md.init) := rfl
  obtain ⟨M, hMe⟩ : ∃ M, M = (Md.text xs).length / 64 := ⟨_, rfl⟩
  rw [← hMe] at hblk hM hsumE
  obtain ⟨X, hX⟩ : ∃ X, X = Md.text xs := ⟨_, rfl⟩
  rw [← hX] at hblk h0 hsumE ⊢
  obtain ⟨N, hN⟩ : ∃ N, N = X.length := ⟨_, rfl⟩
  rw [← hN] at hblk ⊢
  have HE := Lib.hid hsumE
  have HN := Lib.hid hN
  have H0 := Lib.hid h0
  have HB := Lib.hid hblk
  have hN2 : (N : Int) ≤ 12800 := by omega
  have hpos2 : 64 ≤ N := by rw [hN, hX]; exact hpos
  clear hsumE h0 hX hMe hz2 r3 o2 b2 hb1 hpos hlen hpad
  have hne : X ≠ [] := by intro e; rw [e] at hN; simp at hN; omega
  clear hN hblk
  go_wp2
  change Code.wp Tryd.prog _ _ _ (refW w2)
  rw [show w2.heap.size + 1 + 1 + 1 + 1 + 1 = w2.heap.size + 5 from rfl]
  generalize refW w2 = w3 at H0 ⊢
  generalize w2.heap.size = g at H0 ⊢
  obtain ⟨gp, hgp⟩ : ∃ gp, gp = g + 5 := ⟨_, rfl⟩
  obtain ⟨g0, hg0⟩ : ∃ g0, g0 = g + 1 := ⟨_, rfl⟩
  rw [← hgp] at H0 ⊢
  rw [← hg0] at H0
  clear hgp hg0
  obtain ⟨b3, o3, ha3⟩ : ∃ b o, a3 = some ⟨b, o, none⟩ := by
    rcases H0.out.tx.bytes with h9 | ⟨b9, o9, e9, _⟩
    · exact absurd h9 hne
    · exact ⟨b9, o9, e9⟩
  subst ha3
  clear hne
  go_loopw [4, 6, 7, 8, 9, 10, 11, 12, 13, 14, 15, 16] (fun h at' _ _ _ _ _ _ _ _ _ _ wr => ∃ k gh : Nat, k ≤ M ∧ at' = .int .i64 ((64 * k : Nat) : Int) ∧ h = .slice (some ⟨gh, 0, none⟩) 4 4 ∧ RefAt w g0 gp gh (Md.runs X k Md.init) (some ⟨b3, o3, none⟩) c3 X wr) (fun _ at' _ _ _ _ _ _ _ _ _ _ _ => 64 * M - (intOf at').toNat)
  case atStart => exact ⟨0, g, by omega, rfl, rfl, H0.out⟩
  case round =>
    obtain ⟨k, gh, hk, rfl, rfl, hat⟩ := hrel
    clear H0
    obtain ⟨l, hl2⟩ : ∃ l, l = 64 * k := ⟨_, rfl⟩
    rw [← hl2]
    have hfn := Md.runs_fine X k Md.init ⟨by decide, by decide, by decide, by decide⟩
    by_cases hlt : (l : Int) < (N : Int)
    · have hkM : k < M := by have := HB.out; omega
      have hrn : Md.runs X (k + 1) Md.init = Md.pass (Md.runs X k Md.init) (Md.words ((X.drop (64 * k)).take 64)) := rfl
      obtain ⟨s, hs⟩ : ∃ s, s = Md.runs X k Md.init := ⟨_, rfl⟩
      rw [← hs] at hat hrn hfn
      rw [← hl2] at hrn
      obtain ⟨Y, hY⟩ : ∃ Y, Y = (X.drop l).take 64 := ⟨_, rfl⟩
      rw [← hY] at hrn
      have hc0 : wr.cell? ⟨gh, 0, none⟩ = some (.int .u32 (s.a : Int)) := uc_cell hat.st 0 (by simp [Md.St.list])
      have hc1 : wr.cell? ⟨gh, 1, none⟩ = some (.int .u32 (s.b : Int)) := uc_cell hat.st 1 (by simp [Md.St.list])
      have hc2 : wr.cell? ⟨gh, 2, none⟩ = some (.int .u32 (s.c : Int)) := uc_cell hat.st 2 (by simp [Md.St.list])
      have hc3 : wr.cell? ⟨gh, 3, none⟩ = some (.int .u32 (s.d : Int)) := uc_cell hat.st 3 (by simp [Md.St.list])
      have Hat0 := Lib.hid hat
      have Hrn := Lib.hid hrn
      have Hfn := Lib.hid hfn
      have HY := Lib.hid hY
      have Hl2 := Lib.hid hl2
      clear hat hrn hfn hs hY hl2
      go_wp2
      go_quiet (fail)
      have Hat := Lib.hid (Hat0.out.next (below_drewN' (Below.refl _ _) nq))
      clear Hat0 hc0 hc1 hc2 hc3
      generalize wr.drewN nq = wq at Hat ⊢
      go_wp2
      go_loop [7, 8, 9, 10, 11, 12, 13, 14, 15, 16] (fun a b c d i _ _ _ _ _ => ∃ j : Nat, j ≤ 64 ∧ i = .int .i64 (j : Int) ∧ a = .int .u32 ((Md.steps (Md.words Y) j s).a : Int) ∧ b = .int .u32 ((Md.steps (Md.words Y) j s).b : Int) ∧ c = .int .u32 ((Md.steps (Md.words Y) j s).c : Int) ∧ d = .int .u32 ((Md.steps (Md.words Y) j s).d : Int)) (fun _ _ _ _ i _ _ _ _ _ => 64 - (intOf i).toNat)
      case atStart => exact ⟨0, by omega, rfl, rfl, rfl, rfl, rfl⟩
      case round =>
        obtain ⟨j, hj, rfl, rfl, rfl, rfl, rfl⟩ := hrel
        by_cases hlt2 : (j : Int) < 64
        · have hst : Md.steps (Md.words Y) (j + 1) s = Md.step (Md.words Y) j (Md.steps (Md.words Y) j s) := rfl
          have hfn := Md.steps_fine (Md.words Y) j s Hfn.out
          obtain ⟨t, ht⟩ : ∃ t, t = Md.steps (Md.words Y) j s := ⟨_, rfl⟩
          rw [← ht] at hst hfn ⊢
          obtain ⟨ta, tb, tc, td⟩ := t
          obtain ⟨fa, fb, fc, fd⟩ := hfn
          have fa : ta < 4294967296 := fa
          have fb : tb < 4294967296 := fb
          have fc : tc < 4294967296 := fc
          have fd : td < 4294967296 := fd
          have hK16 := Md.K_lt j (by omega)
          have hFl := Md.F_lt j tb tc td fb fc fd
          have hsl := Md.sn_lt j (by omega)
          have htn := Md.tn_in j (by omega)
          obtain ⟨nT, hnT⟩ : ∃ n, n = Md.tn j := ⟨_, rfl⟩
          rw [← hnT] at htn
          obtain ⟨q, hq⟩ : ∃ q, q = j / 16 := ⟨_, rfl⟩
          obtain ⟨r, hr⟩ : ∃ r, r = j % 4 := ⟨_, rfl⟩
          have hqi : (j : Int) / 16 = (q : Int) := by omega
          have hri : (j : Int) % 4 = (r : Int) := by omega
          have hq4 : (q : Int) < 4 := by omega
          have hr4 : (r : Int) < 4 := by omega
          have hpl := Hat.out.pl q (by omega)
          have hpt := Hat.out.pt q r (by omega) (by omega)
          rw [show Md.T.getD (4 * q + r) 0 = nT by rw [hnT, hq, hr]; rfl] at hpt
          have hs : IntKind.u32.signed = false := rfl
          obtain ⟨K, hK⟩ : ∃ K, K = Md.K j := ⟨_, rfl⟩
          rw [← hK] at hK16
          have hKi : (K : Int) < 16 := by omega
          have hXl : l + 4 * K + 4 ≤ X.length := by rw [← HN.out]; have := Hl2.out; have := HB.out; omega
          obtain ⟨V, hV⟩ : ∃ V, V = Md.wd X l K := ⟨_, rfl⟩
          have hVl : V.length = 4 := by rw [hV]; exact Md.wd_length X l K hXl
          have hcell : ∀ d, d < 4 → wq.cell? ⟨b3, o3 + (l + 4 * K + d), none⟩ = some (.int .u8 ((V.getD d 0).toNat : Int)) := by
            intro d hd
            rw [hV, Md.wd_get X l K d hd]
            exact Hat.out.tx.byte _ (by omega)
          have hxk : (Md.words Y).getD K 0 = Md.val V := by rw [HY.out, hV]; exact Md.wd_words X l K hK16
          obtain ⟨f, hf⟩ : ∃ f, f = Md.F j tb tc td := ⟨_, rfl⟩
          rw [← hf] at hFl
          obtain ⟨xk, hxv⟩ : ∃ x, x = Md.val V := ⟨_, rfl⟩
          have hxl : xk < 4294967296 := by
            rw [hxv]
            have h9 := Md.val_lt V
            rw [hVl] at h9
            exact h9
          obtain ⟨sk, hsk⟩ : ∃ f, f = Md.sn j := ⟨_, rfl⟩
          rw [← hsk] at hsl
          obtain ⟨z, hz⟩ : ∃ z, z = Md.ad (Md.ad (Md.ad ta f) xk) sk := ⟨_, rfl⟩
          have hzl : z < 4294967296 := by rw [hz]; exact Md.ad_lt _ _
          have hzi : (((ta : Int) + (f : Int) + (xk : Int)) % 4294967296 + (sk : Int)) % 4294967296 = (z : Int) := by rw [hz]; unfold Md.ad; omega
          have hz2 : ((ta : Int) + (f : Int) + (xk : Int) + (sk : Int)) % 4294967296 = (z : Int) := by rw [← hzi]; omega
          have Hz2 := Lib.hid hz2
          have hse := sine_any j wq (by omega) Hat.out.tg
          rw [← hsk] at hse
          have Hse := Lib.hid hse
          have e : Md.steps (Md.words Y) (j + 1) s = ⟨td, Md.ad tb (Md.rot z nT), tb, tc⟩ := by
            rw [hst, hz, hf, hxv, ← hxk, hK, hsk, hnT]; rfl
          have He := Lib.hid e
          have Hzi := Lib.hid hzi
          have Hf := Lib.hid hf
          have HK := Lib.hid hK
          have Hc := Lib.hid hcell
          have Hxv := Lib.hid hxv
          have HVl := Lib.hid hVl
          have hli : (l : Int) ≤ 12800 := by omega
          clear hst ht hz hzi hz2 hf hK hcell hxv hVl hxk hsk hse e hnT hV hq hr
          by_cases h16 : j < 16
          · have hKj : K = j := by rw [HK.out, Md.K, if_pos h16]
            subst hKj
            have hfe : bits BinOp.or IntKind.u32 (bits BinOp.and IntKind.u32 ↑tb ↑tc) (bits BinOp.and IntKind.u32 (bits BinOp.xor IntKind.u32 IntKind.u32.max ↑tb) ↑td) = (f : Int) := by
              rw [Hf.out, Md.not32 tb fb, Md.and32 _ _ fb fc, Md.and32 _ _ (Md.nt_lt tb) fd, Md.or32 _ _ (Md.and_lt _ _ fc) (Md.and_lt _ _ fd), Md.F, if_pos h16]
            have Hfe := Lib.hid hfe
            clear hfe
            have i16 : (K : Int) < 16 := by omega
            go_wp2
            rw [Hfe.out]
            go_loop [14, 15] (fun ww nn => (∃ d : Nat, d < 4 ∧ nn = .int .i64 (d : Int) ∧ ww = .int .u32 (Md.val (V.drop (d + 1)) : Nat)) ∨ (nn = .int .i64 (-1) ∧ ww = .int .u32 (xk : Int))) (fun _ nn => (intOf nn + 1).toNat)
            case atStart => exact .inl ⟨3, by omega, rfl, by rw [List.drop_of_length_le (by rw [HVl.out]; omega)]; rfl⟩
            case round =>
              rcases hrel with ⟨d, hd, rfl, rfl⟩ | ⟨rfl, rfl⟩
              · have hcd := Hc.out d hd
                have hvs := Md.val_small V d HVl.out
                have hvd := Md.val_drop V d (by rw [HVl.out]; exact hd)
                obtain ⟨y, hy⟩ : ∃ y, y = V.getD d 0 := ⟨_, rfl⟩
                rw [← hy] at hcd hvd
                have hyl := y.toNat_lt
                obtain ⟨m, hm⟩ : ∃ m, m = Md.val (V.drop (d + 1)) := ⟨_, rfl⟩
                rw [← hm] at hvs hvd ⊢
                have hpN : (l : Int) + 4 * (K : Int) + (d : Int) < (N : Int) := by have := HN.out; omega
                have hpN4 : (l : Int) + 4 * (K : Int) < (N : Int) := by omega
                have Hvd := Lib.hid hvd
                clear hvd hm hy
                rcases d with _ | d
                · rw [Nat.add_zero] at hcd
                  go_wp2
                  go_round
                  case rel => exact .inr ⟨rfl, by have h := Hvd.out; rw [List.drop_zero] at h; rw [Hxv.out, h]; simp⟩
                  case measure => simp [intOf]
                · go_wp2
                  go_round
                  case rel => exact .inl ⟨d, by omega, rfl, by rw [Hvd.out]; simp⟩
                  case measure => simp [intOf]; omega
              · go_wp2_with fail
                refine Hse.out.mono ?_
                rintro e w4 ⟨rfl, rfl⟩
                go_wp2_with fail
                rw [Hz2.out]
                try rw [Hzi.out]
                refine (turn_any z nT _ hzl htn.2).mono ?_
                rintro e w5 ⟨rfl, rfl⟩
                go_wp2
                go_round
                case rel =>
                  refine ⟨K + 1, by omega, by go_num, by rw [He.out], ?_, by rw [He.out], by rw [He.out]⟩
                  rw [He.out]
                  congr 1
                case measure => simp [intOf]; omega
          · by_cases h32 : j < 32
            · have hfe : bits BinOp.or IntKind.u32 (bits BinOp.and IntKind.u32 ↑td ↑tb) (bits BinOp.and IntKind.u32 (bits BinOp.xor IntKind.u32 IntKind.u32.max ↑td) ↑tc) = (f : Int) := by
                rw [Hf.out, Md.not32 td fd, Md.and32 _ _ fd fb, Md.and32 _ _ (Md.nt_lt td) fc, Md.or32 _ _ (Md.and_lt _ _ fb) (Md.and_lt _ _ fc), Md.F, if_neg h16, if_pos h32]
              have hke : (5 * (j : Int) + 1) % 16 = (K : Int) := by
                rw [HK.out, Md.K, if_neg h16, if_pos h32]; omega
              have Hfe := Lib.hid hfe
              have Hke := Lib.hid hke
              clear hfe hke
              have j16 : ¬ (j : Int) < 16 := by omega
              have j32 : (j : Int) < 32 := by omega
              go_wp2
              rw [Hfe.out, Hke.out]
              go_loop [14, 15] (fun ww nn => (∃ d : Nat, d < 4 ∧ nn = .int .i64 (d : Int) ∧ ww = .int .u32 (Md.val (V.drop (d + 1)) : Nat)) ∨ (nn = .int .i64 (-1) ∧ ww = .int .u32 (xk : Int))) (fun _ nn => (intOf nn + 1).toNat)
              case atStart => exact .inl ⟨3, by omega, rfl, by rw [List.drop_of_length_le (by rw [HVl.out]; omega)]; rfl⟩
              case round =>
                rcases hrel with ⟨d, hd, rfl, rfl⟩ | ⟨rfl, rfl⟩
                · have hcd := Hc.out d hd
                  have hvs := Md.val_small V d HVl.out
                  have hvd := Md.val_drop V d (by rw [HVl.out]; exact hd)
                  obtain ⟨y, hy⟩ : ∃ y, y = V.getD d 0 := ⟨_, rfl⟩
                  rw [← hy] at hcd hvd
                  have hyl := y.toNat_lt
                  obtain ⟨m, hm⟩ : ∃ m, m = Md.val (V.drop (d + 1)) := ⟨_, rfl⟩
                  rw [← hm] at hvs hvd ⊢
                  have hpN : (l : Int) + 4 * (K : Int) + (d : Int) < (N : Int) := by have := HN.out; omega
                  have hpN4 : (l : Int) + 4 * (K : Int) < (N : Int) := by omega
                  have Hvd := Lib.hid hvd
                  clear hvd hm hy
                  rcases d with _ | d
                  · rw [Nat.add_zero] at hcd
                    go_wp2
                    go_round
                    case rel => exact .inr ⟨rfl, by have h := Hvd.out; rw [List.drop_zero] at h; rw [Hxv.out, h]; simp⟩
                    case measure => simp [intOf]
                  · go_wp2
                    go_round
                    case rel => exact .inl ⟨d, by omega, rfl, by rw [Hvd.out]; simp⟩
                    case measure => simp [intOf]; omega
                · go_wp2_with fail
                  refine Hse.out.mono ?_
                  rintro e w4 ⟨rfl, rfl⟩
                  go_wp2_with fail
                  rw [Hz2.out]
                  try rw [Hzi.out]
                  refine (turn_any z nT _ hzl htn.2).mono ?_
                  rintro e w5 ⟨rfl, rfl⟩
                  go_wp2
                  go_round
                  case rel =>
                    refine ⟨j + 1, by omega, by go_num, by rw [He.out], ?_, by rw [He.out], by rw [He.out]⟩
                    rw [He.out]
                    congr 1
                  case measure => simp [intOf]; omega
            · by_cases h48 : j < 48
              · have hfe : bits BinOp.xor IntKind.u32 (bits BinOp.xor IntKind.u32 ↑tb ↑tc) ↑td = (f : Int) := by
                  rw [Hf.out, Md.xor32 _ _ fb fc, Md.xor32 _ _ (Md.xor_lt _ _ fb fc) fd, Md.F, if_neg h16, if_neg h32, if_pos h48]
                have hke : (3 * (j : Int) + 5) % 16 = (K : Int) := by
                  rw [HK.out, Md.K, if_neg h16, if_neg h32, if_pos h48]; omega
                have Hfe := Lib.hid hfe
                have Hke := Lib.hid hke
                clear hfe hke
                have j16 : ¬ (j : Int) < 16 := by omega
                have j32 : ¬ (j : Int) < 32 := by omega
                have j48 : (j : Int) < 48 := by omega
                go_wp2
                rw [Hfe.out, Hke.out]
                go_loop [14, 15] (fun ww nn => (∃ d : Nat, d < 4 ∧ nn = .int .i64 (d : Int) ∧ ww = .int .u32 (Md.val (V.drop (d + 1)) : Nat)) ∨ (nn = .int .i64 (-1) ∧ ww = .int .u32 (xk : Int))) (fun _ nn => (intOf nn + 1).toNat)
                case atStart => exact .inl ⟨3, by omega, rfl, by rw [List.drop_of_length_le (by rw [HVl.out]; omega)]; rfl⟩
                case round =>
                  rcases hrel with ⟨d, hd, rfl, rfl⟩ | ⟨rfl, rfl⟩
                  · have hcd := Hc.out d hd
                    have hvs := Md.val_small V d HVl.out
                    have hvd := Md.val_drop V d (by rw [HVl.out]; exact hd)
                    obtain ⟨y, hy⟩ : ∃ y, y = V.getD d 0 := ⟨_, rfl⟩
                    rw [← hy] at hcd hvd
                    have hyl := y.toNat_lt
                    obtain ⟨m, hm⟩ : ∃ m, m = Md.val (V.drop (d + 1)) := ⟨_, rfl⟩
                    rw [← hm] at hvs hvd ⊢
                    have hpN : (l : Int) + 4 * (K : Int) + (d : Int) < (N : Int) := by have := HN.out; omega
                    have hpN4 : (l : Int) + 4 * (K : Int) < (N : Int) := by omega
                    have Hvd := Lib.hid hvd
                    clear hvd hm hy
                    rcases d with _ | d
                    · rw [Nat.add_zero] at hcd
                      go_wp2
                      go_round
                      case rel => exact .inr ⟨rfl, by have h := Hvd.out; rw [List.drop_zero] at h; rw [Hxv.out, h]; simp⟩
                      case measure => simp [intOf]
                    · go_wp2
                      go_round
                      case rel => exact .inl ⟨d, by omega, rfl, by rw [Hvd.out]; simp⟩
                      case measure => simp [intOf]; omega
                  · go_wp2_with fail
                    refine Hse.out.mono ?_
                    rintro e w4 ⟨rfl, rfl⟩
                    go_wp2_with fail
                    rw [Hz2.out]
                    try rw [Hzi.out]
                    refine (turn_any z nT _ hzl htn.2).mono ?_
                    rintro e w5 ⟨rfl, rfl⟩
                    go_wp2
                    go_round
                    case rel =>
                      refine ⟨j + 1, by omega, by go_num, by rw [He.out], ?_, by rw [He.out], by rw [He.out]⟩
                      rw [He.out]
                      congr 1
                    case measure => simp [intOf]; omega
              · have hfe : bits BinOp.xor IntKind.u32 ↑tc (bits BinOp.or IntKind.u32 ↑tb (bits BinOp.xor IntKind.u32 IntKind.u32.max ↑td)) = (f : Int) := by
                  rw [Hf.out, Md.not32 td fd, Md.or32 _ _ fb (Md.nt_lt td), Md.xor32 _ _ fc (Md.or_lt _ _ fb (Md.nt_lt td)), Md.F, if_neg h16, if_neg h32, if_neg h48]
                have hke : 7 * (j : Int) % 16 = (K : Int) := by
                  rw [HK.out, Md.K, if_neg h16, if_neg h32, if_neg h48]; omega
                have Hfe := Lib.hid hfe
                have Hke := Lib.hid hke
                clear hfe hke
                have j16 : ¬ (j : Int) < 16 := by omega
                have j32 : ¬ (j : Int) < 32 := by omega
                have j48 : ¬ (j : Int) < 48 := by omega
                go_wp2
                rw [Hfe.out, Hke.out]
                go_loop [14, 15] (fun ww nn => (∃ d : Nat, d < 4 ∧ nn = .int .i64 (d : Int) ∧ ww = .int .u32 (Md.val (V.drop (d + 1)) : Nat)) ∨ (nn = .int .i64 (-1) ∧ ww = .int .u32 (xk : Int))) (fun _ nn => (intOf nn + 1).toNat)
                case atStart => exact .inl ⟨3, by omega, rfl, by rw [List.drop_of_length_le (by rw [HVl.out]; omega)]; rfl⟩
                case round =>
                  rcases hrel with ⟨d, hd, rfl, rfl⟩ | ⟨rfl, rfl⟩
                  · have hcd := Hc.out d hd
                    have hvs := Md.val_small V d HVl.out
                    have hvd := Md.val_drop V d (by rw [HVl.out]; exact hd)
                    obtain ⟨y, hy⟩ : ∃ y, y = V.getD d 0 := ⟨_, rfl⟩
                    rw [← hy] at hcd hvd
                    have hyl := y.toNat_lt
                    obtain ⟨m, hm⟩ : ∃ m, m = Md.val (V.drop (d + 1)) := ⟨_, rfl⟩
                    rw [← hm] at hvs hvd ⊢
                    have hpN : (l : Int) + 4 * (K : Int) + (d : Int) < (N : Int) := by have := HN.out; omega
                    have hpN4 : (l : Int) + 4 * (K : Int) < (N : Int) := by omega
                    have Hvd := Lib.hid hvd
                    clear hvd hm hy
                    rcases d with _ | d
                    · rw [Nat.add_zero] at hcd
                      go_wp2
                      go_round
                      case rel => exact .inr ⟨rfl, by have h := Hvd.out; rw [List.drop_zero] at h; rw [Hxv.out, h]; simp⟩
                      case measure => simp [intOf]
                    · go_wp2
                      go_round
                      case rel => exact .inl ⟨d, by omega, rfl, by rw [Hvd.out]; simp⟩
                      case measure => simp [intOf]; omega
                  · go_wp2_with fail
                    refine Hse.out.mono ?_
                    rintro e w4 ⟨rfl, rfl⟩
                    go_wp2_with fail
                    rw [Hz2.out]
                    try rw [Hzi.out]
                    refine (turn_any z nT _ hzl htn.2).mono ?_
                    rintro e w5 ⟨rfl, rfl⟩
                    go_wp2
                    go_round
                    case rel =>
                      refine ⟨j + 1, by omega, by go_num, by rw [He.out], ?_, by rw [He.out], by rw [He.out]⟩
                      rw [He.out]
                      congr 1
                    case measure => simp [intOf]; omega
        · have hj64 : j = 64 := by omega
          subst hj64
          have hfn := Md.steps_fine (Md.words Y) 64 s Hfn.out
          have hps : Md.pass s (Md.words Y) = ⟨Md.ad s.a (Md.steps (Md.words Y) 64 s).a, Md.ad s.b (Md.steps (Md.words Y) 64 s).b, Md.ad s.c (Md.steps (Md.words Y) 64 s).c, Md.ad s.d (Md.steps (Md.words Y) 64 s).d⟩ := rfl
          obtain ⟨t, ht⟩ : ∃ t, t = Md.steps (Md.words Y) 64 s := ⟨_, rfl⟩
          rw [← ht] at hfn hps ⊢
          have Hps := Lib.hid hps
          clear ht hps
          have hc0 : wq.cell? ⟨gh, 0, none⟩ = some (.int .u32 (s.a : Int)) := uc_cell Hat.out.st 0 (by simp [Md.St.list])
          have hc1 : wq.cell? ⟨gh, 1, none⟩ = some (.int .u32 (s.b : Int)) := uc_cell Hat.out.st 1 (by simp [Md.St.list])
          have hc2 : wq.cell? ⟨gh, 2, none⟩ = some (.int .u32 (s.c : Int)) := uc_cell Hat.out.st 2 (by simp [Md.St.list])
          have hc3 : wq.cell? ⟨gh, 3, none⟩ = some (.int .u32 (s.d : Int)) := uc_cell Hat.out.st 3 (by simp [Md.St.list])
          go_wp2
          go_region
          have hbA : Below wq.heap.size wq (wq.alloc (.cells #[.int .u32 (((s.a : Int) + (t.a : Int)) % 4294967296), .int .u32 (((s.b : Int) + (t.b : Int)) % 4294967296), .int .u32 (((s.c : Int) + (t.c : Int)) % 4294967296), .int .u32 (((s.d : Int) + (t.d : Int)) % 4294967296)] 46)).drew := ((Below.refl _ _).alloc (Nat.le_refl _) _).drew
          have HA := Lib.hid (Hat.out.next hbA)
          have hnew : (wq.alloc (.cells #[.int .u32 (((s.a : Int) + (t.a : Int)) % 4294967296), .int .u32 (((s.b : Int) + (t.b : Int)) % 4294967296), .int .u32 (((s.c : Int) + (t.c : Int)) % 4294967296), .int .u32 (((s.d : Int) + (t.d : Int)) % 4294967296)] 46)).drew.heap[wq.heap.size]? = some (.cells (Md.uc (Md.runs X (k + 1) Md.init).list).toArray 46 (0, 0)) := by
            rw [Hrn.out, Hps.out, heap_drew, heap_alloc_new]; rfl
          have HNew := Lib.hid hnew
          clear hbA hnew hc0 hc1 hc2 hc3
          generalize (wq.alloc (.cells #[.int .u32 (((s.a : Int) + (t.a : Int)) % 4294967296), .int .u32 (((s.b : Int) + (t.b : Int)) % 4294967296), .int .u32 (((s.c : Int) + (t.c : Int)) % 4294967296), .int .u32 (((s.d : Int) + (t.d : Int)) % 4294967296)] 46)).drew = w6 at HA HNew ⊢
          generalize wq.heap.size = g6 at HNew ⊢
          go_wp2
          go_roundw
          case rel => exact ⟨k + 1, g6, by omega, by have := Hl2.out; congr 1; omega, rfl, ⟨HNew.out, HA.out.pl, HA.out.pt, HA.out.rs, HA.out.tx, HA.out.tg, HA.out.bl⟩⟩
          case measure => have := Hl2.out; have := HB.out; simp [intOf]; omega
    · have hkM : k = M := by have := HB.out; omega
      subst hkM
      obtain ⟨s, hs⟩ : ∃ s, s = Md.runs X k Md.init := ⟨_, rfl⟩
      have hE := HE.out
      rw [← hs] at hat hfn hE
      have Hat := Lib.hid hat
      have HE2 := Lib.hid hE
      have Hfn := Lib.hid hfn
      clear hat hE hs hl2 hk hfn
      go_wp2
      obtain ⟨go, hgo⟩ : ∃ go, go = wr.heap.size := ⟨_, rfl⟩
      have hgB : w.heap.size < go := by rw [hgo]; exact (Array.getElem?_eq_some_iff.1 Hat.out.rs).1
      have hgh : gh < go := by rw [hgo]; exact (Array.getElem?_eq_some_iff.1 Hat.out.st).1
      have hbZ : Below wr.heap.size wr (wr.alloc (.cells z24 38)) := (Below.refl _ _).alloc (Nat.le_refl _) _
      have Hst := Lib.hid (hkeep Hat.out.st hbZ)
      have Hrs := Lib.hid (hkeep Hat.out.rs hbZ)
      have Hbl := Lib.hid (Below.chain Hat.out.bl hbZ)
      have Hout := Lib.hid (show (wr.alloc (.cells z24 38)).heap[go]? = some (.cells (Lib.byteCells (Md.dpart s 0)).toArray 38 (0, 0)) by rw [hgo, heap_alloc_new]; rfl)
      change Code.wp Tryd.prog _ _ _ (wr.alloc (.cells z24 38))
      rw [← hgo]
      clear hgo hbZ Hat hlt
      generalize wr.alloc (.cells z24 38) = w6 at Hst Hrs Hbl Hout ⊢
      go_loopw [18, 19, 20] (fun i _ _ wx => ∃ j : Nat, j ≤ 16 ∧ i = .int .i64 (j : Int) ∧ wx.heap[go]? = some (.cells (Lib.byteCells (Md.dpart s j)).toArray 38 (0, 0)) ∧ wx.heap[gh]? = some (.cells (Md.uc s.list).toArray 46 (0, 0)) ∧ wx.heap[w.heap.size]? = some (.cells z24 38 (0, 0)) ∧ Below w.heap.size w wx) (fun i _ _ _ => 16 - (intOf i).toNat)
      case atStart => exact ⟨0, by omega, rfl, Hout.out, Hst.out, Hrs.out, Hbl.out⟩
      case round =>
        obtain ⟨j, hj, rfl, hx, hs4, hz, hbw⟩ := hrel
        clear Hout Hst Hrs Hbl
        by_cases hlt2 : (j : Int) < 16
        · have hst := Md.dpart_set s j
          obtain ⟨q, hq⟩ : ∃ q, q = j / 4 := ⟨_, rfl⟩
          obtain ⟨r, hr⟩ : ∃ r, r = j % 4 := ⟨_, rfl⟩
          rw [← hq, ← hr] at hst
          obtain ⟨m, hm⟩ : ∃ m, m = s.get q := ⟨_, rfl⟩
          have hml : m < 4294967296 := by rw [hm]; exact Md.get_lt s q Hfn.out
          have hcs : wr.cell? ⟨gh, q, none⟩ = some (.int .u32 (m : Int)) := by
            rw [cell_of_row _ _ _ _ _ _ hs4]
            simp only [List.getElem?_toArray, Md.uc, List.getElem?_map]
            rw [Md.St.list_get _ _ (by omega), hm]; rfl
          obtain ⟨old, hcx⟩ : ∃ u, wr.cell? ⟨go, j, none⟩ = some u := by
            rw [cell_of_row _ _ _ _ _ _ hx]
            exact ⟨_, Array.getElem?_eq_getElem (by simp [Lib.byteCells_length, Md.dpart_length]; omega)⟩
          have hfz := frozen_of_row wr go j _ 38 hx
          rw [← hm] at hst
          have Hst := Lib.hid hst
          have Hx := Lib.hid hx
          have Hz := Lib.hid hz
          have Hs := Lib.hid hs4
          clear hst hm hx hz hs4
          have hqi : (j : Int) / 4 = (q : Int) := by omega
          have hri : (j : Int) % 4 = (r : Int) := by omega
          have hq16 : (q : Int) < 4 := by omega
          have hr4 : (r : Int) < 4 := by omega
          clear hq hr
          go_wp2
          go_loop [19, 20] (fun ww nn => ∃ c v : Nat, c ≤ r ∧ v < 4294967296 ∧ nn = .int .i64 (c : Int) ∧ ww = .int .u32 (v : Int) ∧ Hid (v = m / 256 ^ c)) (fun _ nn => r - (intOf nn).toNat)
          case atStart => exact ⟨0, m, by omega, hml, rfl, rfl, (by simp : m = m / 256 ^ 0)⟩
          case round =>
            obtain ⟨c, v, hc, hvl, rfl, rfl, Hv⟩ := hrel
            by_cases hlt3 : (c : Int) < (r : Int)
            · have hnx : v / 256 = m / 256 ^ (c + 1) := by rw [Nat.pow_succ, ← Nat.div_div_eq_div_mul, ← Hv.out]
              have Hnx := Lib.hid hnx
              clear hnx
              go_wp2
              go_round
              case rel => exact ⟨c + 1, v / 256, by omega, by omega, by go_num, by simp, Hnx.out⟩
              case measure => simp [intOf]; omega
            · have hcr : c = r := by omega
              subst hcr
              have hd : (v : Int) % 256 = ((Md.dg m c).toNat : Int) := by rw [Md.dg_nat, ← Hv.out]; simp
              have Hd := Lib.hid hd
              clear hd
              go_wp2
              go_roundw
              case rel =>
                refine ⟨j + 1, by omega, by go_num, ?_, ?_, ?_, hbw.setCell (by simp; omega) _⟩
                · rw [Hd.out, heap_setCell_same _ _ _ _ _ _ Hx.out, ← Hst.out, cells_set]
                  simp
                · rw [heap_setCell_other _ _ _ _ (by show gh ≠ go; omega)]; exact Hs.out
                · rw [heap_setCell_other _ _ _ _ (by show w.heap.size ≠ go; omega)]; exact Hz.out
              case measure => simp [intOf]; omega
        · have hj16 : j = 16 := by omega
          subst hj16
          rw [Md.dpart_all] at hx
          obtain ⟨D, hD⟩ : ∃ D, D = (Lib.byteCells (Md.digest s)).toArray := ⟨_, rfl⟩
          have hsz : (Tryd.prog.info? 38).map (·.size) = some D.size := by rw [hD, info24, List.size_toArray, Lib.byteCells_length, Md.digest_length]
          have hD1 : D.all (·.oneCell') = true := by rw [hD]; exact bc_one _
          have hDs : z24.size = D.size := by
            have h : D.size = 16 := by rw [hD, List.size_toArray, Lib.byteCells_length, Md.digest_length]
            rw [h]; rfl
          rw [← hD] at hx
          rw [← HE2.out] at hD
          have HD := Lib.hid hD
          have Hsz := Lib.hid hsz
          have HD1 := Lib.hid hD1
          have HDs := Lib.hid hDs
          have Hx := Lib.hid hx
          have Hz := Lib.hid hz
          clear hD hsz hD1 hDs hx hz hs4
          go_wp2_with (first | (refine wpList_load_row rfl 38 _ rfl go rfl 38 _ _ _ Hx.out Tryd.underlying38 rfl Hsz.out ?_) | (refine wpList_store_row rfl 38 _ _ rfl w.heap.size D rfl rfl 38 _ Hz.out Hsz.out HDs.out HD1.out ?_))
          refine bodyPost_ret (v := .agg D) ?_ rfl ⟨by rw [HD.out], ?_⟩
          · exact results_cell_row Tryd.results19 _ _ w.heap.size 38 _ _ _ rfl (setRow_heap _ _ _ _ _ _ Hz.out) Tryd.underlying38 rfl Hsz.out
          · exact below_setRow hbw (Nat.le_refl _) _
end Go.Proofs.YtjalhlofpoknoaaDoor.S3
