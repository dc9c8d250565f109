/- Contract of the document's Put. -/
import Derived.Test.YtfkjjolohphaoaaRh
namespace Go.Proofs.Ytfkjjolohphaoaa
open Go.RowKit

theorem Pc.put_take (m : Pc.Hdr) (L : List Pc.Rcd) (k : Nat) (h : k < L.length) : Pc.put m (L.take (k + 1)) = ((((Pc.put m (L.take k) ++ Oc.put L[k].sec 4 m.big) ++ Oc.put L[k].frac 4 m.big) ++ Oc.put L[k].data.length 4 m.big) ++ Oc.put L[k].len 4 m.big) ++ L[k].data := by
  rw [List.take_succ_eq_append_getElem h, Pc.put_snoc]
  simp [Pc.rbytes, Pc.rnums, Pc.nums]
theorem Pc.put_upto (m : Pc.Hdr) (L : List Pc.Rcd) (k : Nat) (h : k < L.length) : (Pc.put m (L.take k)).length + 16 + L[k].data.length ≤ 24 + 16 * L.length + Pc.size L := by
  have h1 := Pc.put_length m (L.take k)
  have h2 := Pc.size_next L k h
  have h3 := Pc.size_take L (k + 1)
  rw [List.length_take] at h1
  omega

set_option maxRecDepth 100000 in
set_option maxHeartbeats 4000000 in
theorem refPut_put (m : Pc.Hdr) (a : Option Addr) (n cap : Nat) (L : List Pc.Rcd) (w : World) (hm : m.Ok) (hn : L.length = n) (hb : 24 + 16 * n + Pc.size L ≤ 300000) (h : RecsAt w a L) :
    Calls Try.prog 12 #[.agg (hcells m).toArray, .slice a n cap] w fun e w' => PutRes w w' e m L := by
  have c23 := fun W => header_any m W hm
  have H := Lib.hid h
  have Hn := Lib.hid hn
  clear h hn
  obtain ⟨ob, hob⟩ : ∃ ob, ob = Obj.cells (hcells m).toArray 24 (0, 0) := ⟨_, rfl⟩
  have b0 : Below w.heap.size w (w.alloc (.cells #[.bool m.big, .bool m.nano, .int .u32 (m.snap : Int), .int .u32 (m.link : Int)] 24)) := (Below.refl _ _).alloc (Nat.le_refl _) _
  have hT0 : (w.alloc (.cells #[.bool m.big, .bool m.nano, .int .u32 (m.snap : Int), .int .u32 (m.link : Int)] 24)).heap[w.heap.size]? = some ob := by rw [hob]; exact heap_alloc_new w _
  have h0 := H.out.next b0
  have hs0 : (w.alloc (.cells #[.bool m.big, .bool m.nano, .int .u32 (m.snap : Int), .int .u32 (m.link : Int)] 24)).heap.size = w.heap.size + 1 := by simp
  have HPost : ∀ W v, Below w.heap.size w W → Pc.small L → W.ownsRow w.heap.size 5 1 v (Pc.put m L).length (Lib.byteCells (Pc.put m L)) → PutRes w W (.returned (.tuple #[v, .int .i64 0])) m L := fun W v h1 h2 h3 => ⟨h1, .inl ⟨h2, v, rfl, h3⟩⟩
  have HPost2 : ∀ W, Below w.heap.size w W → ¬ Pc.small L → PutRes w W (.returned (.tuple #[.slice none 0 0, .int .i64 4])) m L := fun W h1 h2 => ⟨h1, .inr ⟨h2, rfl⟩⟩
  have P1 := Lib.hid HPost
  have P2 := Lib.hid HPost2
  clear HPost HPost2
  go_enter Try.func12, Try.ntmps12
  simp only [hcells]
  go_wp2_with fail
  generalize w.alloc (.cells #[.bool m.big, .bool m.nano, .int .u32 (m.snap : Int), .int .u32 (m.link : Int)] 24) = W0 at *
  refine (c23 W0).mono ?_
  rintro e w1 ⟨v1, rfl, o1, b1⟩
  obtain ⟨p1, c1, rfl⟩ := own_slice o1
  have O1 : Hid (Own W0 w1 p1 24 c1 (Pc.hbytes m)) := ⟨Pc.hbytes_length m, o1, b1⟩
  have B0 := Lib.hid b0
  have T0 := Lib.hid hT0
  have R0 := Lib.hid h0
  clear o1 b1 c23 b0 hT0 h0 H
  go_wp2_with fail
  go_loopw [6, 7] (fun v i wr => ∃ (k N : Nat) (p : Option Addr) (c : Nat), i = .int .i64 (k : Int) ∧ v = .slice p N c ∧ k ≤ n ∧ Pc.small (L.take k) ∧ Own W0 wr p N c (Pc.put m (L.take k))) (fun _ i _ => n - (intOf i).toNat)
  case atStart => exact ⟨0, 24, p1, c1, rfl, rfl, Nat.zero_le _, by intro r h; simp at h, by simpa [Pc.put] using O1.out⟩
  case round =>
    obtain ⟨k, N, p0, c0, rfl, rfl, hk, hsm, hO⟩ := hrel
    by_cases hlt : (k : Int) < (n : Int)
    · have hkn : k < L.length := by rw [Hn.out]; omega
      have hr := R0.out
      rcases hr with hr | ⟨b, off, rfl, hbl, hr⟩
      · rw [hr] at hkn; simp at hkn
      obtain ⟨p, c, hra⟩ := hr k hkn
      have hpt := Pc.put_take m L k hkn
      have hup := Pc.put_upto m L k hkn
      rw [Hn.out, hO.len] at hup
      have hst := Pc.small_take hkn hsm
      have hns : 131072 < L[k].data.length → ¬ Pc.small L := fun h1 h2 => by have := h2 _ (List.getElem_mem hkn); omega
      generalize Pc.put m (L.take k) = X at *
      generalize L[k] = r at *
      have hN : N + 16 + r.data.length ≤ 300000 := by omega
      have HO := Lib.hid hO
      have HPT := Lib.hid hpt
      have HST := Lib.hid hst
      have HNS := Lib.hid hns
      have HRA := Lib.hid hra
      have SC : Hid (∀ W, Below W0.heap.size W0 W → W.heap[w.heap.size]? = some ob ∧ RecAt W b (off + k * 4) r p c) := fun W bb => ⟨block_next T0.out bb, HRA.out.next hbl bb⟩
      have d1 := ((SC.out _ hO.bel).2).data
      have hok := hra.ok
      have k1 := hok.sec
      have k2 := hok.frac
      have k3 := hok.len
      clear hO hpt hst hns hra hr hsm hup hok
      by_cases hlong : 131072 < r.data.length
      · have j1 : (131072 : Int) < (r.data.length : Int) := by omega
        go_wp2
        go_ret2
        exact P2.out _ (Below.trans B0.out (HO.out.bel.mono (by omega))) (HNS.out hlong)
      · have j1 : ¬ (131072 : Int) < (r.data.length : Int) := by omega
        have hwu : IntKind.u32.wrap (r.data.length : Int) = (r.data.length : Int) := by rw [IntKind.wrap_u32]; omega
        go_wp2_with fail
        have hS := SC.out _ (HO.out.bel.drew)
        refine held_start (S := fun W => W.heap[w.heap.size]? = some ob ∧ RecAt W b (off + k * 4) r p c) 18 (by kernel_rfl) rfl ?_
        clear d1
        refine held_take 0 (v := ?_) rfl (by kernel_rfl) (by kernel_rfl) (by kernel_rfl) (fun _ _ _ h => h) (by assumption) (by rfl) ?_ ?_
        rotate_left
        · (intro W hW; go_simp; try with_reducible rfl)
        simp only [Act.put, List.setIfInBounds_toArray, List.set_cons_zero, List.set_cons_succ]
        refine held_take 1 (v := ?_) rfl (by kernel_rfl) (by kernel_rfl) (by kernel_rfl) (fun _ _ _ h => h) (by assumption) (by rfl) ?_ ?_
        rotate_left
        · (intro W hW; go_simp; try with_reducible rfl)
        simp only [Act.put, List.setIfInBounds_toArray, List.set_cons_zero, List.set_cons_succ]
        refine held_take 2 (v := ?_) rfl (by kernel_rfl) (by kernel_rfl) (by kernel_rfl) (fun _ _ _ h => h) (by assumption) (by rfl) ?_ ?_
        rotate_left
        · (intro W hW; go_simp; try with_reducible rfl)
        simp only [Act.put, List.setIfInBounds_toArray, List.set_cons_zero, List.set_cons_succ]
        refine held_take 3 (v := ?_) rfl (by kernel_rfl) (by kernel_rfl) (by kernel_rfl) (fun _ _ _ h => h) (by assumption) (by rfl) ?_ ?_
        rotate_left
        · (intro W hW; go_simp; try with_reducible rfl)
        simp only [Act.put, List.setIfInBounds_toArray, List.set_cons_zero, List.set_cons_succ]
        refine held_take 4 (v := ?_) rfl (by kernel_rfl) (by kernel_rfl) (by kernel_rfl) (fun _ _ _ h => h) (by assumption) (by rfl) ?_ ?_
        rotate_left
        · (intro W hW; go_simp; try with_reducible rfl)
        simp only [Act.put, List.setIfInBounds_toArray, List.set_cons_zero, List.set_cons_succ]
        refine held_take 5 (v := ?_) rfl (by kernel_rfl) (by kernel_rfl) (by kernel_rfl) (fun _ _ _ h => h) (by assumption) (by rfl) ?_ ?_
        rotate_left
        · (intro W hW; (have t0 := hW.2.sec); clear hW; go_simp; try with_reducible rfl)
        simp only [Act.put, List.setIfInBounds_toArray, List.set_cons_zero, List.set_cons_succ]
        refine held_take 6 (v := ?_) rfl (by kernel_rfl) (by kernel_rfl) (by kernel_rfl) (fun _ _ _ h => h) (by assumption) (by rfl) ?_ ?_
        rotate_left
        · (intro W hW; go_simp; try with_reducible rfl)
        simp only [Act.put, List.setIfInBounds_toArray, List.set_cons_zero, List.set_cons_succ]
        refine held_take 7 (v := ?_) rfl (by kernel_rfl) (by kernel_rfl) (by kernel_rfl) (fun _ _ _ h => h) (by assumption) (by rfl) ?_ ?_
        rotate_left
        · (intro W hW; (have t0 : W.cell? ⟨w.heap.size, 0, none⟩ = some (.bool m.big) := by subst hob; exact cell_of_row _ _ _ _ _ _ hW.1); clear hW; go_simp; try with_reducible rfl)
        simp only [Act.put, List.setIfInBounds_toArray, List.set_cons_zero, List.set_cons_succ]
        refine held_take 9 (v := ?_) rfl (by kernel_rfl) (by kernel_rfl) (by kernel_rfl) (fun _ _ _ h => h) (by assumption) (by rfl) ?_ ?_
        rotate_left
        · (intro W hW; go_simp; try with_reducible rfl)
        simp only [Act.put, List.setIfInBounds_toArray, List.set_cons_zero, List.set_cons_succ]
        refine held_take 10 (v := ?_) rfl (by kernel_rfl) (by kernel_rfl) (by kernel_rfl) (fun _ _ _ h => h) (by assumption) (by rfl) ?_ ?_
        rotate_left
        · (intro W hW; go_simp; try with_reducible rfl)
        simp only [Act.put, List.setIfInBounds_toArray, List.set_cons_zero, List.set_cons_succ]
        refine held_take 11 (v := ?_) rfl (by kernel_rfl) (by kernel_rfl) (by kernel_rfl) (fun _ _ _ h => h) (by assumption) (by rfl) ?_ ?_
        rotate_left
        · (intro W hW; go_simp; try with_reducible rfl)
        simp only [Act.put, List.setIfInBounds_toArray, List.set_cons_zero, List.set_cons_succ]
        refine held_take 12 (v := ?_) rfl (by kernel_rfl) (by kernel_rfl) (by kernel_rfl) (fun _ _ _ h => h) (by assumption) (by rfl) ?_ ?_
        rotate_left
        · (intro W hW; go_simp; try with_reducible rfl)
        simp only [Act.put, List.setIfInBounds_toArray, List.set_cons_zero, List.set_cons_succ]
        refine held_take 13 (v := ?_) rfl (by kernel_rfl) (by kernel_rfl) (by kernel_rfl) (fun _ _ _ h => h) (by assumption) (by rfl) ?_ ?_
        rotate_left
        · (intro W hW; (have t0 := hW.2.frac); clear hW; go_simp; try with_reducible rfl)
        simp only [Act.put, List.setIfInBounds_toArray, List.set_cons_zero, List.set_cons_succ]
        refine held_take 14 (v := ?_) rfl (by kernel_rfl) (by kernel_rfl) (by kernel_rfl) (fun _ _ _ h => h) (by assumption) (by rfl) ?_ ?_
        rotate_left
        · (intro W hW; go_simp; try with_reducible rfl)
        simp only [Act.put, List.setIfInBounds_toArray, List.set_cons_zero, List.set_cons_succ]
        refine held_take 15 (v := ?_) rfl (by kernel_rfl) (by kernel_rfl) (by kernel_rfl) (fun _ _ _ h => h) (by assumption) (by rfl) ?_ ?_
        rotate_left
        · (intro W hW; (have t0 : W.cell? ⟨w.heap.size, 0, none⟩ = some (.bool m.big) := by subst hob; exact cell_of_row _ _ _ _ _ _ hW.1); clear hW; go_simp; try with_reducible rfl)
        simp only [Act.put, List.setIfInBounds_toArray, List.set_cons_zero, List.set_cons_succ]
        refine held_call 8 (f := 24) (args := #[.slice p0 N c0, .int .u32 (r.sec : Int), .bool m.big]) rfl (by kernel_rfl) (by rfl) (by go_simp) ?_
        refine (four_own p0 N c0 (N + 4) _ r.sec m.big W0 _ rfl (by omega) k1 (HO.out.next ((Below.refl _ _).drew))).mono ?_
        rintro e w7 ⟨p7, d7, rfl, o7⟩
        have hS7 := SC.out _ o7.bel
        refine ⟨_, rfl, hS7, ?_⟩
        simp only [Act.put, List.setIfInBounds_toArray, List.set_cons_zero, List.set_cons_succ]
        refine held_call 16 (f := 24) (args := #[.slice p7 (N + 4) d7, .int .u32 (r.frac : Int), .bool m.big]) rfl (by kernel_rfl) (by rfl) (by go_simp) ?_
        refine (four_own p7 (N + 4) d7 (N + 8) _ r.frac m.big W0 _ rfl (by omega) k2 o7).mono ?_
        rintro e w8 ⟨p8, d8, rfl, o8⟩
        have hS8 := SC.out _ o8.bel
        refine ⟨_, rfl, hS8, ?_⟩
        simp only [Act.put, List.setIfInBounds_toArray, List.set_cons_zero, List.set_cons_succ]
        refine held_take 17 (v := ?_) rfl (by kernel_rfl) (by kernel_rfl) (by kernel_rfl) (fun _ _ _ h => h) (by assumption) (by rfl) ?_ ?_
        rotate_left
        · (intro W hW; go_simp; try with_reducible rfl)
        simp only [Act.put, List.setIfInBounds_toArray, List.set_cons_zero, List.set_cons_succ]
        refine held_done (by kernel_rfl) ?_
        have O8 := Lib.hid o8
        clear hS hS7 o7 o8 hS8 HO
        go_wp2_with fail
        have hS := SC.out _ (O8.out.bel.drew)
        refine held_start (S := fun W => W.heap[w.heap.size]? = some ob ∧ RecAt W b (off + k * 4) r p c) 20 (by kernel_rfl) rfl ?_
        refine held_take 0 (v := ?_) rfl (by kernel_rfl) (by kernel_rfl) (by kernel_rfl) (fun _ _ _ h => h) (by assumption) (by rfl) ?_ ?_
        rotate_left
        · (intro W hW; go_simp; try with_reducible rfl)
        simp only [Act.put, List.setIfInBounds_toArray, List.set_cons_zero, List.set_cons_succ]
        refine held_take 1 (v := ?_) rfl (by kernel_rfl) (by kernel_rfl) (by kernel_rfl) (fun _ _ _ h => h) (by assumption) (by rfl) ?_ ?_
        rotate_left
        · (intro W hW; go_simp; try with_reducible rfl)
        simp only [Act.put, List.setIfInBounds_toArray, List.set_cons_zero, List.set_cons_succ]
        refine held_take 2 (v := ?_) rfl (by kernel_rfl) (by kernel_rfl) (by kernel_rfl) (fun _ _ _ h => h) (by assumption) (by rfl) ?_ ?_
        rotate_left
        · (intro W hW; go_simp; try with_reducible rfl)
        simp only [Act.put, List.setIfInBounds_toArray, List.set_cons_zero, List.set_cons_succ]
        refine held_take 3 (v := ?_) rfl (by kernel_rfl) (by kernel_rfl) (by kernel_rfl) (fun _ _ _ h => h) (by assumption) (by rfl) ?_ ?_
        rotate_left
        · (intro W hW; go_simp; try with_reducible rfl)
        simp only [Act.put, List.setIfInBounds_toArray, List.set_cons_zero, List.set_cons_succ]
        refine held_take 4 (v := ?_) rfl (by kernel_rfl) (by kernel_rfl) (by kernel_rfl) (fun _ _ _ h => h) (by assumption) (by rfl) ?_ ?_
        rotate_left
        · (intro W hW; go_simp; try with_reducible rfl)
        simp only [Act.put, List.setIfInBounds_toArray, List.set_cons_zero, List.set_cons_succ]
        refine held_take 5 (v := ?_) rfl (by kernel_rfl) (by kernel_rfl) (by kernel_rfl) (fun _ _ _ h => h) (by assumption) (by rfl) ?_ ?_
        rotate_left
        · (intro W hW; (have t0 := hW.2.data); clear hW; go_simp; try with_reducible rfl)
        simp only [Act.put, List.setIfInBounds_toArray, List.set_cons_zero, List.set_cons_succ]
        refine held_take 6 (v := ?_) rfl (by kernel_rfl) (by kernel_rfl) (by kernel_rfl) (fun _ _ _ h => h) (by assumption) (by rfl) ?_ ?_
        rotate_left
        · (intro W hW; go_simp; try with_reducible rfl)
        simp only [Act.put, List.setIfInBounds_toArray, List.set_cons_zero, List.set_cons_succ]
        refine held_take 7 (v := ?_) rfl (by kernel_rfl) (by kernel_rfl) (by kernel_rfl) (fun _ _ _ h => h) (by assumption) (by rfl) ?_ ?_
        rotate_left
        · (intro W hW; go_simp; try with_reducible rfl)
        simp only [Act.put, List.setIfInBounds_toArray, List.set_cons_zero, List.set_cons_succ]
        refine held_take 8 (v := ?_) rfl (by kernel_rfl) (by kernel_rfl) (by kernel_rfl) (fun _ _ _ h => h) (by assumption) (by rfl) ?_ ?_
        rotate_left
        · (intro W hW; go_simp; try with_reducible rfl)
        simp only [Act.put, List.setIfInBounds_toArray, List.set_cons_zero, List.set_cons_succ]
        refine held_take 9 (v := ?_) rfl (by kernel_rfl) (by kernel_rfl) (by kernel_rfl) (fun _ _ _ h => h) (by assumption) (by rfl) ?_ ?_
        rotate_left
        · (intro W hW; (have t0 : W.cell? ⟨w.heap.size, 0, none⟩ = some (.bool m.big) := by subst hob; exact cell_of_row _ _ _ _ _ _ hW.1); clear hW; go_simp; try with_reducible rfl)
        simp only [Act.put, List.setIfInBounds_toArray, List.set_cons_zero, List.set_cons_succ]
        refine held_take 11 (v := ?_) rfl (by kernel_rfl) (by kernel_rfl) (by kernel_rfl) (fun _ _ _ h => h) (by assumption) (by rfl) ?_ ?_
        rotate_left
        · (intro W hW; go_simp; try with_reducible rfl)
        simp only [Act.put, List.setIfInBounds_toArray, List.set_cons_zero, List.set_cons_succ]
        refine held_take 12 (v := ?_) rfl (by kernel_rfl) (by kernel_rfl) (by kernel_rfl) (fun _ _ _ h => h) (by assumption) (by rfl) ?_ ?_
        rotate_left
        · (intro W hW; go_simp; try with_reducible rfl)
        simp only [Act.put, List.setIfInBounds_toArray, List.set_cons_zero, List.set_cons_succ]
        refine held_take 13 (v := ?_) rfl (by kernel_rfl) (by kernel_rfl) (by kernel_rfl) (fun _ _ _ h => h) (by assumption) (by rfl) ?_ ?_
        rotate_left
        · (intro W hW; go_simp; try with_reducible rfl)
        simp only [Act.put, List.setIfInBounds_toArray, List.set_cons_zero, List.set_cons_succ]
        refine held_take 14 (v := ?_) rfl (by kernel_rfl) (by kernel_rfl) (by kernel_rfl) (fun _ _ _ h => h) (by assumption) (by rfl) ?_ ?_
        rotate_left
        · (intro W hW; go_simp; try with_reducible rfl)
        simp only [Act.put, List.setIfInBounds_toArray, List.set_cons_zero, List.set_cons_succ]
        refine held_take 15 (v := ?_) rfl (by kernel_rfl) (by kernel_rfl) (by kernel_rfl) (fun _ _ _ h => h) (by assumption) (by rfl) ?_ ?_
        rotate_left
        · (intro W hW; (have t0 := hW.2.len); clear hW; go_simp; try with_reducible rfl)
        simp only [Act.put, List.setIfInBounds_toArray, List.set_cons_zero, List.set_cons_succ]
        refine held_take 16 (v := ?_) rfl (by kernel_rfl) (by kernel_rfl) (by kernel_rfl) (fun _ _ _ h => h) (by assumption) (by rfl) ?_ ?_
        rotate_left
        · (intro W hW; go_simp; try with_reducible rfl)
        simp only [Act.put, List.setIfInBounds_toArray, List.set_cons_zero, List.set_cons_succ]
        refine held_take 17 (v := ?_) rfl (by kernel_rfl) (by kernel_rfl) (by kernel_rfl) (fun _ _ _ h => h) (by assumption) (by rfl) ?_ ?_
        rotate_left
        · (intro W hW; (have t0 : W.cell? ⟨w.heap.size, 0, none⟩ = some (.bool m.big) := by subst hob; exact cell_of_row _ _ _ _ _ _ hW.1); clear hW; go_simp; try with_reducible rfl)
        simp only [Act.put, List.setIfInBounds_toArray, List.set_cons_zero, List.set_cons_succ]
        refine held_call 10 (f := 24) (args := #[.slice p8 (N + 8) d8, .int .u32 (r.data.length : Int), .bool m.big]) rfl (by kernel_rfl) (by rfl) (by go_simp) ?_
        refine (four_own p8 (N + 8) d8 (N + 12) _ r.data.length m.big W0 _ rfl (by omega) (by omega) (O8.out.next ((Below.refl _ _).drew))).mono ?_
        rintro e w9 ⟨p9, d9, rfl, o9⟩
        have hS9 := SC.out _ o9.bel
        refine ⟨_, rfl, hS9, ?_⟩
        simp only [Act.put, List.setIfInBounds_toArray, List.set_cons_zero, List.set_cons_succ]
        refine held_call 18 (f := 24) (args := #[.slice p9 (N + 12) d9, .int .u32 (r.len : Int), .bool m.big]) rfl (by kernel_rfl) (by rfl) (by go_simp) ?_
        refine (four_own p9 (N + 12) d9 (N + 16) _ r.len m.big W0 _ rfl (by omega) k3 o9).mono ?_
        rintro e w10 ⟨p10, d10, rfl, o10⟩
        have hS10 := SC.out _ o10.bel
        refine ⟨_, rfl, hS10, ?_⟩
        simp only [Act.put, List.setIfInBounds_toArray, List.set_cons_zero, List.set_cons_succ]
        refine held_take 19 (v := ?_) rfl (by kernel_rfl) (by kernel_rfl) (by kernel_rfl) (fun _ _ _ h => h) (by assumption) (by rfl) ?_ ?_
        rotate_left
        · (intro W hW; go_simp; try with_reducible rfl)
        simp only [Act.put, List.setIfInBounds_toArray, List.set_cons_zero, List.set_cons_succ]
        refine held_done (by kernel_rfl) ?_
        have O10 := Lib.hid o10
        have R10 := Lib.hid hS10.2.row
        have e10 := hS10.2.data
        clear hS hS9 o9 o10 hS10 O8
        go_wp2_with (at_builtin; refine wpList_append_mine rfl (.tmp 59) (.tmp 64) rfl p10 (N + 16) d10 (N + 16 + r.data.length) _ rfl O10.out p r.data.length c r.data rfl rfl R10.out rfl (by omega) ?_; intro p11 d11 w11 o11; have O11 := Lib.hid o11; clear o11)
        go_roundw
        case rel => exact ⟨k + 1, N + 16 + r.data.length, p11, d11, by simp, rfl, by omega, HST.out (by omega), by rw [HPT.out]; exact O11.out⟩
        case measure => simp [intOf]; omega
    · have hkn : k = n := by omega
      subst hkn
      rw [List.take_of_length_le (by rw [Hn.out]; exact Nat.le_refl _)] at hO hsm
      have HO := Lib.hid hO
      have HSM := Lib.hid hsm
      clear hO hsm
      go_wp2
      go_ret2
      exact P1.out _ _ (Below.trans B0.out (HO.out.bel.mono (by omega))) HSM.out (by rw [HO.out.len]; exact ownsRow_lower HO.out.own (by omega))
end Go.Proofs.Ytfkjjolohphaoaa
