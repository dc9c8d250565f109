/- Contract of the document's Read. -/
import Derived.Test.YtbbnkmhlgfoacaaGreatDoorVb
import Derived.Test.YtbbnkmhlgfoacaaGreatDoorVd
namespace Go.Proofs.YtbbnkmhlgfoacaaGreatDoor
open Go.RowKit
open S10


set_option maxRecDepth 100000 in
set_option maxHeartbeats 1000000 in
theorem refRead_any (f : Int) (x : Xc) (a : Option Addr) (n cap : Nat) (xs : List UInt8) (w : World) (hn : xs.length = n) (hm : n ≤ 4000) (h : RowAt w a cap xs) (ht : Tab w) (hac : x.c.accm < 4294967296) (hs : f = 1 → ∀ r ∈ (S9.Pc.read xs).2.1, r.data.length ≤ 90000) :
  Calls Tryz.prog 8 #[.slice a n cap, .int .i64 f, .agg (ccells x).toArray] w fun e w' => ItemsRes w w' e (Cp.read xs f x.c) := by
 have c1 := Lib.hid (fun W h => refRecords_any x a n cap xs W hn (by omega) h)
 have c2 := Lib.hid (fun W h t => refNotes_any x a n cap xs W hn hm h t hac)
 have H := Lib.hid h
 have HT := Lib.hid ht
 have HS := Lib.hid hs
 have h0 := two_made w (ccells x).toArray #[.int .i64 0, .int .i64 0] 25 30
 clear h ht hs hn
 obtain ⟨Z, hZ⟩ : ∃ Z, Cp.read xs f x.c = Z := ⟨_, rfl⟩
 rw [hZ]
 obtain ⟨L, s, er⟩ := Z
 have HZ := Lib.hid hZ
 clear hZ
 go_enter Tryz.func8, Tryz.ntmps8
 simp only [ccells] at h0 ⊢
 by_cases h1 : f = 1
 ·
  subst h1
  have HS1 := Lib.hid (HS.out rfl)
  clear HS
  go_wp2_with (generalize (w.alloc (.cells #[.int .i64 x.n0, .int .i64 x.n1, .int .i64 x.n2, .int .i64 x.n3, .string x.s1, .string x.s2, .int .i64 x.c.dir, .int .u32 (x.c.accm : Int), .bool x.c.wide] 25)).alloc (.cells #[.int .i64 0, .int .i64 0] 30) = W0 at *; refine wpList_load_row rfl 25 (.tmp 5) rfl w.heap.size rfl 25 (ccells x).toArray (0, 0) _ h0.2.1 Tryz.underlying25 rfl infoConf ?_; simp only [ccells])
  obtain ⟨hB0, hD0, hR0, hs0⟩ := h0
  have B1 := Lib.hid (Below.refl W0.heap.size W0)
  have HB0 := Lib.hid hB0
  have HR0 := Lib.hid hR0
  clear hB0 hR0 hD0
  have C1 := c1.out W0 (H.out.next (Below.chain HB0.out B1.out)) HS1.out
  rw [← Cp.read_one, HZ.out] at C1
  have C1 := Lib.hid C1
  clear c1 c2 HS1
  refine C1.out.mono ?_
  rintro e w2 ⟨v, rfl, i2, b2⟩
  obtain ⟨av, cv, rfl⟩ := its_slice i2
  simp only at i2 ⊢
  obtain ⟨nl, hnl⟩ : ∃ nl, L.length = nl := ⟨_, rfl⟩
  rw [hnl] at i2 ⊢
  have HI := Lib.hid i2
  have HB2 := Lib.hid b2
  have hR2 := block_next HR0.out (Below.chain B1.out b2)
  have hsz2 := b2.size
  clear i2 b2 hnl
  go_wp2_with (refine wpList_store_spot rfl (.tmp 7) (.tmp 14) rfl (w.heap.size + 1) s er _ rfl rfl hR2 rfl ?_)
  refine bodyPost_ret (v := .tuple #[.slice av nl cv, .agg (scells s er).toArray]) ?_ rfl ?_
  ·
   exact results_tmp_cell_row Tryz.results8 _ _ (w.heap.size + 1) 30 _ _ _ rfl (setRow_heap _ _ _ _ _ _ hR2) Tryz.underlying30 rfl infoSpot
  ·
   exact ⟨_, rfl, ((HI.out.kept (grown_row _ _ _) (by omega) (fun _ e => e)).lower (by omega)).mono (fun j _ hj => by have : W0.heap.size ≤ j := hj; show w.heap.size ≤ j; omega), below_setRow (HB0.out.trans ((Below.chain B1.out HB2.out).mono HB0.out.size)) (by omega) _⟩
 ·
  by_cases h2 : f = 2
  ·
   subst h2
   go_wp2_with (generalize (w.alloc (.cells #[.int .i64 x.n0, .int .i64 x.n1, .int .i64 x.n2, .int .i64 x.n3, .string x.s1, .string x.s2, .int .i64 x.c.dir, .int .u32 (x.c.accm : Int), .bool x.c.wide] 25)).alloc (.cells #[.int .i64 0, .int .i64 0] 30) = W0 at *; refine wpList_load_row rfl 25 (.tmp 5) rfl w.heap.size rfl 25 (ccells x).toArray (0, 0) _ h0.2.1 Tryz.underlying25 rfl infoConf ?_; simp only [ccells])
   obtain ⟨hB0, hD0, hR0, hs0⟩ := h0
   have B1 := Lib.hid (Below.refl W0.heap.size W0)
   have HB0 := Lib.hid hB0
   have HR0 := Lib.hid hR0
   clear hB0 hR0 hD0
   have C1 := c2.out W0 (H.out.next (Below.chain HB0.out B1.out)) (HT.out.next (Below.chain HB0.out B1.out))
   rw [← Cp.read_two, HZ.out] at C1
   have C1 := Lib.hid C1
   clear c1 c2 HS h1
   refine C1.out.mono ?_
   rintro e w2 ⟨v, rfl, i2, b2⟩
   obtain ⟨av, cv, rfl⟩ := its_slice i2
   simp only at i2 ⊢
   obtain ⟨nl, hnl⟩ : ∃ nl, L.length = nl := ⟨_, rfl⟩
   rw [hnl] at i2 ⊢
   have HI := Lib.hid i2
   have HB2 := Lib.hid b2
   have hR2 := block_next HR0.out (Below.chain B1.out b2)
   have hsz2 := b2.size
   clear i2 b2 hnl
   go_wp2_with (refine wpList_store_spot rfl (.tmp 7) (.tmp 21) rfl (w.heap.size + 1) s er _ rfl rfl hR2 rfl ?_)
   refine bodyPost_ret (v := .tuple #[.slice av nl cv, .agg (scells s er).toArray]) ?_ rfl ?_
   ·
    exact results_tmp_cell_row Tryz.results8 _ _ (w.heap.size + 1) 30 _ _ _ rfl (setRow_heap _ _ _ _ _ _ hR2) Tryz.underlying30 rfl infoSpot
   ·
    exact ⟨_, rfl, ((HI.out.kept (grown_row _ _ _) (by omega) (fun _ e => e)).lower (by omega)).mono (fun j _ hj => by have : W0.heap.size ≤ j := hj; show w.heap.size ≤ j; omega), below_setRow (HB0.out.trans ((Below.chain B1.out HB2.out).mono HB0.out.size)) (by omega) _⟩
  ·
   have i1 : (f == 1) = false := by simp [h1]
   have i2 : (f == 2) = false := by simp [h2]
   have hZ := HZ.out
   rw [Cp.read_no xs f x.c h1 h2] at hZ
   simp only [Prod.mk.injEq] at hZ
   obtain ⟨rfl, rfl, rfl⟩ := hZ
   clear c1 c2 HS h1 h2 HZ
   go_wp2_with (generalize (w.alloc (.cells #[.int .i64 x.n0, .int .i64 x.n1, .int .i64 x.n2, .int .i64 x.n3, .string x.s1, .string x.s2, .int .i64 x.c.dir, .int .u32 (x.c.accm : Int), .bool x.c.wide] 25)).alloc (.cells #[.int .i64 0, .int .i64 0] 30) = W0 at *; refine wpList_store_spot rfl (.tmp 7) (.tmp 22) rfl (w.heap.size + 1) 0 7 _ rfl rfl h0.2.2.1 rfl ?_)
   refine bodyPost_ret (v := .tuple #[.slice none 0 0, .agg (scells 0 7).toArray]) ?_ rfl ?_
   ·
    exact results_tmp_cell_row Tryz.results8 _ _ (w.heap.size + 1) 30 _ _ _ rfl (setRow_heap _ _ _ _ _ _ h0.2.2.1) Tryz.underlying30 rfl infoSpot
   ·
    exact ⟨_, rfl, its_none _ _ _, below_setRow h0.1 (by omega) _⟩
end Go.Proofs.YtbbnkmhlgfoacaaGreatDoor
