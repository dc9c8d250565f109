/- Contract of Read. -/
import Derived.Test.YtbbnkmhlgfoacaaDoorCi
namespace Go.Proofs.YtbbnkmhlgfoacaaDoor
open Go.RowKit
open S10

theorem Cp.read_one (b : List UInt8) (c : Cp.Cf) : Cp.read b 1 c = Cp.readP b c.dir := by simp [Cp.read]
theorem Cp.read_two (b : List UInt8) (c : Cp.Cf) : Cp.read b 2 c = Cp.readD b c := by simp [Cp.read]
theorem Cp.read_no (b : List UInt8) (f : Int) (c : Cp.Cf) (h1 : ¬ f = 1) (h2 : ¬ f = 2) : Cp.read b f c = ([], 0, 7) := by simp [Cp.read, h1, h2]

theorem ta11 (w : World) : (Instr.typeAssert (.iface 62 (.agg #[])) 59 62 true).run Tryd.prog w = .ok (.tuple #[.agg #[], .bool true]) w := by kernel_rfl
theorem ta21 (w : World) : (Instr.typeAssert (.iface 64 (.agg #[])) 59 62 true).run Tryd.prog w = .ok (.tuple #[.agg #[], .bool false]) w := by kernel_rfl
theorem ta22 (w : World) : (Instr.typeAssert (.iface 64 (.agg #[])) 59 64 true).run Tryd.prog w = .ok (.tuple #[.agg #[], .bool true]) w := by kernel_rfl
theorem tan1 (w : World) : (Instr.typeAssert .nilIface 59 62 true).run Tryd.prog w = .ok (.tuple #[.agg #[], .bool false]) w := by kernel_rfl
theorem tan2 (w : World) : (Instr.typeAssert .nilIface 59 64 true).run Tryd.prog w = .ok (.tuple #[.agg #[], .bool false]) w := by kernel_rfl


set_option maxRecDepth 100000 in
set_option maxHeartbeats 1000000 in
theorem capRead_any (f : Int) (x : Xc) (a : Option Addr) (n cap : Nat) (xs : List UInt8) (w : World) (hn : xs.length = n) (hm : n ≤ 300000) (h : RowAt w a cap xs) (ht : Tab w) (hac : x.c.accm < 4294967296) (hs : f = 1 → ∀ r ∈ (S9.Pc.read xs).2.1, r.data.length ≤ 90000) (hsf : f = 2 → Cp.SafeN x.c (S10.Dm.read xs).1) :
    Calls Tryd.prog 9 #[.slice a n cap, .int .i64 f, .agg (ccells x).toArray] w fun e w' => ItemsRes w w' e (Cp.read xs f x.c) := by
  have c1 := Lib.hid (fun W h => readRecords_any x a n cap xs W hn hm h)
  have c2 := Lib.hid (fun W h t => readNotes_any x a n cap xs W hn hm h t hac)
  have cl := fun W => layoutOf_any f W
  have H := Lib.hid h
  have HT := Lib.hid ht
  have HS := Lib.hid hs
  have HSF := Lib.hid hsf
  have h0 := two_made w (ccells x).toArray #[.int .i64 0, .int .i64 0] 25 33
  clear h ht hs hsf hn
  obtain ⟨Z, hZ⟩ : ∃ Z, Cp.read xs f x.c = Z := ⟨_, rfl⟩
  rw [hZ]
  obtain ⟨L, s, er⟩ := Z
  have HZ := Lib.hid hZ
  clear hZ
  go_enter Tryd.func9, Tryd.ntmps9
  simp only [ccells] at h0 ⊢
  go_wp2_with fail
  generalize (w.alloc (.cells #[.int .i64 x.n0, .int .i64 x.n1, .int .i64 x.n2, .int .i64 x.n3, .string x.s1, .string x.s2, .int .i64 x.c.dir, .int .u32 (x.c.accm : Int), .bool x.c.wide] 25)).alloc (.cells #[.int .i64 0, .int .i64 0] 33) = W0 at *
  obtain ⟨hB0, hD0, hR0, hs0⟩ := h0
  refine (cl W0).mono ?_
  rintro e w1 ⟨rfl, b1⟩
  have hsz1 := b1.size
  have HB0 := Lib.hid hB0
  have HR0 := Lib.hid hR0
  have D1 := Lib.hid (block_next hD0 b1)
  have B1 := Lib.hid b1
  clear hB0 hR0 hD0 b1 cl
  by_cases h1 : f = 1
  · subst h1
    simp only [layV, if_true]
    have t1 := ta11
    have C1 := c1.out w1 (H.out.next (Below.chain HB0.out B1.out)) (HS.out rfl)
    rw [← Cp.read_one, HZ.out] at C1
    have C1 := Lib.hid C1
    clear c1 c2 HSF HS
    go_wp2_with (refine wpList_load_row rfl 25 (.tmp 5) rfl w.heap.size rfl 25 (ccells x).toArray (0, 0) _ D1.out Tryd.underlying25 rfl infoConf ?_; simp only [ccells])
    refine C1.out.mono ?_
    rintro e w2 ⟨v, rfl, i2, b2⟩
    obtain ⟨av, cv, rfl⟩ := its_slice i2
    simp only at i2 ⊢
    obtain ⟨nl, hnl⟩ : ∃ nl, L.length = nl := ⟨_, rfl⟩
    rw [hnl] at i2 ⊢
    have HI := Lib.hid i2
    have HB2 := Lib.hid b2
    have hR2 := block_next HR0.out (Below.chain B1.out b2)
    have hsz2 := b2.size
    clear i2 b2 hnl
    go_wp2_with (refine wpList_store_spot rfl (.tmp 7) (.tmp 17) rfl (w.heap.size + 1) s er _ rfl rfl hR2 rfl ?_)
    refine bodyPost_ret (v := .tuple #[.slice av nl cv, .agg (scells s er).toArray]) ?_ rfl ?_
    · exact results_tmp_cell_row Tryd.results9 _ _ (w.heap.size + 1) 33 _ _ _ rfl (setRow_heap _ _ _ _ _ _ hR2) Tryd.underlying33 rfl infoSpot
    · exact ⟨_, rfl, ((HI.out.kept (grown_row _ _ _) (by omega) (fun _ e => e)).lower (by omega)).mono (fun j _ hj => by have : w1.heap.size ≤ j := hj; show w.heap.size ≤ j; omega), below_setRow (HB0.out.trans ((Below.chain B1.out HB2.out).mono HB0.out.size)) (by omega) _⟩
  · by_cases h2 : f = 2
    · subst h2
      have e21 : layV 2 = .iface 64 (.agg #[]) := rfl
      rw [e21]
      have t1 := ta21
      have t2 := ta22
      have C1 := c2.out w1 (H.out.next (Below.chain HB0.out B1.out)) (HT.out.next (Below.chain HB0.out B1.out)) (HSF.out rfl)
      rw [← Cp.read_two, HZ.out] at C1
      have C1 := Lib.hid C1
      clear c1 c2 HSF HS h1 e21
      go_wp2_with (refine wpList_load_row rfl 25 (.tmp 5) rfl w.heap.size rfl 25 (ccells x).toArray (0, 0) _ D1.out Tryd.underlying25 rfl infoConf ?_; simp only [ccells])
      refine C1.out.mono ?_
      rintro e w2 ⟨v, rfl, i2, b2⟩
      obtain ⟨av, cv, rfl⟩ := its_slice i2
      simp only at i2 ⊢
      obtain ⟨nl, hnl⟩ : ∃ nl, L.length = nl := ⟨_, rfl⟩
      rw [hnl] at i2 ⊢
      have HI := Lib.hid i2
      have HB2 := Lib.hid b2
      have hR2 := block_next HR0.out (Below.chain B1.out b2)
      have hsz2 := b2.size
      clear i2 b2 hnl
      go_wp2_with (refine wpList_store_spot rfl (.tmp 7) (.tmp 25) rfl (w.heap.size + 1) s er _ rfl rfl hR2 rfl ?_)
      refine bodyPost_ret (v := .tuple #[.slice av nl cv, .agg (scells s er).toArray]) ?_ rfl ?_
      · exact results_tmp_cell_row Tryd.results9 _ _ (w.heap.size + 1) 33 _ _ _ rfl (setRow_heap _ _ _ _ _ _ hR2) Tryd.underlying33 rfl infoSpot
      · exact ⟨_, rfl, ((HI.out.kept (grown_row _ _ _) (by omega) (fun _ e => e)).lower (by omega)).mono (fun j _ hj => by have : w1.heap.size ≤ j := hj; show w.heap.size ≤ j; omega), below_setRow (HB0.out.trans ((Below.chain B1.out HB2.out).mono HB0.out.size)) (by omega) _⟩
    · have e21 : layV f = .nilIface := by simp [layV, h1, h2]
      rw [e21]
      have t1 := tan1
      have t2 := tan2
      have hZ := HZ.out
      rw [Cp.read_no xs f x.c h1 h2] at hZ
      simp only [Prod.mk.injEq] at hZ
      obtain ⟨rfl, rfl, rfl⟩ := hZ
      have hR1 := block_next HR0.out B1.out
      clear c1 c2 HSF HS h1 h2 e21 HZ
      go_wp2_with (refine wpList_store_spot rfl (.tmp 7) (.tmp 26) rfl (w.heap.size + 1) 0 7 _ rfl rfl hR1 rfl ?_)
      refine bodyPost_ret (v := .tuple #[.slice none 0 0, .agg (scells 0 7).toArray]) ?_ rfl ?_
      · exact results_tmp_cell_row Tryd.results9 _ _ (w.heap.size + 1) 33 _ _ _ rfl (setRow_heap _ _ _ _ _ _ hR1) Tryd.underlying33 rfl infoSpot
      · exact ⟨_, rfl, its_none _ _ _, below_setRow (HB0.out.trans (B1.out.mono HB0.out.size)) (by omega) _⟩
end Go.Proofs.YtbbnkmhlgfoacaaDoor
