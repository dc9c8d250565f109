/- Contract of Write. -/
import Derived.Test.YtbbnkmhlgfoacaaDoorCj
import Derived.Test.YtbbnkmhlgfoacaaDoorCm
namespace Go.Proofs.YtbbnkmhlgfoacaaDoor
open Go.RowKit
open S10

/-- What writing tells: bytes of one's own, and an error. -/
def WriteRes (w w' : World) (e : Ending) (A : List UInt8 × Nat) : Prop :=
  ∃ v, e = .returned (.tuple #[v, .int .i64 (A.2 : Nat)]) ∧ w'.ownsRow w.heap.size 5 1 v A.1.length (Lib.byteCells A.1) ∧ Below w.heap.size w w'
theorem Cp.write_no (L : List Cp.It) (f : Int) (c : Cp.Cf) (h1 : ¬ f = 1) (h2 : ¬ f = 2) : Cp.write L f c = ([], 7) := by simp [Cp.write, h1, h2]
theorem Cp.write_bad (L : List Cp.It) (f : Int) (c : Cp.Cf) (h : f = 1 ∨ f = 2) (hm : ¬ ∀ x ∈ L, Cp.may x = true) : Cp.write L f c = ([], 1) := by
  unfold Cp.write; rw [if_pos h, if_neg hm]
theorem Cp.write_one (L : List Cp.It) (c : Cp.Cf) (hm : ∀ x ∈ L, Cp.may x = true) : Cp.write L 1 c = (S9.Pc.put Cp.hdr (Cp.rcds L), 0) := by
  unfold Cp.write; rw [if_pos (.inl rfl), if_pos hm, if_pos rfl]
theorem Cp.write_two (L : List Cp.It) (c : Cp.Cf) (hm : ∀ x ∈ L, Cp.may x = true) : Cp.write L 2 c = (S10.Dm.bytes (Cp.nts c L), 0) := by
  unfold Cp.write; rw [if_pos (.inr rfl), if_pos hm, if_neg (by decide)]

set_option maxRecDepth 100000 in
set_option maxHeartbeats 1000000 in
theorem capWrite_any (f : Int) (y : Xc) (a : Option Addr) (n cap : Nat) (L : List Cp.It) (w : World) (hn : L.length = n) (hnl : n ≤ 1000000) (hlen : ∀ x ∈ L, x.data.length ≤ 1000000000) (h1b : f = 1 → 24 + 21 * n + Cp.tot L ≤ 300000) (h2b : f = 2 → n ≤ 60 ∧ Cp.tot L ≤ 70000) (hac : y.c.accm < 4294967296) (h : ItsAt w a L) (hT : Tab w) :
    Calls Tryd.prog 8 #[.slice a n cap, .int .i64 f, .agg (ccells y).toArray] w fun e w' => WriteRes w w' e (Cp.write L f y.c) := by
  have c1 := Lib.hid (fun W hm hb h => writeRecords_any a n cap L W hn hb hm h)
  have c2 := Lib.hid (fun W hm h60 htt h t => writeNotes_any y a n cap L W hn h60 htt hac hm h t)
  have cMA := fun W h => mayAll_any a n cap L W hn hnl hlen h
  have cl := fun W => layoutOf_any f W
  have H := Lib.hid h
  have HT := Lib.hid hT
  have h0 := below_one w (.cells (ccells y).toArray 25)
  have hD0 := heap_alloc_new w (.cells (ccells y).toArray 25)
  clear h hT hn
  obtain ⟨Z, hZ⟩ : ∃ Z, Cp.write L f y.c = Z := ⟨_, rfl⟩
  rw [hZ]
  obtain ⟨X, er⟩ := Z
  have HZ := Lib.hid hZ
  clear hZ
  go_enter Tryd.func8, Tryd.ntmps8
  simp only [ccells] at h0 hD0 ⊢
  go_wp2_with fail
  generalize w.alloc (.cells #[.int .i64 y.n0, .int .i64 y.n1, .int .i64 y.n2, .int .i64 y.n3, .string y.s1, .string y.s2, .int .i64 y.c.dir, .int .u32 (y.c.accm : Int), .bool y.c.wide] 25) = W0 at *
  refine (cl W0).mono ?_
  rintro e w1 ⟨rfl, b1⟩
  have HB0 := Lib.hid h0
  have D1 := Lib.hid (block_next hD0 b1)
  have B1 := Lib.hid b1
  clear h0 hD0 b1 cl
  by_cases h1 : f = 1
  · subst h1
    simp only [layV, if_true]
    have t1 := ta11
    cases hB : decide (∀ x ∈ L, Cp.may x = true) with
    | false =>
      rw [hB] at cMA
      have hZ := HZ.out
      rw [Cp.write_bad L 1 y.c (by decide) (by simpa using hB)] at hZ
      simp only [Prod.mk.injEq] at hZ
      obtain ⟨rfl, rfl⟩ := hZ
      clear HZ
      go_wp2_with fail
      refine (cMA _ (H.out.next (Below.chain HB0.out B1.out))).mono ?_
      rintro e w2 ⟨rfl, b2⟩
      go_wp2
      go_ret2
      exact ⟨_, rfl, World.ownsRow_nil _ _ _ _, HB0.out.trans ((Below.chain B1.out b2).mono HB0.out.size)⟩
    | true =>
      rw [hB] at cMA
      have hmy : ∀ x ∈ L, Cp.may x = true := by simpa using hB
      have hZ := HZ.out
      rw [Cp.write_one L y.c hmy] at hZ
      simp only [Prod.mk.injEq] at hZ
      obtain ⟨rfl, rfl⟩ := hZ
      have C1 := Lib.hid (fun W h => c1.out W hmy (h1b rfl) h)
      clear c1 c2 h1b h2b HZ hmy hB
      go_wp2_with fail
      refine (cMA _ (H.out.next (Below.chain HB0.out B1.out))).mono ?_
      rintro e w2 ⟨rfl, b2⟩
      have B2 := Lib.hid (Below.chain B1.out b2)
      clear b2 cMA
      go_wp2_with fail
      refine (C1.out w2 (H.out.next (Below.chain HB0.out B2.out))).mono ?_
      rintro e w3 ⟨v, rfl, o3, b3⟩
      have hs := (Below.chain HB0.out B2.out).size
      have O3 := Lib.hid (ownsRow_lower (base' := w.heap.size) o3 hs)
      have B3 := Lib.hid (Below.chain (Below.chain HB0.out B2.out) b3)
      clear o3 b3
      go_wp2
      go_ret2
      exact ⟨_, rfl, O3.out, B3.out⟩
  · by_cases h2 : f = 2
    · subst h2
      have e21 : layV 2 = .iface 64 (.agg #[]) := rfl
      rw [e21]
      have t1 := ta21
      have t2 := ta22
      clear h1 e21
      cases hB : decide (∀ x ∈ L, Cp.may x = true) with
      | false =>
        rw [hB] at cMA
        have hZ := HZ.out
        rw [Cp.write_bad L 2 y.c (by decide) (by simpa using hB)] at hZ
        simp only [Prod.mk.injEq] at hZ
        obtain ⟨rfl, rfl⟩ := hZ
        clear HZ
        go_wp2_with fail
        refine (cMA _ (H.out.next (Below.chain HB0.out B1.out))).mono ?_
        rintro e w2 ⟨rfl, b2⟩
        go_wp2
        go_ret2
        exact ⟨_, rfl, World.ownsRow_nil _ _ _ _, HB0.out.trans ((Below.chain B1.out b2).mono HB0.out.size)⟩
      | true =>
        rw [hB] at cMA
        have hmy : ∀ x ∈ L, Cp.may x = true := by simpa using hB
        have hZ := HZ.out
        rw [Cp.write_two L y.c hmy] at hZ
        simp only [Prod.mk.injEq] at hZ
        obtain ⟨rfl, rfl⟩ := hZ
        have C1 := Lib.hid (fun W h t => c2.out W hmy (h2b rfl).1 (h2b rfl).2 h t)
        clear c1 c2 h1b h2b HZ hmy hB
        go_wp2_with fail
        refine (cMA _ (H.out.next (Below.chain HB0.out B1.out))).mono ?_
        rintro e w2 ⟨rfl, b2⟩
        have B2 := Lib.hid (Below.chain B1.out b2)
        have D2 := Lib.hid (block_next D1.out b2)
        clear b2 cMA
        go_wp2_with (refine wpList_load_row rfl 25 (.tmp 5) rfl w.heap.size rfl 25 (ccells y).toArray (0, 0) _ D2.out Tryd.underlying25 rfl infoConf ?_; simp only [ccells])
        refine (C1.out w2 (H.out.next (Below.chain HB0.out B2.out)) (HT.out.next (Below.chain HB0.out B2.out))).mono ?_
        rintro e w3 ⟨v, rfl, o3, b3⟩
        have hs := (Below.chain HB0.out B2.out).size
        have O3 := Lib.hid (ownsRow_lower (base' := w.heap.size) o3 hs)
        have B3 := Lib.hid (Below.chain (Below.chain HB0.out B2.out) b3)
        clear o3 b3
        go_wp2
        go_ret2
        exact ⟨_, rfl, O3.out, B3.out⟩
    · have e21 : layV f = .nilIface := by simp [layV, h1, h2]
      rw [e21]
      have t1 := tan1
      have t2 := tan2
      have hZ := HZ.out
      rw [Cp.write_no L f y.c h1 h2] at hZ
      simp only [Prod.mk.injEq] at hZ
      obtain ⟨rfl, rfl⟩ := hZ
      clear c1 c2 h1b h2b HZ h1 h2 e21 cMA
      go_wp2
      go_ret2
      exact ⟨_, rfl, World.ownsRow_nil _ _ _ _, HB0.out.trans (B1.out.mono HB0.out.size)⟩
end Go.Proofs.YtbbnkmhlgfoacaaDoor
