/- The walk of PcapBack. -/
import Derived.Test.YtfkjjolohphaoaaPutsWalk
import Derived.Test.YtfkjjolohphaoaaReadsWalk
namespace Go.Proofs.Ytfkjjolohphaoaa
open Go.RowKit

set_option maxRecDepth 100000 in
set_option maxHeartbeats 4000000 in
theorem back_walk (m : Pc.Hdr) (a : Option Addr) (n cap : Nat) (L : List Pc.Rcd) (ab : Option Addr) (nb cb : Nat) (xs : List UInt8) (w : World) (hm : m.Ok) (hn : L.length = n) (h : RecsAt w a L) (hx : xs.length = nb) (hb : RowAt w ab cb xs) :
    Calls Try.prog 6 #[.agg (hcells m).toArray, .slice a n cap, .slice ab nb cb] w fun e w' => e = .returned (.bool true) ∧ Below w.heap.size w w' := by
  have H := Lib.hid h
  have Hn := Lib.hid hn
  have HX := Lib.hid hb
  have HXn := Lib.hid hx
  have b0 : Below w.heap.size w (w.alloc (.cells #[.bool m.big, .bool m.nano, .int .u32 (m.snap : Int), .int .u32 (m.link : Int)] 24)) := (Below.refl _ _).alloc (Nat.le_refl _) _
  have hT0 : (w.alloc (.cells #[.bool m.big, .bool m.nano, .int .u32 (m.snap : Int), .int .u32 (m.link : Int)] 24)).heap[w.heap.size]? = some (.cells (hcells m).toArray 24 (0, 0)) := heap_alloc_new w _
  have B0 := Lib.hid b0
  have T0 := Lib.hid hT0
  have hok : ∀ r ∈ L, r.Ok := fun r hr => by
    obtain ⟨j, hj, rfl⟩ := List.getElem_of_mem hr
    obtain ⟨_, _, _, _, _, q⟩ := RecsAt.at H.out j hj
    exact q.ok
  have HOK := Lib.hid hok
  clear h hn b0 hT0 hb hx hok
  go_enter Try.func6, Try.ntmps6
  simp only [hcells]
  go_wp2_with fail
  generalize w.alloc (.cells #[.bool m.big, .bool m.nano, .int .u32 (m.snap : Int), .int .u32 (m.link : Int)] 24) = w0 at *
  refine (awake_any w0).mono ?_
  rintro e w1 ⟨rfl, b1⟩
  have B1 := Lib.hid (Below.chain B0.out b1)
  have T1 := Lib.hid (block_next T0.out b1)
  generalize w.heap.size = T at T1 ⊢
  clear b1 B0 T0
  go_wp2_with fail
  refine (few_any a n cap L w1 Hn.out (H.out.next B1.out)).mono ?_
  rintro e w2 ⟨r, rfl, rfl, hfew⟩
  cases r
  · go_wp2_with fail
    refine (awake_any _).mono ?_
    rintro e w3 ⟨rfl, b3⟩
    have B3 := Lib.hid (Below.chain B1.out b3)
    clear b3
    go_wp2
    go_ret
    exact ⟨rfl, B3.out⟩
  · obtain ⟨h50, h14⟩ := hfew rfl
    clear hfew
    by_cases hlong : 140000 < nb
    · have i1 : (140000 : Int) < (nb : Int) := by omega
      go_wp2_with fail
      refine (awake_any _).mono ?_
      rintro e w3 ⟨rfl, b3⟩
      have B3 := Lib.hid (Below.chain B1.out b3)
      clear b3
      go_wp2
      go_ret
      exact ⟨rfl, B3.out⟩
    · have i1 : ¬ (140000 : Int) < (nb : Int) := by omega
      have c13 := fun W h => read_any ab nb cb xs W HXn.out (by omega) h
      have rk := Pc.read_known xs
      have rr := Pc.read_recs xs
      have rc := Pc.read_count xs
      have rb := fun l => Pc.read_back xs (Pc.read xs).1 l
      generalize Pc.read xs = A at *
      obtain ⟨mb, LB, sa, se⟩ := A
      have hbk : (sa, se) = (0, 0) → _ := fun e => rb LB (by rw [e])
      have hspot := rk.spot
      have hmb := rk.ok
      simp only at hspot hmb rc hbk
      rw [HXn.out] at hspot rc
      have C13 := Lib.hid c13
      have Hrr := Lib.hid rr
      have HBK := Lib.hid hbk
      have Hspot := Lib.hid hspot
      have Hmb := Lib.hid hmb
      clear c13 rk rr rb hbk hspot hmb
      have t0 : w2.cell? ⟨T, 0, none⟩ = some (.bool m.big) := cell_of_row _ _ _ _ _ _ T1.out
      have t1 : w2.cell? ⟨T, 1, none⟩ = some (.bool m.nano) := cell_of_row _ _ _ _ _ _ T1.out
      have t2 : w2.cell? ⟨T, 2, none⟩ = some (.int .u32 (m.snap : Int)) := cell_of_row _ _ _ _ _ _ T1.out
      have t3 : w2.cell? ⟨T, 3, none⟩ = some (.int .u32 (m.link : Int)) := cell_of_row _ _ _ _ _ _ T1.out
      go_wp2_with fail
      refine (put_any m a n cap L w2 hm Hn.out (by omega) (H.out.next B1.out)).mono ?_
      intro e w3 hres
      obtain ⟨b3, hres2⟩ := hres.row
      have B3 := Lib.hid (Below.chain B1.out b3)
      have T3 := Lib.hid (block_next T1.out b3)
      clear b3 t0 t1 t2 t3 B1 T1 hres
      rcases hres2 with ⟨hs, a3, c3, rfl, r3⟩ | ⟨hs, rfl⟩
      · have hrp := Pc.read_put m L hm HOK.out hs
        have hlen := Pc.put_length m L
        rw [Hn.out] at hlen
        have hkl : (Pc.put m L).length ≤ 300000 := by omega
        have hrd := read_any a3 (Pc.put m L).length c3 (Pc.put m L) w3 rfl hkl r3
        rw [hrp] at hrd
        have HRD := Lib.hid hrd
        clear hlen hrp hrd r3 hs
        generalize (Pc.put m L).length = k at *
        go_wp2_with fail
        refine HRD.out.mono ?_
        rintro e w4 ⟨v4, rfl, rec4, b4⟩
        obtain ⟨a4, c4, rfl, ra4⟩ := rec4.at HOK.out
        have h2 := two_blocks w4 (.cells (hcells m).toArray 24) (.cells (scells 0 0).toArray 36)
        have G5 : Hid (((w4.alloc (.cells #[.bool m.big, .bool m.nano, .int .u32 (m.snap : Int), .int .u32 (m.link : Int)] 24)).alloc (.cells #[.int .i64 0, .int .i64 0] 36)).heap[w4.heap.size]? = some (.cells (hcells m).toArray 24 (0, 0))) := h2.1
        have D5 : Hid (((w4.alloc (.cells #[.bool m.big, .bool m.nano, .int .u32 (m.snap : Int), .int .u32 (m.link : Int)] 24)).alloc (.cells #[.int .i64 0, .int .i64 0] 36)).heap[w4.heap.size + 1]? = some (.cells (scells 0 0).toArray 36 (0, 0))) := h2.2.1
        have bb : Below w4.heap.size w4 ((w4.alloc (.cells #[.bool m.big, .bool m.nano, .int .u32 (m.snap : Int), .int .u32 (m.link : Int)] 24)).alloc (.cells #[.int .i64 0, .int .i64 0] 36)) := h2.2.2
        have B5 := Lib.hid (Below.chain (Below.chain B3.out b4) bb)
        have T5 := Lib.hid (block_next T3.out (Below.chain b4 bb))
        have A5 := Lib.hid (ra4.next bb)
        have g0 : ((w4.alloc (.cells #[.bool m.big, .bool m.nano, .int .u32 (m.snap : Int), .int .u32 (m.link : Int)] 24)).alloc (.cells #[.int .i64 0, .int .i64 0] 36)).cell? ⟨w4.heap.size, 0, none⟩ = some (.bool m.big) := cell_of_row _ _ _ _ _ _ G5.out
        have g1 : ((w4.alloc (.cells #[.bool m.big, .bool m.nano, .int .u32 (m.snap : Int), .int .u32 (m.link : Int)] 24)).alloc (.cells #[.int .i64 0, .int .i64 0] 36)).cell? ⟨w4.heap.size, 1, none⟩ = some (.bool m.nano) := cell_of_row _ _ _ _ _ _ G5.out
        have g2 : ((w4.alloc (.cells #[.bool m.big, .bool m.nano, .int .u32 (m.snap : Int), .int .u32 (m.link : Int)] 24)).alloc (.cells #[.int .i64 0, .int .i64 0] 36)).cell? ⟨w4.heap.size, 2, none⟩ = some (.int .u32 (m.snap : Int)) := cell_of_row _ _ _ _ _ _ G5.out
        have g3 : ((w4.alloc (.cells #[.bool m.big, .bool m.nano, .int .u32 (m.snap : Int), .int .u32 (m.link : Int)] 24)).alloc (.cells #[.int .i64 0, .int .i64 0] 36)).cell? ⟨w4.heap.size, 3, none⟩ = some (.int .u32 (m.link : Int)) := cell_of_row _ _ _ _ _ _ G5.out
        have t0 : ((w4.alloc (.cells #[.bool m.big, .bool m.nano, .int .u32 (m.snap : Int), .int .u32 (m.link : Int)] 24)).alloc (.cells #[.int .i64 0, .int .i64 0] 36)).cell? ⟨T, 0, none⟩ = some (.bool m.big) := cell_of_row _ _ _ _ _ _ T5.out
        have t1 : ((w4.alloc (.cells #[.bool m.big, .bool m.nano, .int .u32 (m.snap : Int), .int .u32 (m.link : Int)] 24)).alloc (.cells #[.int .i64 0, .int .i64 0] 36)).cell? ⟨T, 1, none⟩ = some (.bool m.nano) := cell_of_row _ _ _ _ _ _ T5.out
        have t2 : ((w4.alloc (.cells #[.bool m.big, .bool m.nano, .int .u32 (m.snap : Int), .int .u32 (m.link : Int)] 24)).alloc (.cells #[.int .i64 0, .int .i64 0] 36)).cell? ⟨T, 2, none⟩ = some (.int .u32 (m.snap : Int)) := cell_of_row _ _ _ _ _ _ T5.out
        have t3 : ((w4.alloc (.cells #[.bool m.big, .bool m.nano, .int .u32 (m.snap : Int), .int .u32 (m.link : Int)] 24)).alloc (.cells #[.int .i64 0, .int .i64 0] 36)).cell? ⟨T, 3, none⟩ = some (.int .u32 (m.link : Int)) := cell_of_row _ _ _ _ _ _ T5.out
        simp only [hcells, scells]
        clear h2 bb b4 ra4 rec4 T3 B3
        go_wp2_with fail
        clear g0 g1 g2 g3 t0 t1 t2 t3
        generalize (w4.alloc (.cells #[.bool m.big, .bool m.nano, .int .u32 (m.snap : Int), .int .u32 (m.link : Int)] 24)).alloc (.cells #[.int .i64 0, .int .i64 0] 36) = w5 at *
        generalize w4.heap.size = G at *
        rw [Hn.out]
        refine (same_any a4 a c4 cap n L w5 Hn.out (by omega) A5.out (H.out.next B5.out)).mono ?_
        rintro e w6 ⟨rfl, b6⟩
        have B6 := Lib.hid (Below.chain B5.out b6)
        have d0 : w6.cell? ⟨G + 1, 0, none⟩ = some (.int .i64 0) := cell_of_row _ _ _ _ _ _ (block_next D5.out b6)
        have d1 : w6.cell? ⟨G + 1, 1, none⟩ = some (.int .i64 0) := cell_of_row _ _ _ _ _ _ (block_next D5.out b6)
        clear b6 B5 A5 D5 G5 T5
        go_wp2_with fail
        refine (C13.out w6 (HX.out.next B6.out)).mono ?_
        rintro e w7 ⟨v7, rfl, rec7, b7⟩
        obtain ⟨a7, c7, rfl, ra7⟩ := rec7.at Hrr.out
        have ba : Below w7.heap.size w7 ((w7.alloc (.cells #[.bool mb.big, .bool mb.nano, .int .u32 (mb.snap : Int), .int .u32 (mb.link : Int)] 24)).alloc (.cells #[.int .i64 (sa : Int), .int .i64 (se : Int)] 36)) := (two_blocks w7 _ _).2.2
        have U8 : Hid (((w7.alloc (.cells #[.bool mb.big, .bool mb.nano, .int .u32 (mb.snap : Int), .int .u32 (mb.link : Int)] 24)).alloc (.cells #[.int .i64 (sa : Int), .int .i64 (se : Int)] 36)).heap[w7.heap.size]? = some (.cells (hcells mb).toArray 24 (0, 0))) := (two_blocks w7 _ _).1
        have V8 : Hid (((w7.alloc (.cells #[.bool mb.big, .bool mb.nano, .int .u32 (mb.snap : Int), .int .u32 (mb.link : Int)] 24)).alloc (.cells #[.int .i64 (sa : Int), .int .i64 (se : Int)] 36)).heap[w7.heap.size + 1]? = some (.cells (scells sa se).toArray 36 (0, 0))) := (two_blocks w7 _ _).2.1
        have B8 := Lib.hid (Below.chain (Below.chain B6.out b7) ba)
        have A8 := Lib.hid (ra7.next ba)
        simp only [hcells, scells]
        clear rec7 ra7 b7 ba
        have q0 : ((w7.alloc (.cells #[.bool mb.big, .bool mb.nano, .int .u32 (mb.snap : Int), .int .u32 (mb.link : Int)] 24)).alloc (.cells #[.int .i64 (sa : Int), .int .i64 (se : Int)] 36)).cell? ⟨w7.heap.size, 0, none⟩ = some (.bool mb.big) := cell_of_row _ _ _ _ _ _ U8.out
        have q1 : ((w7.alloc (.cells #[.bool mb.big, .bool mb.nano, .int .u32 (mb.snap : Int), .int .u32 (mb.link : Int)] 24)).alloc (.cells #[.int .i64 (sa : Int), .int .i64 (se : Int)] 36)).cell? ⟨w7.heap.size, 1, none⟩ = some (.bool mb.nano) := cell_of_row _ _ _ _ _ _ U8.out
        have q2 : ((w7.alloc (.cells #[.bool mb.big, .bool mb.nano, .int .u32 (mb.snap : Int), .int .u32 (mb.link : Int)] 24)).alloc (.cells #[.int .i64 (sa : Int), .int .i64 (se : Int)] 36)).cell? ⟨w7.heap.size, 2, none⟩ = some (.int .u32 (mb.snap : Int)) := cell_of_row _ _ _ _ _ _ U8.out
        have q3 : ((w7.alloc (.cells #[.bool mb.big, .bool mb.nano, .int .u32 (mb.snap : Int), .int .u32 (mb.link : Int)] 24)).alloc (.cells #[.int .i64 (sa : Int), .int .i64 (se : Int)] 36)).cell? ⟨w7.heap.size, 3, none⟩ = some (.int .u32 (mb.link : Int)) := cell_of_row _ _ _ _ _ _ U8.out
        have p0 : ((w7.alloc (.cells #[.bool mb.big, .bool mb.nano, .int .u32 (mb.snap : Int), .int .u32 (mb.link : Int)] 24)).alloc (.cells #[.int .i64 (sa : Int), .int .i64 (se : Int)] 36)).cell? ⟨w7.heap.size + 1, 0, none⟩ = some (.int .i64 (sa : Int)) := cell_of_row _ _ _ _ _ _ V8.out
        have p1 : ((w7.alloc (.cells #[.bool mb.big, .bool mb.nano, .int .u32 (mb.snap : Int), .int .u32 (mb.link : Int)] 24)).alloc (.cells #[.int .i64 (sa : Int), .int .i64 (se : Int)] 36)).cell? ⟨w7.heap.size + 1, 1, none⟩ = some (.int .i64 (se : Int)) := cell_of_row _ _ _ _ _ _ V8.out
        rcases Hspot.out with hsp | ⟨hs1, hs2, hs3⟩
        · simp only [Prod.mk.injEq] at hsp
          obtain ⟨rfl, rfl⟩ := hsp
          obtain ⟨k24, kok, ksm, klen, k6, k16⟩ := HBK.out rfl
          go_wp2_with fail
          generalize (w7.alloc (.cells #[.bool mb.big, .bool mb.nano, .int .u32 (mb.snap : Int), .int .u32 (mb.link : Int)] 24)).alloc (.cells #[.int .i64 ((0 : Nat) : Int), .int .i64 ((0 : Nat) : Int)] 36) = w8 at *
          generalize w7.heap.size = U at *
          refine (put_any mb a7 LB.length c7 LB w8 Hmb.out rfl (by omega) A8.out).mono ?_
          intro e w9 hres9
          obtain ⟨b9, hres9⟩ := hres9.row
          have B9 := Lib.hid (Below.chain B8.out b9)
          rcases hres9 with ⟨_, a9, c9, rfl, r9⟩ | ⟨hs9, _⟩
          · rw [HXn.out] at klen k24
            rw [klen]
            have hx9 := HX.out.next B9.out
            have l9 := r9.le
            have lb := hx9.le
            rw [klen] at l9
            rw [HXn.out] at lb
            have s1 := r9.head 6 (by omega)
            have s2 := hx9.head 6 (by rw [HXn.out]; omega)
            have s3 := r9.cut 16 nb (by omega) (by omega)
            have s4 := hx9.cut 16 nb (by omega) (by rw [HXn.out]; omega)
            rw [if_neg (by omega), List.take_of_length_le (by omega)] at s3
            rw [if_neg (by omega), List.take_of_length_le (by rw [HXn.out]; exact Nat.le_refl _)] at s4
            obtain ⟨P9, hP9⟩ : ∃ P, Option.map (fun x : Addr => x.add 16) a9 = P := ⟨_, rfl⟩
            obtain ⟨Pb, hPb⟩ : ∃ P, Option.map (fun x : Addr => x.add 16) ab = P := ⟨_, rfl⟩
            have hP9' : Option.map (fun x : Addr => ({ block := x.block, off := x.off + 16 } : Addr)) a9 = P9 := hP9
            have hPb' : Option.map (fun x : Addr => ({ block := x.block, off := x.off + 16 } : Addr)) ab = Pb := hPb
            rw [hP9] at s3
            rw [hPb] at s4
            rw [k6] at s1
            rw [k16] at s3
            have z1 := fun d => conv_row (n := 6) (by rw [List.length_take, HXn.out]; omega) (keeps_drewN s1 d)
            have z2 := fun d => conv_row (n := 6) (by rw [List.length_take, HXn.out]; omega) (keeps_drewN s2 d)
            have z3 := fun d => conv_row (n := nb - 16) (by rw [List.length_drop, HXn.out]) (keeps_drewN s3 d)
            have z4 := fun d => conv_row (n := nb - 16) (by rw [List.length_drop, HXn.out]) (keeps_drewN s4 d)
            generalize (⟨(xs.take 6).toArray⟩ : ByteArray) = Z1 at z1 z2
            generalize (⟨(xs.drop 16).toArray⟩ : ByteArray) = Z2 at z3 z4
            have j1 : (6 : Int) ≤ (c9 : Int) := by omega
            have j2 : (6 : Int) ≤ (cb : Int) := by omega
            have j3 : ¬ c9 = 16 := by omega
            have j4 : ¬ cb = 16 := by omega
            have j5 : ¬ (c9 : Int) = 16 := by omega
            have j6 : ¬ (cb : Int) = 16 := by omega
            have j7 : (16 : Int) ≤ (nb : Int) := by omega
            have j8 : (24 : Int) ≤ (nb : Int) := by omega
            have j9 : (nb : Int) ≤ (c9 : Int) := by omega
            have j10 : (nb : Int) ≤ (cb : Int) := by omega
            clear s1 s2 s3 s4 hx9 r9 b9 k6 k16 klen p0 p1 q0 q1 q2 q3 kok ksm
            go_wp2_with fail
            go_quiet (fail)
            go_wp2
            go_ret
            exact ⟨rfl, keeps_below B9.out _⟩
          · exact absurd ksm hs9
        · have y1 : ((se : Int) == 0) = false := by simp; omega
          have y2 : ((se : Int) != 0) = true := by simp; omega
          have y3 : (sa : Int) ≤ (nb : Int) := by omega
          have y4 : ¬ (se : Int) = 0 := by omega
          go_wp2_with fail
          generalize (w7.alloc (.cells #[.bool mb.big, .bool mb.nano, .int .u32 (mb.snap : Int), .int .u32 (mb.link : Int)] 24)).alloc (.cells #[.int .i64 (sa : Int), .int .i64 (se : Int)] 36) = w8 at *
          go_ret
          exact ⟨rfl, B8.out⟩
      · skip
        go_wp2_with fail
        refine (C13.out w3 (HX.out.next B3.out)).mono ?_
        rintro e w7 ⟨v7, rfl, rec7, b7⟩
        obtain ⟨a7, c7, rfl, ra7⟩ := rec7.at Hrr.out
        have ba : Below w7.heap.size w7 ((w7.alloc (.cells #[.bool mb.big, .bool mb.nano, .int .u32 (mb.snap : Int), .int .u32 (mb.link : Int)] 24)).alloc (.cells #[.int .i64 (sa : Int), .int .i64 (se : Int)] 36)) := (two_blocks w7 _ _).2.2
        have U8 : Hid (((w7.alloc (.cells #[.bool mb.big, .bool mb.nano, .int .u32 (mb.snap : Int), .int .u32 (mb.link : Int)] 24)).alloc (.cells #[.int .i64 (sa : Int), .int .i64 (se : Int)] 36)).heap[w7.heap.size]? = some (.cells (hcells mb).toArray 24 (0, 0))) := (two_blocks w7 _ _).1
        have V8 : Hid (((w7.alloc (.cells #[.bool mb.big, .bool mb.nano, .int .u32 (mb.snap : Int), .int .u32 (mb.link : Int)] 24)).alloc (.cells #[.int .i64 (sa : Int), .int .i64 (se : Int)] 36)).heap[w7.heap.size + 1]? = some (.cells (scells sa se).toArray 36 (0, 0))) := (two_blocks w7 _ _).2.1
        have B8 := Lib.hid (Below.chain (Below.chain B3.out b7) ba)
        have A8 := Lib.hid (ra7.next ba)
        simp only [hcells, scells]
        clear rec7 ra7 b7 ba
        have q0 : ((w7.alloc (.cells #[.bool mb.big, .bool mb.nano, .int .u32 (mb.snap : Int), .int .u32 (mb.link : Int)] 24)).alloc (.cells #[.int .i64 (sa : Int), .int .i64 (se : Int)] 36)).cell? ⟨w7.heap.size, 0, none⟩ = some (.bool mb.big) := cell_of_row _ _ _ _ _ _ U8.out
        have q1 : ((w7.alloc (.cells #[.bool mb.big, .bool mb.nano, .int .u32 (mb.snap : Int), .int .u32 (mb.link : Int)] 24)).alloc (.cells #[.int .i64 (sa : Int), .int .i64 (se : Int)] 36)).cell? ⟨w7.heap.size, 1, none⟩ = some (.bool mb.nano) := cell_of_row _ _ _ _ _ _ U8.out
        have q2 : ((w7.alloc (.cells #[.bool mb.big, .bool mb.nano, .int .u32 (mb.snap : Int), .int .u32 (mb.link : Int)] 24)).alloc (.cells #[.int .i64 (sa : Int), .int .i64 (se : Int)] 36)).cell? ⟨w7.heap.size, 2, none⟩ = some (.int .u32 (mb.snap : Int)) := cell_of_row _ _ _ _ _ _ U8.out
        have q3 : ((w7.alloc (.cells #[.bool mb.big, .bool mb.nano, .int .u32 (mb.snap : Int), .int .u32 (mb.link : Int)] 24)).alloc (.cells #[.int .i64 (sa : Int), .int .i64 (se : Int)] 36)).cell? ⟨w7.heap.size, 3, none⟩ = some (.int .u32 (mb.link : Int)) := cell_of_row _ _ _ _ _ _ U8.out
        have p0 : ((w7.alloc (.cells #[.bool mb.big, .bool mb.nano, .int .u32 (mb.snap : Int), .int .u32 (mb.link : Int)] 24)).alloc (.cells #[.int .i64 (sa : Int), .int .i64 (se : Int)] 36)).cell? ⟨w7.heap.size + 1, 0, none⟩ = some (.int .i64 (sa : Int)) := cell_of_row _ _ _ _ _ _ V8.out
        have p1 : ((w7.alloc (.cells #[.bool mb.big, .bool mb.nano, .int .u32 (mb.snap : Int), .int .u32 (mb.link : Int)] 24)).alloc (.cells #[.int .i64 (sa : Int), .int .i64 (se : Int)] 36)).cell? ⟨w7.heap.size + 1, 1, none⟩ = some (.int .i64 (se : Int)) := cell_of_row _ _ _ _ _ _ V8.out
        rcases Hspot.out with hsp | ⟨hs1, hs2, hs3⟩
        · simp only [Prod.mk.injEq] at hsp
          obtain ⟨rfl, rfl⟩ := hsp
          obtain ⟨k24, kok, ksm, klen, k6, k16⟩ := HBK.out rfl
          go_wp2_with fail
          generalize (w7.alloc (.cells #[.bool mb.big, .bool mb.nano, .int .u32 (mb.snap : Int), .int .u32 (mb.link : Int)] 24)).alloc (.cells #[.int .i64 ((0 : Nat) : Int), .int .i64 ((0 : Nat) : Int)] 36) = w8 at *
          generalize w7.heap.size = U at *
          refine (put_any mb a7 LB.length c7 LB w8 Hmb.out rfl (by omega) A8.out).mono ?_
          intro e w9 hres9
          obtain ⟨b9, hres9⟩ := hres9.row
          have B9 := Lib.hid (Below.chain B8.out b9)
          rcases hres9 with ⟨_, a9, c9, rfl, r9⟩ | ⟨hs9, _⟩
          · rw [HXn.out] at klen k24
            rw [klen]
            have hx9 := HX.out.next B9.out
            have l9 := r9.le
            have lb := hx9.le
            rw [klen] at l9
            rw [HXn.out] at lb
            have s1 := r9.head 6 (by omega)
            have s2 := hx9.head 6 (by rw [HXn.out]; omega)
            have s3 := r9.cut 16 nb (by omega) (by omega)
            have s4 := hx9.cut 16 nb (by omega) (by rw [HXn.out]; omega)
            rw [if_neg (by omega), List.take_of_length_le (by omega)] at s3
            rw [if_neg (by omega), List.take_of_length_le (by rw [HXn.out]; exact Nat.le_refl _)] at s4
            obtain ⟨P9, hP9⟩ : ∃ P, Option.map (fun x : Addr => x.add 16) a9 = P := ⟨_, rfl⟩
            obtain ⟨Pb, hPb⟩ : ∃ P, Option.map (fun x : Addr => x.add 16) ab = P := ⟨_, rfl⟩
            have hP9' : Option.map (fun x : Addr => ({ block := x.block, off := x.off + 16 } : Addr)) a9 = P9 := hP9
            have hPb' : Option.map (fun x : Addr => ({ block := x.block, off := x.off + 16 } : Addr)) ab = Pb := hPb
            rw [hP9] at s3
            rw [hPb] at s4
            rw [k6] at s1
            rw [k16] at s3
            have z1 := fun d => conv_row (n := 6) (by rw [List.length_take, HXn.out]; omega) (keeps_drewN s1 d)
            have z2 := fun d => conv_row (n := 6) (by rw [List.length_take, HXn.out]; omega) (keeps_drewN s2 d)
            have z3 := fun d => conv_row (n := nb - 16) (by rw [List.length_drop, HXn.out]) (keeps_drewN s3 d)
            have z4 := fun d => conv_row (n := nb - 16) (by rw [List.length_drop, HXn.out]) (keeps_drewN s4 d)
            generalize (⟨(xs.take 6).toArray⟩ : ByteArray) = Z1 at z1 z2
            generalize (⟨(xs.drop 16).toArray⟩ : ByteArray) = Z2 at z3 z4
            have j1 : (6 : Int) ≤ (c9 : Int) := by omega
            have j2 : (6 : Int) ≤ (cb : Int) := by omega
            have j3 : ¬ c9 = 16 := by omega
            have j4 : ¬ cb = 16 := by omega
            have j5 : ¬ (c9 : Int) = 16 := by omega
            have j6 : ¬ (cb : Int) = 16 := by omega
            have j7 : (16 : Int) ≤ (nb : Int) := by omega
            have j8 : (24 : Int) ≤ (nb : Int) := by omega
            have j9 : (nb : Int) ≤ (c9 : Int) := by omega
            have j10 : (nb : Int) ≤ (cb : Int) := by omega
            clear s1 s2 s3 s4 hx9 r9 b9 k6 k16 klen p0 p1 q0 q1 q2 q3 kok ksm
            go_wp2_with fail
            go_quiet (fail)
            go_wp2
            go_ret
            exact ⟨rfl, keeps_below B9.out _⟩
          · exact absurd ksm hs9
        · have y1 : ((se : Int) == 0) = false := by simp; omega
          have y2 : ((se : Int) != 0) = true := by simp; omega
          have y3 : (sa : Int) ≤ (nb : Int) := by omega
          have y4 : ¬ (se : Int) = 0 := by omega
          go_wp2_with fail
          generalize (w7.alloc (.cells #[.bool mb.big, .bool mb.nano, .int .u32 (mb.snap : Int), .int .u32 (mb.link : Int)] 24)).alloc (.cells #[.int .i64 (sa : Int), .int .i64 (se : Int)] 36) = w8 at *
          go_ret
          exact ⟨rfl, B8.out⟩
end Go.Proofs.Ytfkjjolohphaoaa
