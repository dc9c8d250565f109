/- Contract of Read. -/
import Derived.Test.YtacnlancncmpmaaTc
import Derived.Test.YtacnlancncmpmaaOl
namespace Go.Proofs.Ytacnlancncmpmaa
open Go.RowKit Go.Maps S2 S12

/-- Two results, the first one in a cell. -/
theorem results_cell_tmp_tm {fn : Func} {q p : Tmp} (h : fn.results = #[.cell p 35, .tmp q]) (tmps : Array Value) (w : World) (g : Nat) (t : Ad.T) (b : Bool)
    (hp : tmps.getD p undef = .pointer (some ⟨g, 0, none⟩)) (hq : tmps.getD q undef = .bool b) (hg : TmAt w g t) :
    (results fn tmps).run Try.prog w = .ok (.tuple #[.agg (acells t).toArray, .bool b]) w := by
  have hp' : tmps[p]?.getD undef = .pointer (some ⟨g, 0, none⟩) := by simpa using hp
  have hq' : tmps[q]?.getD undef = .bool b := by simpa using hq
  simp [results, h, hp', hq', asAddr, run_loadVar_row w g 35 35 (acells t).toArray (0, 0) _ hg Try.underlying35 rfl infoAd]
/-- What Read tells. -/
def ToldRes (w w' : World) (e : Ending) (A : Ad.T × Bool) : Prop := e = .returned (.tuple #[.agg (acells A.1).toArray, .bool A.2]) ∧ Below w.heap.size w w'
/-- Are all of a list's first ones right? -/
theorem Ad.right_step {P : Int} {L : List Ot.O} {k : Nat} (h : k < L.length) (hp : ∀ x ∈ L.take k, Ad.right P x = true) (hr : Ad.right P L[k] = true) : ∀ x ∈ L.take (k + 1), Ad.right P x = true := by
  intro x hx
  rw [List.take_succ_eq_append_getElem h] at hx
  simp only [List.mem_append, List.mem_singleton] at hx
  rcases hx with hx | rfl
  · exact hp x hx
  · exact hr
set_option maxRecDepth 100000 in
set_option maxHeartbeats 1000000 in
theorem read_any (P : Int) (a : Option Addr) (n cap : Nat) (L : List Ot.O) (w : World) (hL : L.length = n) (hn : n ≤ 1000000) (hw : ∀ x ∈ L, (Lit.int .i64 x.ty).wf = true) (h : OptsAt w a L) :
    Calls Try.prog 15 #[.int .i64 P, .slice a n cap] w fun e w' => ToldRes w w' e (Ad.read P L) := by
  obtain ⟨Z, hZ⟩ : ∃ Z, Ad.read P L = Z := ⟨_, rfl⟩
  rw [hZ]
  have HZ := Lib.hid hZ.symm
  have b0 := below_one w (.cells (acells Ad.z).toArray 35)
  have C0 := Lib.hid (twice_any a n cap L (w.alloc (.cells (acells Ad.z).toArray 35)) hL hn hw (h.next b0))
  have H := Lib.hid h
  have HL := Lib.hid hL
  have Z0 : TmAt (w.alloc (.cells (acells Ad.z).toArray 35)) w.heap.size Ad.z := heap_alloc_new w _
  have s0 : (w.alloc (.cells (acells Ad.z).toArray 35)).heap.size = w.heap.size + 1 := by simp
  clear h hL hZ hw
  by_cases htw : Ot.twice L = true
  · have hZ : Z = (Ad.z, false) := HZ.out.trans (Ad.read_no P (fun e => by rw [Ot.twice_no L e.2] at htw; cases htw))
    subst hZ
    rw [htw] at C0
    have HB := Lib.hid b0
    have HZ0 := Lib.hid Z0
    clear HZ htw b0 Z0 s0
    go_enter Try.func15, Try.ntmps15
    go_wp2_with fail
    refine C0.out.mono ?_
    rintro e w1 ⟨rfl, b1⟩
    have Z1 := Lib.hid (HZ0.out.next b1)
    have B1 := Lib.hid (Below.chain HB.out b1)
    clear b1 C0 HB HZ0
    go_wp2_with (refine wpList_store_ad rfl _ _ rfl w.heap.size Ad.z _ rfl rfl Z1.out rfl ?_)
    exact bodyPost_ret (results_cell_tmp_tm Try.results15 _ _ _ Ad.z false rfl rfl (setRow_heap _ _ _ _ _ _ Z1.out)) rfl ⟨rfl, below_setRow B1.out (Nat.le_refl _) _⟩
  · rw [Bool.not_eq_true] at htw
    have hnd : (L.map Ot.O.ty).Nodup := by
      unfold Ot.twice at htw
      simpa using htw
    have HND := Lib.hid hnd
    clear hnd
    rw [htw] at C0
    have HB := Lib.hid b0
    have HZ0 := Lib.hid Z0
    clear htw b0 Z0
    go_enter Try.func15, Try.ntmps15
    go_wp2_with fail
    refine C0.out.mono ?_
    rintro e w1 ⟨rfl, b1⟩
    have Z2 := Lib.hid ((HZ0.out.next b1).next (below_one w1 (.cells (acells Ad.z).toArray 35)))
    have A2 : Hid (TmAt (w1.alloc (.cells (acells Ad.z).toArray 35)) w1.heap.size Ad.z) := heap_alloc_new w1 _
    have B2 := Lib.hid (Below.chain (Below.chain HB.out b1) (below_one w1 (.cells (acells Ad.z).toArray 35)))
    have sz := b1.size
    rw [s0] at sz
    have hs2 : w1.heap.size < (w1.alloc (.cells (acells Ad.z).toArray 35)).heap.size := by simp
    clear b1 C0 HB HZ0 s0
    go_wp2
    show Code.wp _ _ _ _ (w1.alloc (.cells (acells Ad.z).toArray 35))
    generalize w1.alloc (.cells (acells Ad.z).toArray 35) = w2 at *
    generalize w1.heap.size = ga at *
    go_loopw [14] (fun i wr => ∃ k : Nat, i = .int .i64 (k : Int) ∧ k ≤ n ∧ Hid (∀ x ∈ L.take k, Ad.right P x = true) ∧ Hid (TmAt wr ga (Ad.told (L.take k))) ∧ Hid (TmAt wr w.heap.size Ad.z) ∧ Below w.heap.size w wr) (fun i _ => n - (intOf i).toNat)
    case atStart => exact ⟨0, rfl, Nat.zero_le _, fun x hx => by simp at hx, by rw [List.take_zero]; exact A2, Z2, B2.out⟩
    case round =>
      obtain ⟨k, rfl, hk, HO, HT, HZ0, hbw⟩ := hrel
      by_cases hlt : (k : Int) < (n : Int)
      · have hkn : k < n := by omega
        have hkL : k < L.length := by rw [HL.out]; omega
        obtain ⟨b, off, q, d, rfl, r1, hb1⟩ := H.out.at k hkL
        have HST := Lib.hid (Ad.told_step hkL)
        have HOS := Lib.hid (fun hr => Ad.right_step hkL HO.out hr)
        have HWR := Lib.hid (Ad.okl_wrong P hkL)
        clear HO
        generalize L[k] = r at *
        generalize Ad.told (L.take k) = tk at *
        obtain ⟨m, hm⟩ : ∃ m, r.data.length = m := ⟨_, rfl⟩
        have RG0 := (r1.next hb1 hbw).range
        rw [hm] at RG0
        have RG := Lib.hid RG0
        have bA := below_one wr (.cells #[.int .i64 r.ty, .slice q m d] 24)
        have hg3 := heap_alloc_new wr (.cells #[.int .i64 r.ty, .slice q m d] 24)
        have hgl := HT.out.lt
        have B2 := Below.chain hbw bA
        have c1 := tell_any ga tk P r q m d (wr.alloc (.cells #[.int .i64 r.ty, .slice q m d] 24)) w hm r1.row B2 (by omega) (HT.out.next bA)
        have HG3 := Lib.hid hg3
        have HZ2 := Lib.hid (HZ0.out.next bA)
        have HB2 := Lib.hid B2
        clear bA hg3 RG0 r1 HT HZ0 hbw B2 hm
        by_cases hr : Ad.right P r = true
        · rw [hr] at c1
          have C1 := Lib.hid c1
          simp only [ocells] at C1
          have HOK := Lib.hid (HOS.out hr)
          clear c1 HWR HOS hr HZ
          go_wp2_with (first
            | (refine wpList_load_mid rfl 24 (.tmp 16) rfl b (off + k * 2) rfl (ocells r (.slice q m d)) _ RG.out Try.underlying24 rfl (infoOptN _ _) ?_; simp only [ocells])
            | (refine wpList_load_row rfl 24 (.tmp 8) rfl wr.heap.size rfl 24 #[.int .i64 r.ty, .slice q m d] (0, 0) _ HG3.out Try.underlying24 rfl infoOpt ?_)
            | (refine C1.out.mono ?_; rintro e w5 ⟨rfl, g5, t5, T5, e5⟩))
          go_roundw
          case rel =>
            refine ⟨k + 1, by simp, by omega, HOK.out, ?_, HZ2.out.kept g5 (by omega), Below.grown HB2.out g5 HB2.out.size (fun j hj => by cases hj; omega)⟩
            show TmAt _ _ _
            rw [HST.out, ← e5 trivial]; exact T5
          case measure => simp [intOf]; omega
        · rw [Bool.not_eq_true] at hr
          rw [hr] at c1
          have C1 := Lib.hid c1
          simp only [ocells] at C1
          have hZ : Z = (Ad.z, false) := HZ.out.trans (Ad.read_no P (HWR.out hr))
          subst hZ
          clear c1 HWR HOS hr HZ HST
          go_wp2_with (first
            | (refine wpList_load_mid rfl 24 (.tmp 16) rfl b (off + k * 2) rfl (ocells r (.slice q m d)) _ RG.out Try.underlying24 rfl (infoOptN _ _) ?_; simp only [ocells])
            | (refine wpList_load_row rfl 24 (.tmp 8) rfl wr.heap.size rfl 24 #[.int .i64 r.ty, .slice q m d] (0, 0) _ HG3.out Try.underlying24 rfl infoOpt ?_)
            | (refine C1.out.mono ?_; rintro e w5 ⟨rfl, g5, t5, T5, e5⟩)
            | (refine wpList_store_ad rfl _ _ rfl w.heap.size Ad.z _ rfl rfl (HZ2.out.kept g5 (by omega)) rfl ?_))
          exact bodyPost_ret (results_cell_tmp_tm Try.results15 _ _ _ Ad.z false rfl rfl (setRow_heap _ _ _ _ _ _ (HZ2.out.kept g5 (by omega)))) rfl ⟨rfl, below_setRow (Below.grown HB2.out g5 HB2.out.size (fun j hj => by cases hj; omega)) (Nat.le_refl _) _⟩
      · have hall : L.take k = L := List.take_of_length_le (by rw [HL.out]; omega)
        rw [hall] at HO HT
        have hZ : Z = (Ad.told L, true) := HZ.out.trans (Ad.read_yes P ⟨HO.out, HND.out⟩)
        obtain ⟨tl, htl⟩ : ∃ tl, Ad.told L = tl := ⟨_, rfl⟩
        rw [htl] at hZ HT
        subst hZ
        clear htl
        have B2 := Lib.hid hbw
        clear hall HZ HO hbw
        go_wp2_with (first
          | (refine wpList_load_row rfl 35 (.tmp 6) rfl ga rfl 35 (acells tl).toArray (0, 0) _ HT.out Try.underlying35 rfl infoAd ?_)
          | (refine wpList_store_ad rfl _ _ rfl w.heap.size tl _ rfl rfl HZ0.out rfl ?_))
        exact bodyPost_ret (results_cell_tmp_tm Try.results15 _ _ _ tl true rfl rfl (setRow_heap _ _ _ _ _ _ HZ0.out)) rfl ⟨rfl, below_setRow B2.out (Nat.le_refl _) _⟩
end Go.Proofs.Ytacnlancncmpmaa
