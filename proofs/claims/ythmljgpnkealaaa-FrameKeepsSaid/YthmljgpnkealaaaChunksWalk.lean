/- FrameChunks: the walk. -/
import Derived.Test.YthmljgpnkealaaaFj
import Derived.Test.YthmljgpnkealaaaLb
namespace Go.Proofs.Ythmljgpnkealaaa
open Go.RowKit
namespace Fr
theorem run_held (m : Nat) (wide : Bool) (l : List UInt8) : ∀ s : DS, (run m wide s l).held.length ≤ s.held.length + l.length := by
  induction l with
  | nil => intro s; exact Nat.le_refl _
  | cons c l ih =>
    intro s
    have h1 := next_held m wide s c
    have h2 := ih (next m wide s c)
    rw [List.length_cons]
    show (run m wide (next m wide s c) l).held.length ≤ _
    omega
theorem chunk (xs : List UInt8) (t n : Nat) : xs.take (t + n) = xs.take t ++ (xs.take (t + n)).drop t := by
  have h := (List.take_append_drop t (xs.take (t + n))).symm
  rw [List.take_take, Nat.min_eq_left (by omega)] at h
  exact h
theorem chunk_len (xs : List UInt8) (t n : Nat) (h : t + n ≤ xs.length) : ((xs.take (t + n)).drop t).length = n := by simp; omega
end Fr
/-- What was answered, as it is appended. -/
theorem items_of {w : World} {B B' : Nat} {hv v x : Value} {M : List (List UInt8)} (h : Outs w B' hv x M) (hB : B ≤ B') (hv2 : ∀ k, v.ownBlock = some k → k < B') : Items w B hv v x M := by
  obtain ⟨ms, ho, _, he⟩ := h
  have hl : ms.length = M.length := by rw [ho.1, Nat.mul_one]
  rcases ho.2 with ⟨rfl, h0⟩ | ⟨g, cap, cur, rfl, hb, hg, _⟩
  · refine ⟨none, 0, ms, by rw [h0], fun _ => ⟨List.eq_nil_of_length_eq_zero h0, rfl⟩, hl, (fun _ e => by cases e), fun j hj => ?_⟩
    omega
  · refine ⟨some ⟨g, 0, none⟩, cap, ms, rfl, (fun e => by cases e), hl, fun ad e j u hu => ?_, fun j hj => ?_⟩
    · cases e
      exact ho.cells (g := g) rfl j u hu
    · obtain ⟨p, c, h1, h2, h3⟩ := he j hj
      exact ⟨p, c, h1, h2, fun ad e => ⟨by have := (h3 ad e).1; omega, (h3 ad e).2.1, (h3 ad e).2.2.1, fun e2 => by have := hv2 _ e2; have := (h3 ad e).1; omega⟩⟩

set_option maxRecDepth 10000 in
set_option maxHeartbeats 1000000 in
theorem chunks_long (m : Nat) (wide : Bool) (a aw : Option Addr) (cap n cw nw : Nat) (w : World) (hg : (3000 : Int) < (n : Int) ∨ ¬ (3000 : Int) < (n : Int) ∧ (100 : Int) < (nw : Int)) :
    Calls Try.prog 4 #[.slice a n cap, .slice aw nw cw, .int .u32 (m : Int), .bool wide] w fun e w' => e = .returned (.bool true) ∧ Below w.heap.size w w' := by
  rcases hg with hg | ⟨hg, hg2⟩ <;>
  · go_enter Try.func4, Try.ntmps4
    go_wp2_with fail
    refine (awake_any _).mono ?_
    rintro e w1 ⟨rfl, b1⟩
    go_wp2_with fail
    refine (awake_any _).mono ?_
    rintro e w2 ⟨rfl, b2⟩
    go_wp2
    go_ret
    exact ⟨rfl, Below.chain b1 b2⟩

/-- What is fed of the stream, from a place on. -/
theorem feed_part {w1 w : World} {m : Nat} {wide : Bool} {D : Nat} {hv : Value} (a : Option Addr) (cap t q : Nat) (xs : List UInt8) (hD : D = w1.heap.size) (hr : RowAt w1 a cap xs) (hb : Below w1.heap.size w1 w) (hm : m < 4294967296) (hl : xs.length ≤ 3000) (hq : t + q ≤ xs.length)
    (h : DefAt w m wide D hv (Fr.run m wide Fr.init (xs.take t))) :
    Calls Try.prog 14 #[.pointer (some ⟨D, 0, none⟩), .slice (if cap = t then a else a.map (·.add t)) q (cap - t)] w fun e w' => ∃ hv' v M, e = .returned v ∧ Fr.all m wide Fr.init (xs.take (t + q)) = Fr.all m wide Fr.init (xs.take t) ++ M ∧ M.length ≤ q ∧ Outs w' w.heap.size hv' v M ∧ DefAt w' m wide D hv' (Fr.run m wide Fr.init (xs.take (t + q))) ∧ Fed w w' D hv hv' := by
  have hcut := hr.cut t (t + q) (by omega) hq
  have hcl := Fr.chunk_len xs t q hq
  have hc := Fr.chunk xs t q
  have hh := Fr.run_held m wide (xs.take t) Fr.init
  have hle := Fr.run_le m wide (xs.take t) Fr.init 0 (Fr.zero_le _)
  rw [List.length_take] at hh hle
  have hml := Fr.most_le wide
  have hh0 : Fr.init.held.length = 0 := rfl
  refine (feed_any h _ q _ _ hcl (by omega) (hcut.next hb) hm (Fr.safe_len _ _ _ _ (by rw [hcl]; omega)) (hle.mono (by omega)) (hcut.lt.imp_right fun h2 ad e => ⟨by have := h2 ad e; omega, fun e2 => by have := (h.own.lt _ e2).1; have := h2 ad e; omega⟩)).mono ?_
  rintro e w' ⟨hv', v, rfl, o, h', f⟩
  have ha := Fr.all_append m wide (xs.take t) ((xs.take (t + q)).drop t) Fr.init
  have hr' := Fr.run_append m wide (xs.take t) ((xs.take (t + q)).drop t) Fr.init
  have hal := Fr.all_len m wide ((xs.take (t + q)).drop t) (Fr.run m wide Fr.init (xs.take t))
  rw [← hc] at ha hr'
  rw [hcl] at hal
  exact ⟨hv', v, _, rfl, ha, hal, o, by rw [hr']; exact h', f⟩

set_option maxRecDepth 100000 in
set_option maxHeartbeats 4000000 in
theorem chunks_short (m : Nat) (wide : Bool) (a aw : Option Addr) (cap n cw nw : Nat) (xs : List UInt8) (zs : List Nat) (w : World) (hm : m < 4294967296) (hn : xs.length = n) (hnw : zs.length = nw) (hzs : ∀ z ∈ zs, z < 65536) (h : RowAt w a cap xs) (hw : WordsAt w aw zs) (hg : ¬ (3000 : Int) < (n : Int)) (hgw : ¬ (100 : Int) < (nw : Int)) :
    Calls Try.prog 4 #[.slice a n cap, .slice aw nw cw, .int .u32 (m : Int), .bool wide] w fun e w' => e = .returned (.bool true) ∧ Below w.heap.size w w' := by
  have Hn := Lib.hid hn
  have Hnw := Lib.hid hnw
  have Hzs := Lib.hid hzs
  have H := Lib.hid h
  have Hw := Lib.hid hw
  have hcap := h.le
  rw [hn] at hcap
  clear hn hnw hzs h hw
  go_enter Try.func4, Try.ntmps4
  go_wp2_with fail
  refine (awake_any _).mono ?_
  rintro e w1 ⟨rfl, b1⟩
  go_wp2_with fail
  refine (new_any m wide _).mono ?_
  rintro e w2 ⟨rfl, h2, b2, s2⟩
  have R1 := Lib.hid (H.out.next b1)
  have W1 := Lib.hid (Hw.out.next b1)
  obtain ⟨D, hD⟩ : ∃ D, D = w1.heap.size := ⟨_, rfl⟩
  rw [← hD] at h2 b2 s2 ⊢
  have HD := Lib.hid hD
  have H2 := Lib.hid h2
  have B2 := Lib.hid b2
  have Hb1 := Lib.hid b1
  clear h2 b2 hD b1 H Hw
  have hfp := fun (W : World) (hv : Value) (t q : Nat) (hq : t + q ≤ n) (hb : Below D w1 W) (h : DefAt W m wide D hv (Fr.run m wide Fr.init (xs.take t))) => feed_part a cap t q xs HD.out R1.out (by rw [HD.out] at hb; exact hb) hm (by rw [Hn.out]; omega) (by rw [Hn.out]; exact hq) h
  have Hfp := Lib.hid hfp
  have hal := fun t => Fr.all_len m wide (xs.take t) Fr.init
  simp only [List.length_take] at hal
  have Hal := Lib.hid hal
  clear hfp hal
  go_wp2_with fail
  go_loopw [10, 11, 12] (fun v at_ i wr => ∃ (k t : Nat) (hv : Value), k ≤ nw ∧ t ≤ n ∧ i = .int .i64 (k : Int) ∧ at_ = .int .i64 (t : Int) ∧ Outs wr (D + 1) hv v (Fr.all m wide Fr.init (xs.take t)) ∧ DefAt wr m wide D hv (Fr.run m wide Fr.init (xs.take t)) ∧ Below D w1 wr) (fun _ _ i _ => nw - (intOf i).toNat)
  case atStart => exact ⟨0, 0, .slice none 0 0, Nat.zero_le _, Nat.zero_le _, rfl, rfl, outs_none _ _ _, H2.out, B2.out⟩
  case round =>
    obtain ⟨k, t, hv, hk, ht, rfl, rfl, ho, hd, hb⟩ := hrel
    clear H2 B2
    by_cases hlt : (k : Int) < (nw : Int)
    · have hk' : k < zs.length := by rw [Hnw.out]; omega
      rcases W1.out.next (by rw [← HD.out]; exact hb) with h0 | ⟨bw, offw, rfl, hbw, hcw⟩
      · rw [h0] at hk'; simp at hk'
      · have hcell := hcw k hk'
        have hz := Hzs.out _ (List.getElem_mem hk')
        obtain ⟨z, hzk⟩ : ∃ z, z = zs[k] := ⟨_, rfl⟩
        rw [← hzk] at hcell hz
        clear hzk hk' hcw
        obtain ⟨q, hq⟩ : ∃ q, q = min z (n - t) := ⟨_, rfl⟩
        have hqn : t + q ≤ n := by omega
        have iq : (if (n : Int) - (t : Int) < (z : Int) then (n : Int) - (t : Int) else (z : Int)) = (q : Int) := by split <;> omega
        have ih : ((t : Int) + (q : Int)).toNat - t = q := by omega
        have ic : (t : Int) + (q : Int) ≤ (cap : Int) := by omega
        have hf := Lib.hid (Hfp.out wr hv t q hqn hb hd)
        have hD1 := hd.lt
        have hvb : ∀ k, hv.ownBlock = some k → w1.heap.size ≤ k := fun k e => by have := (hd.own.lt k e).1; have := HD.out; omega
        have hL1 := Hal.out t
        generalize Fr.all m wide Fr.init (xs.take t) = L at ho hf hL1
        obtain ⟨av, cv, rfl⟩ := outs_slice ho
        have HO := Lib.hid ho
        have hLl : L.length ≤ 3000 := by omega
        obtain ⟨P, hP⟩ : ∃ P, (if cap = t then a else Option.map (fun x => x.add t) a) = P := ⟨_, rfl⟩
        obtain ⟨c', hc'⟩ : ∃ c', cap - t = c' := ⟨_, rfl⟩
        rw [hP, hc'] at hf
        clear ho hd hq
        go_wp2_with fail
        refine hf.out.mono ?_
        rintro e w3 ⟨hv3, v3, M, rfl, hA, hMl, o3, h3, f3⟩
        obtain ⟨a3, c3, rfl⟩ := outs_slice o3
        have hs3 := f3.size
        have O3 := Lib.hid (HO.out.fed (D := D) (by omega) f3)
        have hit := Lib.hid (items_of (B := D + 1) (v := .slice av L.length cv) o3 (by omega) (fun k e => (HO.out.lt k e).2))
        have b3 := Lib.hid (f3.below (by rw [← HD.out]; exact hb) (by rw [HD.out]; exact Nat.le_refl _) hvb)
        have H3 := Lib.hid h3
        have HA := Lib.hid hA
        clear hA o3 h3 f3 hf HO hP hc' iq ih
        go_wp2_with (at_builtin; refine wpList_append_outs rfl (.tmp 50) (.tmp 58) rfl (D + 1) hv3 (.slice av L.length cv) _ L M rfl rfl O3.out hit.out H3.out (by omega) (by omega) (by omega) ?_; intro v4 w4 o4 h4 g4 b4; have O4 := Lib.hid o4; have H4 := Lib.hid h4; have B4 := Lib.hid (Below.grown b3.out g4 (by have := b3.out.size; omega) (fun k e => by have := b4 k e; have := HD.out; omega)); clear o4 h4 g4 b4)
        go_roundw
        case rel => exact ⟨k + 1, t + q, hv3, by omega, hqn, by go_num, by go_num, by rw [HA.out]; exact O4.out, H4.out, by have := B4.out; rw [← HD.out] at this; exact this⟩
        case measure => simp [intOf]; omega
    · clear W1 Hnw Hzs
      obtain ⟨q, hq⟩ : ∃ q, n - t = q := ⟨_, rfl⟩
      have htq : t + q = n := by omega
      have hq3 : q ≤ 3000 := by omega
      have ic : (t : Int) ≤ (cap : Int) := by omega
      have ic2 : (t : Int) ≤ (n : Int) := by omega
      have hf := Hfp.out wr hv t q (by omega) hb hd
      have hvb : ∀ k, hv.ownBlock = some k → w1.heap.size ≤ k := fun k e => by have := (hd.own.lt k e).1; have := HD.out; omega
      have hD1 := hd.lt
      have hL1 := Hal.out t
      have hall := fun (W : World) (h : RowAt W a cap xs) => all_any m wide a n cap xs W Hn.out (by omega) h hm (Fr.safe_len m wide xs Fr.init (by have := Fr.most_le wide; have := Hn.out; show 0 + _ ≤ _; omega))
      rw [htq, List.take_of_length_le (by rw [Hn.out]; exact Nat.le_refl _)] at hf
      generalize Fr.all m wide Fr.init (xs.take t) = L at ho hf hL1
      generalize Fr.all m wide Fr.init xs = X at hf hall
      generalize Fr.run m wide Fr.init xs = st at hf hall
      obtain ⟨av, cv, rfl⟩ := outs_slice ho
      have HO := Lib.hid ho
      have hLl : L.length ≤ 3000 := by omega
      obtain ⟨P, hP⟩ : ∃ P, (if cap = t then a else Option.map (fun x => x.add t) a) = P := ⟨_, rfl⟩
      obtain ⟨c', hc'⟩ : ∃ c', cap - t = c' := ⟨_, rfl⟩
      rw [hP, hc'] at hf
      have Hf := Lib.hid hf
      have Hall := Lib.hid hall
      clear ho hd hf hall Hfp Hal htq
      go_wp2_with fail
      refine Hf.out.mono ?_
      rintro e w3 ⟨hv3, v3, M, rfl, hA, hMl, o3, h3, f3⟩
      obtain ⟨a3, c3, rfl⟩ := outs_slice o3
      have hs3 := f3.size
      have O3 := Lib.hid (HO.out.fed (D := D) (by omega) f3)
      have hit := Lib.hid (items_of (B := D + 1) (v := .slice av L.length cv) o3 (by omega) (fun k e => (HO.out.lt k e).2))
      have b3 := Lib.hid (f3.below (by rw [← HD.out]; exact hb) (by rw [HD.out]; exact Nat.le_refl _) hvb)
      have H3 := Lib.hid h3
      have HA := Lib.hid hA
      clear hA o3 h3 f3 Hf HO hP hc' hb hq hvb
      go_wp2_with (at_builtin; refine wpList_append_outs rfl (.tmp 63) (.tmp 68) rfl (D + 1) hv3 (.slice av L.length cv) _ L M rfl rfl O3.out hit.out H3.out (by omega) (by omega) (by omega) ?_; intro v4 w4 o4 h4 g4 b4; rw [← HA.out] at o4; have O4 := Lib.hid o4; have H4 := Lib.hid h4; have B4 := Lib.hid (Below.grown b3.out g4 (by have := b3.out.size; omega) (fun k e => by have := b4 k e; have := HD.out; omega)); clear o4 h4 g4 b4)
      refine (Hall.out _ (R1.out.next B4.out)).mono ?_
      rintro e w5 ⟨p5, c5, rfl, pa5, b5⟩
      obtain ⟨a4, c4, rfl, pa4⟩ := O4.out.parts
      have P4 := Lib.hid (pa4.next b5)
      have P5 := Lib.hid pa5
      have H5 := Lib.hid (H4.out.next b5)
      have B5 := Lib.hid (Below.chain Hb1.out (Below.chain B4.out b5))
      clear pa4 pa5 b5 Hall O3 hit b3 H3 O4 B4
      have hXl : X.length ≤ 1000000 := by rw [HA.out, List.length_append]; omega
      have hsame := fun (W : World) (h1 : PartsAt W a4 X) (h2 : PartsAt W p5 X) => same_any a4 p5 c4 c5 X.length X X W rfl rfl hXl h1 h2
      rw [show (X == X) = true by simp] at hsame
      have Hsame := Lib.hid hsame
      have htal := fun (W : World) (h : DefAt W m wide D hv3 st) => tally_any h
      have Htal := Lib.hid htal
      clear hsame htal hXl HA hL1 hLl
      simp only [tcells]
      go_wp2_with fail
      have hS : PartsAt (w5.alloc (.cells (tcells st.tal).toArray 40)).drew a4 X ∧ PartsAt (w5.alloc (.cells (tcells st.tal).toArray 40)).drew p5 X ∧ DefAt (w5.alloc (.cells (tcells st.tal).toArray 40)).drew m wide D hv3 st ∧ (w5.alloc (.cells (tcells st.tal).toArray 40)).drew.heap[w5.heap.size]? = some (.cells (tcells st.tal).toArray 40 (0, 0)) :=
        ⟨P4.out.next ((Below.refl _ _).alloc (Nat.le_refl _) _).drew, P5.out.next ((Below.refl _ _).alloc (Nat.le_refl _) _).drew, H5.out.next ((Below.refl _ _).alloc (Nat.le_refl _) _).drew, heap_alloc_new w5 _⟩
      have b6 : Below w.heap.size w (w5.alloc (.cells (tcells st.tal).toArray 40)).drew := (B5.out.alloc B5.out.size _).drew
      have e6 : (w5.alloc (.cells #[.int .i64 (st.tal.good : Int), .int .i64 (st.tal.aborted : Int), .int .i64 (st.tal.short : Int), .int .i64 (st.tal.long : Int), .int .i64 (st.tal.wrong : Int)] 40)).drew = (w5.alloc (.cells (tcells st.tal).toArray 40)).drew := rfl
      refine held_start (S := fun W => PartsAt W a4 X ∧ PartsAt W p5 X ∧ DefAt W m wide D hv3 st ∧ W.heap[w5.heap.size]? = some (.cells (tcells st.tal).toArray 40 (0, 0))) 10 (by kernel_rfl) rfl ?_
      rw [e6]
      clear e6
      generalize (w5.alloc (.cells (tcells st.tal).toArray 40)).drew = w6 at hS b6 ⊢
      generalize w5.heap.size = T at hS ⊢
      clear P4 P5 H5 B5 H4
      refine held_take 0 (v := ?_) rfl (by kernel_rfl) (by kernel_rfl) (by kernel_rfl) (fun _ _ _ h => h) (by assumption) (by rfl) ?_ ?_
      rotate_left
      · (intro W hW; go_simp; try with_reducible rfl)
      simp only [Act.put, List.setIfInBounds_toArray, List.set_cons_zero, List.set_cons_succ]
      refine held_take 1 (v := ?_) rfl (by kernel_rfl) (by kernel_rfl) (by kernel_rfl) (fun _ _ _ h => h) (by assumption) (by rfl) ?_ ?_
      rotate_left
      · (intro W hW; go_simp; try with_reducible rfl)
      simp only [Act.put, List.setIfInBounds_toArray, List.set_cons_zero, List.set_cons_succ]
      refine held_call 2 (f := 16) (args := #[.slice a4 X.length c4, .slice p5 X.length c5]) rfl (by kernel_rfl) (by rfl) (by go_simp) ?_
      refine (Hsame.out _ hS.1 hS.2.1).mono ?_
      rintro e w7 ⟨rfl, bb⟩
      replace hS : PartsAt w7 a4 X ∧ PartsAt w7 p5 X ∧ DefAt w7 m wide D hv3 st ∧ w7.heap[T]? = some (.cells (tcells st.tal).toArray 40 (0, 0)) := ⟨hS.1.next bb, hS.2.1.next bb, hS.2.2.1.next bb, by rw [bb.block T (lt_of_block hS.2.2.2)]; exact hS.2.2.2⟩
      replace b6 := Below.chain b6 bb
      refine ⟨_, rfl, hS, ?_⟩
      clear bb
      simp only [Act.put, List.setIfInBounds_toArray, List.set_cons_zero, List.set_cons_succ]
      refine held_take 3 (v := ?_) rfl (by kernel_rfl) (by kernel_rfl) (by kernel_rfl) (fun _ _ _ h => h) (by assumption) (by rfl) ?_ ?_
      rotate_left
      · (intro W hW; go_simp; try with_reducible rfl)
      simp only [Act.put, List.setIfInBounds_toArray, List.set_cons_zero, List.set_cons_succ]
      refine held_take 4 (v := ?_) rfl (by kernel_rfl) (by kernel_rfl) (by kernel_rfl) (fun _ _ _ h => h) (by assumption) (by rfl) ?_ ?_
      rotate_left
      · (intro W hW; go_simp; try with_reducible rfl)
      simp only [Act.put, List.setIfInBounds_toArray, List.set_cons_zero, List.set_cons_succ]
      refine held_take 6 (v := ?_) rfl (by kernel_rfl) (by kernel_rfl) (by kernel_rfl) (fun _ _ _ h => h) (by assumption) (by rfl) ?_ ?_
      rotate_left
      · (intro W hW; (have t0 : W.cell? ⟨T, 0, none⟩ = some (.int .i64 (st.tal.good : Int)) := cell_of_row _ _ _ _ _ _ hW.2.2.2); (have t1 : W.cell? ⟨T, 1, none⟩ = some (.int .i64 (st.tal.aborted : Int)) := cell_of_row _ _ _ _ _ _ hW.2.2.2); (have t2 : W.cell? ⟨T, 2, none⟩ = some (.int .i64 (st.tal.short : Int)) := cell_of_row _ _ _ _ _ _ hW.2.2.2); (have t3 : W.cell? ⟨T, 3, none⟩ = some (.int .i64 (st.tal.long : Int)) := cell_of_row _ _ _ _ _ _ hW.2.2.2); (have t4 : W.cell? ⟨T, 4, none⟩ = some (.int .i64 (st.tal.wrong : Int)) := cell_of_row _ _ _ _ _ _ hW.2.2.2); clear hW; go_simp; try with_reducible rfl)
      simp only [Act.put, List.setIfInBounds_toArray, List.set_cons_zero, List.set_cons_succ]
      refine held_call 5 (f := 17) (args := #[.pointer (some ⟨D, 0, none⟩)]) rfl (by kernel_rfl) (by rfl) (by go_simp) ?_
      refine (Htal.out _ hS.2.2.1).mono ?_
      rintro e w8 ⟨rfl, bb⟩
      replace hS : PartsAt w8 a4 X ∧ PartsAt w8 p5 X ∧ DefAt w8 m wide D hv3 st ∧ w8.heap[T]? = some (.cells (tcells st.tal).toArray 40 (0, 0)) := ⟨hS.1.next bb, hS.2.1.next bb, hS.2.2.1.next bb, by rw [bb.block T (lt_of_block hS.2.2.2)]; exact hS.2.2.2⟩
      replace b6 := Below.chain b6 bb
      refine ⟨_, rfl, hS, ?_⟩
      clear bb
      simp only [tcells]
      simp only [Act.put, List.setIfInBounds_toArray, List.set_cons_zero, List.set_cons_succ]
      refine held_take 7 (v := ?_) rfl (by kernel_rfl) (by kernel_rfl) (by kernel_rfl) (fun _ _ _ h => h) (by assumption) (by rfl) ?_ ?_
      rotate_left
      · (intro W hW; go_simp; try with_reducible rfl)
      simp only [Act.put, List.setIfInBounds_toArray, List.set_cons_zero, List.set_cons_succ]
      refine held_take 8 (v := ?_) rfl (by kernel_rfl) (by kernel_rfl) (by kernel_rfl) (fun _ _ _ h => h) (by assumption) (by rfl) ?_ ?_
      rotate_left
      · (intro W hW; go_simp; try with_reducible rfl)
      simp only [Act.put, List.setIfInBounds_toArray, List.set_cons_zero, List.set_cons_succ]
      refine held_take 9 (v := ?_) rfl (by kernel_rfl) (by kernel_rfl) (by kernel_rfl) (fun _ _ _ h => h) (by assumption) (by rfl) ?_ ?_
      rotate_left
      · (intro W hW; go_simp; try with_reducible rfl)
      simp only [Act.put, List.setIfInBounds_toArray, List.set_cons_zero, List.set_cons_succ]
      refine held_done (by kernel_rfl) ?_
      go_wp2
      go_ret
      exact ⟨rfl, b6⟩
theorem chunks_walk (m : Nat) (wide : Bool) (a aw : Option Addr) (cap cw : Nat) (xs : List UInt8) (zs : List Nat) (w : World) (hm : m < 4294967296) (hzs : ∀ z ∈ zs, z < 65536) (h : RowAt w a cap xs) (hw : WordsAt w aw zs) :
    Calls Try.prog 4 #[.slice a xs.length cap, .slice aw zs.length cw, .int .u32 (m : Int), .bool wide] w fun e w' => e = .returned (.bool true) ∧ Below w.heap.size w w' := by
  by_cases hg : (3000 : Int) < (xs.length : Int)
  · exact chunks_long m wide a aw cap _ cw _ w (.inl hg)
  · by_cases hg2 : (100 : Int) < (zs.length : Int)
    · exact chunks_long m wide a aw cap _ cw _ w (.inr ⟨hg, hg2⟩)
    · exact chunks_short m wide a aw cap _ cw _ xs zs w hm rfl rfl hzs h hw hg hg2
end Go.Proofs.Ythmljgpnkealaaa
