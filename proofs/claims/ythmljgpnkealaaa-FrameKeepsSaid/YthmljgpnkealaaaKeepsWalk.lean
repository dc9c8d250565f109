/- FrameKeeps: the walk. -/
import Derived.Test.YthmljgpnkealaaaKc
import Derived.Test.YthmljgpnkealaaaChunksWalk
namespace Go.Proofs.Ythmljgpnkealaaa
open Go.RowKit

theorem up_int (y : UInt8) : ((y.toNat : Int) + 1) % 256 = (((y + 1 : UInt8)).toNat : Int) := by
  rw [UInt8.toNat_add]
  have : (1 : UInt8).toNat = 1 := rfl
  rw [this]
  omega
theorem owns_empty (w : World) : (w.alloc (.cells #[] 5)).ownsRow w.heap.size 5 1 (.slice (some ⟨w.heap.size, 0, none⟩) 0 0) 0 [] := World.ownsRow_made w #[] 0 (Nat.le_refl _) (Nat.zero_le _) rfl
theorem Outs.grown {w w' : World} {B : Nat} {hv v : Value} {L : List (List UInt8)} {row : Option Nat} (h : Outs w B hv v L) (hg : w.grownBy w' row) (hr : ∀ k, row = some k → k < B) : Outs w' B hv v L := by
  obtain ⟨vs, ho, hoff, he⟩ := h
  refine ⟨vs, ?_, hoff, fun j hj => ?_⟩
  · refine ho.kept hg ?_
    cases hv2 : v.ownBlock with
    | none => exact .inl rfl
    | some k => exact .inr fun e => by have := hr k e.symm; have := (ho.lt k hv2).1; omega
  · obtain ⟨p, c, h1, h2, h3⟩ := he j hj
    exact ⟨p, c, h1, h2.kept hg (fun ad e e2 => by have := hr _ e2; have := (h3 ad e).1; omega), fun ad e => ⟨(h3 ad e).1, Nat.lt_of_lt_of_le (h3 ad e).2.1 hg.size, (h3 ad e).2.2⟩⟩
theorem Outs.next {w w' : World} {B : Nat} {hv v : Value} {L : List (List UInt8)} (h : Outs w B hv v L) (hb : Below w.heap.size w w') : Outs w' B hv v L := by
  obtain ⟨vs, ho, hoff, he⟩ := h
  refine ⟨vs, ownsRow_next ho hb, hoff, fun j hj => ?_⟩
  obtain ⟨p, c, h1, h2, h3⟩ := he j hj
  exact ⟨p, c, h1, h2.next hb, fun ad e => ⟨(h3 ad e).1, Nat.lt_of_lt_of_le (h3 ad e).2.1 hb.size, (h3 ad e).2.2⟩⟩
/-- What was answered, as it is appended to a list that is newer. -/
theorem litems_new {w0 w : World} {B : Nat} {hv v x : Value} {M : List (List UInt8)} (h : Outs w0 B hv x M) (hb : Below w0.heap.size w0 w) (hv2 : ∀ k, v.ownBlock = some k → w0.heap.size ≤ k) : LItems w (fun _ => True) v x M := by
  obtain ⟨ms, ho, _, he⟩ := h
  have hl : ms.length = M.length := by rw [ho.1, Nat.mul_one]
  have ho' := ownsRow_next ho hb
  have he' : ∀ j (h : j < M.length), ∃ p' c', ms[j]? = some (.slice p' M[j].length c') ∧ RowAt w p' c' M[j] ∧ ∀ ad, p' = some ad → ad.block < w.heap.size ∧ v.ownBlock ≠ some ad.block ∧ True := by
    intro j hj
    obtain ⟨p, c, h1, h2, h3⟩ := he j hj
    exact ⟨p, c, h1, h2.next hb, fun ad e => ⟨Nat.lt_of_lt_of_le (h3 ad e).2.1 hb.size, fun e2 => by have := hv2 _ e2; have := (h3 ad e).2.1; omega, trivial⟩⟩
  rcases ho.2 with ⟨rfl, h0⟩ | ⟨g, cap, cur, rfl, _⟩
  · exact ⟨none, 0, ms, by rw [h0], fun _ => ⟨List.eq_nil_of_length_eq_zero h0, rfl⟩, hl, (fun _ e => by cases e), he'⟩
  · refine ⟨some ⟨g, 0, none⟩, cap, ms, rfl, (fun e => by cases e), hl, fun ad e j u hu => ?_, he'⟩
    cases e
    exact ho'.cells (g := g) rfl j u hu

theorem own_fed {w w' : World} {B D n : Nat} {hv hv' v : Value} {xs : List Value} (h : w.ownsRow B 5 1 v n xs) (f : Fed w w' D hv hv') (hk : ∀ k, v.ownBlock = some k → k ≠ D ∧ hv.ownBlock ≠ some k) : w'.ownsRow B 5 1 v n xs := by
  refine ⟨h.1, ?_⟩
  rcases h.2 with h2 | ⟨g, cap, cur, rfl, hb, hg, hr⟩
  · exact .inl h2
  · refine .inr ⟨g, cap, cur, rfl, hb, ?_, hr⟩
    rw [(f.away g (lt_of_block hg) (hk g rfl).1 (hk g rfl).2).1]; exact hg
theorem lst_empty2 (w : World) (o : Obj) (E : Nat → Prop) : Lst ((w.alloc o).alloc (.cells #[] 26)) (w.heap.size + 1) E (.slice (some ⟨w.heap.size + 1, 0, none⟩) 0 0) [] := by
  have h := lst_empty (w.alloc o) E
  rw [show (w.alloc o).heap.size = w.heap.size + 1 by simp] at h
  exact h

set_option maxRecDepth 10000 in
set_option maxHeartbeats 1000000 in
theorem keeps_long (m : Nat) (wide : Bool) (a : Option Addr) (cap n z : Nat) (w : World) (hg : (3000 : Int) < (n : Int)) :
    Calls Try.prog 7 #[.slice a n cap, .int .u16 (z : Int), .int .u32 (m : Int), .bool wide] w fun e w' => e = .returned (.bool true) ∧ Below w.heap.size w w' := by
  go_enter Try.func7, Try.ntmps7
  go_wp2_with fail
  refine (awake_any _).mono ?_
  rintro e w1 ⟨rfl, b1⟩
  go_wp2_with fail
  refine (awake_any _).mono ?_
  rintro e w2 ⟨rfl, b2⟩
  go_wp2
  go_ret
  exact ⟨rfl, Below.chain b1 b2⟩

set_option maxRecDepth 100000 in
set_option maxHeartbeats 4000000 in
theorem keeps_short (m : Nat) (wide : Bool) (a : Option Addr) (cap n z : Nat) (xs : List UInt8) (w : World) (hn : xs.length = n) (hm : m < 4294967296) (hz : z < 65536) (h : RowAt w a cap xs) (hg : ¬ (3000 : Int) < (n : Int)) :
    Calls Try.prog 7 #[.slice a n cap, .int .u16 (z : Int), .int .u32 (m : Int), .bool wide] w fun e w' => e = .returned (.bool true) ∧ Below w.heap.size w w' := by
  have hn3 : n ≤ 3000 := by omega
  obtain ⟨q, hq⟩ : ∃ q, q = z % (n + 1) := ⟨_, rfl⟩
  have ht1 : Int.tmod (z : Int) ((n : Int) + 1) = (q : Int) := by rw [hq]; rfl
  have ht2 : (z : Int) % ((n : Int) + 1) = (q : Int) := by rw [hq]; simp
  have hqn : q ≤ n := by have := Nat.mod_lt z (show 0 < n + 1 by omega); omega
  have hqi : (q : Int) ≤ (n : Int) := by omega
  have hml := Fr.most_le wide
  have Hn := Lib.hid hn
  have H := Lib.hid h
  clear hn h hq
  go_enter Try.func7, Try.ntmps7
  go_wp2_with fail
  refine (awake_any _).mono ?_
  rintro e w1 ⟨rfl, b1⟩
  have h1 := Lib.hid (H.out.next b1)
  have B1 := Lib.hid b1
  clear b1
  go_wp2_with (at_builtin; refine wpList_append_row rfl _ _ rfl w1.heap.size _ 0 [] rfl (owns_empty w1) a n cap xs rfl Hn.out (h1.out.next ((Below.refl _ _).alloc (Nat.le_refl _) _)) (by omega) (by simp) ?_; intro v2 w2 o2 g2; rw [Nat.zero_add, List.nil_append] at o2; have b2 : Below w1.heap.size w1 w2 := Below.grown ((Below.refl _ _).alloc (Nat.le_refl _) _) g2 (by simp) (fun j hj => ((owns_empty w1).lt j hj).1); clear g2; obtain ⟨a2, c2, rfl, r2⟩ := rowAt_own Hn.out o2)
  have hc2 := r2.le
  rw [Hn.out] at hc2
  have O2 := Lib.hid o2
  have R2 := Lib.hid r2
  have B2 := Lib.hid b2
  have hlt2 := o2.lt
  clear o2 r2 b2
  refine (new_any m wide _).mono ?_
  rintro e w3 ⟨rfl, h3, b3, s3⟩
  obtain ⟨D, hD⟩ : ∃ D, D = w2.heap.size := ⟨_, rfl⟩
  rw [← hD] at h3 hlt2 ⊢
  have HD := Lib.hid hD
  have hf3 := feed_any h3 a2 q c2 (xs.take q) (by rw [List.length_take, Hn.out]; omega) (by omega) ((R2.out.next b3).head q) hm (Fr.safe_len _ _ _ _ (by rw [List.length_take]; show 0 + _ ≤ _; have := Hn.out; omega)) (Fr.zero_le _) ((R2.out.head q).lt.imp_right fun h2 ad e => ⟨by have := h2 ad e; omega, by simp [Value.ownBlock]⟩)
  have Hf3 := Lib.hid hf3
  have B3 := Lib.hid b3
  have H3 := Lib.hid h3
  clear h3 b3 hf3 hD
  have ic : (q : Int) ≤ (c2 : Int) := by omega
  go_wp2_with fail
  refine Hf3.out.mono ?_
  rintro e w4 ⟨hv4, v4, rfl, o4, h4, f4⟩
  obtain ⟨a4, c4, rfl⟩ := outs_slice o4
  have hcut2 := R2.out.cut q n hqn (by rw [Hn.out]; exact Nat.le_refl _)
  have hdr : (xs.take n).drop q = xs.drop q := by rw [List.take_of_length_le (by rw [Hn.out]; exact Nat.le_refl _)]
  rw [hdr] at hcut2
  obtain ⟨P, hP⟩ : ∃ P, (if c2 = q then a2 else Option.map (fun x => x.add q) a2) = P := ⟨_, rfl⟩
  obtain ⟨c', hc'⟩ : ∃ c', c2 - q = c' := ⟨_, rfl⟩
  obtain ⟨r, hr⟩ : ∃ r, n - q = r := ⟨_, rfl⟩
  rw [hP, hc'] at hcut2
  have hdl : (xs.drop q).length = r := by rw [List.length_drop, Hn.out, hr]
  have hhe := Fr.run_held m wide (xs.take q) Fr.init
  have hle4 := Fr.run_le m wide (xs.take q) Fr.init 0 (Fr.zero_le _)
  rw [List.length_take] at hhe hle4
  have hh0 : Fr.init.held.length = 0 := rfl
  have hf5 := fun (W : World) (hv : Value) (h : DefAt W m wide D hv (Fr.run m wide Fr.init (xs.take q))) (hr5 : RowAt W P c' (xs.drop q)) => feed_any h P r c' (xs.drop q) hdl (by omega) hr5 hm (Fr.safe_len _ _ _ _ (by rw [hdl]; omega)) (hle4.mono (by omega)) (hcut2.lt.imp_right fun h2 ad e => ⟨by have := h2 ad e; have := HD.out; omega, fun e2 => by have := (h.own.lt _ e2).1; have := h2 ad e; have := HD.out; omega⟩)
  have hall : Fr.all m wide Fr.init xs = Fr.all m wide Fr.init (xs.take q) ++ Fr.all m wide (Fr.run m wide Fr.init (xs.take q)) (xs.drop q) := by
    have := Fr.all_append m wide (xs.take q) (xs.drop q) Fr.init
    rw [List.take_append_drop] at this
    exact this
  have hLxl := Fr.all_len m wide (xs.take q) Fr.init
  have hLyl := Fr.all_len m wide (xs.drop q) (Fr.run m wide Fr.init (xs.take q))
  rw [List.length_take] at hLxl
  rw [hdl] at hLyl
  have hra := fun (W : World) (h : RowAt W a cap xs) => refAll_any m wide a n cap xs W Hn.out hm hn3 h
  rw [hall] at hra
  generalize Fr.all m wide (Fr.run m wide Fr.init (xs.take q)) (xs.drop q) = Ly at hf5 hra hLyl
  generalize Fr.all m wide Fr.init (xs.take q) = Lx at o4 hra hLxl ⊢
  generalize Fr.run m wide (Fr.run m wide Fr.init (xs.take q)) (xs.drop q) = st2 at hf5
  generalize Fr.run m wide Fr.init (xs.take q) = st at h4 hf5
  obtain ⟨X, hX⟩ : ∃ X, X = Lx ++ Ly := ⟨_, rfl⟩
  rw [← hX] at hra
  have HX := Lib.hid hX
  have hLx3 : Lx.length ≤ 3000 := by omega
  have hLy3 : Ly.length ≤ 3000 := by omega
  have b24 := f4.below B3.out (by rw [HD.out]; exact Nat.le_refl _) (fun k e => by cases e)
  have O4 := Lib.hid (ownsRow_next O2.out b24)
  have R4 := R2.out.next b24
  have B14 := Lib.hid (Below.chain B2.out b24)
  have k1 : (convert 26 9 (.slice a2 n c2)).run Try.prog w4 = .ok (.string ⟨xs.toArray⟩) w4 := conv_row Hn.out R4
  have k2 : (convert 26 9 (.slice a n cap)).run Try.prog w4 = .ok (.string ⟨xs.toArray⟩) w4 := conv_row Hn.out (h1.out.next B14.out)
  have hDw3 : D < w3.heap.size := H3.out.lt
  have X4 := Lib.hid o4
  have H4 := Lib.hid h4
  have Hf5 := Lib.hid hf5
  have Hra := Lib.hid hra
  have HP := Lib.hid hP
  have Hc' := Lib.hid hc'
  have Hr := Lib.hid hr
  have Hdr := Lib.hid hdr
  have hw1D : w1.heap.size ≤ D := by have := B2.out.size; have := HD.out; omega
  generalize (⟨xs.toArray⟩ : ByteArray) = S at k1 k2
  clear hX hf5 hra hall hdl hhe hle4 hh0 hcut2 hP hc' hr hdr o4 h4 R4 b24 f4 Hf3 H3 B3 O2 R2 B2 hLxl hLyl
  go_wp2_with fail
  clear k1 k2
  go_loopw [13] (fun i wr => ∃ (k : Nat) (ys : List UInt8), k ≤ q ∧ i = .int .i64 (k : Int) ∧ ys.length = n ∧ Hid (ys.drop q = xs.drop q) ∧ wr.ownsRow w1.heap.size 5 1 (.slice a2 n c2) n (Lib.byteCells ys) ∧ w4.grownBy wr (Value.slice a2 n c2).ownBlock ∧ Below w1.heap.size w4 wr) (fun i _ => q - (intOf i).toNat)
  case atStart => exact ⟨0, xs, Nat.zero_le _, rfl, Hn.out, rfl, O4.out, ⟨rfl, rfl, rfl, Nat.le_refl _, fun _ _ _ => rfl⟩, Below.refl _ _⟩
  case round =>
    obtain ⟨k, ys, hk, rfl, hyl, hyd, hown, hgr, hbw⟩ := hrel
    by_cases hlt : (k : Int) < (q : Int)
    · have hk' : k < n := by omega
      rcases hown.2 with ⟨hv, h0⟩ | ⟨g, c'', cur, hv, hB, _, _, _, _, _⟩
      · omega
      · simp only [Value.slice.injEq, true_and] at hv
        obtain ⟨rfl, rfl⟩ := hv
        have hcell := hown.cellAt k (by omega)
        have hfz := hown.frozenAt k
        have hyk : (Lib.byteCells ys)[k]? = some (.int .u8 ((ys[k]'(by omega)).toNat : Int)) := by simp [Lib.byteCells, hyl, hk']
        rw [hyk] at hcell
        clear hyk
        obtain ⟨y, hy⟩ : ∃ y, y = ys[k]'(by omega) := ⟨_, rfl⟩
        rw [← hy] at hcell
        clear hy
        have hst := hown.stored k (.int .u8 (((y + 1 : UInt8)).toNat : Int))
        rw [← cells_set] at hst
        have hup := up_int y
        generalize (y + 1 : UInt8) = y2 at hst hup
        have hyd2 : (ys.set k y2).drop q = xs.drop q := by rw [List.drop_set_of_lt (by omega)]; exact hyd.out
        have Hyd2 := Lib.hid hyd2
        have Hst := Lib.hid hst
        have Hyl := Lib.hid hyl
        have ikn : (k : Int) < (n : Int) := by omega
        clear hst hyl hyd2
        go_wp2
        go_roundw
        case rel => exact ⟨k + 1, ys.set k y2, by omega, by go_num, by simpa using Hyl.out, Hyd2.out, Hst.out.1, grownBy_trans hgr Hst.out.2, hbw.setCell hB _⟩
        case measure => simp [intOf]; omega
    · have h5 := Lib.hid (H4.out.grown hgr (fun e => by have := hlt2 D e; omega) (fun k e e2 => by have := hlt2 k e; have := (H4.out.own.lt k e2).1; omega))
      have X5 := Lib.hid (X4.out.grown hgr (fun k e => by have := hlt2 k e; omega))
      obtain ⟨a5, c5, he5, r5⟩ := rowAt_own hyl hown
      simp only [Value.slice.injEq, true_and] at he5
      obtain ⟨rfl, rfl⟩ := he5
      have hcut5 := r5.cut q n hqn (by rw [hyl]; exact Nat.le_refl _)
      rw [HP.out, Hc'.out, List.take_of_length_le (by rw [hyl]; exact Nat.le_refl _), hyd.out] at hcut5
      have hf6 := Lib.hid (Hf5.out _ _ h5.out hcut5)
      have B15 := Lib.hid (B14.out.trans hbw)
      have O5 := Lib.hid hown
      have hP := HP.out
      have hc' := Hc'.out
      have hr := Hr.out
      clear hyd hown hgr hbw r5 hcut5 H4 X4 O4 B14 Hf5 HP Hc' Hr Hdr
      have Hyl := Lib.hid hyl
      clear hyl
      go_wp2_with fail
      refine hf6.out.mono ?_
      rintro e w6 ⟨hv6, v6, rfl, o6, h6, f6⟩
      obtain ⟨a6, c6, rfl⟩ := outs_slice o6
      have X6 := Lib.hid (X5.out.fed hDw3 f6)
      have Y6 := Lib.hid o6
      have O6 := Lib.hid (own_fed O5.out f6 (fun k e => ⟨by have := hlt2 k e; omega, fun e2 => by have := hlt2 k e; have := (h5.out.own.lt k e2).1; omega⟩))
      have B16 := Lib.hid (f6.below B15.out hw1D (fun k e => by have := (h5.out.own.lt k e).1; omega))
      have hs5 := f6.size
      have hD5 := h5.out.lt
      clear o6 h6 f6 hf6 X5 h5 O5 B15 hP hc' hr
      go_wp2_with fail
      go_loopw [15] (fun i wr => ∃ (k : Nat) (ys : List UInt8), k ≤ n ∧ i = .int .i64 (k : Int) ∧ ys.length = n ∧ wr.ownsRow w1.heap.size 5 1 (.slice a2 n c2) n (Lib.byteCells ys) ∧ w6.grownBy wr (Value.slice a2 n c2).ownBlock ∧ Below w1.heap.size w6 wr) (fun i _ => n - (intOf i).toNat)
      case atStart => exact ⟨q, ys, hqn, rfl, Hyl.out, O6.out, ⟨rfl, rfl, rfl, Nat.le_refl _, fun _ _ _ => rfl⟩, Below.refl _ _⟩
      case round =>
        obtain ⟨k2, ys2, hk2, rfl, hyl2, hown2, hgr2, hbw2⟩ := hrel
        by_cases hlt3 : (k2 : Int) < (n : Int)
        · have hk' : k2 < n := by omega
          rcases hown2.2 with ⟨hv, h0⟩ | ⟨g, c'', cur, hv, hB, _, _, _, _, _⟩
          · omega
          · simp only [Value.slice.injEq, true_and] at hv
            obtain ⟨rfl, rfl⟩ := hv
            have hcell := hown2.cellAt k2 (by omega)
            have hfz := hown2.frozenAt k2
            have hyk : (Lib.byteCells ys2)[k2]? = some (.int .u8 ((ys2[k2]'(by omega)).toNat : Int)) := by simp [Lib.byteCells, hyl2, hk']
            rw [hyk] at hcell
            clear hyk
            obtain ⟨y, hy⟩ : ∃ y, y = ys2[k2]'(by omega) := ⟨_, rfl⟩
            rw [← hy] at hcell
            clear hy
            have hst := hown2.stored k2 (.int .u8 (((y + 1 : UInt8)).toNat : Int))
            rw [← cells_set] at hst
            have hup := up_int y
            generalize (y + 1 : UInt8) = y2 at hst hup
            have Hst := Lib.hid hst
            have Hyl2 := Lib.hid hyl2
            clear hst hyl2
            go_wp2
            go_roundw
            case rel => exact ⟨k2 + 1, ys2.set k2 y2, by omega, by go_num, by simpa using Hyl2.out, Hst.out.1, grownBy_trans hgr2 Hst.out.2, hbw2.setCell hB _⟩
            case measure => simp [intOf]; omega
        · have X7 := Lib.hid (X6.out.grown hgr2 (fun k e => by have := hlt2 k e; omega))
          have Y7 := Lib.hid (Y6.out.grown hgr2 (fun k e => by have := hlt2 k e; omega))
          have B17 := Lib.hid (B16.out.trans hbw2)
          have hra7 := Lib.hid (Hra.out _ (h1.out.next B17.out))
          clear hown2 hgr2 hbw2 X6 Y6 B16 O6 Hra hyl2
          go_wp2_with fail
          refine hra7.out.mono ?_
          rintro e w8 ⟨tz, pz, cz, rfl, paz, b8⟩
          have X8 := Lib.hid (X7.out.next b8)
          have Y8 := Lib.hid (Y7.out.next b8)
          have P8 := Lib.hid paz
          have B18 := Lib.hid (Below.chain B1.out (B17.out.trans (b8.mono B17.out.size)))
          clear paz b8 X7 Y7 B17 hra7
          have hsame := fun (W : World) (p : Option Addr) (c : Nat) (h1 : PartsAt W p X) (h2 : PartsAt W pz X) => same_any p pz c cz X.length X X W rfl rfl (by rw [HX.out, List.length_append]; omega) h1 h2
          rw [show (X == X) = true by simp] at hsame
          have Hsame := Lib.hid hsame
          clear hsame
          simp only [tcells]
          go_wp2_with (first
            | (at_builtin; refine wpList_append_lst rfl (.tmp 90) (.tmp 91) rfl (w8.heap.size + 1) (fun _ => True) (.slice (some ⟨w8.heap.size + 1, 0, none⟩) 0 0) (.slice a4 Lx.length c4) [] Lx rfl rfl (lst_empty2 w8 _ _) (litems_new X8.out (((Below.refl _ _).alloc (Nat.le_refl _) _).alloc (by simp) _) (fun k e => by simp [Value.ownBlock] at e; omega)) (by simp) (by simp; omega) ?_; intro v11 w11 o11 g11 b11; rw [List.nil_append] at o11; have b811 := Lib.hid (Below.grown (((Below.refl w8.heap.size w8).alloc (Nat.le_refl _) _).alloc (by simp) _) g11 (by simp; omega) (fun k e => by have := b11 k e; omega)); have O11 := Lib.hid o11; have hs11 : w8.heap.size + 1 ≤ w11.heap.size := (by have := g11.size; simp at this; omega); clear o11 g11 b11)
            | (at_builtin; refine wpList_append_lst rfl (.tmp 92) (.tmp 93) rfl (w8.heap.size + 1) (fun _ => True) v11 (.slice a6 Ly.length c6) Lx Ly rfl rfl O11.out (litems_new Y8.out b811.out (fun k e => by have := (O11.out.lt k e).1; omega)) hs11 (by omega) ?_; intro v12 w12 o12 g12 b12; rw [← HX.out] at o12))
          have b812 := Below.grown b811.out g12 b811.out.size (fun k e => by have := b12 k e; omega)
          obtain ⟨p12, c12, rfl, pa12⟩ := o12.parts
          refine (Hsame.out _ _ _ pa12 (P8.out.next b812)).mono ?_
          rintro e w13 ⟨rfl, b13⟩
          have B113 := Lib.hid (Below.chain B18.out (Below.chain b812 b13))
          clear b13 b812 pa12 o12 g12 b12
          go_wp2
          go_ret
          exact ⟨rfl, B113.out⟩
theorem keeps_walk (m : Nat) (wide : Bool) (a : Option Addr) (cap z : Nat) (xs : List UInt8) (w : World) (hm : m < 4294967296) (hz : z < 65536) (h : RowAt w a cap xs) :
    Calls Try.prog 7 #[.slice a xs.length cap, .int .u16 (z : Int), .int .u32 (m : Int), .bool wide] w fun e w' => e = .returned (.bool true) ∧ Below w.heap.size w w' := by
  by_cases hg : (3000 : Int) < (xs.length : Int)
  · exact keeps_long m wide a cap _ z w hg
  · exact keeps_short m wide a cap _ z xs w rfl hm hz h hg
end Go.Proofs.Ythmljgpnkealaaa
