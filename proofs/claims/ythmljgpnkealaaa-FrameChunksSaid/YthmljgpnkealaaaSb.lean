/- Contracts of fill, Size and Stuff. -/
import Derived.Test.YthmljgpnkealaaaSa
namespace Go.Proofs.Ythmljgpnkealaaa
open Go.RowKit

set_option maxHeartbeats 1000000 in
theorem fill_some (R b off cap m : Nat) (v : Value) (ys xs : List UInt8) (w : World) (hm : m < 4294967296) (hx : xs.length ≤ 100000) (hy : ys.length ≤ 1000000) (hR : R ≤ w.heap.size) (hb : b < R)
    (hc : ∀ j (h : j < xs.length), w.cell? ⟨b, off + j, none⟩ = some (.int .u8 (xs[j].toNat : Int))) (ho : w.ownsRow R 5 1 v ys.length (Lib.byteCells ys)) :
    Calls Try.prog 30 #[v, .slice (some ⟨b, off, none⟩) xs.length cap, .int .u32 (m : Int)] w fun e w' => e = .returned (.int .i64 ((St.stuff m xs).length : Nat)) ∧ w'.ownsRow R 5 1 v ys.length (Lib.byteCells (St.over ys 0 (St.stuff m xs))) ∧ Below R w w' := by
  have Hc := Lib.hid hc
  have Ho := Lib.hid ho
  clear hc ho
  go_enter Try.func30, Try.ntmps30
  go_wp2_with fail
  refine (writer_any R v ys _ Ho.out).mono ?_
  rintro e w1 ⟨rfl, hw1, b1, _⟩
  replace b1 := b1.mono hR
  have hBn : R ≤ w.heap.size + 1 := by omega
  generalize w.heap.size + 1 = Bn at hw1 hBn ⊢
  generalize w.heap.size = Br at hw1 ⊢
  unfold wrV
  have Hw1 := Lib.hid hw1
  clear hw1
  go_wp2_with fail
  go_loopw [8, 15] (fun nv i wr => ∃ k : Nat, k ≤ xs.length ∧ i = .int .i64 (k : Int) ∧ nv = .int .i64 ((St.stuff m (xs.take k)).length : Nat) ∧ WrAt wr R Br Bn v (St.stuff m (xs.take k)).length (St.over ys 0 (St.stuff m (xs.take k))) ∧ Below R w wr) (fun _ i _ => xs.length - (intOf i).toNat)
  case atStart => exact ⟨0, Nat.zero_le _, rfl, rfl, Hw1.out, b1⟩
  case round =>
    obtain ⟨k, hk, rfl, rfl, hwr, hbw⟩ := hrel
    clear Hw1 b1
    by_cases hlt : (k : Int) < (xs.length : Int)
    · have hk' : k < xs.length := by omega
      have hcell : wr.cell? ⟨b, off + k, none⟩ = some (.int .u8 (xs[k].toNat : Int)) := by rw [hbw.cell (p := ⟨b, off + k, none⟩) hb]; exact Hc.out k hk'
      have hst := St.stuff_take m xs k hk'
      have hle := (St.stuff_le m (xs.take k)).2
      rw [List.length_take] at hle
      have hlo := St.over_len (St.stuff m (xs.take k)) ys 0
      obtain ⟨x, hxk⟩ : ∃ x, x = xs[k] := ⟨_, rfl⟩
      rw [← hxk] at hcell hst
      clear hxk
      obtain ⟨S, hS⟩ : ∃ S, S = St.stuff m (xs.take k) := ⟨_, rfl⟩
      rw [← hS] at hst hwr hle hlo
      clear hS
      have Hst := Lib.hid hst
      have Hwr := Lib.hid hwr
      clear hst hwr
      have hS2 : S.length ≤ 200000 := by omega
      clear hle
      cases hap : Ac.apart m x.toNat with
      | true =>
        have h1 := St.one_in m x hap
        have H1 := Lib.hid h1
        have hap' := Lib.hid hap
        clear h1 hap
        go_wp2_with fail
        have hh := apart_any m x.toNat wr hm
        rw [hap'.out] at hh
        refine hh.mono ?_
        rintro e w2 ⟨rfl, h2⟩
        rw [h2]
        clear h2 hh
        go_wp2_with fail
        refine (write_any R Br Bn R _ v _ 125 wr Hwr.out (by rw [hlo]; exact hy) (by omega) (Nat.le_refl _) hBn).mono ?_
        rintro e w3 ⟨rfl, hw3, b3⟩
        have hx32 := St.tn_int x
        obtain ⟨x2, hx2⟩ : ∃ x2, x2 = St.tn x := ⟨_, rfl⟩
        rw [← hx2] at hx32
        have Hx2 := Lib.hid hx2
        have Hw3 := Lib.hid hw3
        clear hx2 hw3
        go_wp2_with fail
        refine (write_any R Br Bn R _ v _ x2 w3 Hw3.out (by rw [List.length_set, hlo]; exact hy) (by omega) (Nat.le_refl _) hBn).mono ?_
        rintro e w4 ⟨rfl, hw4, b4⟩
        have e4 : St.stuff m (xs.take (k + 1)) = S ++ [125, x2] := by rw [Hst.out, H1.out, Hx2.out]
        have hw5 : WrAt w4 R Br Bn v (St.stuff m (xs.take (k + 1))).length (St.over ys 0 (St.stuff m (xs.take (k + 1)))) := by
          rw [e4, St.over_two, List.length_append]; exact hw4
        have hl5 : S.length + 1 + 1 = (St.stuff m (xs.take (k + 1))).length := by rw [e4, List.length_append]; rfl
        rw [hl5]
        have H5 := Lib.hid hw5
        clear hw5 hw4 e4 hl5
        go_wp2
        go_roundw
        case rel => exact ⟨k + 1, by omega, by go_num, rfl, H5.out, hbw.trans (b3.trans b4)⟩
        case measure => simp [intOf]; omega
      | false =>
        have h1 := St.one_out m x hap
        have H1 := Lib.hid h1
        have hap' := Lib.hid hap
        clear h1 hap
        go_wp2_with fail
        have hh := apart_any m x.toNat wr hm
        rw [hap'.out] at hh
        refine hh.mono ?_
        rintro e w2 ⟨rfl, h2⟩
        rw [h2]
        clear h2 hh
        go_wp2_with fail
        refine (write_any R Br Bn R _ v _ x wr Hwr.out (by rw [hlo]; exact hy) (by omega) (Nat.le_refl _) hBn).mono ?_
        rintro e w4 ⟨rfl, hw4, b4⟩
        have e4 : St.stuff m (xs.take (k + 1)) = S ++ [x] := by rw [Hst.out, H1.out]
        have hw5 : WrAt w4 R Br Bn v (St.stuff m (xs.take (k + 1))).length (St.over ys 0 (St.stuff m (xs.take (k + 1)))) := by
          rw [e4, St.over_one, List.length_append]; exact hw4
        have hl5 : S.length + 1 = (St.stuff m (xs.take (k + 1))).length := by rw [e4, List.length_append]; rfl
        rw [hl5]
        have H5 := Lib.hid hw5
        clear hw5 hw4 e4 hl5
        go_wp2
        go_roundw
        case rel => exact ⟨k + 1, by omega, by go_num, rfl, H5.out, hbw.trans b4⟩
        case measure => simp [intOf]; omega
    · have hks : k = xs.length := by omega
      rw [hks, List.take_length] at hwr
      have Hwr := Lib.hid hwr
      clear hwr
      go_wp2
      go_ret
      refine ⟨ret_int rfl, ?_, hbw⟩
      have := Hwr.out.own
      rw [St.over_len] at this
      exact this
theorem own_mono {w : World} {B B' n : Nat} {v : Value} {xs : List Value} (h : w.ownsRow B 5 1 v n xs) (hB : B' ≤ B) : w.ownsRow B' 5 1 v n xs := by
  obtain ⟨h1, h2⟩ := h
  refine ⟨h1, ?_⟩
  rcases h2 with h2 | ⟨g, cap, cur, a, b, r⟩
  · exact .inl h2
  · exact .inr ⟨g, cap, cur, a, Nat.le_trans hB b, r⟩
/-- A row that was made. -/
theorem made_row {w : World} {B q : Nat} {v : Value} (h : w.ownsRow B 5 1 v q (madeCells (Value.int .u8 0).cells (q * 1)).toList) : w.ownsRow B 5 1 v (List.replicate q (0 : UInt8)).length (Lib.byteCells (List.replicate q 0)) := by
  have e : Lib.byteCells (List.replicate q 0) = (madeCells (Value.int .u8 0).cells (q * 1)).toList := by
    rw [Nat.mul_one, show (Value.int .u8 0).cells = #[.int .u8 0] from rfl, toList_madeCells_one]; simp [Lib.byteCells]
  rw [e, List.length_replicate]
  exact h
theorem fill_none (R cap m : Nat) (a : Option Addr) (v : Value) (ys : List UInt8) (w : World) (hR : R ≤ w.heap.size) (ho : w.ownsRow R 5 1 v ys.length (Lib.byteCells ys)) :
    Calls Try.prog 30 #[v, .slice a 0 cap, .int .u32 (m : Int)] w fun e w' => e = .returned (.int .i64 0) ∧ w'.ownsRow R 5 1 v ys.length (Lib.byteCells ys) ∧ Below R w w' := by
  have Ho := Lib.hid ho
  clear ho
  go_enter Try.func30, Try.ntmps30
  go_wp2_with fail
  refine (writer_any R v ys _ Ho.out).mono ?_
  rintro e w1 ⟨rfl, hw1, b1, _⟩
  replace b1 := b1.mono hR
  have H1 := Lib.hid hw1.own
  clear hw1
  generalize w.heap.size + 1 = Bn
  generalize w.heap.size = Br
  unfold wrV
  go_wp2
  go_loop [8, 15] (fun v i => i = .int .i64 0 ∧ v = .int .i64 0) (fun _ _ => 0)
  case atStart => exact ⟨rfl, rfl⟩
  case round =>
    obtain ⟨rfl, rfl⟩ := hrel
    go_wp2
    go_ret
    exact ⟨rfl, H1.out, b1⟩
/-- fill, of whatever slice that lies below the room. -/
theorem fill_any (R cap m n : Nat) (a : Option Addr) (v : Value) (ys xs : List UInt8) (w w0 : World) (hn : xs.length = n) (hm : m < 4294967296) (hx : n ≤ 100000) (hy : ys.length ≤ 1000000) (hr : RowAt w0 a cap xs) (hR : R = w0.heap.size) (hb : Below R w0 w) (ho : w.ownsRow R 5 1 v ys.length (Lib.byteCells ys)) :
    Calls Try.prog 30 #[v, .slice a n cap, .int .u32 (m : Int)] w fun e w' => e = .returned (.int .i64 ((St.stuff m xs).length : Nat)) ∧ w'.ownsRow R 5 1 v ys.length (Lib.byteCells (St.over ys 0 (St.stuff m xs))) ∧ Below R w w' := by
  subst hn
  subst hR
  rcases hr.bytes with rfl | ⟨b, off, rfl, hbl, hc⟩
  · exact fill_none _ cap m a v ys w hb.size ho
  · exact fill_some _ b off cap m v ys xs w hm hx hy hb.size hbl (fun j hj => by rw [hb.cell (p := ⟨b, off + j, none⟩) hbl]; exact hc j hj) ho

theorem ssize_any (cap m n : Nat) (a : Option Addr) (xs : List UInt8) (w : World) (hn : xs.length = n) (hm : m < 4294967296) (hx : n ≤ 100000) (hr : RowAt w a cap xs) :
    Calls Try.prog 29 #[.slice a n cap, .int .u32 (m : Int)] w fun e w' => e = .returned (.int .i64 ((St.stuff m xs).length : Nat)) ∧ Below w.heap.size w w' := by
  have hf := Lib.hid (fill_any w.heap.size cap m n a (.slice none 0 0) [] xs w w hn hm hx (by simp) hr rfl (Below.refl _ _) (World.ownsRow_nil _ _ _ _))
  clear hr hn
  generalize (St.stuff m xs).length = q at hf ⊢
  go_enter Try.func29, Try.ntmps29
  go_wp2_with fail
  refine hf.out.mono ?_
  rintro e w1 ⟨rfl, _, b1⟩
  go_wp2
  go_ret
  exact ⟨rfl, b1⟩

set_option maxHeartbeats 1000000 in
theorem stuff_own (cap m n : Nat) (a : Option Addr) (xs : List UInt8) (w : World) (hn : xs.length = n) (hm : m < 4294967296) (hx : n ≤ 100000) (hr : RowAt w a cap xs) :
    Calls Try.prog 21 #[.slice a n cap, .int .u32 (m : Int)] w fun e w' => ∃ v, e = .returned v ∧ w'.ownsRow w.heap.size 5 1 v (St.stuff m xs).length (Lib.byteCells (St.stuff m xs)) ∧ Below w.heap.size w w' := by
  obtain ⟨i0, hi, hz0, hz1, hz2⟩ := info_parts info5
  have hle := (St.stuff_le m xs).2
  have hs := Lib.hid (ssize_any cap m n a xs w hn hm hx hr)
  have hf := fun (W : World) (v : Value) (ys : List UInt8) (w0 : World) hy hr hR hb ho => fill_any w0.heap.size cap m n a v ys xs W w0 hn hm hx hy hr hR hb ho
  have Hf := Lib.hid hf
  have Hr := Lib.hid hr
  have Hall := Lib.hid (St.over_all (St.stuff m xs))
  clear hr hf
  generalize St.stuff m xs = Z at hs Hf Hall hle ⊢
  obtain ⟨q, hq⟩ : ∃ q, Z.length = q := ⟨_, rfl⟩
  rw [hn] at hle
  rw [hq] at hs hle ⊢
  have Hq := Lib.hid hq
  clear hq hn
  go_enter Try.func21, Try.ntmps21
  go_wp2_with fail
  refine hs.out.mono ?_
  rintro e w1 ⟨rfl, b1⟩
  have hr1 := Lib.hid (Hr.out.next b1)
  go_wp2_with (at_make; refine wpList_make_full _ rfl _ _ 26 rfl w1.heap.size 5 i0 (.int .u8 0) 1 Try.underlying26 hi hz0 hz1 .i64 .i64 _ _ q rfl rfl (by omega) (by omega) (by rw [hz2]; omega) (by unfold maxLen; omega) (Nat.le_refl _) ?_; intro w2 hown hgr)
  have b2 : Below w1.heap.size w1 w2 := (Below.refl _ _).grown hgr (Nat.le_refl _) (fun k h => by cases h)
  have ho := Lib.hid (made_row hown)
  clear hown hgr
  refine (Hf.out w2 _ (List.replicate q 0) w1 (by simp; omega) hr1.out trivial b2 ho.out).mono ?_
  rintro e w3 ⟨rfl, o3, b3⟩
  rw [Hall.out _ (by rw [Hq.out]; simp), List.length_replicate] at o3
  have O3 := Lib.hid (own_mono o3 b1.size)
  have B3 := Lib.hid (b1.trans ((b2.trans b3).mono b1.size))
  clear o3 b3
  go_wp2
  go_ret
  exact ⟨_, rfl, O3.out, B3.out⟩
theorem stuff_row (cap m n q : Nat) (a : Option Addr) (xs : List UInt8) (w : World) (hn : xs.length = n) (hm : m < 4294967296) (hx : n ≤ 100000) (hr : RowAt w a cap xs) (hq : (St.stuff m xs).length = q) :
    Calls Try.prog 21 #[.slice a n cap, .int .u32 (m : Int)] w fun e w' => ∃ a' c', e = .returned (.slice a' q c') ∧ RowAt w' a' c' (St.stuff m xs) ∧ Below w.heap.size w w' := by
  refine (stuff_own cap m n a xs w hn hm hx hr).mono ?_
  rintro e w' ⟨v, rfl, o, b⟩
  obtain ⟨a', c', rfl, r⟩ := rowAt_own rfl o
  exact ⟨a', c', by rw [hq], r, b⟩
end Go.Proofs.Ythmljgpnkealaaa
