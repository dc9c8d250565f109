/- Contract of Next. -/
import Derived.Test.YtbmlacmpiaklpaaDoorDb
namespace Go.Proofs.YtbmlacmpiaklpaaDoor
open Go.RowKit

theorem get_upto (a : Option Addr) (n c : Nat) (xs : List UInt8) (w : World) (hn : xs.length = n) (h8 : n ≤ 8) (h : RowAt w a c xs) :
    Calls Tryd.prog 26 #[.slice a n c, .bool true] w fun e w' => ∃ b, e = .returned (.tuple #[.int .u64 (Oc.get xs true : Nat), .bool b]) ∧ w' = w := by
  subst hn
  by_cases h0 : xs.length < 1
  · have : xs = [] := List.eq_nil_of_length_eq_zero (by omega)
    subst this
    exact (get_few a 0 c true w (.inl (by omega))).mono fun e w' h => ⟨false, h.1, h.2⟩
  · exact (get_at a c xs true w (by omega) h8 h.bytes).mono fun e w' h => ⟨true, h.1, h.2⟩
theorem kd_cell {w : World} {b off c : Nat} {xs : List UInt8} (h : RowAt w (some ⟨b, off, none⟩) c xs) (h0 : 0 < xs.length) : w.cell? ⟨b, off, none⟩ = some (.int .u8 (Dm.kd xs : Nat)) := by
  have := h.cell _ rfl 0 (.int .u8 (Dm.kd xs : Nat)) (by
    cases xs with
    | nil => simp at h0
    | cons x l => simp [Lib.byteCells, Dm.kd])
  rw [Go.WideShapes.add_plain, Nat.add_zero] at this
  exact this

theorem RowAt.some {w : World} {a : Option Addr} {c : Nat} {xs : List UInt8} (h : RowAt w a c xs) (h0 : 0 < xs.length) : ∃ b off, a = some ⟨b, off, none⟩ := by
  rcases h.bytes with rfl | ⟨b, off, rfl, _⟩
  · simp at h0
  · exact ⟨b, off, rfl⟩

set_option maxRecDepth 100000 in
set_option maxHeartbeats 2000000 in
theorem next_any (a : Option Addr) (n cap : Nat) (xs : List UInt8) (w : World) (hn : xs.length = n) (hm : n ≤ 300000) (h : RowAt w a cap xs) (ht : Tab w) :
    Calls Tryd.prog 15 #[.slice a n cap] w fun e w' => NextRes w w' e (Dm.next xs) := by
  by_cases h0 : n = 0
  · subst h0
    rw [Dm.next_end xs hn]
    go_enter Tryd.func15, Tryd.ntmps15
    go_wp2
    exact bodyPost_ret (note_ret0 (r := Dm.nz) (v := .slice none 0 0) (k := 0) (e := 2) Tryd.results15 rfl rfl rfl) rfl (next_none (below_one w _))
  · have i0 : ((n : Int) == 0) = false := by simp; omega
    have i1 : 0 < n := by omega
    obtain ⟨b, off, rfl⟩ := h.some (by omega)
    have hk1 := kd_cell h (by omega)
    have hk2 := (below_one w (.cells #[.int .i64 0, .int .u32 0, .slice none 0 0] 37)).cell (p := ⟨b, off, none⟩) (World.block_lt_of_cell? w _ hk1)
    rw [hk1] at hk2
    have q1 := Dm.next_kind xs (by omega)
    have q2 := Dm.next_short xs (by omega)
    have q3 := Dm.next_word xs (by omega)
    have q4 := Dm.next_cut xs (by omega)
    have q5 := Dm.next_good xs (by omega)
    have hv := Dm.vl_lt xs
    have hkl := Dm.kd_lt xs
    have hfo : (Dm.fm xs).Ok := Dm.form_ok _
    have c18 := fun W h => formOf_any (Dm.kd xs : Nat) W h
    have c25 : ¬ n < 1 + (Dm.fm xs).size → ∀ W, RowAt W (some ⟨b, off, none⟩) cap xs → _ := fun hle W h => cut_good (some ⟨b, off, none⟩) cap xs 1 (Dm.fm xs).size W (by omega) (by omega) h
    have c25b : n < 1 + (Dm.fm xs).size → ∀ W, _ := fun hle W => cut_bad (some ⟨b, off, none⟩) n cap 1 ((Dm.fm xs).size : Int) W (by omega) (by omega) (by omega) (.inr (.inr (by omega)))
    have c26 := fun A C W (hl : ((xs.drop 1).take (Dm.fm xs).size).length = (Dm.fm xs).size) (hs : (Dm.fm xs).size ≤ 8) h => get_upto A (Dm.fm xs).size C ((xs.drop 1).take (Dm.fm xs).size) W hl hs h
    have hl1 : ¬ n < 1 + (Dm.fm xs).size → ((xs.drop 1).take (Dm.fm xs).size).length = (Dm.fm xs).size := fun hle => by simp; omega
    have hvl : Oc.get ((xs.drop 1).take (Dm.fm xs).size) true = Dm.vl xs := rfl
    have c25c : ¬ n < 1 + (Dm.fm xs).size + Dm.vl xs → ∀ W, RowAt W (some ⟨b, off, none⟩) cap xs → _ := fun hle W h => cut_good (some ⟨b, off, none⟩) cap xs (1 + (Dm.fm xs).size) (Dm.vl xs) W (by omega) (by omega) h
    have c25d : n < 1 + (Dm.fm xs).size + Dm.vl xs → ∀ W, _ := fun hle W => cut_bad (some ⟨b, off, none⟩) n cap ((1 + (Dm.fm xs).size : Nat) : Int) (Dm.vl xs : Int) W (by omega) (by omega) (by have := hfo.size; omega) (.inr (.inr (by omega)))
    have hl2 : ¬ n < 1 + (Dm.fm xs).size + Dm.vl xs → ((xs.drop (1 + (Dm.fm xs).size)).take (Dm.vl xs)).length = Dm.vl xs := fun hle => by simp; omega
    rw [hvl] at c26
    rw [hn] at q2 q3 q4 q5 c25 c25c
    rw [show Dm.form ((Dm.kd xs : Nat) : Int) = Dm.fm xs from rfl] at c18
    clear hvl
    generalize Dm.next xs = A at *
    generalize (xs.drop (1 + (Dm.fm xs).size)).take (Dm.vl xs) = ys at *
    generalize (xs.drop 1).take (Dm.fm xs).size = zs at *
    generalize Dm.vl xs = v at *
    generalize Dm.kd xs = kd at *
    generalize Dm.fm xs = f at *
    have hfs := hfo.size
    have H := Lib.hid h
    have HT := Lib.hid ht
    obtain ⟨fk, fs, fd, fm⟩ := f
    simp only [fcells] at *
    have e1 : ((1 + fs : Nat) : Int) = 1 + (fs : Int) := by omega
    simp only [e1] at c25c c25d
    have Q1 := Lib.hid q1
    have Q2 := Lib.hid q2
    have Q3 := Lib.hid q3
    have Q4 := Lib.hid q4
    have Q5 := Lib.hid q5
    have C18 := Lib.hid c18
    have C25 := Lib.hid c25
    have C25b := Lib.hid c25b
    have C26 := Lib.hid c26
    have C25c := Lib.hid c25c
    have C25d := Lib.hid c25d
    have L1 := Lib.hid hl1
    have L2 := Lib.hid hl2
    have HN := Lib.hid hn
    clear q1 q2 q3 q4 q5 c18 c25 c25b c26 c25c c25d hl1 hl2 h ht hfo hn
    go_enter Tryd.func15, Tryd.ntmps15
    go_wp2_with fail
    refine (C18.out _ (HT.out.next (below_one w _))).mono ?_
    rintro e w1 ⟨rfl, b1⟩
    have hR1 := first_kept b1
    have hB1 := below_alloc b1
    clear b1 C18 hk1 hk2
    have hB2 := Below.chain hB1 (below_one w1 (.cells #[.bool fk, .int .i64 (fs : Int), .bool fd, .int .u32 (fm : Int)] 49))
    have hR2 := block_next hR1 (below_one w1 (.cells #[.bool fk, .int .i64 (fs : Int), .bool fd, .int .u32 (fm : Int)] 49))
    have hT2 : (w1.alloc (.cells #[.bool fk, .int .i64 (fs : Int), .bool fd, .int .u32 (fm : Int)] 49)).heap[w1.heap.size]? = _ := heap_alloc_new w1 _
    have HB2 := Lib.hid hB2
    have HR2 := Lib.hid hR2
    have HT2 := Lib.hid hT2
    clear hB2 hR2 hT2
    cases fk
    · obtain rfl := Q1.out rfl
      clear Q1 Q2 Q3 Q4 Q5 C25 C25b C26 C25c C25d L1 L2 HN
      go_wp2_with (refine wpList_store_note rfl (.tmp 2) (.tmp 26) rfl w.heap.size Dm.nz none 0 0 _ rfl rfl HR2.out rfl ?_)
      exact bodyPost_ret (note_ret (r := Dm.nz) (v := .slice none 0 0) (k := 0) (e := 7) Tryd.results15 rfl rfl rfl HR2.out) rfl (next_none (below_setRow HB2.out (Nat.le_refl _) _))
    · by_cases hs : n < 1 + fs
      · obtain rfl := Q2.out rfl hs
        clear Q1 Q2 Q3 Q4 Q5 C25 C26 C25c C25d L1 L2 HN
        go_wp2_with fail
        refine (C25b.out hs _).mono ?_
        rintro e w2 ⟨rfl, h2⟩
        rw [h2]
        clear h2 C25b
        go_wp2_with (refine wpList_store_note rfl (.tmp 2) (.tmp 36) rfl w.heap.size Dm.nz none 0 0 _ rfl rfl HR2.out rfl ?_)
        exact bodyPost_ret (note_ret (r := Dm.nz) (v := .slice none 0 0) (k := 0) (e := 2) Tryd.results15 rfl rfl rfl HR2.out) rfl (next_none (below_setRow HB2.out (Nat.le_refl _) _))
      · have hl := L1.out hs
        clear Q1 Q2 C25b
        go_wp2_with fail
        refine (C25.out hs _ (H.out.next HB2.out)).mono ?_
        rintro e w3 ⟨u, rfl, o3, b3⟩
        have HB3 := Lib.hid (Below.chain HB2.out b3)
        have HR3 := Lib.hid (block_next HR2.out b3)
        have hT3 := block_next HT2.out b3
        have d1 : w3.cell? ⟨w1.heap.size, 1, none⟩ = some (.int .i64 (fs : Int)) := cell_of_row _ _ _ _ _ _ hT3
        have d2 : w3.cell? ⟨w1.heap.size, 2, none⟩ = some (.bool fd) := cell_of_row _ _ _ _ _ _ hT3
        obtain ⟨pz, cz, rfl, rz⟩ := rowAt_own hl o3
        have RZ := Lib.hid rz
        clear o3 b3 hT3 rz C25
        go_wp2_with fail
        refine (C26.out pz cz _ hl (by omega) RZ.out).mono ?_
        rintro e w4 ⟨bb, rfl, h4⟩
        rw [h4]
        clear h4 C26 RZ
        have hw1 : IntKind.u32.wrap (v : Int) = (v : Int) := by rw [IntKind.wrap_u32]; omega
        have hw2 : IntKind.i64.wrap (v : Int) = (v : Int) := by rw [IntKind.wrap_i64]; omega
        cases fd
        · obtain rfl := Q3.out (by trivial) hs (by trivial)
          clear Q3 Q4 Q5 C25c C25d L1 L2 HN
          go_wp2_with (refine wpList_store_note rfl (.tmp 2) (.tmp 51) rfl w.heap.size ⟨(kd : Int), v, []⟩ none 0 0 _ rfl rfl HR3.out rfl ?_)
          exact bodyPost_ret (note_ret (r := ⟨(kd : Int), v, []⟩) (v := .slice none 0 0) (k := 1 + fs) (e := 0) Tryd.results15 rfl (congrArg (Value.int .i64) e1.symm) rfl HR3.out) rfl ⟨_, rfl, World.ownsRow_nil _ _ _ _, below_setRow HB3.out (Nat.le_refl _) _⟩
        · by_cases hs2 : n < 1 + fs + v
          · obtain rfl := Q4.out (by trivial) hs (by trivial) hs2
            clear Q3 Q4 Q5 C25c L1 L2 HN
            go_wp2_with fail
            refine (C25d.out hs2 _).mono ?_
            rintro e w5 ⟨rfl, h5⟩
            rw [h5]
            clear h5 C25d
            go_wp2_with (refine wpList_store_note rfl (.tmp 2) (.tmp 63) rfl w.heap.size Dm.nz none 0 0 _ rfl rfl HR3.out rfl ?_)
            exact bodyPost_ret (note_ret (r := Dm.nz) (v := .slice none 0 0) (k := 0) (e := 2) Tryd.results15 rfl rfl rfl HR3.out) rfl (next_none (below_setRow HB3.out (Nat.le_refl _) _))
          · obtain rfl := Q5.out (by trivial) hs (by trivial) hs2
            have hy := L2.out hs2
            clear Q3 Q4 Q5 C25d L1 L2 HN
            go_wp2_with fail
            refine (C25c.out hs2 _ (H.out.next HB3.out)).mono ?_
            rintro e w5 ⟨u5, rfl, o5, b5⟩
            have HB5 := Lib.hid (Below.chain HB3.out b5)
            have HR5 := Lib.hid (block_next HR3.out b5)
            have hrl := lt_of_block HR3.out
            have hge := HB3.out.size
            have O5 := Lib.hid (fun cs => ownsRow_lower (base' := w.heap.size) (ownsRow_setRow o5 hrl cs) hge)
            obtain ⟨p, c, rfl⟩ := own_slice o5
            clear o5 b5 d1 d2 C25c
            go_wp2_with (refine wpList_store_note rfl (.tmp 2) (.tmp 66) rfl w.heap.size ⟨(kd : Int), 0, ys⟩ p v c _ rfl rfl HR5.out rfl ?_)
            refine bodyPost_ret (note_ret (r := ⟨(kd : Int), 0, ys⟩) (v := .slice p v c) (k := 1 + fs + v) (e := 0) Tryd.results15 rfl ?_ rfl HR5.out) rfl ⟨_, rfl, by rw [← hy] at O5 ⊢; exact O5.out _, below_setRow HB5.out (Nat.le_refl _) _⟩
            show Value.int .i64 _ = _
            first | rfl | (congr 1; omega)
end Go.Proofs.YtbmlacmpiaklpaaDoor
