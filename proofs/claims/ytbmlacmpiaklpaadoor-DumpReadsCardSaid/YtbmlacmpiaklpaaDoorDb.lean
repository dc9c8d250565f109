/- Contracts of formOf, may, tooLong and putNumber. -/
import Derived.Test.YtbmlacmpiaklpaaDoorDa
namespace Go.Proofs.YtbmlacmpiaklpaaDoor
open Go.RowKit

theorem form_low (k : Int) (h : k < 0 ∨ 8 ≤ k) : Dm.form k = Dm.fz := by
  unfold Dm.form
  rw [if_neg (by omega), if_neg (by omega), if_neg (by omega), if_neg (by omega)]
theorem formOf_any (k : Int) (w : World) (ht : Tab w) :
    Calls Tryd.prog 18 #[.int .i64 k] w fun e w' => e = .returned (.agg (fcells (Dm.form k)).toArray) ∧ Below w.heap.size w w' := by
  by_cases h : k < 0
  · rw [form_low k (.inl h)]
    go_enter Tryd.func18, Tryd.ntmps18
    go_wp2
    refine bodyPost_ret (results_cell_row Tryd.results18 _ _ w.heap.size 49 (fcells Dm.fz).toArray (0, 0) _ rfl (heap_alloc_new w _) Tryd.underlying49 rfl info49) rfl ?_
    exact ⟨rfl, below_one w _⟩
  · by_cases h8 : 8 ≤ k
    · rw [form_low k (.inr h8)]
      have h8' : k ≥ 8 := h8
      go_enter Tryd.func18, Tryd.ntmps18
      go_wp2
      refine bodyPost_ret (results_cell_row Tryd.results18 _ _ w.heap.size 49 (fcells Dm.fz).toArray (0, 0) _ rfl (heap_alloc_new w _) Tryd.underlying49 rfl info49) rfl ?_
      exact ⟨rfl, below_one w _⟩
    · obtain ⟨n, rfl⟩ := Int.eq_ofNat_of_zero_le (show 0 ≤ k by omega)
      have hn : n < 8 := by omega
      have hr := (ht.next (below_one w (.cells #[.bool false, .int .i64 0, .bool false, .int .u32 0] 49))).at' n hn
      have hr' : Hid (World.rangeAt (w.alloc (.cells #[.bool false, .int .i64 0, .bool false, .int .u32 0] 49)) 0 (n * 4) (fcells (Dm.form (n : Int)))) := hr
      generalize Dm.form ((n : Nat) : Int) = f at *
      clear hr
      go_enter Tryd.func18, Tryd.ntmps18
      go_wp2_with (refine wpList_load_mid rfl 49 (.tmp 11) rfl 0 (n * 4) rfl (fcells f) _ hr'.out Tryd.underlying49 rfl (info49f _) ?_; simp only [fcells])
      refine bodyPost_ret (results_cell_row Tryd.results18 _ _ w.heap.size 49 (fcells f).toArray (0, 0) _ rfl (heap_alloc_new w _) Tryd.underlying49 rfl info49) rfl ?_
      exact ⟨rfl, below_one w _⟩

theorem may_any (x : Dm.Nt) (f : Dm.Fm) (p : Option Addr) (c : Nat) (w : World) :
    Calls Tryd.prog 19 #[.agg (ncells x (.slice p x.data.length c)).toArray, .agg (fcells f).toArray] w fun e w' => e = .returned (.bool (Dm.may x f)) ∧ Below w.heap.size w w' := by
  obtain ⟨k, n, d⟩ := x
  obtain ⟨fk, fs, fd, fm⟩ := f
  simp only [ncells, fcells, Dm.may]
  generalize d.length = m
  cases fk
  · go_enter Tryd.func19, Tryd.ntmps19
    go_wp2
    go_ret
    exact ⟨rfl, below_two w _ _⟩
  · by_cases h : n ≤ fm
    · have h1 : (n : Int) ≤ (fm : Int) := by omega
      cases fd
      · by_cases hm : m = 0
        · have h2 : (m : Int) = 0 := by omega
          go_enter Tryd.func19, Tryd.ntmps19
          go_wp2
          go_ret
          exact ⟨by simp [h, hm], below_two w _ _⟩
        · have h2 : ((m : Int) == 0) = false := by simp; omega
          go_enter Tryd.func19, Tryd.ntmps19
          go_wp2
          go_ret
          exact ⟨by simp [hm], below_two w _ _⟩
      · go_enter Tryd.func19, Tryd.ntmps19
        go_wp2
        go_ret
        exact ⟨by simp [h], below_two w _ _⟩
    · have h1 : ¬ (n : Int) ≤ (fm : Int) := by omega
      go_enter Tryd.func19, Tryd.ntmps19
      go_wp2
      go_ret
      exact ⟨by simp, below_two w _ _⟩

theorem fits_two (m : Nat) : Oc.fits m (2 : Nat) = decide (m < 65536) := Oc.fits_in m 2 (by omega) (by omega)
theorem tooLong_any (x : Dm.Nt) (f : Dm.Fm) (p : Option Addr) (c : Nat) (w : World) (hf : f.Ok) (hm : x.data.length ≤ 300000) :
    Calls Tryd.prog 20 #[.agg (ncells x (.slice p x.data.length c)).toArray, .agg (fcells f).toArray] w fun e w' => e = .returned (.bool (Dm.long x f)) ∧ Below w.heap.size w w' := by
  have hd2 := hf.data
  obtain ⟨k, n, d⟩ := x
  obtain ⟨fk, fs, fd, fm⟩ := f
  simp only [ncells, fcells, Dm.long] at hm hd2 ⊢
  generalize d.length = m at *
  cases fd
  · go_enter Tryd.func20, Tryd.ntmps20
    go_wp2
    go_ret
    exact ⟨rfl, below_two w _ _⟩
  · obtain ⟨rfl, rfl, rfl⟩ := hd2 rfl
    have hw : IntKind.u64.wrap (m : Int) = (m : Int) := by rw [IntKind.wrap_u64]; omega
    have c27 := fun W => fits_any m ((2 : Nat) : Int) W
    have ft := fits_two m
    have hr : (!decide (m < 65536)) = decide (65535 < m) := by by_cases h : m < 65536 <;> simp [h] <;> omega
    go_enter Tryd.func20, Tryd.ntmps20
    go_wp2_with fail
    refine (c27 _).mono ?_
    rintro e w1 ⟨rfl, h1⟩
    rw [h1, ft]
    clear h1
    go_wp2
    go_ret
    exact ⟨rfl, below_two w _ _⟩

theorem putNumber_any (x : Dm.Nt) (p : Option Addr) (c : Nat) (w : World) (hm : x.data.length ≤ 300000) (hn : x.n < 4294967296) (hg : Dm.Good x) :
    Calls Tryd.prog 21 #[.agg (ncells x (.slice p x.data.length c)).toArray, .agg (fcells (Dm.form x.kind)).toArray] w fun e w' => ∃ v, e = .returned v ∧ w'.ownsRow w.heap.size 5 1 v (Dm.nbytes x).length (Lib.byteCells (Dm.nbytes x)) ∧ Below w.heap.size w w' := by
  have hf := Dm.form_ok x.kind
  have hfit := hg.fits
  have hs := hf.size
  have hnb : Dm.nbytes x = Oc.put (Dm.num x (Dm.form x.kind)) (Dm.form x.kind).size true := rfl
  have hnl := Dm.nbytes_length x
  rw [hnl]
  generalize Dm.nbytes x = NB at *
  generalize Dm.form x.kind = f at *
  obtain ⟨k, n, d⟩ := x
  obtain ⟨fk, fs, fd, fm⟩ := f
  simp only [ncells, fcells, Dm.num] at *
  generalize d.length = m at *
  have hw : IntKind.u64.wrap (m : Int) = (m : Int) := by rw [IntKind.wrap_u64]; omega
  have hw2 : IntKind.u64.wrap (n : Int) = (n : Int) := by rw [IntKind.wrap_u64]; omega
  obtain ⟨q, hq⟩ : ∃ q, (if fd = true then m else n) = q := ⟨_, rfl⟩
  rw [hq] at hfit hnb
  have c28 : ∀ W : World, Calls Tryd.prog 28 #[.int .u64 (q : Int), .int .i64 (fs : Int), .bool true] W fun e w' => ∃ v b, e = .returned (.tuple #[v, .bool b]) ∧ w'.ownsRow W.heap.size 5 1 v fs (Lib.byteCells NB) ∧ Below W.heap.size W w' := fun W => by
    by_cases h0 : fs = 0
    · subst h0
      refine (put_not q ((0 : Nat) : Int) true W (by simp [Oc.fits])).mono ?_
      rintro e w1 ⟨rfl, rfl⟩
      refine ⟨_, _, rfl, ?_, Below.refl _ _⟩
      rw [hnb, Oc.put_zero]
      exact World.ownsRow_nil _ _ _ _
    · refine (put_fits q fs true W (by omega) (by omega) hfit).mono ?_
      rintro e w1 ⟨v, rfl, o1, b1⟩
      exact ⟨v, true, rfl, by rw [hnb]; exact o1, b1⟩
  have C := Lib.hid c28
  clear hnb hfit c28
  cases fd
  · simp at hq
    subst hq
    go_enter Tryd.func21, Tryd.ntmps21
    go_wp2_with fail
    refine (C.out _).mono ?_
    rintro e w1 ⟨v, b, rfl, o1, b1⟩
    have B1 := Lib.hid (Below.chain (below_two w _ _) b1)
    have O1 := Lib.hid (ownsRow_lower (base' := w.heap.size) o1 (by simp; omega))
    clear o1 b1
    go_wp2
    go_ret
    exact ⟨_, rfl, O1.out, B1.out⟩
  · simp at hq
    subst hq
    go_enter Tryd.func21, Tryd.ntmps21
    go_wp2_with fail
    refine (C.out _).mono ?_
    rintro e w1 ⟨v, b, rfl, o1, b1⟩
    have B1 := Lib.hid (Below.chain (below_two w _ _) b1)
    have O1 := Lib.hid (ownsRow_lower (base' := w.heap.size) o1 (by simp; omega))
    clear o1 b1
    go_wp2
    go_ret
    exact ⟨_, rfl, O1.out, B1.out⟩
end Go.Proofs.YtbmlacmpiaklpaaDoor
