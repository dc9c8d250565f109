/- Contracts of readProto, Read and Body. -/
import Derived.Test.YtphamnpafafpkaaHa
import Derived.Test.YtphamnpafafpkaaHeld
import Derived.Deep.WholeRow
namespace Go.Proofs.Ytphamnpafafpkaa
open Go.RowKit

/-- A head's cells. -/
def hcells (p t : Nat) : List Value := [.int .i64 (p : Int), .int .i64 (t : Int)]
theorem info31 : (Try.prog.info? 31).map (·.size) = some 2 := by kernel_rfl
theorem hcells_one (p t : Nat) : (hcells p t).toArray.all (·.oneCell') = true := by rw [List.all_toArray]; simp [hcells, Value.oneCell']

/-- Two results, the first one in a cell. -/
theorem results_cell_tmp_row {P : Program} {fn : Func} {q p : Tmp} {ty : TypeId} (h : fn.results = #[.cell p ty, .tmp q]) (tmps : Array Value) (w : World) (g : Nat) (t : TypeId) (cs : Array Value) (fr : Nat × Nat) (d : TypeDesc)
    (hp : tmps.getD p undef = .pointer (some ⟨g, 0, none⟩)) (hg : w.heap[g]? = some (.cells cs t fr))
    (hu : P.underlying ty = some d) (hd : (match d with | .struct _ | .array _ _ => true | _ => false) = true) (hi : (P.info? ty).map (·.size) = some cs.size) :
    (results fn tmps).run P w = .ok (.tuple #[.agg cs, tmps.getD q undef]) w := by
  have hp' : tmps[p]?.getD undef = .pointer (some ⟨g, 0, none⟩) := by simpa using hp
  simp [results, h, hp', asAddr, run_loadVar_row w g t ty cs fr d hg hu hd hi]

theorem wpList_store_head {w : World} {ops : Array Oper} {rest : List Oper} {o : Oper} {a : Act} {Q : Exit → Act → World → Prop} (hgd : o.guard = none) (x y : Operand) (ho : o.op = .store 31 x y) (R p t : Nat) (cur : Array Value)
    (hx : a.eval x = .pointer (some ⟨R, 0, none⟩)) (hy : a.eval y = .agg (hcells p t).toArray) (hR : w.heap[R]? = some (.cells cur 31 (0, 0))) (hcur : cur.size = 2)
    (h : wpList Try.prog ops Q rest (a.put o.dst undef) (w.setRow R (hcells p t).toArray)) : wpList Try.prog ops Q (o :: rest) a w :=
  wpList_store_row hgd 31 x y ho R _ hx hy 31 cur hR info31 hcur (hcells_one p t) h

/-- What is read. -/
def HeadRes (w w' : World) (e : Ending) (p t r : Nat) : Prop := e = .returned (.tuple #[.agg (hcells p t).toArray, .int .i64 (r : Int)]) ∧ Below w.heap.size w w'

theorem head_ret {w w' : World} {fn : Func} {q p : Tmp} {P T r : Nat} {tmps : Array Value} {cs : Array Value} (h : fn.results = #[.cell p 31, .tmp q]) (hp : tmps.getD p undef = .pointer (some ⟨w.heap.size, 0, none⟩)) (hq : tmps.getD q undef = .int .i64 (r : Int)) (hR : w'.heap[w.heap.size]? = some (.cells cs 31 (0, 0))) :
    (results fn tmps).run Try.prog (w'.setRow w.heap.size (hcells P T).toArray) = .ok (.tuple #[.agg (hcells P T).toArray, .int .i64 (r : Int)]) (w'.setRow w.heap.size (hcells P T).toArray) := by
  have := results_cell_tmp_row (P := Try.prog) h tmps (w'.setRow w.heap.size (hcells P T).toArray) w.heap.size 31 _ _ _ hp (setRow_heap _ _ _ _ _ _ hR) Try.underlying31 rfl info31
  rw [hq] at this
  exact this
theorem below_setRow {w w' : World} {B g : Nat} (h : Below B w w') (hg : B ≤ g) (cs : Array Value) : Below B w (w'.setRow g cs) :=
  ⟨h.os, h.tape, h.output, by rw [setRow_size]; exact h.size, fun k hk => by rw [setRow_other _ _ _ _ (by omega)]; exact h.block k hk⟩
/-- The block that was made first stays, whatever is called. -/
theorem first_kept {w w' : World} {o : Obj} (b : Below (w.alloc o).heap.size (w.alloc o) w') : w'.heap[w.heap.size]? = some o := by
  rw [b.block _ (by simp)]; exact heap_alloc_new w o
theorem rowAt_alloc {w : World} {a : Option Addr} {c : Nat} {xs : List UInt8} (h : RowAt w a c xs) (o : Obj) : RowAt (w.alloc o) a c xs := h.next ((Below.refl _ _).alloc (Nat.le_refl _) _)

set_option maxHeartbeats 1000000 in
theorem proto_any (a : Option Addr) (cap n : Nat) (xs : List UInt8) (k : Nat) (w : World) (hn : xs.length = n) (hm : n ≤ 90000) (hk : k ≤ 2) (h : RowAt w a cap xs) :
    Calls Try.prog 21 #[.slice a n cap, .int .i64 (k : Int)] w fun e w' => HeadRes w w' e (Hd.tail xs k).1 (Hd.tail xs k).2.1 (Hd.tail xs k).2.2 := by
  have c1 := fun W h => hn ▸ number_one a cap xs k W (by omega) (by omega) h
  have c2 := fun W h => hn ▸ number_two a cap xs k W (by omega) (by omega) h
  have q0 := Hd.tail_one xs k
  have q1 := Hd.tail_ff xs k
  have q2 := Hd.tail_end xs k
  have q3 := Hd.tail_two xs k
  have q4 := Hd.tail_form xs k
  have hb := Hd.bt_lt xs k
  have q5 : ¬ n < k + 2 → 256 * Hd.bt xs k + Hd.bt xs (k + 1) = Hd.two xs k := fun h => by unfold Hd.two; rw [hn, if_pos (by omega)]
  have ht := Hd.two_lt xs k
  rw [hn] at q2 q3 q4
  generalize Hd.bt xs k = x at *
  generalize Hd.two xs k = y at *
  generalize Hd.tail xs k = A at *
  have hmx := Hd.may_one x hb
  have C1 := Lib.hid c1
  have C2 := Lib.hid c2
  have H := Lib.hid h
  clear c1 c2 h hn
  have i2 : (k : Int) ≤ 2 := by omega
  by_cases hx : x % 2 = 1
  · by_cases hx2 : x = 255
    · obtain rfl := q1 hx2
      have m1 : Hd.may (x : Int) = false := by rw [hmx]; exact decide_eq_false (by omega)
      have m2 : ((x : Int) % 2 == 1) = true := by simp; omega
      clear q0 q1 q2 q3 q4 q5 hmx hx hx2
      go_enter Try.func21, Try.ntmps21
      go_wp2_with fail
      refine (C1.out _ (rowAt_alloc H.out _)).mono ?_
      rintro e w1 ⟨rfl, b1⟩
      have H1 := Lib.hid ((rowAt_alloc H.out _).next b1)
      go_wp2_with fail
      refine (C2.out _ H1.out).mono ?_
      rintro e w2 ⟨rfl, b2⟩
      have hR := Lib.hid (first_kept (Below.chain b1 b2))
      have hB := Lib.hid (below_alloc (Below.chain b1 b2))
      clear b1 b2 H1 C1 C2 H
      go_wp2_with (first | (go_at_call 11; refine (may_any _ _).mono ?_; rintro e w' ⟨rfl, h⟩; rw [h, m1]; clear h) | (go_at_call 19; refine (lower_any _ _).mono ?_; rintro e w' ⟨rfl, h⟩; rw [h, m2]; clear h) | (refine wpList_store_head rfl (.tmp 4) (.tmp 32) rfl w.heap.size 0 0 _ rfl rfl hR.out rfl ?_))
      refine bodyPost_ret (head_ret Try.results21 rfl rfl hR.out) rfl ⟨rfl, below_setRow hB.out (Nat.le_refl _) _⟩
    · obtain rfl := q0 hx hx2
      have m1 : Hd.may (x : Int) = true := by rw [hmx]; exact decide_eq_true ⟨hx, hx2⟩
      clear q0 q1 q2 q3 q4 q5 hmx hx hx2
      go_enter Try.func21, Try.ntmps21
      go_wp2_with fail
      refine (C1.out _ (rowAt_alloc H.out _)).mono ?_
      rintro e w1 ⟨rfl, b1⟩
      have H1 := Lib.hid ((rowAt_alloc H.out _).next b1)
      go_wp2_with fail
      refine (C2.out _ H1.out).mono ?_
      rintro e w2 ⟨rfl, b2⟩
      have hR := Lib.hid (first_kept (Below.chain b1 b2))
      have hB := Lib.hid (below_alloc (Below.chain b1 b2))
      clear b1 b2 H1 C1 C2 H
      go_wp2_with (first | (go_at_call 11; refine (may_any _ _).mono ?_; rintro e w' ⟨rfl, h⟩; rw [h, m1]; clear h) | (refine wpList_store_head rfl (.tmp 4) (.tmp 28) rfl w.heap.size x (k + 1) _ rfl rfl hR.out rfl ?_))
      refine bodyPost_ret (head_ret Try.results21 rfl rfl hR.out) rfl ⟨rfl, below_setRow hB.out (Nat.le_refl _) _⟩
  · have m1 : Hd.may (x : Int) = false := by rw [hmx]; exact decide_eq_false (by omega)
    have m2 : ((x : Int) % 2 == 1) = false := by simp; omega
    by_cases h2 : n < k + 2
    · obtain rfl := q2 hx h2
      have e2 : decide (k + 2 ≤ n) = false := decide_eq_false (by omega)
      rw [e2] at C2
      clear q0 q1 q2 q3 q4 q5 hmx hx h2 e2
      go_enter Try.func21, Try.ntmps21
      go_wp2_with fail
      refine (C1.out _ (rowAt_alloc H.out _)).mono ?_
      rintro e w1 ⟨rfl, b1⟩
      have H1 := Lib.hid ((rowAt_alloc H.out _).next b1)
      go_wp2_with fail
      refine (C2.out _ H1.out).mono ?_
      rintro e w2 ⟨rfl, b2⟩
      have hR := Lib.hid (first_kept (Below.chain b1 b2))
      have hB := Lib.hid (below_alloc (Below.chain b1 b2))
      clear b1 b2 H1 C1 C2 H
      go_wp2_with (first | (go_at_call 11; refine (may_any _ _).mono ?_; rintro e w' ⟨rfl, h⟩; rw [h, m1]; clear h) | (go_at_call 19; refine (lower_any _ _).mono ?_; rintro e w' ⟨rfl, h⟩; rw [h, m2]; clear h) | (refine wpList_store_head rfl (.tmp 4) (.tmp 36) rfl w.heap.size 0 0 _ rfl rfl hR.out rfl ?_))
      refine bodyPost_ret (head_ret Try.results21 rfl rfl hR.out) rfl ⟨rfl, below_setRow hB.out (Nat.le_refl _) _⟩
    · have e2 : decide (k + 2 ≤ n) = true := decide_eq_true (by omega)
      rw [e2] at C2
      rw [q5 h2] at q3 q4
      cases h3 : Hd.may (y : Int) with
      | true =>
        obtain rfl := q3 hx h2 h3
        clear q0 q1 q2 q3 q4 q5 hmx hx h2 e2
        go_enter Try.func21, Try.ntmps21
        go_wp2_with fail
        refine (C1.out _ (rowAt_alloc H.out _)).mono ?_
        rintro e w1 ⟨rfl, b1⟩
        have H1 := Lib.hid ((rowAt_alloc H.out _).next b1)
        go_wp2_with fail
        refine (C2.out _ H1.out).mono ?_
        rintro e w2 ⟨rfl, b2⟩
        have hR := Lib.hid (first_kept (Below.chain b1 b2))
        have hB := Lib.hid (below_alloc (Below.chain b1 b2))
        clear b1 b2 H1 C1 C2 H
        go_wp2_with (first | (go_at_call 11; refine (may_any _ _).mono ?_; rintro e w' ⟨rfl, h⟩; rw [h, m1]; clear h) | (go_at_call 11; refine (may_any _ _).mono ?_; rintro e w' ⟨rfl, h⟩; rw [h, h3]; clear h) | (go_at_call 19; refine (lower_any _ _).mono ?_; rintro e w' ⟨rfl, h⟩; rw [h, m2]; clear h) | (refine wpList_store_head rfl (.tmp 4) (.tmp 45) rfl w.heap.size y (k + 2) _ rfl rfl hR.out rfl ?_))
        refine bodyPost_ret (head_ret Try.results21 rfl rfl hR.out) rfl ⟨rfl, below_setRow hB.out (Nat.le_refl _) _⟩
      | false =>
        obtain rfl := q4 hx h2 h3
        clear q0 q1 q2 q3 q4 q5 hmx hx h2 e2
        go_enter Try.func21, Try.ntmps21
        go_wp2_with fail
        refine (C1.out _ (rowAt_alloc H.out _)).mono ?_
        rintro e w1 ⟨rfl, b1⟩
        have H1 := Lib.hid ((rowAt_alloc H.out _).next b1)
        go_wp2_with fail
        refine (C2.out _ H1.out).mono ?_
        rintro e w2 ⟨rfl, b2⟩
        have hR := Lib.hid (first_kept (Below.chain b1 b2))
        have hB := Lib.hid (below_alloc (Below.chain b1 b2))
        clear b1 b2 H1 C1 C2 H
        go_wp2_with (first | (go_at_call 11; refine (may_any _ _).mono ?_; rintro e w' ⟨rfl, h⟩; rw [h, m1]; clear h) | (go_at_call 11; refine (may_any _ _).mono ?_; rintro e w' ⟨rfl, h⟩; rw [h, h3]; clear h) | (go_at_call 19; refine (lower_any _ _).mono ?_; rintro e w' ⟨rfl, h⟩; rw [h, m2]; clear h) | (refine wpList_store_head rfl (.tmp 4) (.tmp 41) rfl w.heap.size 0 0 _ rfl rfl hR.out rfl ?_))
        refine bodyPost_ret (head_ret Try.results21 rfl rfl hR.out) rfl ⟨rfl, below_setRow hB.out (Nat.le_refl _) _⟩

theorem read_any (a : Option Addr) (cap n : Nat) (xs : List UInt8) (w : World) (hn : xs.length = n) (hm : n ≤ 90000) (h : RowAt w a cap xs) :
    Calls Try.prog 13 #[.slice a n cap] w fun e w' => HeadRes w w' e (Hd.read xs).1 (Hd.read xs).2.1 (Hd.read xs).2.2 := by
  have c1 := fun W h => pass_any a cap n xs W hn hm h
  have c2 := fun W h => proto_any a cap n xs (Hd.pass xs).1 W hn hm (Hd.pass_le xs).2 h
  have H := Lib.hid h
  clear h
  have he3 := Hd.pass_err xs
  by_cases he : (Hd.pass xs).2 = 0
  · have hr : Hd.read xs = Hd.tail xs (Hd.pass xs).1 := by unfold Hd.read; rw [if_pos he]
    rw [← hr] at c2
    clear hr
    generalize Hd.read xs = A at c2 ⊢
    rw [he] at c1
    clear he he3
    generalize (Hd.pass xs).1 = k at c1 c2
    obtain ⟨p, t, r⟩ := A
    have C1 := Lib.hid c1
    have C2 := Lib.hid c2
    clear c1 c2 hn hm
    go_enter Try.func13, Try.ntmps13
    go_wp2_with fail
    refine (C1.out _ (rowAt_alloc H.out _)).mono ?_
    rintro e w1 ⟨rfl, b1⟩
    have H1 := Lib.hid ((rowAt_alloc H.out _).next b1)
    go_wp2_with fail
    refine (C2.out _ H1.out).mono ?_
    rintro e w2 ⟨rfl, b2⟩
    have hR := Lib.hid (first_kept (Below.chain b1 b2))
    have hB := Lib.hid (below_alloc (Below.chain b1 b2))
    clear b1 b2 H1 C1 C2 H
    go_wp2_with (refine wpList_store_head rfl (.tmp 2) (.tmp 18) rfl w.heap.size p t _ rfl rfl hR.out rfl ?_)
    refine bodyPost_ret (head_ret Try.results13 rfl rfl hR.out) rfl ⟨rfl, below_setRow hB.out (Nat.le_refl _) _⟩
  · have hr : Hd.read xs = (0, 0, (Hd.pass xs).2) := by unfold Hd.read; rw [if_neg he]
    rw [hr]
    clear hr c2
    generalize (Hd.pass xs).2 = r at *
    generalize (Hd.pass xs).1 = k at c1
    have C1 := Lib.hid c1
    have i1 : ((r : Int) == 0) = false := by simp; omega
    clear c1 hn hm
    go_enter Try.func13, Try.ntmps13
    go_wp2_with fail
    refine (C1.out _ (rowAt_alloc H.out _)).mono ?_
    rintro e w1 ⟨rfl, b1⟩
    have hR := Lib.hid (first_kept b1)
    have hB := Lib.hid (below_alloc b1)
    clear b1 C1 H
    go_wp2_with (refine wpList_store_head rfl (.tmp 2) (.tmp 13) rfl w.heap.size 0 0 _ rfl rfl hR.out rfl ?_)
    refine bodyPost_ret (head_ret Try.results13 rfl rfl hR.out) rfl ⟨rfl, below_setRow hB.out (Nat.le_refl _) _⟩
end Go.Proofs.Ytphamnpafafpkaa
