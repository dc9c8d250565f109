/- Slices of bytes as they are handed on; contracts of slices.Grow (of nothing) and slices.Concat. -/
import Derived.Test.YtjalhlofpoknoaaDoorChecked
import Derived.Test.YtjalhlofpoknoaaDoorM3Bits
import Derived.WalkKit
import Derived.WalkSpells
import Derived.WalkLawsBesides
import Derived.Lib.OthersKept
import Derived.Lib.Hide
import Derived.BigQuiet
import Derived.Deep.QuietTactic
import Derived.Deep.RegionLaw
import Derived.Lib.Bytes
import Derived.Laws.AppendOwnNone
import Derived.Lib.AppendZeros
namespace Go.Proofs.YtjalhlofpoknoaaDoor.S3
open Go.RowKit

/-- The bytes that a slice holds. -/
def BytesAt (w : World) (a : Option Addr) (xs : List UInt8) : Prop :=
  xs = [] ∨ ∃ b off, a = some ⟨b, off, none⟩ ∧ b < w.heap.size ∧ ∀ j (h : j < xs.length), w.cell? ⟨b, off + j, none⟩ = some (.int .u8 (xs[j].toNat : Int))

theorem BytesAt.below {w w' : World} {B : Nat} {a : Option Addr} {xs : List UInt8} (h : BytesAt w a xs) (hb : Below B w w') (hB : ∀ b off, a = some ⟨b, off, none⟩ → b < w.heap.size → b < B) : BytesAt w' a xs := by
  rcases h with rfl | ⟨b, off, rfl, h1, h2⟩
  · exact .inl rfl
  · exact .inr ⟨b, off, rfl, Nat.lt_of_lt_of_le h1 hb.size, fun j hj => by rw [hb.cell (p := ⟨b, off + j, none⟩) (hB b off rfl h1)]; exact h2 j hj⟩

theorem BytesAt.next {w w' : World} {a : Option Addr} {xs : List UInt8} (h : BytesAt w a xs) (hb : Below w.heap.size w w') : BytesAt w' a xs := h.below hb fun _ _ _ h => h

theorem Below.chain {a b c : World} (h : Below a.heap.size a b) (k : Below b.heap.size b c) : Below a.heap.size a c := h.trans (k.mono h.size)

theorem info5 : (Tryd.prog.info? 5).map (fun i => (i.zero, i.size, i.bytes)) = some (some (.int .u8 0), 1, 1) := by kernel_rfl

theorem cells_set (l : List UInt8) (j : Nat) (x : UInt8) : Lib.byteCells (l.set j x) = (Lib.byteCells l).set j (.int .u8 (x.toNat : Int)) := by
  simp [Lib.byteCells, List.map_set]

theorem cells_one (l : List UInt8) : ∀ u ∈ Lib.byteCells l, u.oneCell' = true := by
  intro u hu
  simp only [Lib.byteCells, List.mem_map] at hu
  obtain ⟨x, _, rfl⟩ := hu
  rfl

/-- A slice that was built of one value. -/
theorem owns_built (w : World) (base : Nat) (e : TypeId) (u : Value) (hb : base ≤ w.heap.size) : (w.alloc (.cells #[u] e)).ownsRow base e 1 (.slice (some ⟨w.heap.size, 0, none⟩) 1 1) 1 [u] :=
  ⟨rfl, .inr ⟨w.heap.size, 1, #[u], rfl, hb, heap_alloc_new w _, Nat.le_refl _, by unfold maxLen; omega, rfl, rfl⟩⟩

/-- append of a slice of one's own onto a slice of one's own, whether it is nil or not. -/
theorem wpList_append_owns {P : Program} {w : World} {ops : Array Oper} {rest : List Oper} {o : Oper} {a : Act} {Q : Exit → Act → World → Prop} (hgd : o.guard = none) (s x : Operand) (t : TypeId)
    (ho : o.op = .call { callee := .builtin .append, args := #[s, x], argTypes := #[t, t] })
    (base base2 : Nat) (e : TypeId) (i : TypeInfo) (z : Value) (size bytes : Nat) (ht : P.underlying t = some (.slice e)) (hi : P.info? e = some i) (hz : i.zero = some z)
    (hsize : i.size = size) (hby : i.bytes = bytes) (hzs : z.cells.size = size) (hsz : 0 < size)
    (v : Value) (n : Nat) (xs : List Value) (hs : a.eval s = v) (hown : w.ownsRow base e size v n xs)
    (vx : Value) (m : Nat) (news : List Value) (hx : a.eval x = vx) (hownx : w.ownsRow base2 e size vx m news) (h1 : ∀ u ∈ news, u.oneCell' = true)
    (h63 : n + m ≤ maxLen) (hbytes : (n + m) * bytes ≤ 140737488355328) (hbase : base ≤ w.heap.size)
    (h : ∀ v' w', w'.ownsRow base e size v' (n + m) (xs ++ news) → w.grownBy w' v.ownBlock → wpList P ops Q rest (a.put o.dst v') w') : wpList P ops Q (o :: rest) a w := by
  rcases hownx.2 with ⟨h0, rfl⟩ | ⟨g, cap, cur, h0, _⟩
  · have hn : news = [] := List.eq_nil_of_length_eq_zero (by rw [hownx.1]; simp)
    subst hn
    exact wpList_append_own_none hgd s x t ho base e i size ht hi v n xs hs hown (by rw [hx, h0]) (h v w (by simpa using hown) ⟨rfl, rfl, rfl, Nat.le_refl _, fun _ _ _ => rfl⟩)
  · exact wpList_append_own w hgd s x t ho base e i z size bytes ht hi hz hsize hby hzs hsz v n xs hs hown ⟨g, 0, none⟩ m cap news (by rw [hx, h0]) hownx.1 (hownx.cells (by rw [h0]; rfl)) h1 h63 hbytes hbase (fun v' w' a1 a2 _ => h v' w' a1 a2)

/-- The bytes that a slice holds, nil or not. -/
structure RowAt (w : World) (a : Option Addr) (c : Nat) (xs : List UInt8) : Prop where
  le : xs.length ≤ c
  max : c ≤ maxLen
  nil : a = none → c = 0
  cell : ∀ ad, a = some ad → ∀ j u, (Lib.byteCells xs)[j]? = some u → w.cell? (ad.add j) = some u

theorem RowAt.bytes {w : World} {a : Option Addr} {c : Nat} {xs : List UInt8} (h : RowAt w a c xs) : BytesAt w a xs := by
  rcases Nat.eq_zero_or_pos xs.length with h0 | h0
  · exact .inl (List.eq_nil_of_length_eq_zero h0)
  · right
    cases a with
    | none => have := h.nil rfl; have := h.le; omega
    | some ad =>
      obtain ⟨b, off, spot⟩ := ad
      have hc : ∀ j (hj : j < xs.length), w.cell? ((⟨b, off, spot⟩ : Addr).add j) = some (.int .u8 (xs[j].toNat : Int)) := fun j hj => h.cell _ rfl j _ (by simp [Lib.byteCells, hj])
      have hspot : spot = none := by simpa [Addr.add] using World.cell?_spot (hc 0 h0)
      subst hspot
      refine ⟨b, off, rfl, World.block_lt_of_cell? w _ (hc 0 h0), fun j hj => ?_⟩
      rw [← Go.WideShapes.add_plain]; exact hc j hj

theorem RowAt.next {w w' : World} {a : Option Addr} {c : Nat} {xs : List UInt8} (h : RowAt w a c xs) (hb : Below w.heap.size w w') : RowAt w' a c xs :=
  ⟨h.le, h.max, h.nil, fun ad e j u hu => by
    have h1 := h.cell ad e j u hu
    rw [hb.cell (p := ad.add j) (World.block_lt_of_cell? w _ h1)]; exact h1⟩

theorem rowAt_nil (w : World) : RowAt w none 0 [] := ⟨Nat.le_refl _, Nat.zero_le _, fun _ => rfl, fun _ e => by cases e⟩

/-- A slice of one's own, as a slice that is handed on. -/
theorem rowAt_own {w : World} {B n : Nat} {v : Value} {xs : List UInt8} (hn : xs.length = n) (h : w.ownsRow B 5 1 v n (Lib.byteCells xs)) : ∃ a c, v = .slice a n c ∧ RowAt w a c xs := by
  rcases h.2 with ⟨rfl, h0⟩ | ⟨g, cap, cur, rfl, _, _, h1, h2, _, _⟩
  · have : xs = [] := List.eq_nil_of_length_eq_zero (by omega)
    subst this
    subst h0
    exact ⟨none, 0, rfl, rowAt_nil w⟩
  · exact ⟨some ⟨g, 0, none⟩, cap, rfl, ⟨by omega, h2, (fun e => by cases e), (fun ad e j u hu => by cases e; exact h.cells (g := g) rfl j u hu)⟩⟩

theorem conv_nil (w : World) : (convert 22 9 (.slice none 0 0)).run Tryd.prog w = .ok (.string ⟨#[]⟩) w := by kernel_rfl

/-- The text of a slice. -/
theorem conv_row {w : World} {a : Option Addr} {c n : Nat} {xs : List UInt8} (hn : xs.length = n) (h : RowAt w a c xs) : (convert 22 9 (.slice a n c)).run Tryd.prog w = .ok (.string ⟨xs.toArray⟩) w := by
  subst hn
  cases a with
  | none =>
    have h0 := h.nil rfl
    have h1 := h.le
    have : xs = [] := List.eq_nil_of_length_eq_zero (by omega)
    subst this
    subst h0
    exact conv_nil w
  | some ad => exact run_convert_bytes_back (P := Tryd.prog) w 22 9 5 ad c xs Tryd.underlying22 Tryd.underlying5 Tryd.underlying9 (fun j hj => h.cell ad rfl j _ (by simp [Lib.byteCells, hj]))

theorem grow_zero (w : World) : Calls Tryd.prog 32 #[.slice none 0 0, .int .i64 0] w fun e w' => e = .returned (.slice none 0 0) ∧ w' = w := by
  go_enter Tryd.func32, Tryd.ntmps32
  go_wp2
  go_ret
  exact ⟨rfl, rfl⟩

set_option maxHeartbeats 1000000 in
theorem grow_some (n : Nat) (w : World) (h1 : 0 < n) (hn : n ≤ 1000000) :
    Calls Tryd.prog 32 #[.slice none 0 0, .int .i64 (n : Int)] w fun e w' => ∃ v, e = .returned v ∧ w'.ownsRow w.heap.size 5 1 v 0 [] ∧ Below w.heap.size w w' := by
  obtain ⟨i0, hi, hz0, hz1, hz2⟩ := info_parts info5
  have i1 : ¬ (n : Int) < 0 := by omega
  have i2 : (0 : Int) < (n : Int) := by omega
  have hrz : ∀ ty, (Builtin.append_ #[22, 3] ty #[.slice none 0 0, .int .i64 (n : Int)]).run Tryd.prog w =
      .ok (.slice (some ⟨w.heap.size, 0, none⟩) n (grownCap w n 0 5)) (w.drew.alloc (.cells (Builtin.zeroCells (Value.int .u8 0).cells n ++ Builtin.zeroCells (Value.int .u8 0).cells (grownCap w n 0 5 - n)) 5)) := fun ty =>
    Lib.run_append_nil_zeros w 22 3 ty 5 i0 (.int .u8 0) .i64 .i64 Tryd.underlying22 Tryd.underlying3 hi hz0 n h1 (by omega) (by omega) (by rw [hz2]; omega)
  have hG := grownCap_ge w n 0 5
  have hGm := grownCap_le_maxLen w n 0 5 (by unfold maxLen; omega)
  have hown := World.ownsRow_made (base := w.heap.size) (e := 5) (size := 1) w.drew (Builtin.zeroCells (Value.int .u8 0).cells n ++ Builtin.zeroCells (Value.int .u8 0).cells (grownCap w n 0 5 - n)) (grownCap w n 0 5) (Nat.le_refl _) hGm (by rw [Array.size_append, size_zeroCells, size_zeroCells]; simp [Value.cells]; omega)
  have hbw : Below w.heap.size w (w.drew.alloc (.cells (Builtin.zeroCells (Value.int .u8 0).cells n ++ Builtin.zeroCells (Value.int .u8 0).cells (grownCap w n 0 5 - n)) 5)) := (Below.refl _ _).drew.alloc (Nat.le_refl _) _
  have Hown := Lib.hid hown
  have Hbw := Lib.hid hbw
  clear hown hbw
  go_enter Tryd.func32, Tryd.ntmps32
  go_wp2_with (at_builtin; refine Lib.wpList_append_run _ rfl _ _ _ _ rfl _ _ rfl rfl _ _ (hrz _) ?_)
  go_ret
  exact ⟨_, rfl, Hown.out, Hbw.out⟩

theorem grow_any (n : Nat) (w : World) (hn : n ≤ 1000000) :
    Calls Tryd.prog 32 #[.slice none 0 0, .int .i64 (n : Int)] w fun e w' => ∃ v, e = .returned v ∧ w'.ownsRow w.heap.size 5 1 v 0 [] ∧ Below w.heap.size w w' := by
  rcases Nat.eq_zero_or_pos n with rfl | h
  · refine (grow_zero w).mono ?_
    rintro e w' ⟨rfl, rfl⟩
    exact ⟨_, rfl, World.ownsRow_nil _ _ _ _, Below.refl _ _⟩
  · exact grow_some n w h hn

/-- append of whatever slice of bytes onto a slice of one's own. -/
theorem wpList_append_row {w : World} {ops : Array Oper} {rest : List Oper} {o : Oper} {a : Act} {Q : Exit → Act → World → Prop} (hgd : o.guard = none) (s x : Operand)
    (ho : o.op = .call { callee := .builtin .append, args := #[s, x], argTypes := #[22, 22] })
    (base : Nat) (v : Value) (n : Nat) (xs : List Value) (hs : a.eval s = v) (hown : w.ownsRow base 5 1 v n xs)
    (p : Option Addr) (m c : Nat) (ys : List UInt8) (hx : a.eval x = .slice p m c) (hm : ys.length = m) (hrow : RowAt w p c ys)
    (h63 : n + m ≤ 1000000) (hbase : base ≤ w.heap.size)
    (h : ∀ v' w', w'.ownsRow base 5 1 v' (n + m) (xs ++ Lib.byteCells ys) → w.grownBy w' v.ownBlock → wpList Tryd.prog ops Q rest (a.put o.dst v') w') : wpList Tryd.prog ops Q (o :: rest) a w := by
  obtain ⟨i0, hi, hz0, hz1, hz2⟩ := info_parts info5
  cases p with
  | none =>
    have h0 := hrow.nil rfl
    have h1 := hrow.le
    have hy : ys = [] := List.eq_nil_of_length_eq_zero (by omega)
    subst hy
    subst h0
    simp at hm
    subst hm
    exact wpList_append_own_none hgd s x 22 ho base 5 i0 1 Tryd.underlying22 hi v n xs hs hown hx (h v w (by simpa [Lib.byteCells] using hown) ⟨rfl, rfl, rfl, Nat.le_refl _, fun _ _ _ => rfl⟩)
  | some ad =>
    exact wpList_append_own w hgd s x 22 ho base 5 i0 (.int .u8 0) 1 1 Tryd.underlying22 hi hz0 hz1 hz2 rfl (by decide) v n xs hs hown ad m c (Lib.byteCells ys) hx (by rw [Lib.byteCells_length, hm, Nat.mul_one]) (hrow.cell ad rfl) (cells_one ys) (by unfold maxLen; omega) (by omega) hbase (fun v' w' a1 a2 _ => h v' w' a1 a2)

/-- The lists of bytes that a slice of slices holds. -/
def PartsAt (w : World) (a : Option Addr) (L : List (List UInt8)) : Prop :=
  L = [] ∨ ∃ b off, a = some ⟨b, off, none⟩ ∧ b < w.heap.size ∧ ∀ j (h : j < L.length), ∃ p c, w.cell? ⟨b, off + j, none⟩ = some (.slice p L[j].length c) ∧ RowAt w p c L[j]

theorem PartsAt.next {w w' : World} {a : Option Addr} {L : List (List UInt8)} (h : PartsAt w a L) (hb : Below w.heap.size w w') : PartsAt w' a L := by
  rcases h with rfl | ⟨b, off, rfl, h1, h2⟩
  · exact .inl rfl
  · refine .inr ⟨b, off, rfl, Nat.lt_of_lt_of_le h1 hb.size, fun j hj => ?_⟩
    obtain ⟨p, c, h3, h4⟩ := h2 j hj
    exact ⟨p, c, by rw [hb.cell (p := ⟨b, off + j, none⟩) h1]; exact h3, h4.next hb⟩

theorem flat_step (L : List (List UInt8)) (k : Nat) (h : k < L.length) : (L.take (k + 1)).flatten = (L.take k).flatten ++ L[k] := by
  rw [List.take_succ_eq_append_getElem h, List.flatten_append]; simp

/-- How many bytes the first parts have. -/
def tot (L : List (List UInt8)) (k : Nat) : Nat := (L.take k).flatten.length

theorem tot_step (L : List (List UInt8)) (k : Nat) (h : k < L.length) : tot L (k + 1) = tot L k + L[k].length := by unfold tot; rw [flat_step L k h, List.length_append]

theorem tot_all (L : List (List UInt8)) : tot L L.length = L.flatten.length := by unfold tot; rw [List.take_length]

theorem flat_le (L : List (List UInt8)) (k : Nat) : (L.take k).flatten.length ≤ L.flatten.length := by
  have h : L.flatten = (L.take k).flatten ++ (L.drop k).flatten := by rw [← List.flatten_append, List.take_append_drop]
  rw [h, List.length_append]; omega

theorem tot_le (L : List (List UInt8)) (k : Nat) : tot L k ≤ L.flatten.length := flat_le L k

theorem concat_none (a : Option Addr) (cap : Nat) (w : World) :
    Calls Tryd.prog 25 #[.slice a 0 cap] w fun e w' => e = .returned (.slice none 0 0) ∧ w' = w := by
  go_enter Tryd.func25, Tryd.ntmps25
  go_wp2
  refine wp_loop_rounds 1 ?_
  rw [rounds_succ]
  go_wp2_with (go_at_call 32; refine (grow_zero _).mono ?_; rintro e w' ⟨rfl, rfl⟩)
  refine wp_loop_rounds 1 ?_
  rw [rounds_succ]
  go_wp2
  go_ret
  exact ⟨rfl, rfl⟩

set_option maxHeartbeats 2000000 in
set_option maxRecDepth 100000 in
theorem concat_some (b off cap : Nat) (L : List (List UInt8)) (F : List UInt8) (w : World) (HF : Hid (L.flatten = F)) (hL : L.length ≤ 100000) (hsum : F.length ≤ 100000) (hb : b < w.heap.size)
    (hc : ∀ j (h : j < L.length), ∃ p c, w.cell? ⟨b, off + j, none⟩ = some (.slice p L[j].length c) ∧ RowAt w p c L[j]) :
    Calls Tryd.prog 25 #[.slice (some ⟨b, off, none⟩) L.length cap] w fun e w' => ∃ v, e = .returned v ∧ w'.ownsRow w.heap.size 5 1 v F.length (Lib.byteCells F) ∧ Below w.heap.size w w' := by
  have Hc := Lib.hid hc
  clear hc
  go_enter Tryd.func25, Tryd.ntmps25
  go_wp2
  go_loop [3, 11] (fun n i => ∃ k : Nat, k ≤ L.length ∧ i = .int .i64 (k : Int) ∧ n = .int .i64 (tot L k : Nat)) (fun _ i => L.length - (intOf i).toNat)
  case atStart => exact ⟨0, Nat.zero_le _, rfl, rfl⟩
  case round =>
    obtain ⟨k, hk, rfl, rfl⟩ := hrel
    have hle := tot_le L k
    rw [HF.out] at hle
    by_cases hlt : (k : Int) < (L.length : Int)
    · have hk' : k < L.length := by omega
      obtain ⟨p, c, hcell, hrow⟩ := Hc.out k hk'
      clear hrow
      have hle2 := tot_le L (k + 1)
      have hst := tot_step L k hk'
      rw [hst, HF.out] at hle2
      have hs1 : ¬ (tot L k : Int) + (L[k].length : Int) < 0 := by omega
      have Hst := Lib.hid hst
      clear hst
      go_wp2
      go_round
      case rel => exact ⟨k + 1, by omega, by go_num, by rw [Hst.out]; go_num⟩
      case measure => simp [intOf]; omega
    · have hkl : k = L.length := by omega
      subst hkl
      go_wp2_with (go_at_call 32; refine (grow_any _ _ (by omega)).mono ?_; rintro e w1 ⟨v1, rfl, hown1, hb1⟩)
      go_loopw [6, 27] (fun v i wr => ∃ k : Nat, k ≤ L.length ∧ i = .int .i64 (k : Int) ∧ wr.ownsRow w.heap.size 5 1 v (L.take k).flatten.length (Lib.byteCells (L.take k).flatten) ∧ Below w.heap.size w wr) (fun _ i _ => L.length - (intOf i).toNat)
      case atStart => exact ⟨0, Nat.zero_le _, rfl, hown1, hb1⟩
      case round =>
        obtain ⟨k, hk, rfl, hown, hbw⟩ := hrel
        have hle := flat_le L k
        rw [HF.out] at hle
        by_cases hlt : (k : Int) < (L.length : Int)
        · have hk' : k < L.length := by omega
          obtain ⟨p, c, hcell0, hrow0⟩ := Hc.out k hk'
          have hcell : wr.cell? ⟨b, off + k, none⟩ = some (.slice p L[k].length c) := by rw [hbw.cell (p := ⟨b, off + k, none⟩) hb]; exact hcell0
          have hrow := hrow0.next hbw
          have Hrow := Lib.hid hrow
          clear hcell0 hrow0 hrow
          have hle2 := flat_le L (k + 1)
          rw [flat_step L k hk', List.length_append, HF.out] at hle2
          go_wp2_with (at_builtin; refine wpList_append_row rfl _ _ rfl w.heap.size _ _ _ rfl hown p L[k].length c L[k] rfl rfl Hrow.out (by omega) hbw.size ?_; intro v2 w2 hown2 hgr2)
          have hbw2 : Below w.heap.size w w2 := Below.grown hbw hgr2 hbw.size (fun j hj => (hown.lt j hj).1)
          go_roundw
          case rel => exact ⟨k + 1, by omega, by go_num, by rw [flat_step L k hk', Lib.byteCells_append, List.length_append]; exact hown2, hbw2⟩
          case measure => simp [intOf]; omega
        · have hkl : k = L.length := by omega
          subst hkl
          rw [List.take_length, HF.out] at hown
          go_wp2
          go_ret
          exact ⟨_, rfl, hown, hbw⟩

theorem concat_at (a : Option Addr) (cap : Nat) (L : List (List UInt8)) (w : World) (hL : L.length ≤ 100000) (hsum : L.flatten.length ≤ 100000) (h : PartsAt w a L) :
    Calls Tryd.prog 25 #[.slice a L.length cap] w fun e w' => ∃ v, e = .returned v ∧ w'.ownsRow w.heap.size 5 1 v L.flatten.length (Lib.byteCells L.flatten) ∧ Below w.heap.size w w' := by
  rcases h with rfl | ⟨b, off, rfl, hb, hc⟩
  · refine (concat_none a cap w).mono ?_
    rintro e w' ⟨rfl, rfl⟩
    exact ⟨_, rfl, World.ownsRow_nil _ _ _ _, Below.refl _ _⟩
  · exact concat_some b off cap L L.flatten w rfl hL hsum hb hc

theorem RowAt.cut {w : World} {a : Option Addr} {c : Nat} {xs : List UInt8} (h : RowAt w a c xs) (l r : Nat) (hlr : l ≤ r) (hr : r ≤ xs.length) : RowAt w (if c = l then a else a.map (·.add l)) (c - l) ((xs.take r).drop l) := by
  have h1 := h.le
  have h2 := h.max
  refine ⟨by simp; omega, by omega, fun e => ?_, fun ad e j u hu => ?_⟩
  · split at e
    · have := h.nil e; omega
    · cases a with
      | none => have := h.nil rfl; omega
      | some x => simp at e
  · have hj : j < r - l := by
      have := (List.getElem?_eq_some_iff.1 hu).1
      rw [Lib.byteCells_length] at this
      simp at this
      omega
    split at e
    · omega
    · cases a with
      | none => simp at e
      | some x =>
        simp at e
        subst e
        have hu2 : (Lib.byteCells xs)[l + j]? = some u := by
          simp only [Lib.byteCells, List.getElem?_map, List.getElem?_drop, List.getElem?_take] at hu ⊢
          rw [if_pos (by omega)] at hu
          exact hu
        have h3 := h.cell x rfl (l + j) u hu2
        have h0 := h.cell x rfl 0 _ (List.getElem?_eq_getElem (by rw [Lib.byteCells_length]; omega))
        obtain ⟨b, off, spot⟩ := x
        have hspot : spot = none := by simpa [Addr.add] using World.cell?_spot h0
        subst hspot
        rw [Go.WideShapes.add_plain] at h3 ⊢
        rw [Go.WideShapes.add_plain, Nat.add_assoc]
        exact h3

theorem ownsRow_lower {w : World} {base base' : Nat} {e : TypeId} {size : Nat} {v : Value} {n : Nat} {xs : List Value} (h : w.ownsRow base e size v n xs) (hb : base' ≤ base) : w.ownsRow base' e size v n xs := by
  refine ⟨h.1, ?_⟩
  rcases h.2 with h2 | ⟨g, cap, cur, a, b, c⟩
  · exact .inl h2
  · exact .inr ⟨g, cap, cur, a, Nat.le_trans hb b, c⟩

theorem below_alloc {w w' : World} {o : Obj} (h : Below (w.alloc o).heap.size (w.alloc o) w') : Below w.heap.size w w' := ((Below.refl _ _).alloc (Nat.le_refl _) _).trans (h.mono (by simp))

theorem parts_one {w : World} {p : Option Addr} {c n : Nat} {ys : List UInt8} (hn : ys.length = n) (h : RowAt w p c ys) : PartsAt (w.alloc (.cells #[.slice p n c] 22)) (some ⟨w.heap.size, 0, none⟩) [ys] := by
  subst hn
  refine .inr ⟨w.heap.size, 0, rfl, by simp, fun j hj => ?_⟩
  have : j = 0 := by simpa using hj
  subst this
  exact ⟨p, c, by simp only [World.cell?, heap_alloc_new]; rfl, h.next ((Below.refl _ _).alloc (Nat.le_refl _) _)⟩

/-- A slice that was built of bytes. -/
theorem rowAt_built (w : World) (xs : List UInt8) (n : Nat) (cs : Array Value) (hn : xs.length = n) (hcs : cs = (Lib.byteCells xs).toArray) (hm : n ≤ 100000) (fz : Nat × Nat) : RowAt (w.alloc (.cells cs 5 fz)) (some ⟨w.heap.size, 0, none⟩) n xs := by
  subst hcs
  subst hn
  refine ⟨Nat.le_refl _, by unfold maxLen; omega, (fun e => by cases e), fun ad e j u hu => ?_⟩
  cases e
  rw [Go.WideShapes.add_plain]
  simp only [World.cell?, heap_alloc_new]
  simpa using hu

end Go.Proofs.YtjalhlofpoknoaaDoor.S3
