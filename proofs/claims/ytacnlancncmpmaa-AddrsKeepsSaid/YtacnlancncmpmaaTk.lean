/- Contracts of options and usual. -/
import Derived.Test.YtacnlancncmpmaaTj
import Derived.Test.YtacnlancncmpmaaTh
import Derived.Test.YtacnlancncmpmaaOd
namespace Go.Proofs.Ytacnlancncmpmaa
open Go.RowKit S2 S12

theorem row_range {W : World} {g o c : Nat} {xs : List UInt8} (h : W.rangeAt g o (Lib.byteCells xs)) (hc : xs.length ≤ c) (hm : c ≤ maxLen) : RowAt W (some ⟨g, o, none⟩) c xs :=
  ⟨hc, hm, (fun e => by cases e), fun ad e j u hu => by cases e; rw [Go.WideShapes.add_plain]; exact h j u hu⟩
/-- What stands in memory while options are told. -/
structure Oq (w W : World) (B gj : Nat) (t : Ad.T) (v : Ad.B4) (L : List Ot.O) : Prop where
  tm : TmAt W w.heap.size t
  vj : W.heap[gj]? = some (.cells (cells4 v).toArray 30 (0, 0))
  var : VarAt W (w.heap.size + 1) B L
  bel : Below w.heap.size w W
  size : B ≤ W.heap.size
  above : w.heap.size + 1 < gj
  under : gj < B
theorem Oq.drew {w W : World} {B gj : Nat} {t : Ad.T} {v : Ad.B4} {L : List Ot.O} (h : Oq w W B gj t v L) : Oq w W.drew B gj t v L :=
  ⟨h.tm, h.vj, h.var.next (Below.refl _ W).drew, h.bel.drew, h.size, h.above, h.under⟩
theorem Oq.add {w W : World} {B gj : Nat} {t : Ad.T} {v : Ad.B4} {L : List Ot.O} (h : Oq w W B gj t v L) (hL : L.length ≤ 100) (has : Bool) (kind : Int) (p : Option Addr) (m c : Nat) (ys : List UInt8) (hm : ys.length = m) (hm8 : m ≤ 100) (hr : RowAt W p c ys) :
    Calls Try.prog 34 #[.bool has, .int .i64 kind, .slice p m c, .pointer (some ⟨w.heap.size + 1, 0, none⟩)] W fun e W' => e = .returned (.tuple #[]) ∧ Oq w W' B gj t v (L ++ Ad.pick has ⟨kind, ys⟩) := by
  have h1 := h.above
  have h2 := h.under
  refine (add_any has kind p m c (w.heap.size + 1) B ys L W hm hm8 h.var (by omega) hL hr h.size).mono ?_
  rintro e W' ⟨rfl, r⟩
  exact ⟨rfl, ⟨(r.block _ (by omega) (by omega)).trans h.tm, (r.block _ (by omega) (by omega)).trans h.vj, r.var, h.bel.trans (r.below.mono (by omega)), Nat.le_trans h.size r.below.size, h1, h2⟩⟩
theorem Oq.ip {w W : World} {B gj : Nat} {t : Ad.T} {v : Ad.B4} {L : List Ot.O} (h : Oq w W B gj t v L) : RowAt W (some ⟨w.heap.size, 1, none⟩) 4 t.ip.list := row_range (h.tm.range 1 _ rfl) (Nat.le_refl _) (by decide)
theorem Oq.id {w W : World} {B gj : Nat} {t : Ad.T} {v : Ad.B4} {L : List Ot.O} (h : Oq w W B gj t v L) : RowAt W (some ⟨w.heap.size, 29, none⟩) 8 t.id.list := row_range (h.tm.range 29 _ rfl) (Nat.le_refl _) (by decide)
theorem Oq.n0 {w W : World} {B gj : Nat} {t : Ad.T} {v : Ad.B4} {L : List Ot.O} (h : Oq w W B gj t v L) : RowAt W (some ⟨w.heap.size, 12, none⟩) 4 t.n0.list := row_range (h.tm.range 12 _ rfl) (Nat.le_refl _) (by decide)
theorem Oq.n1 {w W : World} {B gj : Nat} {t : Ad.T} {v : Ad.B4} {L : List Ot.O} (h : Oq w W B gj t v L) : RowAt W (some ⟨w.heap.size, 16, none⟩) 4 t.n1.list := row_range (h.tm.range 16 _ rfl) (Nat.le_refl _) (by decide)
theorem Oq.n2 {w W : World} {B gj : Nat} {t : Ad.T} {v : Ad.B4} {L : List Ot.O} (h : Oq w W B gj t v L) : RowAt W (some ⟨w.heap.size, 20, none⟩) 4 t.n2.list := row_range (h.tm.range 20 _ rfl) (Nat.le_refl _) (by decide)
theorem Oq.n3 {w W : World} {B gj : Nat} {t : Ad.T} {v : Ad.B4} {L : List Ot.O} (h : Oq w W B gj t v L) : RowAt W (some ⟨w.heap.size, 24, none⟩) 4 t.n3.list := row_range (h.tm.range 24 _ rfl) (Nat.le_refl _) (by decide)
theorem Oq.vjRow {w W : World} {B gj : Nat} {t : Ad.T} {v : Ad.B4} {L : List Ot.O} (h : Oq w W B gj t v L) : RowAt W (some ⟨gj, 0, none⟩) 4 v.list := row_range (by rw [cells4_bytes]; exact range_block h.vj) (Nat.le_refl _) (by decide)
/-- The options of the first places. -/
def Ad.dnsTo (t : Ad.T) (k : Nat) : List Ot.O :=
  (if 0 < k then Ad.pick t.d0 ⟨129, t.n0.list⟩ else []) ++ (if 1 < k then Ad.pick t.d1 ⟨130, t.n1.list⟩ else []) ++ (if 2 < k then Ad.pick t.d2 ⟨131, t.n2.list⟩ else []) ++ (if 3 < k then Ad.pick t.d3 ⟨132, t.n3.list⟩ else [])
theorem Ad.dns_le (t : Ad.T) (k : Nat) : (Ad.dnsTo t k).length ≤ 4 := by
  have := Ad.pick_le t.d0 ⟨129, t.n0.list⟩
  have := Ad.pick_le t.d1 ⟨130, t.n1.list⟩
  have := Ad.pick_le t.d2 ⟨131, t.n2.list⟩
  have := Ad.pick_le t.d3 ⟨132, t.n3.list⟩
  simp only [Ad.dnsTo, List.length_append]
  split <;> split <;> split <;> split <;> simp <;> omega
theorem Ad.dns_1 (t : Ad.T) (A : List Ot.O) : A ++ Ad.dnsTo t 0 ++ Ad.pick t.d0 ⟨129, t.n0.list⟩ = A ++ Ad.dnsTo t 1 := by simp [Ad.dnsTo]
theorem Ad.dns_2 (t : Ad.T) (A : List Ot.O) : A ++ Ad.dnsTo t 1 ++ Ad.pick t.d1 ⟨130, t.n1.list⟩ = A ++ Ad.dnsTo t 2 := by simp [Ad.dnsTo]
theorem Ad.dns_3 (t : Ad.T) (A : List Ot.O) : A ++ Ad.dnsTo t 2 ++ Ad.pick t.d2 ⟨131, t.n2.list⟩ = A ++ Ad.dnsTo t 3 := by simp [Ad.dnsTo]
theorem Ad.dns_4 (t : Ad.T) (A : List Ot.O) : A ++ Ad.dnsTo t 3 ++ Ad.pick t.d3 ⟨132, t.n3.list⟩ = A ++ Ad.dnsTo t 4 := by simp [Ad.dnsTo]

theorem index_0 (x0 x1 x2 x3 : Bool) (w : World) : (Instr.index 31 (.agg #[.bool x0, .bool x1, .bool x2, .bool x3]) (.int .i64 0)).run Try.prog w = .ok (.bool x0) w := by kernel_rfl
theorem index_1 (x0 x1 x2 x3 : Bool) (w : World) : (Instr.index 31 (.agg #[.bool x0, .bool x1, .bool x2, .bool x3]) (.int .i64 1)).run Try.prog w = .ok (.bool x1) w := by kernel_rfl
theorem index_2 (x0 x1 x2 x3 : Bool) (w : World) : (Instr.index 31 (.agg #[.bool x0, .bool x1, .bool x2, .bool x3]) (.int .i64 2)).run Try.prog w = .ok (.bool x2) w := by kernel_rfl
theorem index_3 (x0 x1 x2 x3 : Bool) (w : World) : (Instr.index 31 (.agg #[.bool x0, .bool x1, .bool x2, .bool x3]) (.int .i64 3)).run Try.prog w = .ok (.bool x3) w := by kernel_rfl

set_option maxRecDepth 100000 in
set_option maxHeartbeats 1000000 in
theorem options_any (t : Ad.T) (w : World) :
    Calls Try.prog 27 #[.agg (acells t).toArray] w fun e w' => ∃ v, e = .returned v ∧ Opts w' w.heap.size v (Ad.opts t) ∧ Below w.heap.size w w' := by
  have T0 : Hid (TmAt ((w.alloc (.cells (acells t).toArray 35)).alloc (.cells #[.slice none 0 0] 28)) w.heap.size t) := heap_alloc2_old _ _ _
  have V0 : Hid (((w.alloc (.cells (acells t).toArray 35)).alloc (.cells #[.slice none 0 0] 28)).heap[w.heap.size + 1]? = some (.cells #[.slice none 0 0] 28 (0, 0))) := heap_alloc2_new _ _ _
  have B0 := Lib.hid (Below.chain (below_one w (.cells (acells t).toArray 35)) (below_one (w.alloc (.cells (acells t).toArray 35)) (.cells #[.slice none 0 0] 28)))
  have s0 : ((w.alloc (.cells (acells t).toArray 35)).alloc (.cells #[.slice none 0 0] 28)).heap.size = w.heap.size + 2 := by simp
  have k6 : ((w.alloc (.cells (acells t).toArray 35)).alloc (.cells #[.slice none 0 0] 28)).cell? ⟨w.heap.size, 6, none⟩ = some (.int .i64 t.slots) := T0.out.cell 6
  have k7 : ((w.alloc (.cells (acells t).toArray 35)).alloc (.cells #[.slice none 0 0] 28)).cell? ⟨w.heap.size, 7, none⟩ = some (.bool t.vjId) := T0.out.cell 7
  have hlow := Ad.low_nat t.slots
  have hw8 : IntKind.u8.wrap t.slots = ((Ad.low t.slots).toNat : Int) := by rw [IntKind.wrap_u8, hlow]
  have hw9 := hlow.symm
  have HF : Hid (Ad.opts t = Ad.pick t.hasId ⟨1, t.id.list⟩ ++ Ad.pick t.hasVj ⟨2, (vj4 (Ad.low t.slots) t.vjId).list⟩ ++ Ad.pick t.hasIp ⟨3, t.ip.list⟩ ++ Ad.dnsTo t 4) := by
    show _ = _
    simp only [Ad.opts, Ad.dnsTo, vjD_list, List.append_assoc]
    rfl
  generalize Ad.opts t = AO at *
  generalize Ad.low t.slots = sl at *
  clear hlow
  go_enter Try.func27, Try.ntmps27
  go_wp2_with fail
  refine (vjData_any sl t.vjId _).mono ?_
  rintro e x1 ⟨rfl, b1⟩
  obtain ⟨v4, hv4⟩ : ∃ v4, vj4 sl t.vjId = v4 := ⟨_, rfl⟩
  rw [hv4] at HF ⊢
  have z1 := heap_alloc_new x1 (.cells #[.int .u8 0, .int .u8 0, .int .u8 0, .int .u8 0] 30)
  have bz : Below x1.heap.size x1 ((x1.alloc (.cells #[.int .u8 0, .int .u8 0, .int .u8 0, .int .u8 0] 30)).setRow x1.heap.size (cells4 v4).toArray) := below_setRow (below_one x1 _) (Nat.le_refl _) _
  have hsz := b1.size
  rw [s0] at hsz
  have hs1 : ((x1.alloc (.cells #[.int .u8 0, .int .u8 0, .int .u8 0, .int .u8 0] 30)).setRow x1.heap.size (cells4 v4).toArray).heap.size = x1.heap.size + 1 := by simp
  have Q0 : Hid (Oq w ((x1.alloc (.cells #[.int .u8 0, .int .u8 0, .int .u8 0, .int .u8 0] 30)).setRow x1.heap.size (cells4 v4).toArray) (x1.heap.size + 1) x1.heap.size t v4 []) :=
    ⟨(T0.out.next b1).next bz, setRow_heap _ _ _ _ _ _ z1, ⟨_, block_next (block_next V0.out b1) bz, lopts_none _ _ _ _⟩, Below.chain (Below.chain B0.out b1) bz, Nat.le_of_eq hs1.symm, by omega, Nat.lt_succ_self _⟩
  have Z1 := Lib.hid z1
  clear T0 V0 B0 s0 k6 k7 hw8 hw9 b1 bz hsz hs1 hv4 z1
  go_wp2_with (refine wpList_store_row rfl 30 _ _ rfl x1.heap.size (cells4 v4).toArray rfl rfl 30 #[.int .u8 0, .int .u8 0, .int .u8 0, .int .u8 0] Z1.out info4 rfl (cells4_one v4) ?_)
  generalize (x1.alloc (.cells #[.int .u8 0, .int .u8 0, .int .u8 0, .int .u8 0] 30)).setRow x1.heap.size (cells4 v4).toArray = w3 at *
  generalize x1.heap.size = gj at *
  clear Z1 x1
  have QD := Q0.out.drew
  refine held_start (S := fun W => TmAt W w.heap.size t) 6 (by kernel_rfl) rfl ?_
  have hS : TmAt w3.drew w.heap.size t := QD.tm
  generalize w3.drew = WD at *
  clear Q0
  refine held_take 0 (v := ?_) rfl (by kernel_rfl) (by kernel_rfl) (by kernel_rfl) (fun _ _ _ h => h) (by assumption) (by rfl) ?_ ?_
  rotate_left
  · (intro W hW; go_simp; try with_reducible rfl)
  simp only [Act.put, List.setIfInBounds_toArray, List.set_cons_zero, List.set_cons_succ]
  refine held_take 1 (v := ?_) rfl (by kernel_rfl) (by kernel_rfl) (by kernel_rfl) (fun _ _ _ h => h) (by assumption) (by rfl) ?_ ?_
  rotate_left
  · (intro W hW; go_simp; try with_reducible rfl)
  simp only [Act.put, List.setIfInBounds_toArray, List.set_cons_zero, List.set_cons_succ]
  refine held_take 2 (v := ?_) rfl (by kernel_rfl) (by kernel_rfl) (by kernel_rfl) (fun _ _ _ h => h) (by assumption) (by rfl) ?_ ?_
  rotate_left
  · (intro W hW; have e0 : W.cell? ⟨w.heap.size, 28, none⟩ = some (.bool t.hasId) := TmAt.cell hW 28; go_simp; try with_reducible rfl)
  simp only [Act.put, List.setIfInBounds_toArray, List.set_cons_zero, List.set_cons_succ]
  refine held_take 3 (v := ?_) rfl (by kernel_rfl) (by kernel_rfl) (by kernel_rfl) (fun _ _ _ h => h) (by assumption) (by rfl) ?_ ?_
  rotate_left
  · (intro W hW; go_simp; try with_reducible rfl)
  simp only [Act.put, List.setIfInBounds_toArray, List.set_cons_zero, List.set_cons_succ]
  refine held_take 4 (v := ?_) rfl (by kernel_rfl) (by kernel_rfl) (by kernel_rfl) (fun _ _ _ h => h) (by assumption) (by rfl) ?_ ?_
  rotate_left
  · (intro W hW; go_simp; try with_reducible rfl)
  simp only [Act.put, List.setIfInBounds_toArray, List.set_cons_zero, List.set_cons_succ]
  refine held_call 5 (f := 34) (args := #[.bool t.hasId, .int .i64 1, .slice (some ⟨w.heap.size, 29, none⟩) 8 8, .pointer (some ⟨w.heap.size + 1, 0, none⟩)]) rfl (by kernel_rfl) (by rfl) (by go_simp) ?_
  refine (QD.add (by simp) t.hasId 1 _ 8 8 t.id.list rfl (by omega) QD.id).mono ?_
  rintro e w4 ⟨rfl, q4⟩
  refine ⟨_, rfl, q4.tm, ?_⟩
  simp only [Act.put, List.setIfInBounds_toArray, List.set_cons_zero, List.set_cons_succ]
  refine held_done (by kernel_rfl) ?_
  have Q1 := Lib.hid q4
  clear q4 QD hS
  go_wp2_with fail
  have QD := Q1.out.drew
  refine held_start (S := fun W => TmAt W w.heap.size t) 5 (by kernel_rfl) rfl ?_
  have hS : TmAt w4.drew w.heap.size t := QD.tm
  generalize w4.drew = WD at *
  clear Q1
  refine held_take 0 (v := ?_) rfl (by kernel_rfl) (by kernel_rfl) (by kernel_rfl) (fun _ _ _ h => h) (by assumption) (by rfl) ?_ ?_
  rotate_left
  · (intro W hW; go_simp; try with_reducible rfl)
  simp only [Act.put, List.setIfInBounds_toArray, List.set_cons_zero, List.set_cons_succ]
  refine held_take 1 (v := ?_) rfl (by kernel_rfl) (by kernel_rfl) (by kernel_rfl) (fun _ _ _ h => h) (by assumption) (by rfl) ?_ ?_
  rotate_left
  · (intro W hW; go_simp; try with_reducible rfl)
  simp only [Act.put, List.setIfInBounds_toArray, List.set_cons_zero, List.set_cons_succ]
  refine held_take 2 (v := ?_) rfl (by kernel_rfl) (by kernel_rfl) (by kernel_rfl) (fun _ _ _ h => h) (by assumption) (by rfl) ?_ ?_
  rotate_left
  · (intro W hW; have e0 : W.cell? ⟨w.heap.size, 5, none⟩ = some (.bool t.hasVj) := TmAt.cell hW 5; go_simp; try with_reducible rfl)
  simp only [Act.put, List.setIfInBounds_toArray, List.set_cons_zero, List.set_cons_succ]
  refine held_take 3 (v := ?_) rfl (by kernel_rfl) (by kernel_rfl) (by kernel_rfl) (fun _ _ _ h => h) (by assumption) (by rfl) ?_ ?_
  rotate_left
  · (intro W hW; go_simp; try with_reducible rfl)
  simp only [Act.put, List.setIfInBounds_toArray, List.set_cons_zero, List.set_cons_succ]
  refine held_call 4 (f := 34) (args := #[.bool t.hasVj, .int .i64 2, .slice (some ⟨gj, 0, none⟩) 4 4, .pointer (some ⟨w.heap.size + 1, 0, none⟩)]) rfl (by kernel_rfl) (by rfl) (by go_simp) ?_
  refine (QD.add (by rw [List.length_append]; have := Ad.pick_le t.hasId ⟨1, t.id.list⟩; simp; omega) t.hasVj 2 _ 4 4 v4.list rfl (by omega) QD.vjRow).mono ?_
  rintro e w5 ⟨rfl, q4⟩
  refine ⟨_, rfl, q4.tm, ?_⟩
  simp only [Act.put, List.setIfInBounds_toArray, List.set_cons_zero, List.set_cons_succ]
  refine held_done (by kernel_rfl) ?_
  have Q2 := Lib.hid q4
  clear q4 QD hS
  go_wp2_with fail
  have QD := Q2.out.drew
  refine held_start (S := fun W => TmAt W w.heap.size t) 6 (by kernel_rfl) rfl ?_
  have hS : TmAt w5.drew w.heap.size t := QD.tm
  generalize w5.drew = WD at *
  clear Q2
  refine held_take 0 (v := ?_) rfl (by kernel_rfl) (by kernel_rfl) (by kernel_rfl) (fun _ _ _ h => h) (by assumption) (by rfl) ?_ ?_
  rotate_left
  · (intro W hW; go_simp; try with_reducible rfl)
  simp only [Act.put, List.setIfInBounds_toArray, List.set_cons_zero, List.set_cons_succ]
  refine held_take 1 (v := ?_) rfl (by kernel_rfl) (by kernel_rfl) (by kernel_rfl) (fun _ _ _ h => h) (by assumption) (by rfl) ?_ ?_
  rotate_left
  · (intro W hW; go_simp; try with_reducible rfl)
  simp only [Act.put, List.setIfInBounds_toArray, List.set_cons_zero, List.set_cons_succ]
  refine held_take 2 (v := ?_) rfl (by kernel_rfl) (by kernel_rfl) (by kernel_rfl) (fun _ _ _ h => h) (by assumption) (by rfl) ?_ ?_
  rotate_left
  · (intro W hW; have e0 : W.cell? ⟨w.heap.size, 0, none⟩ = some (.bool t.hasIp) := TmAt.cell hW 0; go_simp; try with_reducible rfl)
  simp only [Act.put, List.setIfInBounds_toArray, List.set_cons_zero, List.set_cons_succ]
  refine held_take 3 (v := ?_) rfl (by kernel_rfl) (by kernel_rfl) (by kernel_rfl) (fun _ _ _ h => h) (by assumption) (by rfl) ?_ ?_
  rotate_left
  · (intro W hW; go_simp; try with_reducible rfl)
  simp only [Act.put, List.setIfInBounds_toArray, List.set_cons_zero, List.set_cons_succ]
  refine held_take 4 (v := ?_) rfl (by kernel_rfl) (by kernel_rfl) (by kernel_rfl) (fun _ _ _ h => h) (by assumption) (by rfl) ?_ ?_
  rotate_left
  · (intro W hW; go_simp; try with_reducible rfl)
  simp only [Act.put, List.setIfInBounds_toArray, List.set_cons_zero, List.set_cons_succ]
  refine held_call 5 (f := 34) (args := #[.bool t.hasIp, .int .i64 3, .slice (some ⟨w.heap.size, 1, none⟩) 4 4, .pointer (some ⟨w.heap.size + 1, 0, none⟩)]) rfl (by kernel_rfl) (by rfl) (by go_simp) ?_
  refine (QD.add (by rw [List.length_append, List.length_append]; have := Ad.pick_le t.hasId ⟨1, t.id.list⟩; have := Ad.pick_le t.hasVj ⟨2, v4.list⟩; simp; omega) t.hasIp 3 _ 4 4 t.ip.list rfl (by omega) QD.ip).mono ?_
  rintro e w6 ⟨rfl, q4⟩
  refine ⟨_, rfl, q4.tm, ?_⟩
  simp only [Act.put, List.setIfInBounds_toArray, List.set_cons_zero, List.set_cons_succ]
  refine held_done (by kernel_rfl) ?_
  obtain ⟨L3, hL3⟩ : ∃ l, [] ++ Ad.pick t.hasId ⟨1, t.id.list⟩ ++ Ad.pick t.hasVj ⟨2, v4.list⟩ ++ Ad.pick t.hasIp ⟨3, t.ip.list⟩ = l := ⟨_, rfl⟩
  have hl3 : L3.length ≤ 3 := by
    rw [← hL3]
    have := Ad.pick_le t.hasId ⟨1, t.id.list⟩
    have := Ad.pick_le t.hasVj ⟨2, v4.list⟩
    have := Ad.pick_le t.hasIp ⟨3, t.ip.list⟩
    simp only [List.length_append, List.length_nil]
    omega
  have HA : Hid (AO = L3 ++ Ad.dnsTo t 4) := by
    refine HF.out.trans ?_
    rw [← hL3, List.nil_append]
  rw [hL3] at q4
  have Q3 : Hid (Oq w w6 (gj + 1) gj t v4 (L3 ++ Ad.dnsTo t 0)) := by
    have e : L3 ++ Ad.dnsTo t 0 = L3 := by simp [Ad.dnsTo]
    show Oq _ _ _ _ _ _ _
    rw [e]; exact q4
  have RB : Hid (w6.rangeAt w.heap.size 8 [.bool t.d0, .bool t.d1, .bool t.d2, .bool t.d3]) := q4.tm.range 8 _ rfl
  have HL3 := Lib.hid hl3
  clear q4 QD hS hL3 hl3 HF
  go_wp2_with (refine wpList_load_mid rfl 31 (.tmp 32) rfl w.heap.size 8 rfl [.bool t.d0, .bool t.d1, .bool t.d2, .bool t.d3] _ RB.out Try.underlying31 rfl infoB4 ?_)
  go_loopw [34] (fun i wr => ∃ k : Nat, i = .int .i64 (k : Int) ∧ k ≤ 4 ∧ Hid (Oq w wr (gj + 1) gj t v4 (L3 ++ Ad.dnsTo t k))) (fun i _ => 4 - (intOf i).toNat)
  case atStart => exact ⟨0, rfl, by omega, Q3.out⟩
  case round =>
    obtain ⟨k, rfl, hk, HQ⟩ := hrel
    by_cases hlt : (k : Int) < 4
    · have hk4 : k = 0 ∨ k = 1 ∨ k = 2 ∨ k = 3 := by omega
      clear hlt hk Q3 RB
      rcases hk4 with rfl | rfl | rfl | rfl
      · skip
        have C9 := Lib.hid (HQ.out.add (by rw [List.length_append]; have := HL3.out; have := Ad.dns_le t 0; omega) t.d0 129 (some ⟨w.heap.size, 12, none⟩) 4 4 t.n0.list rfl (by omega) HQ.out.n0)
        rw [Ad.dns_1] at C9
        have hix := index_0 t.d0 t.d1 t.d2 t.d3 wr
        clear HQ
        go_wp2_with fail
        refine C9.out.mono ?_
        rintro e w9 ⟨rfl, q9⟩
        have Q9 := Lib.hid q9
        clear q9 C9
        go_wp2
        go_roundw
        case rel => exact ⟨1, rfl, by omega, Q9.out⟩
        case measure => simp [intOf]
      · skip
        have C9 := Lib.hid (HQ.out.add (by rw [List.length_append]; have := HL3.out; have := Ad.dns_le t 1; omega) t.d1 130 (some ⟨w.heap.size, 16, none⟩) 4 4 t.n1.list rfl (by omega) HQ.out.n1)
        rw [Ad.dns_2] at C9
        have hix := index_1 t.d0 t.d1 t.d2 t.d3 wr
        clear HQ
        go_wp2_with fail
        refine C9.out.mono ?_
        rintro e w9 ⟨rfl, q9⟩
        have Q9 := Lib.hid q9
        clear q9 C9
        go_wp2
        go_roundw
        case rel => exact ⟨2, rfl, by omega, Q9.out⟩
        case measure => simp [intOf]
      · skip
        have C9 := Lib.hid (HQ.out.add (by rw [List.length_append]; have := HL3.out; have := Ad.dns_le t 2; omega) t.d2 131 (some ⟨w.heap.size, 20, none⟩) 4 4 t.n2.list rfl (by omega) HQ.out.n2)
        rw [Ad.dns_3] at C9
        have hix := index_2 t.d0 t.d1 t.d2 t.d3 wr
        clear HQ
        go_wp2_with fail
        refine C9.out.mono ?_
        rintro e w9 ⟨rfl, q9⟩
        have Q9 := Lib.hid q9
        clear q9 C9
        go_wp2
        go_roundw
        case rel => exact ⟨3, rfl, by omega, Q9.out⟩
        case measure => simp [intOf]
      · skip
        have C9 := Lib.hid (HQ.out.add (by rw [List.length_append]; have := HL3.out; have := Ad.dns_le t 3; omega) t.d3 132 (some ⟨w.heap.size, 24, none⟩) 4 4 t.n3.list rfl (by omega) HQ.out.n3)
        rw [Ad.dns_4] at C9
        have hix := index_3 t.d0 t.d1 t.d2 t.d3 wr
        clear HQ
        go_wp2_with fail
        refine C9.out.mono ?_
        rintro e w9 ⟨rfl, q9⟩
        have Q9 := Lib.hid q9
        clear q9 C9
        go_wp2
        go_roundw
        case rel => exact ⟨4, rfl, by omega, Q9.out⟩
        case measure => simp [intOf]
    · obtain rfl : k = 4 := by omega
      rw [← HA.out] at HQ
      obtain ⟨v, hv, hl⟩ := HQ.out.var
      obtain ⟨pl, nl, cl, e⟩ : ∃ p n c, v = .slice p n c := by obtain ⟨p, c, e⟩ := hl.slice; exact ⟨p, _, c, e⟩
      have h1 := HQ.out.above
      have HLL := Lib.hid (hl.opts.lower (show w.heap.size ≤ gj + 1 by omega))
      have HB := Lib.hid HQ.out.bel
      subst e
      have kv := cell_of_row _ _ 0 _ _ _ hv
      clear hv hl HQ Q3 RB
      go_wp2
      go_ret
      exact ⟨_, rfl, HLL.out, HB.out⟩
set_option maxRecDepth 100000 in
set_option maxHeartbeats 1000000 in
theorem usual_any (P kind : Int) (w : World) (hk : Ad.known P kind = true) :
    Calls Try.prog 31 #[.int .i64 kind] w fun e w' => ∃ v, e = .returned (.agg (ocells ⟨kind, Ad.usualD kind⟩ v).toArray) ∧ w'.ownsRow w.heap.size 5 1 v (Ad.usualD kind).length (Lib.byteCells (Ad.usualD kind)) ∧ Below w.heap.size w w' := by
  have b1 := Below.chain (below_one w (.cells #[.int .i64 0, .slice none 0 0] 24)) (below_one (w.alloc (.cells #[.int .i64 0, .slice none 0 0] 24)) (.cells #[.int .u8 10, .int .u8 0, .int .u8 0, .int .u8 1] 30))
  have hg := heap_alloc2_old w (.cells #[.int .i64 0, .slice none 0 0] 24) (.cells #[.int .u8 10, .int .u8 0, .int .u8 0, .int .u8 1] 30)
  have C1 := Lib.hid (options_any Ad.full ((w.alloc (.cells #[.int .i64 0, .slice none 0 0] 24)).alloc (.cells #[.int .u8 10, .int .u8 0, .int .u8 0, .int .u8 1] 30)))
  have HF := Lib.hid (Ad.find_full P hk)
  have HL := Lib.hid (Ad.opts_le Ad.full)
  have HM := Lib.hid (show ∀ x ∈ Ad.opts Ad.full, x.data.length ≤ 300000 by decide)
  have B1 := Lib.hid b1
  have HGG := Lib.hid hg
  have hs : ((w.alloc (.cells #[.int .i64 0, .slice none 0 0] 24)).alloc (.cells #[.int .u8 10, .int .u8 0, .int .u8 0, .int .u8 1] 30)).heap.size = w.heap.size + 2 := by simp
  clear b1 hg hk
  generalize Ad.opts Ad.full = L at *
  generalize Ad.usualD kind = D at *
  go_enter Try.func31, Try.ntmps31
  go_wp2_with fail
  refine C1.out.mono ?_
  rintro e w2 ⟨v, rfl, o2, b2⟩
  obtain ⟨a, c, rfl, hat⟩ := o2.at
  obtain ⟨n, hn⟩ : ∃ n, L.length = n := ⟨_, rfl⟩
  have C2 := Lib.hid (find_any a n c L kind w2 hn (by have := HL.out; omega) HM.out hat)
  rw [HF.out] at C2
  have B2 := Lib.hid (Below.chain B1.out b2)
  have G2 := Lib.hid (block_next HGG.out b2)
  have hs2 : w.heap.size + 1 ≤ w2.heap.size := by have := b2.size; rw [hs] at this; omega
  rw [hn]
  clear o2 b2 hat hs C1 HL HM B1 HGG HF hn
  go_wp2_with fail
  refine C2.out.mono ?_
  rintro e w3 ⟨b3, v3, rfl, o3⟩
  obtain ⟨a3, c3, rfl⟩ := own_slice o3
  have G3 := Lib.hid (block_next G2.out b3)
  have O3 := Lib.hid (ownsRow_lower o3 hs2)
  have B3 := Lib.hid (Below.chain B2.out b3)
  clear o3 b3 C2 B2 G2
  simp only [Option.getD_some] at O3 ⊢
  generalize hd : D.length = m at *
  go_wp2_with (refine wpList_store_opt rfl _ _ rfl w.heap.size ⟨kind, D⟩ a3 m c3 _ rfl rfl G3.out rfl ?_)
  refine bodyPost_ret (results_cell_row (P := Try.prog) Try.results31 _ _ w.heap.size 24 _ _ _ rfl (setRow_heap _ _ _ _ _ _ G3.out) Try.underlying24 rfl infoOpt) rfl (⟨_, rfl, ?_, below_setRow B3.out (Nat.le_refl _) _⟩ : _)
  rw [hd]
  exact ownsRow_lower (own_kept O3.out (grown_row _ _ _) (Nat.lt_succ_self _)) (by omega)
end Go.Proofs.Ytacnlancncmpmaa
