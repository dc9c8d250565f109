/- Contracts of Answer, the document's too. -/
import Derived.Test.YtjalhlofpoknoaaDoorCd
import Derived.Test.YtjalhlofpoknoaaDoorM3Rc
namespace Go.Proofs.YtjalhlofpoknoaaDoor
open Go.RowKit

theorem wpList_bytes_txt {w : World} {ops : Array Oper} {rest : List Oper} {o : Oper} {a : Act} {Q : Exit → Act → World → Prop} (hw : Region.wanted o (yielded ops a.tmps) = true) (x : Operand) (ho : o.op = .convert 9 22 x)
    (s : List UInt8) (hm : s.length ≤ 1000000) (hx : a.eval x = .string ⟨s.toArray⟩)
    (h : ∀ c w', Marked w' w.heap.size s.length c s → Below w.heap.size w w' → wpList Tryd.prog ops Q rest (a.put o.dst (.slice (some ⟨w.heap.size, 0, none⟩) s.length c)) w') : wpList Tryd.prog ops Q (o :: rest) a w := by
  obtain ⟨c, w', r, m, b⟩ := run_bytes_txt w s hm
  refine wpList_value (w' := w') hw ?_ (h c w' m b)
  unfold execOp
  simp only [ho, hx, Sem.run_bind, r, Result.andThen_ok, Sem.run_pure]
theorem size_two (w : World) (a b : Obj) : ((w.alloc a).alloc b).heap.size = w.heap.size + 1 + 1 := by simp
theorem toMd {w : World} {a : Option Addr} {c : Nat} {xs : List UInt8} (h : RowAt w a c xs) : S3.RowAt w a c xs := ⟨h.le, h.max, h.nil, h.cell⟩
theorem parts_three {w : World} {p1 p2 p3 : Option Addr} {c1 c2 c3 n1 n2 n3 : Nat} {y1 y2 y3 : List UInt8} (e1 : y1.length = n1) (e2 : y2.length = n2) (e3 : y3.length = n3) (h1 : RowAt w p1 c1 y1) (h2 : RowAt w p2 c2 y2) (h3 : RowAt w p3 c3 y3) :
    S3.PartsAt (w.alloc (.cells #[.slice p1 n1 c1, .slice p2 n2 c2, .slice p3 n3 c3] 22)) (some ⟨w.heap.size, 0, none⟩) [y1, y2, y3] := by
  subst e1; subst e2; subst e3
  refine .inr ⟨w.heap.size, 0, rfl, by simp, fun j hj => ?_⟩
  have hj4 : j = 0 ∨ j = 1 ∨ j = 2 := by simp at hj; omega
  have hb := below_one w (.cells #[.slice p1 y1.length c1, .slice p2 y2.length c2, .slice p3 y3.length c3] 22)
  rcases hj4 with rfl | rfl | rfl
  · exact ⟨p1, c1, by simp only [World.cell?, heap_alloc_new]; rfl, toMd (h1.next hb)⟩
  · exact ⟨p2, c2, by simp only [World.cell?, heap_alloc_new]; rfl, toMd (h2.next hb)⟩
  · exact ⟨p3, c3, by simp only [World.cell?, heap_alloc_new]; rfl, toMd (h3.next hb)⟩
theorem i64_and255 (n : Int) : bits .and .i64 n 255 = n % 256 := by
  have h1 : (BitVec.ofInt 64 255).toNat = 2 ^ 8 - 1 := by decide
  have key : (BitVec.ofInt 64 n &&& BitVec.ofInt 64 255).toNat = (n % ((2 ^ 64 : Nat) : Int)).toNat % 2 ^ 8 := by
    rw [BitVec.toNat_and, BitVec.toNat_ofInt, h1, Nat.and_two_pow_sub_one_eq_mod]
  show IntKind.i64.wrap ((BitVec.ofInt 64 n &&& BitVec.ofInt 64 255).toNat : Nat) = n % 256
  rw [key, IntKind.wrap_i64]
  omega
/-- What a call that answers a digest leaves: a digest in a block of its own. -/
theorem dig_size {D : List UInt8} (h : D.length = 16) : (Tryd.prog.info? 38).map (·.size) = some (Lib.byteCells D).toArray.size := by rw [S3.info24, List.size_toArray, Lib.byteCells_length, h]
theorem dig_one (D : List UInt8) : (Lib.byteCells D).toArray.all (·.oneCell') = true := S3.bc_one _
def z16 : List UInt8 := List.replicate 16 0
theorem z16_cells : (Lib.byteCells z16).toArray = S3.z24 := by rfl
theorem wpList_store_dig {w : World} {ops : Array Oper} {rest : List Oper} {o : Oper} {a : Act} {Q : Exit → Act → World → Prop} (hgd : o.guard = none) (x y : Operand) (ho : o.op = .store 38 x y)
    (g : Nat) (D : List UInt8) (hD : D.length = 16) (hx : a.eval x = .pointer (some ⟨g, 0, none⟩)) (hy : a.eval y = .agg (Lib.byteCells D).toArray)
    (hg : w.heap[g]? = some (.cells S3.z24 38 (0, 0)))
    (h : wpList Tryd.prog ops Q rest (a.put o.dst undef) (w.setRow g (Lib.byteCells D).toArray)) : wpList Tryd.prog ops Q (o :: rest) a w :=
  wpList_store_row hgd 38 x y ho g _ hx hy 38 _ hg (dig_size hD) (show (16 : Nat) = _ by rw [List.size_toArray, Lib.byteCells_length, hD]) (dig_one D) h
theorem dig_ret {w : World} {fn : Func} {p : Tmp} {R : Nat} {D : List UInt8} {tmps : Array Value} (h : fn.results = #[.cell p 38]) (hp : tmps.getD p undef = .pointer (some ⟨R, 0, none⟩)) (hD : D.length = 16) (hR : w.heap[R]? = some (.cells (Lib.byteCells D).toArray 38 (0, 0))) :
    (results fn tmps).run Tryd.prog w = .ok (.agg (Lib.byteCells D).toArray) w :=
  results_cell_row h _ _ R 38 _ _ _ hp hR Tryd.underlying38 rfl (dig_size hD)

set_option maxRecDepth 100000 in
set_option maxHeartbeats 1000000 in
theorem answer_any (i : Int) (s v : List UInt8) (p : Option Addr) (n c : Nat) (w : World) (hn : v.length = n) (hm : n ≤ 70000) (hs : s.length ≤ 1000) (h : RowAt w p c v) (ht : S3.Tabs w) :
    Calls Tryd.prog 15 #[.int .i64 i, .string ⟨s.toArray⟩, .slice p n c] w fun e w' => e = .returned (.agg (Lib.byteCells (Ch.answer i s v)).toArray) ∧ Below w.heap.size w w' := by
  have b2 := below_two w (.cells S3.z24 38) (.cells #[.int .u8 (i % 256)] 5)
  have h0 := heap_alloc2_old w (.cells S3.z24 38) (.cells #[.int .u8 (i % 256)] 5)
  have h1 := one_built (w.alloc (.cells S3.z24 38)) (Ch.byteOf i) (i % 256) (Ch.byteOf_int i).symm
  rw [show (w.alloc (.cells S3.z24 38)).heap.size = w.heap.size + 1 by simp] at h1
  have B2 := Lib.hid b2
  have H0 := Lib.hid h0
  have H1 := Lib.hid h1
  have R2 := Lib.hid (h.next b2)
  have T2 := Lib.hid (ht.next b2)
  have HN := Lib.hid hn
  have hl := Ch.answer_length i s v
  obtain ⟨D, hD⟩ : ∃ D, Ch.answer i s v = D := ⟨_, rfl⟩
  have hD2 : S3.Md.sum (Ch.byteOf i :: (s ++ v)) = D := hD
  rw [hD] at hl ⊢
  have HD := Lib.hid hD2
  have HL := Lib.hid hl
  generalize Ch.byteOf i = y at *
  clear hD hD2 hl b2 h0 h1 ht h hn
  unfold S3.z24 at B2 H0 H1 R2 T2
  go_enter Tryd.func15, Tryd.ntmps15
  go_wp2_with (refine wpList_bytes_txt (by rfl) (.tmp 10) rfl s (by omega) rfl ?_; intro c3 w3 m3 b3; have m4 := m3.row; rw [size_two] at m4; have M3 := Lib.hid m4; have B3 := Lib.hid (Below.chain B2.out b3); have H3 := Lib.hid (block_next H0.out b3); have Y3 := Lib.hid (H1.out.next b3); have R3 := Lib.hid (R2.out.next b3); have T3 := Lib.hid (T2.out.next b3); clear m3 m4 b3 B2 H0 H1 R2 T2)
  have hsum := S3.sum_any (some ⟨w3.heap.size, 0, none⟩) 3 3 [[y], s, v] (y :: (s ++ v)) (w3.alloc (.cells #[.slice (some ⟨w.heap.size + 1, 0, none⟩) 1 1, .slice (some ⟨w.heap.size + 1 + 1, 0, none⟩) s.length c3, .slice p n c] 22)) rfl (by simp) (by simp) (by rw [List.length_cons, List.length_append, HN.out]; omega) (parts_three rfl rfl HN.out Y3.out M3.out R3.out) (T3.out.next (below_one _ _))
  rw [HD.out] at hsum
  refine hsum.mono ?_
  rintro e w4 ⟨rfl, b4⟩
  have B4 := Lib.hid (Below.chain B3.out (below_alloc b4))
  have H4 := Lib.hid (block_next H3.out (below_alloc b4))
  clear hsum b4 B3 H3 Y3 R3 T3 M3
  go_wp2_with (refine wpList_store_dig rfl (.tmp 6) (.tmp 14) rfl w.heap.size D HL.out rfl rfl H4.out ?_)
  exact bodyPost_ret (dig_ret Tryd.results15 rfl HL.out (setRow_heap _ _ _ _ _ _ H4.out)) rfl ⟨rfl, below_setRow B4.out (Nat.le_refl _) _⟩

set_option maxRecDepth 100000 in
set_option maxHeartbeats 1000000 in
theorem refAnswer_any (i : Int) (s v : List UInt8) (p : Option Addr) (n c : Nat) (w : World) (hn : v.length = n) (hm : n ≤ 1000) (hs : s.length ≤ 1000) (h : RowAt w p c v) (ht : S3.Trig w) :
    Calls Tryd.prog 16 #[.int .i64 i, .string ⟨s.toArray⟩, .slice p n c] w fun e w' => e = .returned (.agg (Lib.byteCells (Ch.answer i s v)).toArray) ∧ Below w.heap.size w w' := by
  have b0 := below_one w (.cells S3.z24 38)
  have h0 := heap_alloc_new w (.cells S3.z24 38)
  have h1 := own_built (w.alloc (.cells S3.z24 38)) (w.alloc (.cells S3.z24 38)) (Ch.byteOf i) (.int .u8 (i % 256)) (by rw [Ch.byteOf_int]) (Below.refl _ _)
  rw [show (w.alloc (.cells S3.z24 38)).heap.size = w.heap.size + 1 by simp] at h1
  have hand := i64_and255 i
  have B0 := Lib.hid b0
  have H0 := Lib.hid h0
  have H1 := Lib.hid h1
  have R0 := Lib.hid (h.next b0)
  have T0 := Lib.hid (ht.next b0)
  have HN := Lib.hid hn
  have hl := Ch.answer_length i s v
  obtain ⟨D, hD⟩ : ∃ D, Ch.answer i s v = D := ⟨_, rfl⟩
  have hD2 : S3.Md.sum ([Ch.byteOf i] ++ s ++ v) = D := hD
  rw [hD] at hl ⊢
  have HD := Lib.hid hD2
  have HL := Lib.hid hl
  generalize Ch.byteOf i = y at *
  clear hD hD2 hl b0 h0 h1 ht h hn
  unfold S3.z24 at B0 H0 H1 R0 T0
  go_enter Tryd.func16, Tryd.ntmps16
  go_wp2_with (first
    | (refine wpList_append_txt rfl (.tmp 12) (.tmp 13) rfl (some ⟨w.heap.size + 1, 0, none⟩) 1 1 (1 + s.length) [y] rfl H1.out s rfl rfl (by omega) ?_; intro p2 c2 w2 o2; have O2 := Lib.hid o2; clear o2 H1)
    | (at_builtin; refine wpList_append_mine rfl (.tmp 15) (.tmp 16) rfl p2 (1 + s.length) c2 (1 + s.length + n) ([y] ++ s) rfl O2.out p n c v rfl HN.out (R0.out.next O2.out.bel) rfl (by omega) ?_; intro p3 c3 w3 o3; have O3 := Lib.hid o3; clear o3 O2))
  have hsum := S3.refSum_at p3 c3 (1 + s.length + n) ([y] ++ s ++ v) w3 O3.out.len (by omega) (toMd O3.out.row) (T0.out.next O3.out.bel)
  rw [HD.out] at hsum
  refine hsum.mono ?_
  rintro e w4 ⟨rfl, b4⟩
  have B4 := Lib.hid (Below.chain (Below.chain B0.out O3.out.bel) b4)
  have H4 := Lib.hid (block_next (block_next H0.out O3.out.bel) b4)
  clear hsum b4 B0 H0 O3 R0 T0
  go_wp2_with (refine wpList_store_dig rfl (.tmp 6) (.tmp 18) rfl w.heap.size D HL.out rfl rfl H4.out ?_)
  exact bodyPost_ret (dig_ret Tryd.results16 rfl HL.out (setRow_heap _ _ _ _ _ _ H4.out)) rfl ⟨rfl, below_setRow B4.out (Nat.le_refl _) _⟩
end Go.Proofs.YtjalhlofpoknoaaDoor
