/- Contracts of the document's ended; two streams, and the items so far. -/
import Derived.Test.YtbbnkmhlgfoacaaGreatDoorVa
import Derived.Test.YtbbnkmhlgfoacaaGreatDoorCh
namespace Go.Proofs.YtbbnkmhlgfoacaaGreatDoor
open Go.RowKit
open S10

theorem wpList_append_bytes {w : World} {ops : Array Oper} {rest : List Oper} {o : Oper} {a : Act} {Q : Exit → Act → World → Prop} (hgd : o.guard = none) (s x : Operand)
  (ho : o.op = .call { callee := .builtin .append, args := #[s, x], argTypes := #[22, 22] })
  (base : Nat) (v : Value) (n : Nat) (xs : List Value) (hs : a.eval s = v) (hown : w.ownsRow base 5 1 v n xs)
  (p : Option Addr) (m c : Nat) (ys : List UInt8) (hx : a.eval x = .slice p m c) (hm : ys.length = m) (hrow : RowAt w p c ys)
  (h63 : n + m ≤ 1000000) (hbase : base ≤ w.heap.size)
  (h : ∀ v' w', w'.ownsRow base 5 1 v' (n + m) (xs ++ Lib.byteCells ys) → Grew w w' v v' → wpList Tryz.prog ops Q rest (a.put o.dst v') w') : wpList Tryz.prog ops Q (o :: rest) a w := by
 obtain ⟨i0, hi, hz0, hz1, hz2⟩ := info_parts info5
 cases p with
 | none =>
  have h0 := hrow.nil rfl
  have h1 := hrow.le
  have hy : ys = [] := List.eq_nil_of_length_eq_zero (by omega)
  subst hy
  subst h0
  simp at hm
  subst hm
  exact wpList_append_own_none hgd s x 22 ho base 5 i0 1 Tryz.underlying22 hi v n xs hs hown hx (h v w (by simpa [Lib.byteCells] using hown) (Grew.refl _ _))
 | some ad =>
  exact S7.wpList_append_at hgd s x 22 ho base 5 i0 (.int .u8 0) 1 1 Tryz.underlying22 hi hz0 hz1 hz2 rfl (by decide) v n xs hs hown ad m c (Lib.byteCells ys) hx (by rw [Lib.byteCells_length, hm, Nat.mul_one]) (hrow.cell ad rfl) (cells_one ys) (by unfold maxLen; omega) (by omega) hbase (fun v' w' a1 a2 a3 => h v' w' a1 ⟨a2, a3⟩)

/-- Bodies that Between tells lie in new memory. -/
theorem lst_bods {w : World} {B : Nat} {E : Nat → Prop} {a : Option Addr} {n c : Nat} {L : List (List UInt8)} {F : Nat → Prop} (h : S7.Lst w B E (.slice a n c) L) (hF : ∀ k, B ≤ k → F k) (hE : ∀ k, E k → F k) : BodsAt w a L F := by
 obtain ⟨vs, ho, he⟩ := h
 rcases ho.2 with ⟨e, h0⟩ | ⟨g, cap, cur, e, hb, hg, _⟩
 ·
  exact .inl (List.eq_nil_of_length_eq_zero h0)
 ·
  simp only [Value.slice.injEq] at e
  obtain ⟨rfl, rfl, rfl⟩ := e
  refine .inr ⟨g, 0, rfl, lt_of_block hg, hF g hb, fun j hj => ?_⟩
  obtain ⟨p, c, h1, h2, h3⟩ := he j hj
  have e := ho.cells (g := g) rfl
  simp only [Go.WideShapes.add_plain] at e
  exact ⟨p, c, e _ _ h1, RowAt.of7 h2, fun ad e2 => ⟨(h3 ad e2).1, hE _ (h3 ad e2).2.2⟩⟩
theorem ended_any (m : Nat) (wide : Bool) (a : Option Addr) (n cap : Nat) (xs : List UInt8) (w : World) (hn : xs.length = n) (hm : m < 4294967296) (hl : n ≤ 4000) (hr : RowAt w a cap xs) :
  Calls Tryz.prog 41 #[.slice a n cap, .int .u32 (m : Int), .bool wide] w fun e w' => ∃ p c, e = .returned (.slice p (S7.Fr.all m wide S7.Fr.init xs).length c) ∧ BodsAt w' p (S7.Fr.all m wide S7.Fr.init xs) (fun k => w.heap.size ≤ k) ∧ Below w.heap.size w w' := by
 have c1 := S7.refAll_any m wide a n cap xs w hn hm hl (RowAt.to7 hr)
 generalize S7.Fr.all m wide S7.Fr.init xs = BS at *
 obtain ⟨nb, hnb⟩ : ∃ nb, BS.length = nb := ⟨_, rfl⟩
 rw [hnb]
 go_enter Tryz.func41, Tryz.ntmps41
 go_wp2_with fail
 refine c1.mono ?_
 rintro e w1 ⟨t, p, c, rfl, _, b1, hl1⟩
 rw [hnb] at hl1 ⊢
 have hbs := lst_bods (F := fun k => w.heap.size ≤ k) hl1 (fun _ h => h) (fun _ h => h)
 have ba := below_one w1 (.cells (S7.tcells t).toArray 107)
 have HB := Lib.hid (Below.chain b1 ba)
 have HBS := Lib.hid (show BodsAt (w1.alloc (.cells (S7.tcells t).toArray 107)) p BS (fun k => w.heap.size ≤ k) by
  rcases hbs with h | ⟨b, off, h1, h2, h3, h4⟩
  ·
   exact .inl h
  ·
   refine .inr ⟨b, off, h1, Nat.lt_of_lt_of_le h2 ba.size, h3, fun j hj => ?_⟩
   obtain ⟨p2, c2, h5, h6, h7⟩ := h4 j hj
   exact ⟨p2, c2, by rw [ba.cell (p := ⟨b, off + j, none⟩) h2]; exact h5, h6.next ba, fun ad e => ⟨Nat.lt_of_lt_of_le (h7 ad e).1 ba.size, (h7 ad e).2⟩⟩)
 simp only [S7.tcells] at HB HBS ⊢
 clear b1 hl1 hbs ba c1 hnb
 go_wp2
 go_ret
 exact ⟨p, c, rfl, HBS.out, HB.out⟩

def OffA (B : Nat) (h1 h2 : Value) (k : Nat) : Prop := B ≤ k ∧ h1.ownBlock ≠ some k ∧ h2.ownBlock ≠ some k
structure Acc (W w : World) (h1 h2 v : Value) (s1 s2 : List UInt8) (L : List Cp.It) : Prop where
 o1 : w.ownsRow W.heap.size 5 1 h1 s1.length (Lib.byteCells s1)
 o2 : w.ownsRow W.heap.size 5 1 h2 s2.length (Lib.byteCells s2)
 ah : ∀ k, h1.ownBlock = some k → h2.ownBlock ≠ some k
 v1 : ∀ k, h1.ownBlock = some k → v.ownBlock ≠ some k
 v2 : ∀ k, h2.ownBlock = some k → v.ownBlock ≠ some k
 its : Its w W.heap.size (OffA W.heap.size h1 h2) v L
 below : Below W.heap.size W w
theorem acc_none (W : World) : Acc W W (.slice none 0 0) (.slice none 0 0) (.slice none 0 0) [] [] [] := by
 have n : ∀ k, (Value.slice none 0 0).ownBlock ≠ some k := fun k e => by simp [Value.ownBlock] at e
 exact ⟨World.ownsRow_nil _ _ _ _, World.ownsRow_nil _ _ _ _, fun k _ => n k, fun k _ => n k, fun k _ => n k, its_none _ _ _, Below.refl _ _⟩
theorem Acc.swap {W w : World} {h1 h2 v : Value} {s1 s2 : List UInt8} {L : List Cp.It} (h : Acc W w h1 h2 v s1 s2 L) : Acc W w h2 h1 v s2 s1 L :=
 ⟨h.o2, h.o1, fun k e e2 => h.ah k e2 e, h.v2, h.v1, h.its.mono (fun _ _ ⟨a, b, c⟩ => ⟨a, c, b⟩), h.below⟩
theorem Acc.next {W w w' : World} {h1 h2 v : Value} {s1 s2 : List UInt8} {L : List Cp.It} (h : Acc W w h1 h2 v s1 s2 L) (b : Below w.heap.size w w') : Acc W w' h1 h2 v s1 s2 L :=
 ⟨ownsRow_next h.o1 b, ownsRow_next h.o2 b, h.ah, h.v1, h.v2, h.its.next b, Below.chain h.below b⟩
theorem Acc.clear {W w : World} {h1 h2 v : Value} {s1 s2 : List UInt8} {L : List Cp.It} (h : Acc W w h1 h2 v s1 s2 L) : Acc W w (.slice none 0 0) h2 v [] s2 L := by
 have n : ∀ k, (Value.slice none 0 0).ownBlock ≠ some k := fun k e => by simp [Value.ownBlock] at e
 exact ⟨World.ownsRow_nil _ _ _ _, h.o2, fun k e => absurd e (n k), fun k e => absurd e (n k), h.v2, h.its.mono (fun k _ ⟨a, _, c⟩ => ⟨a, n k, c⟩), h.below⟩
theorem own_kept2 {w w' : World} {B : Nat} {v : Value} {n : Nat} {xs : List Value} (h : w.ownsRow B 5 1 v n xs) (hk : ∀ k, v.ownBlock = some k → w'.heap[k]? = w.heap[k]?) : w'.ownsRow B 5 1 v n xs := by
 refine ⟨h.1, ?_⟩
 rcases h.2 with h2 | ⟨q, cap, cur, e, hB, hq, hr⟩
 ·
  exact .inl h2
 ·
  exact .inr ⟨q, cap, cur, e, hB, by rw [hk q (by rw [e]; rfl)]; exact hq, hr⟩
/-- Bytes came behind the first stream. -/
theorem Acc.fed {W w w' : World} {h1 h1' h2 v : Value} {s1 s1' s2 : List UInt8} {L : List Cp.It} (h : Acc W w h1 h2 v s1 s2 L) (g : Grew w w' h1 h1') (ho : w'.ownsRow W.heap.size 5 1 h1' s1'.length (Lib.byteCells s1')) : Acc W w' h1' h2 v s1' s2 L := by
 have o2 : ∀ k, h2.ownBlock = some k → w'.heap[k]? = w.heap[k]? ∧ h1'.ownBlock ≠ some k := fun k e => g.away k (h.o2.lt k e).2 (fun e2 => h.ah k e2 e)
 have ov : ∀ k, v.ownBlock = some k → w'.heap[k]? = w.heap[k]? ∧ h1'.ownBlock ≠ some k := fun k e => g.away k (h.its.lt k e).2 (fun e2 => h.v1 k e2 e)
 refine ⟨ho, own_kept2 h.o2 (fun k e => (o2 k e).1), fun k e e2 => (o2 k e2).2 e, fun k e e2 => (ov k e2).2 e, h.v2, ?_, g.below h.below (fun k e => (h.o1.lt k e).1)⟩
 refine ((h.its.mono (E' := fun k => OffA W.heap.size h1 h2 k ∧ OffA W.heap.size h1' h2 k) (fun k hk ⟨a, b, c⟩ => ⟨⟨a, b, c⟩, ⟨a, (g.away k hk b).2, c⟩⟩)).stays g.by'.size (fun k hk e => ?_)).mono (fun k _ e => e.2)
 rcases e with e | e
 ·
  exact (ov k e).1
 ·
  exact (g.away k hk e.1.2.1).1
/-- Items are put behind those. -/
theorem Acc.grew {W w w' : World} {h1 h2 v v' : Value} {s1 s2 : List UInt8} {L L' : List Cp.It} (h : Acc W w h1 h2 v s1 s2 L) (g : Grew w w' v v') (hi : Its w' W.heap.size (OffA W.heap.size h1 h2) v' L') : Acc W w' h1 h2 v' s1 s2 L' := by
 have o1 : ∀ k, h1.ownBlock = some k → w'.heap[k]? = w.heap[k]? ∧ v'.ownBlock ≠ some k := fun k e => g.away k (h.o1.lt k e).2 (h.v1 k e)
 have o2 : ∀ k, h2.ownBlock = some k → w'.heap[k]? = w.heap[k]? ∧ v'.ownBlock ≠ some k := fun k e => g.away k (h.o2.lt k e).2 (h.v2 k e)
 exact ⟨own_kept2 h.o1 (fun k e => (o1 k e).1), own_kept2 h.o2 (fun k e => (o2 k e).1), h.ah, fun k e => (o1 k e).2, fun k e => (o2 k e).2, hi, g.below h.below (fun k e => (h.its.lt k e).1)⟩
theorem Acc.off {W w : World} {h1 h2 v : Value} {s1 s2 : List UInt8} {L : List Cp.It} (h : Acc W w h1 h2 v s1 s2 L) (k : Nat) (hk : w.heap.size ≤ k) : OffA W.heap.size h1 h2 k := by
 have a := h.below.size
 exact ⟨by omega, fun e => by have := (h.o1.lt k e).2; omega, fun e => by have := (h.o2.lt k e).2; omega⟩
end Go.Proofs.YtbbnkmhlgfoacaaGreatDoor
