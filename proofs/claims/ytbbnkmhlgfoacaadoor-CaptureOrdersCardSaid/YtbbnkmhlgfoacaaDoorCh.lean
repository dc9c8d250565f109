/- Two deframers, and the items so far. -/
import Derived.Test.YtbbnkmhlgfoacaaDoorCe
import Derived.Test.YtbbnkmhlgfoacaaDoorCg
namespace Go.Proofs.YtbbnkmhlgfoacaaDoor
open Go.RowKit
open S10

def Off (B D1 D2 : Nat) (h1 h2 : Value) (k : Nat) : Prop := B ≤ k ∧ k ≠ D1 ∧ k ≠ D2 ∧ h1.ownBlock ≠ some k ∧ h2.ownBlock ≠ some k
structure Two (W w : World) (wide : Bool) (m1 m2 D1 D2 : Nat) (h1 h2 v : Value) (s1 s2 : S7.Fr.DS) (L : List Cp.It) : Prop where
  d1 : S7.DefAt w m1 wide D1 h1 s1
  d2 : S7.DefAt w m2 wide D2 h2 s2
  ne : D1 ≠ D2
  a12 : h1.ownBlock ≠ some D2
  a21 : h2.ownBlock ≠ some D1
  ah : ∀ k, h1.ownBlock = some k → h2.ownBlock ≠ some k
  v1 : v.ownBlock ≠ some D1
  v2 : v.ownBlock ≠ some D2
  vh1 : ∀ k, h1.ownBlock = some k → v.ownBlock ≠ some k
  vh2 : ∀ k, h2.ownBlock = some k → v.ownBlock ≠ some k
  b1 : W.heap.size ≤ D1
  b2 : W.heap.size ≤ D2
  its : Its w W.heap.size (Off W.heap.size D1 D2 h1 h2) v L
  below : Below W.heap.size W w
theorem defAt_kept {w w' : World} {m : Nat} {wide : Bool} {D : Nat} {hv : Value} {s : S7.Fr.DS} (h : S7.DefAt w m wide D hv s) (hk : ∀ k, k < w.heap.size → (k = D ∨ hv.ownBlock = some k) → w'.heap[k]? = w.heap[k]?) : S7.DefAt w' m wide D hv s := by
  refine ⟨by rw [hk D h.lt (.inl rfl)]; exact h.blk, h.own.1, ?_⟩
  rcases h.own.2 with h2 | ⟨q, cap, cur, e, hB, hq, hr⟩
  · exact .inl h2
  · exact .inr ⟨q, cap, cur, e, hB, by rw [hk q (lt_of_block hq) (.inr (by rw [e]; rfl))]; exact hq, hr⟩
theorem Two.swap {W w : World} {wide : Bool} {m1 m2 D1 D2 : Nat} {h1 h2 v : Value} {s1 s2 : S7.Fr.DS} {L : List Cp.It} (h : Two W w wide m1 m2 D1 D2 h1 h2 v s1 s2 L) : Two W w wide m2 m1 D2 D1 h2 h1 v s2 s1 L :=
  ⟨h.d2, h.d1, h.ne.symm, h.a21, h.a12, fun k e e2 => h.ah k e2 e, h.v2, h.v1, h.vh2, h.vh1, h.b2, h.b1, h.its.mono (fun _ _ ⟨a, b, c, d, e⟩ => ⟨a, c, b, e, d⟩), h.below⟩
theorem Two.next {W w w' : World} {wide : Bool} {m1 m2 D1 D2 : Nat} {h1 h2 v : Value} {s1 s2 : S7.Fr.DS} {L : List Cp.It} (h : Two W w wide m1 m2 D1 D2 h1 h2 v s1 s2 L) (b : Below w.heap.size w w') : Two W w' wide m1 m2 D1 D2 h1 h2 v s1 s2 L :=
  ⟨h.d1.next b, h.d2.next b, h.ne, h.a12, h.a21, h.ah, h.v1, h.v2, h.vh1, h.vh2, h.b1, h.b2, h.its.next b, Below.chain h.below b⟩
/-- The first deframer was fed. -/
theorem Two.fed {W w w' : World} {wide : Bool} {m1 m2 D1 D2 : Nat} {h1 h1' h2 v : Value} {s1 s1' s2 : S7.Fr.DS} {L : List Cp.It} (h : Two W w wide m1 m2 D1 D2 h1 h2 v s1 s2 L) (f : S7.Fed w w' D1 h1 h1') (hd : S7.DefAt w' m1 wide D1 h1' s1') : Two W w' wide m1 m2 D1 D2 h1' h2 v s1' s2 L := by
  have hl2 := h.d2.lt
  have off : ∀ k, h2.ownBlock = some k → w'.heap[k]? = w.heap[k]? ∧ h1'.ownBlock ≠ some k := fun k e =>
    f.away k (h.d2.own.lt k e).2 (fun e2 => h.a21 (by rw [e, e2])) (fun e2 => h.ah k e2 e)
  have offv : ∀ k, v.ownBlock = some k → w'.heap[k]? = w.heap[k]? ∧ h1'.ownBlock ≠ some k := fun k e =>
    f.away k (h.its.lt k e).2 (fun e2 => h.v1 (by rw [e, e2])) (fun e2 => h.vh1 k e2 e)
  refine ⟨hd, defAt_kept h.d2 (fun k hk e => ?_), h.ne, (f.away D2 hl2 h.ne.symm h.a12).2, h.a21, fun k e e2 => (off k e2).2 e, h.v1, h.v2, fun k e e2 => (offv k e2).2 e, h.vh2, h.b1, h.b2, ?_, ?_⟩
  · rcases e with rfl | e
    · exact (f.away _ hl2 h.ne.symm h.a12).1
    · exact (off k e).1
  · refine ((h.its.mono (E' := fun k => Off W.heap.size D1 D2 h1 h2 k ∧ Off W.heap.size D1 D2 h1' h2 k) (fun k hk ⟨a, b, c, d, e⟩ => ⟨⟨a, b, c, d, e⟩, ⟨a, b, c, (f.away k hk b d).2, e⟩⟩)).stays f.size (fun k hk e => ?_)).mono (fun k _ e => e.2)
    rcases e with e | e
    · exact (offv k e).1
    · exact (f.away k hk e.1.2.1 e.1.2.2.2.1).1
  · exact f.below h.below h.b1 (fun k e => by have := (h.d1.own.lt k e).1; have := h.b1; omega)
/-- Items are put behind those. -/
theorem Two.grew {W w w' : World} {wide : Bool} {m1 m2 D1 D2 : Nat} {h1 h2 v v' : Value} {s1 s2 : S7.Fr.DS} {L L' : List Cp.It} (h : Two W w wide m1 m2 D1 D2 h1 h2 v s1 s2 L) (g : Grew w w' v v') (hi : Its w' W.heap.size (Off W.heap.size D1 D2 h1 h2) v' L') : Two W w' wide m1 m2 D1 D2 h1 h2 v' s1 s2 L' := by
  have o1 : ∀ k, h1.ownBlock = some k → w'.heap[k]? = w.heap[k]? ∧ v'.ownBlock ≠ some k := fun k e => g.away k (h.d1.own.lt k e).2 (h.vh1 k e)
  have o2 : ∀ k, h2.ownBlock = some k → w'.heap[k]? = w.heap[k]? ∧ v'.ownBlock ≠ some k := fun k e => g.away k (h.d2.own.lt k e).2 (h.vh2 k e)
  have e1 := g.away D1 h.d1.lt h.v1
  have e2 := g.away D2 h.d2.lt h.v2
  refine ⟨defAt_kept h.d1 (fun k hk e => ?_), defAt_kept h.d2 (fun k hk e => ?_), h.ne, h.a12, h.a21, h.ah, e1.2, e2.2, fun k e => (o1 k e).2, fun k e => (o2 k e).2, h.b1, h.b2, hi, g.below h.below (fun k e => (h.its.lt k e).1)⟩
  · rcases e with rfl | e
    · exact e1.1
    · exact (o1 k e).1
  · rcases e with rfl | e
    · exact e2.1
    · exact (o2 k e).1
/-- The first stream ends: a new deframer. -/
theorem Two.fresh {W w w' : World} {wide : Bool} {m1 m2 D1 D2 D : Nat} {h1 h2 v : Value} {s1 s2 : S7.Fr.DS} {L : List Cp.It} (h : Two W w wide m1 m2 D1 D2 h1 h2 v s1 s2 L) (b : Below w.heap.size w w') (hD : w.heap.size ≤ D) (hd : S7.DefAt w' m1 wide D (.slice none 0 0) S7.Fr.init) : Two W w' wide m1 m2 D D2 (.slice none 0 0) h2 v S7.Fr.init s2 L := by
  have k := h.next b
  have hl2 := h.d2.lt
  have hw := h.below.size
  refine ⟨hd, k.d2, by omega, by simp [Value.ownBlock], (fun e => by have := (h.d2.own.lt _ e).2; omega), (fun j e => by simp [Value.ownBlock] at e), (fun e => by have := (h.its.lt _ e).2; omega), k.v2, (fun j e => by simp [Value.ownBlock] at e), k.vh2, by omega, k.b2, ?_, k.below⟩
  exact (h.its.mono (E' := Off W.heap.size D D2 (.slice none 0 0) h2) (fun j hj ⟨a, _, c, _, e⟩ => ⟨a, by omega, c, by simp [Value.ownBlock], e⟩)).next b
/-- The bodies that Feed tells lie in new memory. -/
theorem outs_bods {w : World} {B : Nat} {hv : Value} {a : Option Addr} {n c : Nat} {L : List (List UInt8)} {F : Nat → Prop} (h : S7.Outs w B hv (.slice a n c) L) (hF : ∀ k, B ≤ k → F k) : BodsAt w a L F := by
  obtain ⟨vs, ho, _, he⟩ := h
  rcases ho.2 with ⟨e, h0⟩ | ⟨g, cap, cur, e, hb, hg, _⟩
  · exact .inl (List.eq_nil_of_length_eq_zero h0)
  · simp only [Value.slice.injEq] at e
    obtain ⟨rfl, rfl, rfl⟩ := e
    refine .inr ⟨g, 0, rfl, lt_of_block hg, hF g hb, fun j hj => ?_⟩
    obtain ⟨p, c, h1, h2, h3⟩ := he j hj
    have e := ho.cells (g := g) rfl
    simp only [Go.WideShapes.add_plain] at e
    exact ⟨p, c, e _ _ h1, RowAt.of7 h2, fun ad e2 => ⟨(h3 ad e2).2.1, hF _ (h3 ad e2).1⟩⟩
theorem tal_st (m : Nat) (wide : Bool) (x : List UInt8) : (Cp.st m wide x).tal.le x.length := by
  have := S7.Fr.run_le m wide x S7.Fr.init 0 (S7.Fr.zero_le 0)
  rwa [Nat.zero_add] at this
end Go.Proofs.YtbbnkmhlgfoacaaDoor
