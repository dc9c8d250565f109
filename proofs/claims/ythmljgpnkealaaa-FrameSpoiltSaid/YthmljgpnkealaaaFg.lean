/- Lists of bodies that are answered; contracts of Feed and All. -/
import Derived.Test.YthmljgpnkealaaaFf
namespace Go.Proofs.Ythmljgpnkealaaa
open Go.RowKit

theorem info26 : (Try.prog.info? 26).map (fun i => (i.zero, i.size, i.bytes)) = some (some (.slice none 0 0), 1, 24) := by kernel_rfl
/-- A slice that is not written stays. -/
theorem RowAt.kept {w w' : World} {a : Option Addr} {c : Nat} {xs : List UInt8} {row : Option Nat} (h : RowAt w a c xs) (hg : w.grownBy w' row) (hr : ∀ ad, a = some ad → row ≠ some ad.block) : RowAt w' a c xs :=
  ⟨h.le, h.max, h.nil, fun ad e j u hu => by
    have h1 := h.cell ad e j u hu
    have hb : (ad.add j).block = ad.block := by unfold Addr.add; split <;> rfl
    have hlt := World.block_lt_of_cell? w _ h1
    rw [World.cell?_of_block (w := w) (hg.block (ad.add j).block hlt (fun e2 => hr ad e (by rw [← hb]; exact e2.symm ▸ rfl)))]; exact h1⟩
theorem RowAt.fed {w w' : World} {D : Nat} {hv hv' : Value} {a : Option Addr} {c : Nat} {xs : List UInt8} (h : RowAt w a c xs) (hf : Fed w w' D hv hv') (hr : xs = [] ∨ ∀ ad, a = some ad → ad.block ≠ D ∧ hv.ownBlock ≠ some ad.block) : RowAt w' a c xs :=
  ⟨h.le, h.max, h.nil, fun ad e j u hu => by
    rcases hr with rfl | hr
    · simp [Lib.byteCells] at hu
    have h1 := h.cell ad e j u hu
    have hb : (ad.add j).block = ad.block := by unfold Addr.add; split <;> rfl
    have hlt := World.block_lt_of_cell? w _ h1
    have h2 := hr ad e
    rw [← hb] at h2
    rw [World.cell?_of_block (w := w) (hf.away (ad.add j).block hlt h2.1 h2.2).1]; exact h1⟩

theorem RowAt.lt {w : World} {a : Option Addr} {c : Nat} {xs : List UInt8} (h : RowAt w a c xs) : xs = [] ∨ ∀ ad, a = some ad → ad.block < w.heap.size := by
  rcases h.bytes with h0 | ⟨b, off, rfl, hb, _⟩
  · exact .inl h0
  · exact .inr fun ad e => by cases e; exact hb

/-- Bodies that were answered: the list, and each of them, in memory from B on, none of it the deframer's. -/
def Outs (w : World) (B : Nat) (hv v : Value) (L : List (List UInt8)) : Prop :=
  ∃ vs : List Value, w.ownsRow B 26 1 v L.length vs ∧ (∀ g, v.ownBlock = some g → hv.ownBlock ≠ some g) ∧
    ∀ j (h : j < L.length), ∃ p c, vs[j]? = some (.slice p L[j].length c) ∧ RowAt w p c L[j] ∧ ∀ ad, p = some ad → B ≤ ad.block ∧ ad.block < w.heap.size ∧ hv.ownBlock ≠ some ad.block ∧ v.ownBlock ≠ some ad.block
theorem outs_none (w : World) (B : Nat) (hv : Value) : Outs w B hv (.slice none 0 0) [] := ⟨[], World.ownsRow_nil _ _ _ _, (fun _ e => by cases e), (fun _ h => by simp at h)⟩
theorem Outs.fed {w w' : World} {B D : Nat} {hv hv' v : Value} {L : List (List UInt8)} (h : Outs w B hv v L) (hD : D < B) (hf : Fed w w' D hv hv') : Outs w' B hv' v L := by
  obtain ⟨vs, ho, hoff, he⟩ := h
  refine ⟨vs, ?_, fun g hg => ?_, fun j hj => ?_⟩
  · refine ⟨ho.1, ?_⟩
    rcases ho.2 with h2 | ⟨g, cap, cur, rfl, hb, hg, hr⟩
    · exact .inl h2
    · refine .inr ⟨g, cap, cur, rfl, hb, ?_, hr⟩
      rw [(hf.away g (lt_of_block hg) (by omega) (hoff g rfl)).1]; exact hg
  · have h1 := ho.lt g hg
    exact (hf.away g h1.2 (by omega) (hoff g hg)).2
  · obtain ⟨p, c, h1, h2, h3⟩ := he j hj
    refine ⟨p, c, h1, h2.fed hf (.inr fun ad e => ⟨by have := h3 ad e; omega, (h3 ad e).2.2.1⟩), fun ad e => ?_⟩
    have h4 := h3 ad e
    exact ⟨h4.1, Nat.lt_of_lt_of_le h4.2.1 hf.size, (hf.away _ h4.2.1 (by omega) h4.2.2.1).2, h4.2.2.2⟩
/-- What is appended to such a list. -/
def Items (w : World) (B : Nat) (hv v x : Value) (M : List (List UInt8)) : Prop :=
  ∃ (p : Option Addr) (c : Nat) (ms : List Value), x = .slice p M.length c ∧ (p = none → M = [] ∧ c = 0) ∧ ms.length = M.length ∧ (∀ ad, p = some ad → ∀ j u, ms[j]? = some u → w.cell? (ad.add j) = some u) ∧
    ∀ j (h : j < M.length), ∃ p' c', ms[j]? = some (.slice p' M[j].length c') ∧ RowAt w p' c' M[j] ∧ ∀ ad, p' = some ad → B ≤ ad.block ∧ ad.block < w.heap.size ∧ hv.ownBlock ≠ some ad.block ∧ v.ownBlock ≠ some ad.block
theorem DefAt.grown {w w' : World} {m : Nat} {wide : Bool} {D : Nat} {hv : Value} {s : Fr.DS} {row : Option Nat} (h : DefAt w m wide D hv s) (hg : w.grownBy w' row) (h1 : row ≠ some D) (h2 : ∀ k, row = some k → hv.ownBlock ≠ some k) : DefAt w' m wide D hv s := by
  refine ⟨by rw [hg.block D h.lt (fun e => h1 e.symm)]; exact h.blk, h.own.kept hg ?_⟩
  cases hv2 : hv.ownBlock with
  | none => exact .inl rfl
  | some k => exact .inr fun e => h2 k e.symm hv2

theorem outs_append {w w' : World} {B : Nat} {hv v v' : Value} {L M : List (List UInt8)} {vs ms : List Value}
    (hoff : ∀ g, v.ownBlock = some g → hv.ownBlock ≠ some g) (hl : vs.length = L.length)
    (he : ∀ j (h : j < L.length), ∃ p c, vs[j]? = some (.slice p L[j].length c) ∧ RowAt w p c L[j] ∧ ∀ ad, p = some ad → B ≤ ad.block ∧ ad.block < w.heap.size ∧ hv.ownBlock ≠ some ad.block ∧ v.ownBlock ≠ some ad.block)
    (hm : ∀ j (h : j < M.length), ∃ p c, ms[j]? = some (.slice p M[j].length c) ∧ RowAt w p c M[j] ∧ ∀ ad, p = some ad → B ≤ ad.block ∧ ad.block < w.heap.size ∧ hv.ownBlock ≠ some ad.block ∧ v.ownBlock ≠ some ad.block)
    (hh : ∀ k, hv.ownBlock = some k → k < w.heap.size)
    (o2 : w'.ownsRow B 26 1 v' (L.length + M.length) (vs ++ ms)) (g2 : w.grownBy w' v.ownBlock) (p2 : v'.ownBlock = v.ownBlock ∨ ∀ k, v'.ownBlock = some k → w.heap.size ≤ k) : Outs w' B hv v' (L ++ M) := by
  have key : ∀ (p : Option Addr) (c : Nat) (b : List UInt8), RowAt w p c b → (∀ ad, p = some ad → B ≤ ad.block ∧ ad.block < w.heap.size ∧ hv.ownBlock ≠ some ad.block ∧ v.ownBlock ≠ some ad.block) →
      RowAt w' p c b ∧ ∀ ad, p = some ad → B ≤ ad.block ∧ ad.block < w'.heap.size ∧ hv.ownBlock ≠ some ad.block ∧ v'.ownBlock ≠ some ad.block := by
    intro p c b hr h3
    refine ⟨hr.kept g2 (fun ad e => (h3 ad e).2.2.2), fun ad e => ?_⟩
    have h4 := h3 ad e
    refine ⟨h4.1, Nat.lt_of_lt_of_le h4.2.1 g2.size, h4.2.2.1, ?_⟩
    rcases p2 with p2 | p2
    · rw [p2]; exact h4.2.2.2
    · intro e2; have := p2 _ e2; omega
  refine ⟨vs ++ ms, by rw [List.length_append]; exact o2, fun g hg => ?_, fun j hj => ?_⟩
  · rcases p2 with p2 | p2
    · exact hoff g (by rw [← p2]; exact hg)
    · intro e; have h1 := hh g e; have h2 := p2 g hg; omega
  · by_cases hjl : j < L.length
    · obtain ⟨p, c, h1, h2, h3⟩ := he j hjl
      have := key p c _ h2 h3
      exact ⟨p, c, by rw [List.getElem?_append_left (by omega), h1, List.getElem_append_left hjl], by rw [List.getElem_append_left hjl]; exact this.1, this.2⟩
    · have hj2 : j - L.length < M.length := by rw [List.length_append] at hj; omega
      obtain ⟨p, c, h1, h2, h3⟩ := hm (j - L.length) hj2
      have := key p c _ h2 h3
      refine ⟨p, c, ?_, ?_, this.2⟩
      · rw [List.getElem?_append_right (by omega), hl, h1, List.getElem_append_right (by omega)]
      · rw [List.getElem_append_right (by omega)]; exact this.1
theorem wpList_append_outs {w : World} {ops : Array Oper} {rest : List Oper} {o : Oper} {a : Act} {Q : Exit → Act → World → Prop} (hgd : o.guard = none) (s x : Operand)
    (ho : o.op = .call { callee := .builtin .append, args := #[s, x], argTypes := #[22, 22] })
    (B : Nat) (hv v xv : Value) (L M : List (List UInt8)) (hs : a.eval s = v) (hx : a.eval x = xv) (hout : Outs w B hv v L) (hit : Items w B hv v xv M)
    {m : Nat} {wide : Bool} {D : Nat} {st : Fr.DS} (hdef : DefAt w m wide D hv st) (hD : D < B) (hB : B ≤ w.heap.size) (hlen : L.length + M.length ≤ 1000000)
    (h : ∀ v' w', Outs w' B hv v' (L ++ M) → DefAt w' m wide D hv st → w.grownBy w' v.ownBlock → (∀ k, v.ownBlock = some k → B ≤ k) → wpList Try.prog ops Q rest (a.put o.dst v') w') : wpList Try.prog ops Q (o :: rest) a w := by
  obtain ⟨i0, hi, hz0, hz1, hz2⟩ := info_parts info26
  have hout' := hout
  obtain ⟨vs, hown, hoff, he⟩ := hout'
  obtain ⟨p, c, ms, rfl, hn, hml, hc, hm⟩ := hit
  have hvb : ∀ k, v.ownBlock = some k → B ≤ k := fun k hk => (hown.lt k hk).1
  cases p with
  | none =>
    obtain ⟨rfl, rfl⟩ := hn rfl
    exact wpList_append_own_none hgd s x 22 ho B 26 i0 1 Try.underlying22 hi v _ _ hs hown hx (h v w (by rw [List.append_nil]; exact hout) hdef ⟨rfl, rfl, rfl, Nat.le_refl _, fun _ _ _ => rfl⟩ hvb)
  | some ad =>
    have hone : ∀ u ∈ ms, u.oneCell' = true := by
      intro u hu
      obtain ⟨j, hj, rfl⟩ := List.getElem_of_mem hu
      obtain ⟨p', c', h1, _, _⟩ := hm j (by omega)
      rw [List.getElem?_eq_getElem hj] at h1
      simp only [Option.some.injEq] at h1
      rw [h1]; rfl
    refine wpList_append_at hgd s x 22 ho B 26 i0 (.slice none 0 0) 1 24 Try.underlying22 hi hz0 hz1 hz2 rfl (by decide) v L.length vs hs hown ad M.length c ms hx (by rw [hml, Nat.mul_one]) (hc ad rfl) hone (by unfold maxLen; omega) (by omega) hB ?_
    intro v' w' o2 g2 p2
    refine h v' w' (outs_append hoff (by rw [hown.1, Nat.mul_one]) he hm (fun k hk => (hdef.own.lt k hk).2) o2 g2 p2) (hdef.grown g2 (fun e => by have := hvb D e; omega) hoff) g2 hvb

/-- What Feed leaves: the bodies that are answered, in new memory; the deframer. -/
def FeedAt (w w' : World) (e : Ending) (m : Nat) (wide : Bool) (D : Nat) (hv : Value) (s' : Fr.DS) (L : List (List UInt8)) : Prop :=
  ∃ hv' v, e = .returned v ∧ Outs w' w.heap.size hv' v L ∧ DefAt w' m wide D hv' s' ∧ Fed w w' D hv hv'
/-- One body, as it is appended. -/
theorem items_one {w : World} {B : Nat} {hv v : Value} {p : Option Addr} {c n : Nat} {body : List UInt8} (hn : body.length = n) (hr : RowAt w p c body) (hp : ∀ ad, p = some ad → B ≤ ad.block ∧ ad.block < w.heap.size ∧ hv.ownBlock ≠ some ad.block ∧ v.ownBlock ≠ some ad.block) :
    Items (w.alloc (.cells #[.slice p n c] 26)) B hv v (.slice (some ⟨w.heap.size, 0, none⟩) 1 1) [body] := by
  subst hn
  refine ⟨some ⟨w.heap.size, 0, none⟩, 1, [.slice p body.length c], rfl, (fun e => by cases e), rfl, fun ad e j u hu => ?_, fun j hj => ?_⟩
  · cases e
    exact cell_one_new _ _ _ j u hu
  · have : j = 0 := by simpa using hj
    subst this
    exact ⟨p, c, rfl, hr.next ((Below.refl _ _).alloc (Nat.le_refl _) _), fun ad e => ⟨(hp ad e).1, by have := (hp ad e).2.1; simp; omega, (hp ad e).2.2⟩⟩
theorem Outs.alloc {w : World} {B : Nat} {hv v : Value} {L : List (List UInt8)} {D : Nat} (h : Outs w B hv v L) (hD : D < B) (o : Obj) : Outs (w.alloc o) B hv v L := h.fed hD (fed_below D hv ((Below.refl _ _).alloc (Nat.le_refl _) o))
theorem outs_slice {w : World} {B : Nat} {hv v : Value} {L : List (List UInt8)} (h : Outs w B hv v L) : ∃ a c, v = .slice a L.length c := by
  obtain ⟨vs, ho, _⟩ := h
  rcases ho.2 with ⟨rfl, h0⟩ | ⟨g, cap, cur, rfl, _⟩
  · exact ⟨none, 0, by rw [h0]⟩
  · exact ⟨_, cap, rfl⟩
theorem Outs.lt {w : World} {B : Nat} {hv v : Value} {L : List (List UInt8)} (h : Outs w B hv v L) (k : Nat) (hk : v.ownBlock = some k) : B ≤ k ∧ k < w.heap.size := by
  obtain ⟨vs, ho, _⟩ := h
  exact ho.lt k hk
theorem Fed.grown {w w1 w2 : World} {D : Nat} {hv hv' : Value} {row : Option Nat} (h : Fed w w1 D hv hv') (hg : w1.grownBy w2 row) (hr : ∀ k, row = some k → w.heap.size ≤ k) : Fed w w2 D hv hv' :=
  ⟨hg.os.trans h.os, hg.tape.trans h.tape, hg.output.trans h.output, Nat.le_trans h.size hg.size, fun k hk hd hn => by
    have h1 := h.away k hk hd hn
    exact ⟨by rw [hg.block k (Nat.lt_of_lt_of_le hk h.size) (fun e => by have := hr k e.symm; omega)]; exact h1.1, h1.2⟩⟩

theorem call_next (b : Bool) (args : Array Value) (w : World) : (callFunc (if b = true then 36 else 25) args).run Try.prog w = .ok (.enter (if b = true then 36 else 25) args) w := by
  cases b
  · kernel_rfl
  · kernel_rfl
set_option maxRecDepth 10000 in
set_option maxHeartbeats 2000000 in
theorem feed_any {w : World} {m : Nat} {wide : Bool} {D : Nat} {hv : Value} {s : Fr.DS} (h : DefAt w m wide D hv s) (a : Option Addr) (n cap : Nat) (xs : List UInt8) (hn : xs.length = n) (hl : n ≤ 400000) (hr : RowAt w a cap xs) (hm : m < 4294967296)
    (hsafe : Fr.safe m wide s xs) (hT : s.tal.le 500000) (hoff : xs = [] ∨ ∀ ad, a = some ad → ad.block ≠ D ∧ hv.ownBlock ≠ some ad.block) :
    Calls Try.prog 14 #[.pointer (some ⟨D, 0, none⟩), .slice a n cap] w fun e w' => FeedAt w w' e m wide D hv (Fr.run m wide s xs) (Fr.all m wide s xs) := by
  have Hn := Lib.hid hn
  have Hr := Lib.hid hr
  have Hs := Lib.hid hsafe
  have HT := Lib.hid hT
  have Ho := Lib.hid hoff
  have hD := h.lt
  have H := Lib.hid h
  clear hn hr hsafe hT hoff h
  have hl' : (n : Int) ≤ 400000 := by omega
  go_enter Try.func14, Try.ntmps14
  go_wp2
  go_loopw [5, 11] (fun v i wr => ∃ (k : Nat) (hvk : Value), k ≤ n ∧ i = .int .i64 (k : Int) ∧ Outs wr w.heap.size hvk v (Fr.all m wide s (xs.take k)) ∧ DefAt wr m wide D hvk (Fr.run m wide s (xs.take k)) ∧ Fed w wr D hv hvk) (fun _ i _ => n - (intOf i).toNat)
  case atStart => exact ⟨0, hv, Nat.zero_le _, rfl, outs_none _ _ _, H.out, Fed.refl _ _ _⟩
  case round =>
    obtain ⟨k, hvk, hk, rfl, ho, hd, hf⟩ := hrel
    by_cases hlt : (k : Int) < (n : Int)
    · have hk' : k < xs.length := by rw [Hn.out]; omega
      rcases (Hr.out.fed hf Ho.out).bytes with h0 | ⟨b, off, rfl, hb, hc⟩
      · rw [h0] at hk'; simp at hk'
      · have hcell := hc k hk'
        have hra := Fr.run_take m wide s xs k hk'
        have hal := Fr.all_take m wide s xs k hk'
        have hs1 := Fr.safe_take m wide s xs k Hs.out
        have hs2 := Fr.safe_take m wide s xs (k + 1) Hs.out
        rw [hra] at hs2
        have hle := Fr.run_le m wide (xs.take k) s _ HT.out
        have hall := Fr.all_len m wide (xs.take k) s
        rw [List.length_take] at hle hall
        clear hc
        obtain ⟨x, hxk⟩ : ∃ x, x = xs[k] := ⟨_, rfl⟩
        rw [← hxk] at hcell hra hal hs2
        clear hxk hk'
        generalize Fr.run m wide s (xs.take k) = st at hd hra hal hs1 hs2 hle
        generalize Fr.all m wide s (xs.take k) = L at ho hal hall
        have hnx := Lib.hid (next_any hd x hm hs1 hs2 (hle.mono (by omega)))
        have d2 : wr.cell? ⟨D, 2, none⟩ = some (fnV st.ins D) := hd.cellAt 2 _ rfl
        generalize Fr.next m wide st x = st2 at hra hs2 hnx
        generalize Fr.out m wide st x = body at hal hnx
        have Hra := Lib.hid hra
        have Hal := Lib.hid hal
        obtain ⟨av, cv, rfl⟩ := outs_slice ho
        have HO := Lib.hid ho
        clear hra hal hs1 hs2 hle hd ho
        unfold fnV at d2
        have hcf := call_next st.ins
        generalize (if st.ins = true then 36 else 25) = f at d2 hnx hcf
        have hsw := hf.size
        go_wp2_with fail
        refine hnx.out.mono ?_
        rintro e w1 ⟨hv1, p1, c1, rfl, r1, off1, h1, f1⟩
        have O1 := Lib.hid (HO.out.fed hD f1)
        have H1 := Lib.hid h1
        have F1 := Lib.hid (hf.trans f1)
        have hv0 := HO.out.lt
        clear d2 hcell h1 hnx HO
        by_cases hbd : body = []
        · have hal : Fr.all m wide s (xs.take (k + 1)) = L := by rw [Hal.out, hbd, Fr.outs_nil, List.append_nil]
          have Hal2 := Lib.hid hal
          have hbl : body.length = 0 := by rw [hbd]; rfl
          rw [hbl]
          clear hal r1 off1 hbl hbd
          go_wp2
          go_roundw
          case rel => exact ⟨k + 1, hv1, by omega, by go_num, by rw [Hal2.out]; exact O1.out, by rw [Hra.out]; exact H1.out, F1.out⟩
          case measure => simp [intOf]; omega
        · have hal : Fr.all m wide s (xs.take (k + 1)) = L ++ [body] := by rw [Hal.out, Fr.outs_some body hbd]
          have Hal2 := Lib.hid hal
          obtain ⟨q, hq⟩ : ∃ q, body.length = q := ⟨_, rfl⟩
          have hq0 : (0 : Int) < (q : Int) := by
            have : body.length ≠ 0 := fun e => hbd (List.eq_nil_of_length_eq_zero e)
            omega
          rw [hq]
          have hit := Lib.hid (items_one (B := w.heap.size) (hv := hv1) (v := .slice av L.length cv) hq r1 (fun ad e => ⟨by have := (off1 ad e).1; omega, (off1 ad e).2.1, (off1 ad e).2.2, fun e2 => by have := (hv0 _ e2).2; have := (off1 ad e).1; omega⟩))
          have hsz1 := f1.size
          have hllen : L.length + 1 ≤ 1000000 := by omega
          clear hal r1 off1 hbd hq
          go_wp2_with (at_builtin; refine wpList_append_outs rfl (.tmp 24) (.tmp 26) rfl w.heap.size hv1 (.slice av L.length cv) _ L [body] rfl rfl (O1.out.alloc hD _) hit.out (H1.out.next ((Below.refl _ _).alloc (Nat.le_refl _) _)) hD (by simp; omega) hllen ?_; intro v2 w2 o2 h2 g2 b2; have O2 := Lib.hid o2; have H2 := Lib.hid h2; have F2 := Lib.hid ((F1.out.trans (fed_below _ _ ((Below.refl _ _).alloc (Nat.le_refl _) _))).grown g2 b2); clear o2 h2 g2 b2)
          go_roundw
          case rel => exact ⟨k + 1, hv1, by omega, by go_num, by rw [Hal2.out]; exact O2.out, by rw [Hra.out]; exact H2.out, F2.out⟩
          case measure => simp [intOf]; omega
    · have hks : xs.take k = xs := List.take_of_length_le (by rw [Hn.out]; omega)
      rw [hks] at ho hd
      have HO := Lib.hid ho
      have Hd := Lib.hid hd
      clear ho hd hks
      go_wp2
      go_ret
      exact ⟨hvk, _, rfl, HO.out, Hd.out, hf⟩
end Go.Proofs.Ythmljgpnkealaaa
