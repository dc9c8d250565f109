/- Contracts of All, and of the document's Same. -/
import Derived.Test.YthmljgpnkealaaaFg
namespace Go.Proofs.Ythmljgpnkealaaa
open Go.RowKit

/-- Two results, the second one in a cell. -/
theorem results_tmp_cell {P : Program} {fn : Func} {q p : Tmp} {ty : TypeId} (h : fn.results = #[.tmp q, .cell p ty]) (tmps : Array Value) (w : World) (g : Nat) (t : TypeId) (cs : Array Value) (fr : Nat × Nat) (d : TypeDesc)
    (hp : tmps.getD p undef = .pointer (some ⟨g, 0, none⟩)) (hg : w.heap[g]? = some (.cells cs t fr))
    (hu : P.underlying ty = some d) (hd : (match d with | .struct _ | .array _ _ => true | _ => false) = true) (hi : (P.info? ty).map (·.size) = some cs.size) :
    (results fn tmps).run P w = .ok (.tuple #[tmps.getD q undef, .agg cs]) w := by
  have hp' : tmps[p]?.getD undef = .pointer (some ⟨g, 0, none⟩) := by simpa using hp
  simp [results, h, hp', asAddr, run_loadVar_row w g t ty cs fr d hg hu hd hi]
theorem tcells_one (t : Fr.Tal) : (tcells t).toArray.all (·.oneCell') = true := by rw [List.all_toArray]; simp [tcells, Value.oneCell']
theorem wpList_store_tally {ops : Array Oper} {rest : List Oper} {o : Oper} {a : Act} {w : World} {Q : Exit → Act → World → Prop} (hgd : o.guard = none) (x y : Operand) (ho : o.op = .store 40 x y) (R : Nat) (t : Fr.Tal) (cur : Array Value)
    (hx : a.eval x = .pointer (some ⟨R, 0, none⟩)) (hy : a.eval y = .agg (tcells t).toArray) (hR : w.heap[R]? = some (.cells cur 40 (0, 0))) (hcur : cur.size = 5)
    (h : wpList Try.prog ops Q rest (a.put o.dst undef) (w.setRow R (tcells t).toArray)) : wpList Try.prog ops Q (o :: rest) a w :=
  wpList_store_row hgd 40 x y ho R _ hx hy 40 cur hR info40 hcur (tcells_one t) h
theorem fed_row (a : World) (R : Nat) (u : Value) (cs : Array Value) : Fed a (a.setRow R cs) R u u :=
  ⟨rfl, rfl, rfl, by rw [setRow_size]; exact Nat.le_refl _, fun k _ hd hn => ⟨setRow_other _ _ _ _ hd, hn⟩⟩
theorem Outs.parts {w : World} {B : Nat} {hv v : Value} {L : List (List UInt8)} (h : Outs w B hv v L) : ∃ a c, v = .slice a L.length c ∧ PartsAt w a L := by
  obtain ⟨vs, ho, _, he⟩ := h
  rcases ho.2 with ⟨rfl, h0⟩ | ⟨g, cap, cur, rfl, hb, hg, _⟩
  · exact ⟨none, 0, by rw [h0], .inl (List.eq_nil_of_length_eq_zero h0)⟩
  · refine ⟨_, cap, rfl, .inr ⟨g, 0, rfl, lt_of_block hg, fun j hj => ?_⟩⟩
    obtain ⟨p, c, h1, h2, _⟩ := he j hj
    refine ⟨p, c, ?_, h2⟩
    have h3 := ho.cells (g := g) rfl j _ h1
    rw [Go.WideShapes.add_plain] at h3
    exact h3

/-- What All yields. -/
def AllAt (w w' : World) (e : Ending) (L : List (List UInt8)) (t : Fr.Tal) : Prop :=
  ∃ p c, e = .returned (.tuple #[.slice p L.length c, .agg (tcells t).toArray]) ∧ PartsAt w' p L ∧ Below w.heap.size w w'

set_option maxRecDepth 10000 in
theorem all_any (m : Nat) (wide : Bool) (a : Option Addr) (n cap : Nat) (xs : List UInt8) (w : World) (hn : xs.length = n) (hl : n ≤ 400000) (hr : RowAt w a cap xs) (hm : m < 4294967296) (hsafe : Fr.safe m wide Fr.init xs) :
    Calls Try.prog 15 #[.slice a n cap, .int .u32 (m : Int), .bool wide] w fun e w' => AllAt w w' e (Fr.all m wide Fr.init xs) (Fr.run m wide Fr.init xs).tal := by
  have Hr := Lib.hid hr
  have Hlt := Lib.hid hr.lt
  have hf := fun (W : World) (D : Nat) (h : DefAt W m wide D (.slice none 0 0) Fr.init) (hr : RowAt W a cap xs) (ho : xs = [] ∨ ∀ ad, a = some ad → ad.block ≠ D ∧ (Value.slice none 0 0).ownBlock ≠ some ad.block) => feed_any h a n cap xs hn hl hr hm hsafe (Fr.zero_le _) ho
  have Hf := Lib.hid hf
  clear hr hsafe hf hn
  generalize Fr.all m wide Fr.init xs = L at Hf ⊢
  generalize Fr.run m wide Fr.init xs = st at Hf ⊢
  go_enter Try.func15, Try.ntmps15
  go_wp2_with fail
  refine (new_any m wide _).mono ?_
  rintro e w1 ⟨rfl, h1, b1, s1⟩
  have hw1 : w1.heap.size = w.heap.size + 2 := by rw [s1]; simp
  have hR1 : w1.heap[w.heap.size]? = some (.cells (tcells Fr.zero).toArray 40 (0, 0)) := by
    rw [b1.block _ (by simp)]; exact heap_alloc_new w _
  have b01 : Below w.heap.size w w1 := below_alloc b1
  have hD : (w.alloc (.cells (tcells Fr.zero).toArray 40)).heap.size = w.heap.size + 1 := by simp
  rw [show (w.alloc (.cells #[.int .i64 0, .int .i64 0, .int .i64 0, .int .i64 0, .int .i64 0] 40)).heap.size = w.heap.size + 1 by simp] at h1 ⊢
  have H1 := Lib.hid h1
  clear h1 b1 s1 hD
  go_wp2_with fail
  refine (Hf.out w1 _ H1.out (Hr.out.next b01) (Hlt.out.imp_right fun h ad e => ⟨by have := h ad e; omega, by simp [Value.ownBlock]⟩)).mono ?_
  rintro e w2 ⟨hv2, v2, rfl, o2, h2, f2⟩
  have hR2 : w2.heap[w.heap.size]? = some (.cells (tcells Fr.zero).toArray 40 (0, 0)) := by
    rw [(f2.away _ (by omega) (by omega) (by simp [Value.ownBlock])).1]; exact hR1
  have b02 : Below w.heap.size w w2 := f2.below b01 (by omega) (fun k e => by cases e)
  have H2 := Lib.hid h2
  have ht := Lib.hid (tally_any h2)
  obtain ⟨av, cv, rfl⟩ := outs_slice o2
  have O2 := Lib.hid o2
  have HR2 := Lib.hid hR2
  clear o2 h2 hR1 f2 hR2
  go_wp2_with fail
  refine ht.out.mono ?_
  rintro e w3 ⟨rfl, b3⟩
  have hs2 := b02.size
  have hR3 : w3.heap[w.heap.size]? = some (.cells (tcells Fr.zero).toArray 40 (0, 0)) := by
    rw [b3.block _ (by have := lt_of_block HR2.out; omega)]; exact HR2.out
  have HR3 := Lib.hid hR3
  have o3 := Lib.hid ((O2.out.fed (D := w.heap.size) (by omega) (fed_below _ _ b3)).fed (D := w.heap.size) (by omega) (fed_row w3 w.heap.size hv2 (tcells st.tal).toArray))
  have b03 := Lib.hid (Below.chain b02 b3)
  clear hR3 ht b3
  go_wp2_with (refine wpList_store_tally rfl _ _ rfl w.heap.size st.tal _ rfl rfl HR3.out rfl ?_)
  obtain ⟨p, c, he, hp⟩ := o3.out.parts
  simp only [Value.slice.injEq, true_and] at he
  obtain ⟨rfl, rfl⟩ := he
  refine bodyPost_ret (v := .tuple #[.slice av L.length cv, .agg (tcells st.tal).toArray]) ?_ rfl ⟨av, cv, rfl, hp, below_setRow b03.out (Nat.le_refl _) _⟩
  exact results_tmp_cell Try.results15 _ _ w.heap.size 40 _ _ _ rfl (setRow_heap _ _ _ _ _ _ HR3.out) Try.underlying40 rfl info40

theorem same_long (a b : Option Addr) (ca cb na nb : Nat) (w : World) (h : ¬ na = nb) :
    Calls Try.prog 16 #[.slice a na ca, .slice b nb cb] w fun e w' => e = .returned (.bool false) ∧ Below w.heap.size w w' := by
  have i1 : ¬ (na : Int) = (nb : Int) := by omega
  clear h
  go_enter Try.func16, Try.ntmps16
  go_wp2
  go_ret
  exact ⟨rfl, Below.refl _ _⟩
theorem PartsAt.at {w : World} {a : Option Addr} {L : List (List UInt8)} (h : PartsAt w a L) (k : Nat) (hk : k < L.length) : ∃ b off p c, a = some ⟨b, off, none⟩ ∧ w.cell? ⟨b, off + k, none⟩ = some (.slice p L[k].length c) ∧ RowAt w p c L[k] := by
  rcases h with rfl | ⟨b, off, rfl, h1, h2⟩
  · simp at hk
  · obtain ⟨p, c, h3, h4⟩ := h2 k hk
    exact ⟨b, off, p, c, rfl, h3, h4⟩
theorem take_eq_step (L M : List (List UInt8)) (k : Nat) (h1 : k < L.length) (h2 : k < M.length) (h : L.take k = M.take k) : L.take (k + 1) = M.take (k + 1) ↔ L[k] = M[k] := by
  rw [List.take_succ_eq_append_getElem h1, List.take_succ_eq_append_getElem h2, h, List.append_cancel_left_eq]
  simp

set_option maxRecDepth 10000 in
set_option maxHeartbeats 1000000 in
theorem same_any (a b : Option Addr) (ca cb n : Nat) (L M : List (List UInt8)) (w : World) (hL : L.length = n) (hM : M.length = n) (hn : n ≤ 1000000) (ha : PartsAt w a L) (hb : PartsAt w b M) :
    Calls Try.prog 16 #[.slice a n ca, .slice b n cb] w fun e w' => e = .returned (.bool (L == M)) ∧ Below w.heap.size w w' := by
  have HL := Lib.hid hL
  have HM := Lib.hid hM
  have Ha := Lib.hid ha
  have Hb := Lib.hid hb
  obtain ⟨r, hr⟩ : ∃ r, r = (L == M) := ⟨_, rfl⟩
  rw [← hr]
  have HR := Lib.hid hr
  clear hL hM ha hb hr
  go_enter Try.func16, Try.ntmps16
  go_wp2
  go_loopw [5] (fun i wr => ∃ k : Nat, k ≤ n ∧ i = .int .i64 (k : Int) ∧ Hid (L.take k = M.take k) ∧ Below w.heap.size w wr) (fun i _ => n - (intOf i).toNat)
  case atStart => exact ⟨0, Nat.zero_le _, rfl, rfl, Below.refl _ _⟩
  case round =>
    obtain ⟨k, hk, rfl, HT, hbw⟩ := hrel
    by_cases hlt : (k : Int) < (n : Int)
    · have hkL : k < L.length := by rw [HL.out]; omega
      have hkM : k < M.length := by rw [HM.out]; omega
      obtain ⟨b1, o1, p1, c1, rfl, x1, r1⟩ := PartsAt.at (Ha.out.next hbw) k hkL
      obtain ⟨b2, o2, p2, c2, rfl, x2, r2⟩ := PartsAt.at (Hb.out.next hbw) k hkM
      have hst := take_eq_step L M k hkL hkM HT.out
      obtain ⟨A, hA⟩ : ∃ A, A = L[k] := ⟨_, rfl⟩
      obtain ⟨C, hC⟩ : ∃ C, C = M[k] := ⟨_, rfl⟩
      rw [← hA] at x1 r1 hst
      rw [← hC] at x2 r2 hst
      have Hst := Lib.hid hst
      have k1 := fun m => conv_row rfl (r1.draws m)
      have k2 := fun m => conv_row rfl (r2.draws m)
      clear hst hA hC hkL hkM r1 r2
      by_cases he : A = C
      · have HT2 := Lib.hid (Hst.out.2 he)
        subst he
        clear Hst
        go_wp2_with fail
        go_quiet (fail)
        go_wp2
        go_roundw
        case rel => exact ⟨k + 1, by omega, by go_num, HT2.out, below_drewN' hbw _⟩
        case measure => simp [intOf]; omega
      · have hne : (A == C) = false := by simpa using he
        have hr0 : r = false := by
          rw [HR.out, Bool.eq_false_iff]
          intro e
          have e2 : L = M := by simpa using e
          exact he (Hst.out.1 (by rw [e2]))
        go_wp2_with fail
        go_quiet (fail)
        have HR0 := Lib.hid hr0
        clear hr0
        go_wp2
        go_ret
        exact ⟨ret_bool HR0.out.symm, below_drewN' hbw _⟩
    · have hr1 : r = true := by
        have h1 := HT.out
        rw [List.take_of_length_le (by rw [HL.out]; omega), List.take_of_length_le (by rw [HM.out]; omega)] at h1
        rw [HR.out, h1]; simp
      have HR1 := Lib.hid hr1
      clear hr1
      go_wp2
      go_ret
      exact ⟨ret_bool HR1.out.symm, hbw⟩
end Go.Proofs.Ythmljgpnkealaaa
