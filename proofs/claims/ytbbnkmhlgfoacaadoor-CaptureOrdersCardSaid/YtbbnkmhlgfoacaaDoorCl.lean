/- Contracts of addNotes, writeNotes. -/
import Derived.Test.YtbbnkmhlgfoacaaDoorCi
namespace Go.Proofs.YtbbnkmhlgfoacaaDoor
open Go.RowKit
open S10

/-- A list of notes that was made from B on; its Data lies away from it. -/
def Nls (w : World) (B : Nat) (v : Value) (L : List S10.Dm.Nt) : Prop :=
  ∃ xs : List Value, w.ownsRow B 54 3 v L.length xs ∧ ∀ j (h : j < L.length), ∃ p c, S10.CellsAt xs j L[j] (.slice p L[j].data.length c) ∧ RowAt w p c L[j].data ∧ ∀ ad, p = some ad → ad.block < w.heap.size ∧ v.ownBlock ≠ some ad.block
theorem nls_none (w : World) (B : Nat) : Nls w B (.slice none 0 0) [] := ⟨[], World.ownsRow_nil _ _ _ _, (fun _ h => by simp at h)⟩
theorem Nls.next {w w' : World} {B : Nat} {v : Value} {L : List S10.Dm.Nt} (h : Nls w B v L) (hb : Below w.heap.size w w') : Nls w' B v L := by
  obtain ⟨xs, ho, hx⟩ := h
  refine ⟨xs, ownsRow_next ho hb, fun j hj => ?_⟩
  obtain ⟨p, c, h1, h2, h3⟩ := hx j hj
  exact ⟨p, c, h1, h2.next hb, fun ad e => ⟨Nat.lt_of_lt_of_le (h3 ad e).1 hb.size, (h3 ad e).2⟩⟩
theorem nls_slice {w : World} {B : Nat} {v : Value} {L : List S10.Dm.Nt} (h : Nls w B v L) : ∃ a c, v = .slice a L.length c := by
  obtain ⟨xs, ho, _⟩ := h
  exact own_slice ho
theorem Nls.lt {w : World} {B : Nat} {v : Value} {L : List S10.Dm.Nt} (h : Nls w B v L) (k : Nat) (hk : v.ownBlock = some k) : B ≤ k ∧ k < w.heap.size := by
  obtain ⟨xs, ho, _⟩ := h
  exact ho.lt k hk
theorem Nls.at {w : World} {B : Nat} {v : Value} {L : List S10.Dm.Nt} (h : Nls w B v L) (hok : ∀ r ∈ L, r.Ok) : ∃ a c, v = .slice a L.length c ∧ NtsAt w a L := by
  obtain ⟨xs, ho, he⟩ := h
  rcases ho.2 with ⟨rfl, h0⟩ | ⟨g, cap, cur, rfl, hb, hg, _⟩
  · exact ⟨none, 0, by rw [h0], .inl (List.eq_nil_of_length_eq_zero h0)⟩
  · refine ⟨_, cap, rfl, .inr ⟨g, 0, rfl, lt_of_block hg, fun j hj => ?_⟩⟩
    obtain ⟨p, c, h1, h2, _⟩ := he j hj
    have e := ho.cells (g := g) rfl
    simp only [Go.WideShapes.add_plain] at e
    exact ⟨p, c, e _ _ h1.kind, by rw [Nat.add_assoc]; exact e _ _ h1.n, by rw [Nat.add_assoc]; exact e _ _ h1.data, h2, hok _ (List.getElem_mem hj)⟩
theorem infoNoteZ : (Tryd.prog.info? 54).map (fun i => (i.zero, i.size, i.bytes)) = some (some (.agg #[.int .i64 0, .int .u32 0, .slice none 0 0]), 3, 40) := by kernel_rfl
theorem wpList_append_nls {w : World} {ops : Array Oper} {rest : List Oper} {o : Oper} {a : Act} {Q : Exit → Act → World → Prop} (hgd : o.guard = none) (s x : Operand)
    (ho : o.op = .call { callee := .builtin .append, args := #[s, x], argTypes := #[50, 50] })
    (B : Nat) (v : Value) (L : List S10.Dm.Nt) (r : S10.Dm.Nt) (p : Option Addr) (c : Nat) (g : Nat) (hs : a.eval s = v) (hx : a.eval x = .slice (some ⟨g, 0, none⟩) 1 1) (hL : Nls w B v L)
    (hd : RowAt w p c r.data) (hp : ∀ ad, p = some ad → ad.block < w.heap.size ∧ v.ownBlock ≠ some ad.block) (hg : w.heap[g]? = some (.cells (ncells r (.slice p r.data.length c)).toArray 54 (0, 0))) (hB : B ≤ w.heap.size) (hlen : L.length ≤ 1000000)
    (h : ∀ v' w', Nls w' B v' (L ++ [r]) → Grew w w' v v' → wpList Tryd.prog ops Q rest (a.put o.dst v') w') : wpList Tryd.prog ops Q (o :: rest) a w := by
  obtain ⟨i0, hi, hz0, hz1, hz2⟩ := info_parts infoNoteZ
  obtain ⟨xs, hown, he⟩ := hL
  refine S7.wpList_append_at hgd s x 50 ho B 54 i0 _ 3 40 Tryd.underlying50 hi hz0 hz1 hz2 rfl (by decide) v L.length xs hs hown ⟨g, 0, none⟩ 1 1 (ncells r (.slice p r.data.length c)) hx rfl (fun j u hu => ?_) (fun u hu => ?_) (by unfold maxLen; omega) (by omega) hB ?_
  · rw [Go.WideShapes.add_plain, cell_of_row _ _ _ _ _ _ hg]; simpa using hu
  · simp only [ncells, List.mem_cons, List.not_mem_nil, or_false] at hu
    rcases hu with rfl | rfl | rfl <;> rfl
  · intro v' w' o2 g2 p2
    have hl : xs.length = L.length * 3 := hown.1
    have key : ∀ (p : Option Addr) (c : Nat) (b : List UInt8), RowAt w p c b → (∀ ad, p = some ad → ad.block < w.heap.size ∧ v.ownBlock ≠ some ad.block) →
        RowAt w' p c b ∧ ∀ ad, p = some ad → ad.block < w'.heap.size ∧ v'.ownBlock ≠ some ad.block := by
      intro p c b hr h3
      refine ⟨row_grown hr g2 (fun ad e => (h3 ad e).2), fun ad e => ⟨Nat.lt_of_lt_of_le (h3 ad e).1 g2.size, ?_⟩⟩
      rcases p2 with p2 | p2
      · rw [p2]; exact (h3 ad e).2
      · intro e2; have := p2 _ e2; have := (h3 ad e).1; omega
    refine h v' w' ⟨xs ++ ncells r (.slice p r.data.length c), by rw [List.length_append]; exact o2, fun j hj => ?_⟩ ⟨g2, p2⟩
    by_cases hjl : j < L.length
    · obtain ⟨p', c', h1, h2, h3⟩ := he j hjl
      have hkk := key p' c' _ h2 h3
      rw [List.getElem_append_left hjl]
      refine ⟨p', c', ⟨?_, ?_, ?_⟩, hkk.1, hkk.2⟩
      · rw [List.getElem?_append_left (by omega)]; exact h1.kind
      · rw [List.getElem?_append_left (by omega)]; exact h1.n
      · rw [List.getElem?_append_left (by omega)]; exact h1.data
    · have hj2 : j = L.length := by simp at hj; omega
      subst hj2
      have hkk := key p c _ hd hp
      rw [List.getElem_append_right (Nat.le_refl _)]
      simp only [Nat.sub_self, List.getElem_cons_zero]
      refine ⟨p, c, ⟨?_, ?_, ?_⟩, hkk.1, hkk.2⟩
      · rw [List.getElem?_append_right (by omega), hl]; simp [ncells]
      · rw [List.getElem?_append_right (by omega), hl]; simp [ncells]
      · rw [List.getElem?_append_right (by omega), hl]; simp [ncells]


theorem Cp.part_step (k : Int) (s : List UInt8) (i : Nat) : (List.range (i + 1)).map (Cp.part k s) = (List.range i).map (Cp.part k s) ++ [Cp.part k s i] := by
  rw [List.range_succ, List.map_append]; rfl
theorem Cp.chunks_end (k : Int) (s : List UInt8) (n i : Nat) (hn : s.length = n) (h1 : n ≤ 65535 * i) (h2 : 65535 * i < n + 65535) : (List.range i).map (Cp.part k s) = Cp.chunks k s := by
  have : i = Cp.cnt s := by unfold Cp.cnt; rw [hn]; omega
  rw [this]; rfl
def lenOf : Value → Nat
  | .slice _ n _ => n
  | _ => 0

set_option maxRecDepth 100000 in
set_option maxHeartbeats 1000000 in
theorem addNotes_any (v : Value) (kd : Int) (a : Option Addr) (n cap : Nat) (xs : List UInt8) (L : List S10.Dm.Nt) (B : Nat) (w : World) (hn : xs.length = n) (hm : n ≤ 300000) (hr : RowAt w a cap xs) (hoff : ∀ ad, a = some ad → ad.block < w.heap.size ∧ v.ownBlock ≠ some ad.block) (hL : Nls w B v L) (hB : B ≤ w.heap.size) (hl : L.length ≤ 100000) :
    Calls Tryd.prog 35 #[v, .int .i64 kd, .slice a n cap] w fun e w' => ∃ v', e = .returned v' ∧ Nls w' B v' (L ++ Cp.chunks kd xs) ∧ Grew w w' v v' := by
  have Hn := Lib.hid hn
  have Hr := Lib.hid hr
  have Ho := Lib.hid hoff
  have HL := Lib.hid hL
  clear hn hr hoff hL
  obtain ⟨av, cv, rfl⟩ := nls_slice HL.out
  go_enter Tryd.func35, Tryd.ntmps35
  go_wp2
  go_loopw [0, 2] (fun x s wr => ∃ (k m : Nat) (p : Option Addr) (c : Nat), s = .slice p m c ∧ n - 65535 * k = m ∧ 65535 * k < n + 65535 ∧ Nls wr B x (L ++ (List.range k).map (Cp.part kd xs)) ∧ Grew w wr (.slice av L.length cv) x ∧ RowAt wr p c (xs.drop (65535 * k)) ∧ ∀ ad, p = some ad → ∃ a0, a = some a0 ∧ ad.block = a0.block) (fun _ s _ => lenOf s)
  case atStart => exact ⟨0, n, a, cap, rfl, by omega, by omega, by simpa using HL.out, Grew.refl _ _, by simpa using Hr.out, fun ad e => ⟨ad, e, rfl⟩⟩
  case round =>
    obtain ⟨k, m, p, c, rfl, hkm, hkn, hI, hg, hrow, hpb⟩ := hrel
    by_cases hlt : (0 : Int) < (m : Int)
    · have hmx : (xs.drop (65535 * k)).length = m := by rw [List.length_drop, Hn.out]; exact hkm
      obtain ⟨q, hq⟩ : ∃ q : Nat, (if (65535 : Int) < (m : Int) then (65535 : Int) else (m : Int)) = (q : Int) := by
        by_cases h : (65535 : Int) < (m : Int)
        · exact ⟨65535, by rw [if_pos h]; rfl⟩
        · exact ⟨m, by rw [if_neg h]⟩
      have hqm : q ≤ m ∧ q ≤ 65535 ∧ 0 < q ∧ (q = 65535 ∨ q = m) := by
        split at hq <;> omega
      have hX : (xs.drop (65535 * k)).drop q = xs.drop (65535 * (k + 1)) := by
        rw [List.drop_drop]
        rcases hqm.2.2.2 with e | e
        · exact congrArg (fun t => xs.drop t) (by omega)
        · by_cases h : q = 65535
          · exact congrArg (fun t => xs.drop t) (by omega)
          · rw [List.drop_of_length_le (by rw [Hn.out]; omega), List.drop_of_length_le (by rw [Hn.out]; omega)]
      have hD : Cp.part kd xs k = ⟨kd, 0, (xs.drop (65535 * k)).take q⟩ := by
        unfold Cp.part
        rcases hqm.2.2.2 with e | e
        · rw [e]
        · rw [List.take_of_length_le (by rw [hmx]; omega), List.take_of_length_le (by rw [hmx]; omega)]
      have hle := hrow.le
      have h1 := hrow.head q (by rw [hmx]; omega)
      have h2 := hrow.cut q m (by omega) (by rw [hmx]; exact Nat.le_refl _)
      rw [List.take_of_length_le (by rw [hmx]; exact Nat.le_refl _), hX] at h2
      rw [hmx] at hle
      have hql : ((xs.drop (65535 * k)).take q).length = q := by rw [List.length_take, hmx]; omega
      have hst : L ++ (List.range (k + 1)).map (Cp.part kd xs) = (L ++ (List.range k).map (Cp.part kd xs)) ++ [⟨kd, 0, (xs.drop (65535 * k)).take q⟩] := by
        rw [Cp.part_step, hD, List.append_assoc]
      obtain ⟨M, hM⟩ : ∃ M, M = L ++ (List.range k).map (Cp.part kd xs) := ⟨_, rfl⟩
      have hMl : M.length ≤ 1000000 := by rw [hM]; simp; omega
      rw [← hM] at hI hst
      generalize (xs.drop (65535 * k)).take q = Y at *
      obtain ⟨P, hP⟩ : ∃ P, (if c = q then p else p.map (·.add q)) = P := ⟨_, rfl⟩
      obtain ⟨cP, hcP⟩ : ∃ cP, c - q = cP := ⟨_, rfl⟩
      obtain ⟨mP, hmP⟩ : ∃ mP, m - q = mP := ⟨_, rfl⟩
      rw [hP, hcP] at h2
      have hPb : ∀ ad, P = some ad → ∃ a0, a = some a0 ∧ ad.block = a0.block := by
        intro ad e
        rw [← hP] at e
        split at e
        · exact hpb ad e
        · cases p with
          | none => simp at e
          | some a1 =>
            simp only [Option.map_some, Option.some.injEq] at e
            obtain ⟨a0, e1, e2⟩ := hpb a1 rfl
            refine ⟨a0, e1, ?_⟩
            rw [← e, ← e2]; unfold Addr.add; split <;> rfl
      obtain ⟨ax, cx, rfl⟩ := nls_slice hI
      have hoff : ∀ p' : Option Addr, (∀ ad, p' = some ad → ∃ a0, a = some a0 ∧ ad.block = a0.block) → ∀ ad, p' = some ad → ad.block < wr.heap.size ∧ (Value.slice ax M.length cx).ownBlock ≠ some ad.block := by
        intro p' hp' ad e
        obtain ⟨a0, e1, e2⟩ := hp' ad e
        have h3 := Ho.out a0 e1
        rw [e2]
        exact ⟨Nat.lt_of_lt_of_le h3.1 hg.by'.size, (hg.away a0.block h3.1 h3.2).2⟩
      have hoff1 := Lib.hid (hoff p hpb)
      have hoff2 := Lib.hid (hoff P hPb)
      have j1 : q ≤ m := hqm.1
      have j2 : q ≤ c := by omega
      have j3 : (q : Int) ≤ (c : Int) := by omega
      have j4 : (q : Int) ≤ (m : Int) := by omega
      have hqs := hqm.2.2.1
      have hkq : n - 65535 * (k + 1) = mP ∧ 65535 * (k + 1) < n + 65535 := by rcases hqm.2.2.2 with e | e <;> omega
      have HI := Lib.hid hI
      have HG := Lib.hid hg
      have H1 := Lib.hid h1
      have H2 := Lib.hid h2
      have HST := Lib.hid hst
      have HPB := Lib.hid hPb
      have HQL := Lib.hid hql
      have HKQ := Lib.hid hkq
      have hsz := hg.by'.size
      clear hI hg h1 h2 hst hPb hpb hoff hrow hX hD hle hqm hM hkq hkm hkn hql hmx
      have hb3 := below_one wr (.cells #[.int .i64 kd, .int .u32 0, .slice p q c] 54)
      have hg3 := heap_alloc_new wr (.cells #[.int .i64 kd, .int .u32 0, .slice p q c] 54)
      have hs3 : (wr.alloc (.cells #[.int .i64 kd, .int .u32 0, .slice p q c] 54)).heap.size = wr.heap.size + 1 := by simp
      have hdm : decide ((0 : Int) < (m : Int)) = true := by simpa using hlt
      go_wp2_with (at_builtin; generalize wr.alloc (.cells #[.int .i64 kd, .int .u32 0, .slice p q c] 54) = W3 at *; refine wpList_append_nls rfl (.tmp 14) (.tmp 20) rfl B (.slice ax M.length cx) M ⟨kd, 0, Y⟩ p c wr.heap.size rfl rfl (HI.out.next hb3) (H1.out.next hb3) (fun ad e => ⟨by have := (hoff1.out ad e).1; omega, (hoff1.out ad e).2⟩) (by show _ = some (Obj.cells (ncells _ (.slice p Y.length c)).toArray _ _); rw [HQL.out]; exact hg3) (by omega) hMl ?_; intro v6 w6 n6 g6)
      have HN6 := Lib.hid n6
      have HG6 := Lib.hid (Grew.after hb3 g6)
      have H6 := Lib.hid (HG6.out.row H2.out (fun ad e => (hoff2.out ad e).2))
      clear n6 g6 hb3 hg3 HI H1 H2 hoff1 hoff2
      go_wp2
      go_roundw
      case rel => exact ⟨k + 1, mP, P, cP, by rw [← hP, ← hcP, ← hmP], HKQ.out.1, HKQ.out.2, by rw [HST.out]; exact HN6.out, HG.out.trans HG6.out, H6.out, HPB.out⟩
      case measure => simp [lenOf]; omega
    · have he := Cp.chunks_end kd xs n k Hn.out (by omega) hkn
      rw [he] at hI
      have HI := Lib.hid hI
      clear hI he hrow
      go_wp2
      go_ret
      exact ⟨_, rfl, HI.out, hg⟩
end Go.Proofs.YtbbnkmhlgfoacaaDoor
