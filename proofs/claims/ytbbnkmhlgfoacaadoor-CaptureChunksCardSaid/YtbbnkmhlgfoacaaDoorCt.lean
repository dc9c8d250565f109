/- Notes that are cut into others; append of two notes. -/
import Derived.Test.YtbbnkmhlgfoacaaDoorCm
namespace Go.Proofs.YtbbnkmhlgfoacaaDoor
open Go.RowKit
open S10

namespace Cp
/-- Each note is cut into pieces of its kind, with notes between that count for nothing. -/
def CutOf : List S10.Dm.Nt → List S10.Dm.Nt → Prop
  | [], os => os = []
  | n :: ns, os => ∃ ps qs, os = ps ++ qs ∧ Quiet n.kind ps ∧ own n.kind ps = n.data ∧ CutOf ns qs
theorem cutOf_snoc (n : S10.Dm.Nt) (ps : List S10.Dm.Nt) (hq : Quiet n.kind ps) (ho : own n.kind ps = n.data) (l : List S10.Dm.Nt) : ∀ os, CutOf l os → CutOf (l ++ [n]) (os ++ ps) := by
  induction l with
  | nil =>
    intro os h
    have : os = [] := h
    subst this
    exact ⟨ps, [], by simp, hq, ho, rfl⟩
  | cons x l ih =>
    intro os h
    obtain ⟨qs, rs, rfl, h1, h2, h3⟩ := h
    exact ⟨qs, rs ++ ps, by simp, h1, h2, ih rs h3⟩
theorem cutOf_split (l m : List S10.Dm.Nt) : ∀ os, CutOf (l ++ m) os → ∃ a b, os = a ++ b ∧ CutOf l a ∧ CutOf m b := by
  induction l with
  | nil => intro os h; exact ⟨[], os, by simp, rfl, h⟩
  | cons x l ih =>
    intro os h
    obtain ⟨ps, qs, rfl, h1, h2, h3⟩ := h
    obtain ⟨a, b, rfl, ha, hb⟩ := ih qs h3
    exact ⟨ps ++ a, b, by simp, ⟨ps, a, rfl, h1, h2, ha⟩, hb⟩
theorem own_append (k : Int) (a b : List S10.Dm.Nt) : own k (a ++ b) = own k a ++ own k b := by simp [own]
theorem quiet_append (k : Int) (a b : List S10.Dm.Nt) (ha : Quiet k a) (hb : Quiet k b) : Quiet k (a ++ b) := fun p hp => (List.mem_append.1 hp).elim (ha p) (hb p)
theorem cutOf_own (k : Int) (l : List S10.Dm.Nt) : ∀ os, (∀ n ∈ l, n.kind = k) → CutOf l os → Quiet k os ∧ own k os = own k l := by
  induction l with
  | nil =>
    intro os _ h
    have : os = [] := h
    subst this
    exact ⟨fun p hp => by simp at hp, rfl⟩
  | cons x l ih =>
    intro os hk h
    obtain ⟨ps, qs, rfl, h1, h2, h3⟩ := h
    have hx := hk x (by simp)
    have h4 := ih qs (fun n hn => hk n (List.mem_cons_of_mem _ hn)) h3
    rw [hx] at h1 h2
    refine ⟨quiet_append k _ _ h1 h4.1, ?_⟩
    rw [own_append, h2, h4.2]
    simp [own, hx]
theorem cut_parted (c : Cf) (L : List It) : ∀ os, CutOf (nts c L) os → Parted c L os := by
  induction L with
  | nil => intro os h; exact h
  | cons x L ih =>
    intro os h
    rw [nts_cons] at h
    obtain ⟨a, b, rfl, ha, hb⟩ := cutOf_split _ _ _ h
    have h1 := cutOf_own (kind x) _ a (fun n hn => by obtain ⟨i, _, rfl⟩ := List.mem_map.1 hn; rfl) ha
    rw [chunks_own] at h1
    exact ⟨a, b, rfl, h1.1, h1.2, ih b hb⟩
/-- Notes that are put. -/
def Fit (p : S10.Dm.Nt) : Prop := ((p.kind = 1 ∨ p.kind = 2) ∧ p.n = 0 ∧ p.data.length ≤ 65535) ∨ p = ⟨6, 3, []⟩
theorem fit_fine (l : List S10.Dm.Nt) (h : ∀ p ∈ l, Fit p) : S10.Dm.fine l ∧ ∀ p ∈ l, p.Ok := by
  refine ⟨fun p hp => ?_, fun p hp => ?_⟩
  · rcases h p hp with ⟨hk, hn, hd⟩ | rfl
    · obtain ⟨k, n, d⟩ := p
      simp only at hk hn hd
      subst hn
      have hlong : S10.Dm.long ⟨k, 0, d⟩ (S10.Dm.form k) = false := by
        unfold S10.Dm.long
        rw [Bool.and_eq_false_iff]
        right
        rw [decide_eq_false_iff_not]
        show ¬ 65535 < d.length
        omega
      rcases hk with rfl | rfl
      · exact S10.Dm.bad_good _ (by rfl) hlong
      · exact S10.Dm.bad_good _ (by rfl) hlong
    · decide +kernel
  · rcases h p hp with ⟨hk, hn, hd⟩ | rfl
    · exact ⟨by omega, by omega, by rw [hn]; decide⟩
    · exact ⟨by decide, by decide, by decide⟩
theorem chunks_fit (k : Int) (hk : k = 1 ∨ k = 2) (s : List UInt8) : ∀ p ∈ chunks k s, (p.kind = 1 ∨ p.kind = 2) ∧ p.n = 0 ∧ p.data.length ≤ 65535 := by
  intro p hp
  obtain ⟨i, _, rfl⟩ := List.mem_map.1 hp
  exact ⟨hk, rfl, by show ((s.drop (65535 * i)).take 65535).length ≤ 65535; rw [List.length_take]; omega⟩
theorem nts_fit (c : Cf) (L : List It) : ∀ p ∈ nts c L, (p.kind = 1 ∨ p.kind = 2) ∧ p.n = 0 ∧ p.data.length ≤ 65535 := by
  intro p hp
  obtain ⟨x, _, h⟩ := List.mem_flatMap.1 hp
  exact chunks_fit _ (kind_or x) _ p h
/-- The cut so far, between notes; within one. -/
structure CutS (ns os : List S10.Dm.Nt) (i j : Nat) : Prop where
  cut : CutOf (ns.take i) os
  fit : ∀ p ∈ os, Fit p
  len : os.length ≤ 2 * (i + j)
  size : S10.Dm.size os ≤ S10.Dm.size (ns.take i)
structure CutI (ns : List S10.Dm.Nt) (n : S10.Dm.Nt) (i j : Nat) (os : List S10.Dm.Nt) (d : List UInt8) : Prop where
  pcs : ∃ o0 ps, os = o0 ++ ps ∧ CutOf (ns.take i) o0 ∧ Quiet n.kind ps ∧ own n.kind ps ++ d = n.data
  fit : ∀ p ∈ os, Fit p
  len1 : d ≠ [] → os.length ≤ 2 * (i + j)
  len2 : os.length ≤ 2 * (i + 1 + j)
  size : S10.Dm.size os + d.length ≤ S10.Dm.size (ns.take i) + n.data.length
theorem cutS_nil (ns : List S10.Dm.Nt) : CutS ns [] 0 0 := ⟨by rw [List.take_zero]; rfl, fun p hp => by simp at hp, by simp, by simp [S10.Dm.size]⟩
theorem CutS.enter {ns os : List S10.Dm.Nt} {i j : Nat} (h : CutS ns os i j) (n : S10.Dm.Nt) : CutI ns n i j os n.data :=
  ⟨⟨os, [], by simp, h.cut, fun p hp => by simp at hp, by simp [own]⟩, h.fit, fun _ => h.len, by have := h.len; omega, by have := h.size; omega⟩
theorem CutI.leave {ns os : List S10.Dm.Nt} {i j : Nat} (hi : i < ns.length) (h : CutI ns ns[i] i j os []) : CutS ns os (i + 1) j := by
  obtain ⟨⟨o0, ps, rfl, h1, h2, h3⟩, h4, h5, h6, h7⟩ := h
  rw [List.append_nil] at h3
  have e : ns.take (i + 1) = ns.take i ++ [ns[i]] := List.take_succ_eq_append_getElem hi
  refine ⟨?_, h4, h6, ?_⟩
  · rw [e]; exact cutOf_snoc _ _ h2 h3 _ _ h1
  · have h8 : S10.Dm.size [ns[i]] = ns[i].data.length := by simp [S10.Dm.size]
    rw [e, S10.Dm.size_append (ns.take i), h8]
    exact h7
theorem CutI.step {ns os : List S10.Dm.Nt} {n : S10.Dm.Nt} {i j : Nat} {d : List UInt8} (h : CutI ns n i j os d) (hk : n.kind = 1 ∨ n.kind = 2) (hn : n.data.length ≤ 65535) (hd : d ≠ []) (q j' : Nat) (hq : q ≤ d.length) (hj : j' = j + 1 ∨ (j' = j ∧ q = d.length)) :
    CutI ns n i j' (os ++ [⟨n.kind, 0, d.take q⟩, ⟨6, 3, []⟩]) (d.drop q) := by
  obtain ⟨⟨o0, ps, rfl, h1, h2, h3⟩, h4, h5, h6, h7⟩ := h
  have hl := h5 hd
  have hdl : d.length ≤ 65535 := by
    have : (own n.kind ps ++ d).length = n.data.length := by rw [h3]
    rw [List.length_append] at this; omega
  have ht : (d.take q).length = q := by rw [List.length_take]; omega
  have e6 : ¬ (6 : Int) = n.kind := by omega
  refine ⟨⟨o0, ps ++ [⟨n.kind, 0, d.take q⟩, ⟨6, 3, []⟩], by simp, h1, quiet_append _ _ _ h2 ?_, ?_⟩, ?_, ?_, ?_, ?_⟩
  · intro p hp
    simp only [List.mem_cons, List.not_mem_nil, or_false] at hp
    rcases hp with rfl | rfl
    · exact .inl rfl
    · exact .inr (by decide)
  · rw [own_append, ← h3]
    have : own n.kind [⟨n.kind, 0, d.take q⟩, ⟨6, 3, []⟩] = d.take q := by simp [own, e6]
    rw [this, List.append_assoc, List.take_append_drop]
  · intro p hp
    rcases List.mem_append.1 hp with hp | hp
    · exact h4 p hp
    · simp only [List.mem_cons, List.not_mem_nil, or_false] at hp
      rcases hp with rfl | rfl
      · exact .inl ⟨hk, rfl, by show (d.take q).length ≤ 65535; omega⟩
      · exact .inr rfl
  · intro hne
    rw [List.length_append]
    show _ + 2 ≤ _
    rcases hj with rfl | ⟨rfl, rfl⟩
    · omega
    · exact absurd (List.drop_of_length_le (Nat.le_refl _)) hne
  · rw [List.length_append]
    show _ + 2 ≤ _
    rcases hj with rfl | ⟨rfl, rfl⟩ <;> omega
  · rw [S10.Dm.size_append, List.length_drop]
    have : S10.Dm.size [⟨n.kind, 0, d.take q⟩, ⟨6, 3, []⟩] = q := by simp [S10.Dm.size]; omega
    omega
theorem size_take_le (ns : List S10.Dm.Nt) (i : Nat) : S10.Dm.size (ns.take i) ≤ S10.Dm.size ns := S10.Dm.size_take ns i
/-- What is cut is read as it was. -/
theorem read_cut (c : Cf) (hc : c.accm < 4294967296) (L : List It) (hm : ∀ x ∈ L, may x = true) (os : List S10.Dm.Nt) (h : CutOf (nts c L) os) (hf : ∀ p ∈ os, Fit p) : readD (S10.Dm.bytes os) c = (L, 0, 0) ∧ SafeN c (S10.Dm.read (S10.Dm.bytes os)).1 := by
  have hr := S10.Dm.read_put os (fit_fine os hf).1
  have hp := parted_sm c hc L os (cut_parted c L os h) hm
  unfold readD
  rw [hr]
  simp only [if_true]
  rw [hp.1]
  exact ⟨rfl, hp.2⟩
end Cp

theorem wp_append_at {P : Program} {w : World} {o : Oper} {a : Act} {K : Act → World → Prop} {Q : Exit → Act → World → Prop} (s x : Operand) (t : TypeId)
    (ho : o.op = .call { callee := .builtin .append, args := #[s, x], argTypes := #[t, t] })
    (base : Nat) (e : TypeId) (i : TypeInfo) (z : Value) (size bytes : Nat) (ht : P.underlying t = some (.slice e)) (hi : P.info? e = some i) (hz : i.zero = some z)
    (hsize : i.size = size) (hby : i.bytes = bytes) (hzs : z.cells.size = size) (hsz : 0 < size)
    (v : Value) (n : Nat) (xs : List Value) (hs : a.eval s = v) (hown : w.ownsRow base e size v n xs)
    (ad : Addr) (m c : Nat) (news : List Value) (hx : a.eval x = .slice (some ad) m c) (hl : news.length = m * size) (hnews : ∀ j u, news[j]? = some u → w.cell? (ad.add j) = some u) (h1 : ∀ u ∈ news, u.oneCell' = true)
    (h63 : n + m ≤ maxLen) (hbytes : (n + m) * bytes ≤ 140737488355328) (hbase : base ≤ w.heap.size)
    (h : ∀ v' w', w'.ownsRow base e size v' (n + m) (xs ++ news) → w.grownBy w' v.ownBlock → (v'.ownBlock = v.ownBlock ∨ ∀ k, v'.ownBlock = some k → w.heap.size ≤ k) → K (a.put o.dst v') w') : Oper.wp P o a w K Q := by
  obtain ⟨v', w', hr, h2, h3, _⟩ := run_append_own (P := P) w base t o.type e i z size bytes ht hi hz hsize hby hzs hsz v n xs hown ad m c news hl hnews h1 h63 hbytes hbase
  have hp := S7.append_place (P := P) w base t o.type e i z size bytes ht hi hz hsize hby hzs hsz v n xs hown ad m c news hl hnews h1 h63 hbytes v' w' hr
  unfold Oper.wp execOp
  simp only [ho, resolve, invoke, builtin, Sem.run_bind, Sem.run_pure, Result.andThen_ok, List.map_toArray, List.map_cons, List.map_nil, hs, hx, hr]
  exact h v' w' h2 h3 hp
/-- Two notes are put behind a list, the second one without Data. -/
theorem wp_append_nls2 {w : World} {o : Oper} {a : Act} {K : Act → World → Prop} {Q : Exit → Act → World → Prop} (s x : Operand)
    (ho : o.op = .call { callee := .builtin .append, args := #[s, x], argTypes := #[50, 50] })
    (B : Nat) (v : Value) (L : List S10.Dm.Nt) (r t : S10.Dm.Nt) (ht : t.data = []) (p : Option Addr) (c : Nat) (g : Nat) (hs : a.eval s = v) (hx : a.eval x = .slice (some ⟨g, 0, none⟩) 2 2) (hL : Nls w B v L)
    (hd : RowAt w p c r.data) (hp : ∀ ad, p = some ad → ad.block < w.heap.size ∧ v.ownBlock ≠ some ad.block) (hg : w.heap[g]? = some (.cells (ncells r (.slice p r.data.length c) ++ ncells t (.slice none 0 0)).toArray 54 (0, 0))) (hB : B ≤ w.heap.size) (hlen : L.length ≤ 1000000)
    (h : ∀ v' w', Nls w' B v' (L ++ [r, t]) → Grew w w' v v' → K (a.put o.dst v') w') : Oper.wp Tryd.prog o a w K Q := by
  obtain ⟨i0, hi, hz0, hz1, hz2⟩ := info_parts infoNoteZ
  obtain ⟨xs, hown, he⟩ := hL
  refine wp_append_at s x 50 ho B 54 i0 _ 3 40 Tryd.underlying50 hi hz0 hz1 hz2 rfl (by decide) v L.length xs hs hown ⟨g, 0, none⟩ 2 2 (ncells r (.slice p r.data.length c) ++ ncells t (.slice none 0 0)) hx rfl (fun j u hu => ?_) (fun u hu => ?_) (by unfold maxLen; omega) (by omega) hB ?_
  · rw [Go.WideShapes.add_plain, cell_of_row _ _ _ _ _ _ hg]; simpa using hu
  · simp only [ncells, List.mem_append, List.mem_cons, List.not_mem_nil, or_false] at hu
    rcases hu with (rfl | rfl | rfl) | (rfl | rfl | rfl) <;> rfl
  · intro v' w' o2 g2 p2
    have hl : xs.length = L.length * 3 := hown.1
    have key : ∀ (p : Option Addr) (c : Nat) (b : List UInt8), RowAt w p c b → (∀ ad, p = some ad → ad.block < w.heap.size ∧ v.ownBlock ≠ some ad.block) →
        RowAt w' p c b ∧ ∀ ad, p = some ad → ad.block < w'.heap.size ∧ v'.ownBlock ≠ some ad.block := by
      intro p c b hr h3
      refine ⟨row_grown hr g2 (fun ad e => (h3 ad e).2), fun ad e => ⟨Nat.lt_of_lt_of_le (h3 ad e).1 g2.size, ?_⟩⟩
      rcases p2 with p2 | p2
      · rw [p2]; exact (h3 ad e).2
      · intro e2; have := p2 _ e2; have := (h3 ad e).1; omega
    refine h v' w' ⟨xs ++ (ncells r (.slice p r.data.length c) ++ ncells t (.slice none 0 0)), by rw [List.length_append]; exact o2, fun j hj => ?_⟩ ⟨g2, p2⟩
    by_cases hjl : j < L.length
    · obtain ⟨p', c', h1, h2, h3⟩ := he j hjl
      have hkk := key p' c' _ h2 h3
      rw [List.getElem_append_left hjl]
      refine ⟨p', c', ⟨?_, ?_, ?_⟩, hkk.1, hkk.2⟩
      · rw [List.getElem?_append_left (by omega)]; exact h1.kind
      · rw [List.getElem?_append_left (by omega)]; exact h1.n
      · rw [List.getElem?_append_left (by omega)]; exact h1.data
    · have hj2 : j = L.length ∨ j = L.length + 1 := by simp at hj; omega
      rcases hj2 with rfl | rfl
      · have hkk := key p c _ hd hp
        rw [List.getElem_append_right (Nat.le_refl _)]
        simp only [Nat.sub_self, List.getElem_cons_zero]
        refine ⟨p, c, ⟨?_, ?_, ?_⟩, hkk.1, hkk.2⟩
        · rw [List.getElem?_append_right (by omega), hl]; simp [ncells]
        · rw [List.getElem?_append_right (by omega), hl]; simp [ncells]
        · rw [List.getElem?_append_right (by omega), hl]; simp [ncells]
      · rw [List.getElem_append_right (by omega)]
        have e1 : L.length + 1 - L.length = 1 := by omega
        simp only [e1, List.getElem_cons_succ, List.getElem_cons_zero]
        refine ⟨none, 0, ⟨?_, ?_, ?_⟩, by rw [ht]; exact rowAt_nil _, fun ad e => by cases e⟩
        · rw [List.getElem?_append_right (by omega), hl, show (L.length + 1) * 3 - L.length * 3 = 3 by omega]; rfl
        · rw [List.getElem?_append_right (by omega), hl, show (L.length + 1) * 3 + 1 - L.length * 3 = 4 by omega]; rfl
        · rw [List.getElem?_append_right (by omega), hl, show (L.length + 1) * 3 + 2 - L.length * 3 = 5 by omega, ht]; rfl
end Go.Proofs.YtbbnkmhlgfoacaaDoor
