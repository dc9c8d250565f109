/- Captures, as items: what is read, what is written, and that what is written is read as it was. -/
import Derived.Test.YtbbnkmhlgfoacaaDoorS7b
import Derived.Test.YtbbnkmhlgfoacaaDoorS8
import Derived.Test.YtbbnkmhlgfoacaaDoorS9b
import Derived.Test.YtbbnkmhlgfoacaaDoorS10
namespace Go.Proofs.YtbbnkmhlgfoacaaDoor
namespace Cp

/-- An item; what counts of a config. -/
structure It where
  dir : Int
  proto : Int
  data : List UInt8
structure Cf where
  dir : Int
  accm : Nat
  wide : Bool

/-- A frame's item, if it is one. -/
def item (d : Int) (b : List UInt8) : List It := if (S8.Hd.read b).2.2 = 0 then [⟨d, ((S8.Hd.read b).1 : Int), S8.Hd.body b⟩] else []
def its (d : Int) (L : List (List UInt8)) : List It := L.flatMap (item d)
theorem item_good (d : Int) (b : List UInt8) (h : (S8.Hd.read b).2.2 = 0) : item d b = [⟨d, ((S8.Hd.read b).1 : Int), S8.Hd.body b⟩] := if_pos h
theorem item_bad (d : Int) (b : List UInt8) (h : ¬ (S8.Hd.read b).2.2 = 0) : item d b = [] := if_neg h
theorem item_le (d : Int) (b : List UInt8) : (item d b).length ≤ 1 := by unfold item; split <;> simp
theorem its_snoc (d : Int) (L : List (List UInt8)) (k : Nat) (h : k < L.length) : its d (L.take (k + 1)) = its d (L.take k) ++ item d L[k] := by
  rw [List.take_succ_eq_append_getElem h]; unfold its; rw [List.flatMap_append, List.flatMap_singleton]
theorem its_append (d : Int) (L M : List (List UInt8)) : its d (L ++ M) = its d L ++ its d M := by simp [its]
theorem its_le (d : Int) (L : List (List UInt8)) : (its d L).length ≤ L.length := by
  induction L with
  | nil => simp [its]
  | cons b L ih =>
    have h1 := item_le d b
    have h2 : its d (b :: L) = item d b ++ its d L := by simp [its]
    rw [h2, List.length_append, List.length_cons]; omega

/-- The direction that a record's first byte tells; a record's items; all records'. -/
def mark (c : UInt8) : Int := if c.toNat = 0 then 1 else 2
def rec1 (link : Nat) (d : Int) (b : List UInt8) : List It := if link = 204 then (match b with | [] => [] | c :: r => item (mark c) r) else item d b
def recs (link : Nat) (d : Int) (l : List S9.Pc.Rcd) : List It := l.flatMap fun r => rec1 link d r.data
theorem rec1_plain (link : Nat) (d : Int) (b : List UInt8) (h : ¬ link = 204) : rec1 link d b = item d b := if_neg h
theorem rec1_nil (d : Int) : rec1 204 d [] = [] := rfl
theorem rec1_cons (d : Int) (c : UInt8) (r : List UInt8) : rec1 204 d (c :: r) = item (mark c) r := rfl
theorem recs_snoc (link : Nat) (d : Int) (l : List S9.Pc.Rcd) (k : Nat) (h : k < l.length) : recs link d (l.take (k + 1)) = recs link d (l.take k) ++ rec1 link d l[k].data := by
  rw [List.take_succ_eq_append_getElem h]; unfold recs; rw [List.flatMap_append, List.flatMap_singleton]
theorem rec1_le (link : Nat) (d : Int) (b : List UInt8) : (rec1 link d b).length ≤ 1 := by
  unfold rec1
  split
  · cases b with
    | nil => simp
    | cons c r => exact item_le _ _
  · exact item_le _ _
theorem recs_le (link : Nat) (d : Int) (l : List S9.Pc.Rcd) : (recs link d l).length ≤ l.length := by
  induction l with
  | nil => simp [recs]
  | cons b L ih =>
    have h1 := rec1_le link d b.data
    have h2 : recs link d (b :: L) = rec1 link d b.data ++ recs link d L := by simp [recs]
    rw [h2, List.length_append, List.length_cons]; omega
def isLink (k : Nat) : Bool := k == 9 || (k == 50 || k == 204)
def readP (b : List UInt8) (d : Int) : List It × Nat × Nat :=
  if (S9.Pc.read b).2.2.2 = 0 then (if isLink (S9.Pc.read b).1.link = true then (recs (S9.Pc.read b).1.link d (S9.Pc.read b).2.1, 0, 0) else ([], 20, 7)) else ([], (S9.Pc.read b).2.2.1, (S9.Pc.read b).2.2.2)

/-- The two streams as far as they came, and the items so far. -/
structure Sm where
  out : List UInt8
  inn : List UInt8
  its : List It
def st (m : Nat) (wide : Bool) (x : List UInt8) : S7.Fr.DS := S7.Fr.run m wide S7.Fr.init x
def step (c : Cf) (s : Sm) (n : S10.Dm.Nt) : Sm :=
  if n.kind = 1 then ⟨s.out ++ n.data, s.inn, s.its ++ its 2 (S7.Fr.all 0 c.wide (st 0 c.wide s.out) n.data)⟩
  else if n.kind = 2 then ⟨s.out, s.inn ++ n.data, s.its ++ its 1 (S7.Fr.all c.accm c.wide (st c.accm c.wide s.inn) n.data)⟩
  else if n.kind = 3 then ⟨[], s.inn, s.its⟩ else if n.kind = 4 then ⟨s.out, [], s.its⟩ else s
def s0 : Sm := ⟨[], [], []⟩
def sm (c : Cf) (l : List S10.Dm.Nt) : Sm := l.foldl (step c) s0
theorem sm_nil (c : Cf) : sm c [] = s0 := rfl
theorem sm_take (c : Cf) (l : List S10.Dm.Nt) (k : Nat) (h : k < l.length) : sm c (l.take (k + 1)) = step c (sm c (l.take k)) l[k] := by
  rw [List.take_succ_eq_append_getElem h]; unfold sm; rw [List.foldl_append]; rfl
theorem step_one (c : Cf) (s : Sm) (n : S10.Dm.Nt) (h : n.kind = 1) : step c s n = ⟨s.out ++ n.data, s.inn, s.its ++ its 2 (S7.Fr.all 0 c.wide (st 0 c.wide s.out) n.data)⟩ := by simp [step, h]
theorem step_two (c : Cf) (s : Sm) (n : S10.Dm.Nt) (h : n.kind = 2) : step c s n = ⟨s.out, s.inn ++ n.data, s.its ++ its 1 (S7.Fr.all c.accm c.wide (st c.accm c.wide s.inn) n.data)⟩ := by simp [step, h]
theorem step_three (c : Cf) (s : Sm) (n : S10.Dm.Nt) (h : n.kind = 3) : step c s n = ⟨[], s.inn, s.its⟩ := by simp [step, h]
theorem step_four (c : Cf) (s : Sm) (n : S10.Dm.Nt) (h : n.kind = 4) : step c s n = ⟨s.out, [], s.its⟩ := by simp [step, h]
theorem step_else (c : Cf) (s : Sm) (n : S10.Dm.Nt) (h1 : ¬ n.kind = 1) (h2 : ¬ n.kind = 2) (h3 : ¬ n.kind = 3) (h4 : ¬ n.kind = 4) : step c s n = s := by simp [step, h1, h2, h3, h4]
/-- The frames that end in a note, told by all of what came: those that weren't there ahead of it. -/
theorem all_new (m : Nat) (wide : Bool) (x d : List UInt8) : (S7.Fr.all m wide S7.Fr.init (x ++ d)).drop (S7.Fr.all m wide S7.Fr.init x).length = S7.Fr.all m wide (st m wide x) d := by
  rw [S7.Fr.all_append, List.drop_left]; rfl
theorem step_le (c : Cf) (s : Sm) (n : S10.Dm.Nt) : (step c s n).out.length ≤ s.out.length + n.data.length ∧ (step c s n).inn.length ≤ s.inn.length + n.data.length ∧ (step c s n).its.length ≤ s.its.length + n.data.length := by
  have k1 := Nat.le_trans (its_le 2 (S7.Fr.all 0 c.wide (st 0 c.wide s.out) n.data)) (S7.Fr.all_len 0 c.wide n.data (st 0 c.wide s.out))
  have k2 := Nat.le_trans (its_le 1 (S7.Fr.all c.accm c.wide (st c.accm c.wide s.inn) n.data)) (S7.Fr.all_len c.accm c.wide n.data (st c.accm c.wide s.inn))
  unfold step
  repeat' split
  all_goals (try simp only [List.length_append, List.length_nil]); omega
theorem fold_le (c : Cf) (l : List S10.Dm.Nt) : ∀ s : Sm, (l.foldl (step c) s).out.length ≤ s.out.length + S10.Dm.size l ∧ (l.foldl (step c) s).inn.length ≤ s.inn.length + S10.Dm.size l ∧ (l.foldl (step c) s).its.length ≤ s.its.length + S10.Dm.size l := by
  induction l with
  | nil => intro s; simp
  | cons n l ih =>
    intro s
    have h1 := ih (step c s n)
    have h2 := step_le c s n
    rw [List.foldl_cons, S10.Dm.size_cons]
    omega
theorem sm_le (c : Cf) (l : List S10.Dm.Nt) : (sm c l).out.length ≤ S10.Dm.size l ∧ (sm c l).inn.length ≤ S10.Dm.size l ∧ (sm c l).its.length ≤ S10.Dm.size l := by
  have h := fold_le c l s0
  have e1 : s0.out.length = 0 := rfl
  have e2 : s0.inn.length = 0 := rfl
  have e3 : s0.its.length = 0 := rfl
  unfold sm
  omega
def readD (b : List UInt8) (c : Cf) : List It × Nat × Nat :=
  if (S10.Dm.read b).2.2 = 0 then ((sm c (S10.Dm.read b).1).its, 0, 0) else ([], (S10.Dm.read b).2.1, (S10.Dm.read b).2.2)
def read (b : List UInt8) (f : Int) (c : Cf) : List It × Nat × Nat := if f = 1 then readP b c.dir else if f = 2 then readD b c else ([], 0, 7)

/-- Bodies have at most 65535 bytes. -/
theorem body_le (wide : Bool) (A : List UInt8 × Bool) : (S7.Fr.bodyOf wide A).length ≤ 65535 := by
  unfold S7.Fr.bodyOf
  split
  · rename_i h
    unfold S7.Fr.judge at h
    split at h
    · omega
    · split at h
      · omega
      · split at h
        · omega
        · split at h
          · omega
          · rename_i h2 _ _ h3
            rw [List.length_take]
            unfold S7.Fr.most at h3
            omega
  · simp
theorem outs_le (b : List UInt8) (h : b.length ≤ 65535) : ∀ x ∈ S7.Fr.outs b, x.length ≤ 65535 := by
  intro x hx
  unfold S7.Fr.outs at hx
  split at hx
  · simp at hx
  · simp at hx; rw [hx]; exact h
theorem all_short (m : Nat) (wide : Bool) (l : List UInt8) : ∀ s, ∀ b ∈ S7.Fr.all m wide s l, b.length ≤ 65535 := by
  induction l with
  | nil => intro s b hb; simp [S7.Fr.all] at hb
  | cons c l ih =>
    intro s b hb
    have e : S7.Fr.all m wide s (c :: l) = S7.Fr.outs (S7.Fr.out m wide s c) ++ S7.Fr.all m wide (S7.Fr.next m wide s c) l := rfl
    rw [e, List.mem_append] at hb
    rcases hb with hb | hb
    · refine outs_le _ ?_ b hb
      unfold S7.Fr.out
      split
      · exact body_le _ _
      · simp
    · exact ih _ b hb

/-- May an item be? Its frame; its record; its stream. -/
def may (x : It) : Bool := (x.dir == 1 || x.dir == 2) && (S8.Hd.may x.proto && decide (x.data.length ≤ 65531))
def body (x : It) : List UInt8 := S8.Hd.put x.proto.toNat true false ++ x.data
def markOf (x : It) : UInt8 := if x.dir = 1 then 0 else 1
def rcd (i : Nat) (x : It) : S9.Pc.Rcd := ⟨i, 0, (markOf x :: body x).length, markOf x :: body x⟩
def rcds (l : List It) : List S9.Pc.Rcd := l.mapIdx rcd
def hdr : S9.Pc.Hdr := ⟨false, false, 65535, 204⟩
def mapOf (c : Cf) (x : It) : Nat := if x.dir = 1 then c.accm else 0
def strm (c : Cf) (x : It) : List UInt8 := 126 :: S7.Fr.fr (mapOf c x) c.wide (body x)
def kind (x : It) : Int := if x.dir = 1 then 2 else 1
def part (k : Int) (s : List UInt8) (i : Nat) : S10.Dm.Nt := ⟨k, 0, (s.drop (65535 * i)).take 65535⟩
def cnt (s : List UInt8) : Nat := (s.length + 65534) / 65535
def chunks (k : Int) (s : List UInt8) : List S10.Dm.Nt := (List.range (cnt s)).map (part k s)
def nts (c : Cf) (l : List It) : List S10.Dm.Nt := l.flatMap fun x => chunks (kind x) (strm c x)
def write (l : List It) (f : Int) (c : Cf) : List UInt8 × Nat :=
  if f = 1 ∨ f = 2 then (if ∀ x ∈ l, may x = true then (if f = 1 then (S9.Pc.put hdr (rcds l), 0) else (S10.Dm.bytes (nts c l), 0)) else ([], 1)) else ([], 7)

theorem may_parts (x : It) (h : may x = true) : (x.dir = 1 ∨ x.dir = 2) ∧ S8.Hd.may x.proto = true ∧ x.data.length ≤ 65531 := by
  simp only [may, Bool.and_eq_true, Bool.or_eq_true, beq_iff_eq, decide_eq_true_eq] at h
  exact h
theorem may_proto (x : It) (h : may x = true) : ((x.proto.toNat : Nat) : Int) = x.proto ∧ x.proto.toNat ≤ 65535 := by
  have := (S8.Hd.may_iff x.proto).1 (may_parts x h).2.1
  omega
theorem put_four (p : Nat) : (S8.Hd.put p true false).length = 4 := by
  rw [S8.Hd.put, List.length_append, S8.Oc.put_length]; rfl
theorem body_length (x : It) : (body x).length = x.data.length + 4 := by rw [body, List.length_append, put_four]; omega
theorem body_item (x : It) (h : may x = true) (d : Int) : item d (body x) = [⟨d, x.proto, x.data⟩] := by
  have hp := may_parts x h
  have hq := may_proto x h
  have h1 : S8.Hd.read (body x) = (x.proto.toNat, (S8.Hd.put x.proto.toNat true false).length, 0) := S8.Hd.read_put _ _ _ _ (by rw [hq.1]; exact hp.2.1)
  rw [item_good d _ (by rw [h1]), S8.Hd.body_good _ (by rw [h1]), h1]
  simp only [hq.1]
  rw [body, List.drop_left]
theorem mark_of (x : It) (h : may x = true) : mark (markOf x) = x.dir := by
  have hp := (may_parts x h).1
  unfold mark markOf
  rcases hp with h | h <;> simp [h]
theorem rcds_take (l : List It) (k : Nat) (h : k < l.length) : rcds (l.take (k + 1)) = rcds (l.take k) ++ [rcd k l[k]] := by
  unfold rcds
  rw [List.take_succ_eq_append_getElem h, List.mapIdx_append]
  simp [List.length_take, Nat.min_eq_left (Nat.le_of_lt h)]
theorem rcds_length (l : List It) : (rcds l).length = l.length := by simp [rcds]
theorem rcds_mem (l : List It) (r : S9.Pc.Rcd) (h : r ∈ rcds l) : ∃ i, i < l.length ∧ ∃ x ∈ l, r = rcd i x := by
  obtain ⟨j, hj, rfl⟩ := List.getElem_of_mem h
  rw [rcds_length] at hj
  exact ⟨j, hj, l[j], List.getElem_mem hj, by simp [rcds]⟩
theorem rcds_ok (l : List It) (hl : l.length ≤ 1000000) (h : ∀ x ∈ l, may x = true) : (∀ r ∈ rcds l, r.Ok) ∧ S9.Pc.small (rcds l) := by
  refine ⟨fun r hr => ?_, fun r hr => ?_⟩
  · obtain ⟨i, hi, x, hx, rfl⟩ := rcds_mem l r hr
    have h1 := (may_parts x (h x hx)).2.2
    have h2 := body_length x
    refine ⟨?_, ?_, ?_⟩
    · show i < 4294967296
      omega
    · show 0 < 4294967296
      omega
    · show (markOf x :: body x).length < 4294967296
      rw [List.length_cons]; omega
  · obtain ⟨i, hi, x, hx, rfl⟩ := rcds_mem l r hr
    have h1 := (may_parts x (h x hx)).2.2
    have h2 := body_length x
    show (markOf x :: body x).length ≤ 131072
    rw [List.length_cons]; omega
/-- All items' Data together. -/
def tot (l : List It) : Nat := (l.map fun x => x.data.length).sum
theorem tot_cons (x : It) (l : List It) : tot (x :: l) = x.data.length + tot l := by simp [tot]
theorem tot_append (l k : List It) : tot (l ++ k) = tot l + tot k := by simp [tot]
theorem tot_mem (l : List It) (x : It) (h : x ∈ l) : x.data.length ≤ tot l := by
  induction l with
  | nil => simp at h
  | cons y l ih =>
    rw [tot_cons]
    rcases List.mem_cons.1 h with rfl | h
    · omega
    · have := ih h; omega
theorem tot_take (l : List It) (k : Nat) : tot (l.take k) ≤ tot l := by
  have h : tot (l.take k ++ l.drop k) = tot l := by rw [List.take_append_drop]
  rw [tot_append] at h; omega
theorem size_rcds_aux (l : List It) : ∀ i : Nat, ((l.mapIdx fun j x => rcd (j + i) x).map fun r => r.data.length).sum = tot l + 5 * l.length := by
  induction l with
  | nil => intro i; simp [tot]
  | cons x l ih =>
    intro i
    have h2 := body_length x
    have h3 := ih (i + 1)
    have e : (fun (j : Nat) (x : It) => rcd (j + 1 + i) x) = (fun j x => rcd (j + (i + 1)) x) := by funext j x; congr 1; omega
    rw [List.mapIdx_cons, List.map_cons, List.sum_cons, tot_cons, List.length_cons, e, h3]
    show (markOf x :: body x).length + _ = _
    rw [List.length_cons]; omega
theorem size_rcds (l : List It) : S9.Pc.size (rcds l) = tot l + 5 * l.length := size_rcds_aux l 0
/-- What is written in pcap's format is read as it was. -/
theorem recs_rcds (l : List It) (h : ∀ x ∈ l, may x = true) (d : Int) : recs 204 d (rcds l) = l := by
  have key : ∀ k, k ≤ l.length → recs 204 d (rcds (l.take k)) = l.take k := by
    intro k
    induction k with
    | zero => intro _; simp [recs, rcds]
    | succ k ih =>
      intro hk
      have hk' : k < l.length := by omega
      have hm := h l[k] (List.getElem_mem hk')
      rw [rcds_take l k hk']
      have e : recs 204 d (rcds (l.take k) ++ [rcd k l[k]]) = recs 204 d (rcds (l.take k)) ++ rec1 204 d (rcd k l[k]).data := by simp [recs]
      have e2 : rec1 204 d (rcd k l[k]).data = [l[k]] := by
        show item (mark (markOf l[k])) (body l[k]) = _
        rw [body_item _ hm, mark_of _ hm]
      rw [e, ih (by omega), e2, List.take_succ_eq_append_getElem hk']
  have := key l.length (Nat.le_refl _)
  rwa [List.take_length] at this
theorem read_writeP (l : List It) (hl : l.length ≤ 1000000) (h : ∀ x ∈ l, may x = true) (d : Int) : readP (S9.Pc.put hdr (rcds l)) d = (l, 0, 0) := by
  have h1 := S9.Pc.read_put hdr (rcds l) ⟨by decide, by decide⟩ (rcds_ok l hl h).1 (rcds_ok l hl h).2
  unfold readP
  rw [h1]
  simp only [if_true]
  have e : isLink hdr.link = true := rfl
  have e2 : hdr.link = 204 := rfl
  rw [if_pos e, e2, recs_rcds l h]

/-- Pieces of one kind of notes among others that count for nothing. -/
def own (k : Int) (ps : List S10.Dm.Nt) : List UInt8 := ps.flatMap fun p => if p.kind = k then p.data else []
def Quiet (k : Int) (ps : List S10.Dm.Nt) : Prop := ∀ p ∈ ps, p.kind = k ∨ ¬ (1 ≤ p.kind ∧ p.kind ≤ 4)
theorem st_append (m : Nat) (wide : Bool) (a b : List UInt8) : st m wide (a ++ b) = S7.Fr.run m wide (st m wide a) b := S7.Fr.run_append m wide a b _
theorem step_nil (c : Cf) (s : Sm) (k : Int) (hk : k = 1 ∨ k = 2) : step c s ⟨k, 0, []⟩ = s := by
  rcases hk with rfl | rfl
  · rw [step_one _ _ _ rfl]; simp [S7.Fr.all, its]
  · rw [step_two _ _ _ rfl]; simp [S7.Fr.all, its]
theorem step_join (c : Cf) (s : Sm) (k : Int) (hk : k = 1 ∨ k = 2) (p : S10.Dm.Nt) (hp : p.kind = k) (d : List UInt8) : step c (step c s p) ⟨k, 0, d⟩ = step c s ⟨k, 0, p.data ++ d⟩ := by
  rcases hk with rfl | rfl
  · rw [step_one c s p hp, step_one _ _ _ rfl, step_one _ _ _ rfl]
    simp only [st_append, S7.Fr.all_append, its_append, List.append_assoc]
  · rw [step_two c s p hp, step_two _ _ _ rfl, step_two _ _ _ rfl]
    simp only [st_append, S7.Fr.all_append, its_append, List.append_assoc]
theorem fold_own (c : Cf) (k : Int) (hk : k = 1 ∨ k = 2) (ps : List S10.Dm.Nt) : ∀ s, Quiet k ps → ps.foldl (step c) s = step c s ⟨k, 0, own k ps⟩ := by
  induction ps with
  | nil => intro s _; exact (step_nil c s k hk).symm
  | cons p ps ih =>
    intro s hq
    have h2 : Quiet k ps := fun x hx => hq x (List.mem_cons_of_mem _ hx)
    rw [List.foldl_cons, ih _ h2]
    by_cases hp : p.kind = k
    · rw [step_join c s k hk p hp]
      congr 1
      simp [own, hp]
    · have h3 := (hq p (by simp)).resolve_left hp
      rw [step_else c s p (by omega) (by omega) (by omega) (by omega)]
      congr 1
      simp [own, hp]
/-- Both streams stand at the end of a frame. -/
def Clean (c : Cf) (s : Sm) : Prop := (∃ i t, st 0 c.wide s.out = ⟨i, [], t⟩) ∧ ∃ i t, st c.accm c.wide s.inn = ⟨i, [], t⟩
def Safe (c : Cf) (s : Sm) : Prop := S7.Fr.safe 0 c.wide S7.Fr.init s.out ∧ S7.Fr.safe c.accm c.wide S7.Fr.init s.inn
theorem safe_ahead (m : Nat) (wide : Bool) (a b : List UInt8) : ∀ s, S7.Fr.safe m wide s (a ++ b) → S7.Fr.safe m wide s a := by
  induction a with
  | nil => intro s h; exact S7.Fr.safe_head m wide s _ h
  | cons c a ih => intro s h; exact ⟨h.1, ih _ h.2⟩
theorem strm_run (m : Nat) (wide : Bool) (hm : m < 4294967296) (i : Bool) (t : S7.Fr.Tal) (b : List UInt8) (h2 : 2 ≤ b.length) (h6 : b.length ≤ 65535) :
    (∃ i' t', S7.Fr.run m wide ⟨i, [], t⟩ (126 :: S7.Fr.fr m wide b) = ⟨i', [], t'⟩) ∧ S7.Fr.all m wide ⟨i, [], t⟩ (126 :: S7.Fr.fr m wide b) = [b] ∧ S7.Fr.safe m wide ⟨i, [], t⟩ (126 :: S7.Fr.fr m wide b) := by
  have h := S7.Fr.run_flag m wide i t
  have h1 := S7.Fr.run_fr m wide hm t b h2 h6
  refine ⟨⟨true, S7.Fr.count t 1, ?_⟩, ?_, ?_⟩
  · show S7.Fr.run m wide (S7.Fr.next m wide ⟨i, [], t⟩ 126) (S7.Fr.fr m wide b) = _
    rw [h.1, h1.1]
  · show S7.Fr.outs (S7.Fr.out m wide ⟨i, [], t⟩ 126) ++ S7.Fr.all m wide (S7.Fr.next m wide ⟨i, [], t⟩ 126) (S7.Fr.fr m wide b) = _
    rw [h.1, h.2, h1.2]; rfl
  · refine ⟨Nat.zero_le _, ?_⟩
    rw [h.1]
    exact S7.Fr.safe_fr m wide t b hm h6
theorem map_lt (c : Cf) (hc : c.accm < 4294967296) (x : It) : mapOf c x < 4294967296 := by unfold mapOf; split <;> omega
theorem kind_or (x : It) : kind x = 1 ∨ kind x = 2 := by unfold kind; split <;> simp
/-- An item's stream, behind frames that have ended: the item, and again frames that have ended. -/
theorem step_item (c : Cf) (hc : c.accm < 4294967296) (s : Sm) (hs : Clean c s) (hf : Safe c s) (x : It) (h : may x = true) :
    (step c s ⟨kind x, 0, strm c x⟩).its = s.its ++ [x] ∧ Clean c (step c s ⟨kind x, 0, strm c x⟩) ∧ Safe c (step c s ⟨kind x, 0, strm c x⟩) := by
  have hp := may_parts x h
  have hb := body_length x
  have hi : ∀ d, d = x.dir → its d [body x] = [x] := by
    intro d e
    have e1 : its d [body x] = item d (body x) := by simp [its]
    rw [e1, body_item x h, e]
  rcases hp.1 with hd | hd
  · have hk : kind x = 2 := by simp [kind, hd]
    have hm : mapOf c x = c.accm := by simp [mapOf, hd]
    obtain ⟨i, t, e⟩ := hs.2
    have hr := strm_run c.accm c.wide hc i t (body x) (by omega) (by omega)
    rw [← e] at hr
    have hstrm : strm c x = 126 :: S7.Fr.fr c.accm c.wide (body x) := by rw [strm, hm]
    rw [step_two _ _ _ (by exact hk)]
    simp only [hstrm]
    refine ⟨?_, ⟨hs.1, ?_⟩, ⟨hf.1, ?_⟩⟩
    · rw [hr.2.1, hi 1 hd.symm]
    · obtain ⟨i', t', e'⟩ := hr.1
      exact ⟨i', t', by rw [st_append]; exact e'⟩
    · exact S7.Fr.safe_append _ _ _ _ _ hf.2 hr.2.2
  · have hk : kind x = 1 := by simp [kind, hd]
    have hm : mapOf c x = 0 := by simp [mapOf, hd]
    obtain ⟨i, t, e⟩ := hs.1
    have hr := strm_run 0 c.wide (by omega) i t (body x) (by omega) (by omega)
    rw [← e] at hr
    have hstrm : strm c x = 126 :: S7.Fr.fr 0 c.wide (body x) := by rw [strm, hm]
    rw [step_one _ _ _ (by exact hk)]
    simp only [hstrm]
    refine ⟨?_, ⟨?_, hs.2⟩, ⟨?_, hf.2⟩⟩
    · rw [hr.2.1, hi 2 hd.symm]
    · obtain ⟨i', t', e'⟩ := hr.1
      exact ⟨i', t', by rw [st_append]; exact e'⟩
    · exact S7.Fr.safe_append _ _ _ _ _ hf.1 hr.2.2
theorem own_take (k : Int) (ps : List S10.Dm.Nt) (j : Nat) : ∃ r, own k ps = own k (ps.take j) ++ r :=
  ⟨own k (ps.drop j), by unfold own; rw [← List.flatMap_append, List.take_append_drop]⟩
theorem safe_step (c : Cf) (s : Sm) (k : Int) (hk : k = 1 ∨ k = 2) (a r : List UInt8) (h : Safe c (step c s ⟨k, 0, a ++ r⟩)) : Safe c (step c s ⟨k, 0, a⟩) := by
  rcases hk with rfl | rfl
  · rw [step_one _ _ _ rfl] at h ⊢
    refine ⟨safe_ahead _ _ _ r _ ?_, h.2⟩
    have := h.1
    simp only [← List.append_assoc] at this
    exact this
  · rw [step_two _ _ _ rfl] at h ⊢
    refine ⟨h.1, safe_ahead _ _ _ r _ ?_⟩
    have := h.2
    simp only [← List.append_assoc] at this
    exact this
/-- Notes that are items' streams, each cut into pieces. -/
def Parted (c : Cf) : List It → List S10.Dm.Nt → Prop
  | [], ns => ns = []
  | x :: l, ns => ∃ ps qs, ns = ps ++ qs ∧ Quiet (kind x) ps ∧ own (kind x) ps = strm c x ∧ Parted c l qs
theorem parted_fold (c : Cf) (hc : c.accm < 4294967296) (l : List It) : ∀ (ns : List S10.Dm.Nt) (s : Sm), Parted c l ns → (∀ x ∈ l, may x = true) → Clean c s → Safe c s →
    (ns.foldl (step c) s).its = s.its ++ l ∧ ∀ k, Safe c ((ns.take k).foldl (step c) s) := by
  induction l with
  | nil =>
    intro ns s hp _ _ hf
    have : ns = [] := hp
    subst this
    exact ⟨by simp, fun k => by simpa using hf⟩
  | cons x l ih =>
    intro ns s hp hm hs hf
    obtain ⟨ps, qs, rfl, hq, ho, hr⟩ := hp
    have hx := step_item c hc s hs hf x (hm x (by simp))
    have hfold := fold_own c (kind x) (kind_or x) ps s hq
    rw [ho] at hfold
    have h2 := ih qs (step c s ⟨kind x, 0, strm c x⟩) hr (fun y hy => hm y (List.mem_cons_of_mem _ hy)) hx.2.1 hx.2.2
    refine ⟨?_, fun k => ?_⟩
    · rw [List.foldl_append, hfold, h2.1, hx.1]; simp
    · by_cases hk : k ≤ ps.length
      · rw [List.take_append_of_le_length hk]
        have hq' : Quiet (kind x) (ps.take k) := fun p hp => hq p (List.mem_of_mem_take hp)
        rw [fold_own c (kind x) (kind_or x) (ps.take k) s hq']
        obtain ⟨r, hr⟩ := own_take (kind x) ps k
        rw [ho] at hr
        rw [hr] at hx
        exact safe_step c s (kind x) (kind_or x) _ r hx.2.2
      · have e : (ps ++ qs).take k = ps ++ qs.take (k - ps.length) := by rw [List.take_append, List.take_of_length_le (by omega)]
        rw [e, List.foldl_append, hfold]
        exact h2.2 _
theorem clean0 (c : Cf) : Clean c s0 := ⟨⟨false, S7.Fr.zero, rfl⟩, ⟨false, S7.Fr.zero, rfl⟩⟩
theorem safe0 (c : Cf) : Safe c s0 := ⟨Nat.zero_le _, Nat.zero_le _⟩
/-- No stream's frame grows too long on the way. -/
def SafeN (c : Cf) (l : List S10.Dm.Nt) : Prop := ∀ k, Safe c (sm c (l.take k))
theorem parted_sm (c : Cf) (hc : c.accm < 4294967296) (l : List It) (ns : List S10.Dm.Nt) (h : Parted c l ns) (hm : ∀ x ∈ l, may x = true) : (sm c ns).its = l ∧ SafeN c ns := by
  have := parted_fold c hc l ns s0 h hm (clean0 c) (safe0 c)
  exact ⟨by unfold sm; rw [this.1]; rfl, this.2⟩
theorem safe_small (c : Cf) (l : List S10.Dm.Nt) (h : S10.Dm.size l ≤ 100000) : SafeN c l := by
  intro k
  have h1 := sm_le c (l.take k)
  have h2 : S10.Dm.size (l.take k) ≤ S10.Dm.size l := S10.Dm.size_take l k
  have h3 := (S7.Fr.most_le c.wide).1
  refine ⟨S7.Fr.safe_len _ _ _ _ ?_, S7.Fr.safe_len _ _ _ _ ?_⟩
  · show 0 + _ ≤ _
    omega
  · show 0 + _ ≤ _
    omega
theorem chunk_flat (s : List UInt8) : ∀ n, ((List.range n).flatMap fun i => (s.drop (65535 * i)).take 65535) = s.take (65535 * n) := by
  intro n
  induction n with
  | zero => simp
  | succ n ih =>
    rw [List.range_succ, List.flatMap_append, ih, List.flatMap_singleton]
    have e : 65535 * (n + 1) = 65535 * n + 65535 := by omega
    rw [e, List.take_add]
theorem chunks_quiet (k : Int) (s : List UInt8) : Quiet k (chunks k s) := by
  intro p hp
  obtain ⟨i, _, rfl⟩ := List.mem_map.1 hp
  exact .inl rfl
theorem chunks_own (k : Int) (s : List UInt8) : own k (chunks k s) = s := by
  have e : own k (chunks k s) = (List.range (cnt s)).flatMap fun i => (s.drop (65535 * i)).take 65535 := by
    unfold own chunks
    rw [List.flatMap_map]
    congr 1
    funext i
    simp [part]
  rw [e, chunk_flat, List.take_of_length_le]
  unfold cnt
  omega
theorem nts_cons (c : Cf) (x : It) (l : List It) : nts c (x :: l) = chunks (kind x) (strm c x) ++ nts c l := by simp [nts]
theorem nts_parted (c : Cf) (l : List It) : Parted c l (nts c l) := by
  induction l with
  | nil => rfl
  | cons x l ih => exact ⟨_, _, nts_cons c x l, chunks_quiet _ _, chunks_own _ _, ih⟩
theorem nts_take (c : Cf) (l : List It) (k : Nat) (h : k < l.length) : nts c (l.take (k + 1)) = nts c (l.take k) ++ chunks (kind l[k]) (strm c l[k]) := by
  rw [List.take_succ_eq_append_getElem h]; unfold nts; rw [List.flatMap_append, List.flatMap_singleton]
theorem chunks_fine (k : Int) (hk : k = 1 ∨ k = 2) (s : List UInt8) : S10.Dm.fine (chunks k s) := by
  intro p hp
  obtain ⟨i, _, rfl⟩ := List.mem_map.1 hp
  have hl : ((s.drop (65535 * i)).take 65535).length ≤ 65535 := by rw [List.length_take]; omega
  have hlong : S10.Dm.long (part k s i) (S10.Dm.form (part k s i).kind) = false := by
    unfold S10.Dm.long
    rw [Bool.and_eq_false_iff]
    right
    rw [decide_eq_false_iff_not]
    show ¬ 65535 < ((s.drop (65535 * i)).take 65535).length
    omega
  rcases hk with rfl | rfl
  · exact S10.Dm.bad_good _ (by rfl) hlong
  · exact S10.Dm.bad_good _ (by rfl) hlong
theorem nts_fine (c : Cf) (l : List It) : S10.Dm.fine (nts c l) := by
  intro p hp
  obtain ⟨x, _, h⟩ := List.mem_flatMap.1 hp
  exact chunks_fine _ (kind_or x) _ p h
theorem part_ok (k : Int) (hk : k = 1 ∨ k = 2) (s : List UInt8) (i : Nat) : (part k s i).Ok := by
  have e : (part k s i).kind = k := rfl
  exact ⟨by rw [e]; omega, by rw [e]; omega, by show 0 < _; decide⟩
theorem nts_ok (c : Cf) (l : List It) : ∀ p ∈ nts c l, p.Ok := by
  intro p hp
  obtain ⟨x, _, h⟩ := List.mem_flatMap.1 hp
  obtain ⟨i, _, rfl⟩ := List.mem_map.1 h
  exact part_ok _ (kind_or x) _ i
theorem size_own (k : Int) (ps : List S10.Dm.Nt) (h : ∀ p ∈ ps, p.kind = k) : S10.Dm.size ps = (own k ps).length := by
  induction ps with
  | nil => rfl
  | cons p ps ih =>
    have h1 := ih (fun x hx => h x (List.mem_cons_of_mem _ hx))
    have h2 := h p (by simp)
    rw [S10.Dm.size_cons, h1]
    simp [own, h2]
theorem chunks_size (k : Int) (s : List UInt8) : S10.Dm.size (chunks k s) = s.length := by
  rw [size_own k _ (fun p hp => by obtain ⟨i, _, rfl⟩ := List.mem_map.1 hp; rfl), chunks_own]
theorem chunks_length (k : Int) (s : List UInt8) : (chunks k s).length = cnt s := by simp [chunks]
theorem strm_length (c : Cf) (x : It) : (strm c x).length ≤ 2 * x.data.length + 18 ∧ 1 ≤ (strm c x).length := by
  have h1 := S7.Fr.fr_length (mapOf c x) c.wide (body x)
  have h2 := (S7.Fr.size_two c.wide).2
  have h3 := body_length x
  rw [strm, List.length_cons]; omega
theorem nts_size (c : Cf) (l : List It) : S10.Dm.size (nts c l) ≤ 2 * tot l + 18 * l.length := by
  induction l with
  | nil => exact Nat.zero_le _
  | cons x l ih =>
    have h1 := (strm_length c x).1
    rw [nts_cons, S10.Dm.size_append, chunks_size, tot_cons, List.length_cons]; omega
theorem nts_length (c : Cf) (l : List It) : 65535 * (nts c l).length ≤ 2 * tot l + 65552 * l.length := by
  induction l with
  | nil => exact Nat.zero_le _
  | cons x l ih =>
    have h1 := strm_length c x
    have h2 : 65535 * cnt (strm c x) ≤ (strm c x).length + 65534 := by unfold cnt; omega
    rw [nts_cons, List.length_append, chunks_length, tot_cons, List.length_cons]; omega
theorem bytes_nts (c : Cf) (l : List It) (h1 : tot l ≤ 70000) (h2 : l.length ≤ 60) : (S10.Dm.bytes (nts c l)).length ≤ 200000 ∧ (nts c l).length ≤ 100 ∧ S10.Dm.size (nts c l) ≤ 150000 := by
  have h3 := S10.Dm.bytes_le (nts c l)
  have h4 := nts_size c l
  have h5 := nts_length c l
  omega
/-- What is written as a dump is read as it was. -/
theorem read_writeD (c : Cf) (hc : c.accm < 4294967296) (l : List It) (h : ∀ x ∈ l, may x = true) : readD (S10.Dm.bytes (nts c l)) c = (l, 0, 0) := by
  unfold readD
  rw [S10.Dm.read_put _ (nts_fine c l)]
  simp only [if_true]
  rw [(parted_sm c hc l _ (nts_parted c l) h).1]
end Cp
end Go.Proofs.YtbbnkmhlgfoacaaDoor
