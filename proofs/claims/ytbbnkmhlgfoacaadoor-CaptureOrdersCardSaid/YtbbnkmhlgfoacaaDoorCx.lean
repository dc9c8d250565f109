/- Records that are stamped, and cut by their first byte: what is read of them. -/
import Derived.Test.YtbbnkmhlgfoacaaDoorCw
namespace Go.Proofs.YtbbnkmhlgfoacaaDoor
open Go.RowKit
open S10

/-- A list whose first k are changed. -/
def upd {α : Type} (f : α → α) (L : List α) (k : Nat) : List α := (L.take k).map f ++ L.drop k
theorem upd_length {α : Type} (f : α → α) (L : List α) (k : Nat) : (upd f L k).length = L.length := by
 unfold upd; simp only [List.length_append, List.length_map, List.length_take, List.length_drop]; omega
theorem upd_zero {α : Type} (f : α → α) (L : List α) : upd f L 0 = L := by simp [upd]
theorem upd_all {α : Type} (f : α → α) (L : List α) (n : Nat) (h : L.length = n) : upd f L n = L.map f := by
 subst h; simp [upd]
theorem upd_get {α : Type} (f : α → α) (L : List α) (k : Nat) (h : k < L.length) : (upd f L k)[k]'(by rw [upd_length]; exact h) = L[k] := by
 unfold upd
 rw [List.getElem_append_right (by simp; omega)]
 simp only [List.length_map, List.length_take, List.getElem_drop]
 congr 1
 omega
theorem upd_set {α : Type} (f : α → α) (L : List α) (k : Nat) (h : k < L.length) : (upd f L k).set k (f L[k]) = upd f L (k + 1) := by
 unfold upd
 have hl : ((L.take k).map f).length = k := by simp; omega
 rw [List.set_append_right _ _ (by omega), hl, Nat.sub_self, List.drop_eq_getElem_cons h, List.set_cons_zero, List.take_succ_eq_append_getElem h, List.map_append, List.append_assoc]
 rfl
namespace Cp
def stamp (s : Nat) (r : S9.Pc.Rcd) : S9.Pc.Rcd := { r with sec := s, frac := s, len := s }
def cut1 (r : S9.Pc.Rcd) : S9.Pc.Rcd := { r with data := r.data.drop 1 }
def to (d : Int) (x : It) : It := { x with dir := d }
theorem recs_of (link : Nat) (d : Int) (l : List S9.Pc.Rcd) : recs link d l = (l.map fun r => r.data).flatMap (rec1 link d) := by
 unfold recs; rw [List.flatMap_map]
theorem stamp_data (s : Nat) (l : List S9.Pc.Rcd) : (l.map (stamp s)).map (fun r => r.data) = l.map fun r => r.data := by
 rw [List.map_map]; rfl
theorem recs_stamp (link : Nat) (d : Int) (s : Nat) (l : List S9.Pc.Rcd) : recs link d (l.map (stamp s)) = recs link d l := by
 rw [recs_of, recs_of, stamp_data]
theorem recs_cut (d : Int) (s : Nat) (L : List It) (h : ∀ x ∈ L, may x = true) : recs 50 d (((rcds L).map (stamp s)).map cut1) = L.map (to d) := by
 have hd : (((rcds L).map (stamp s)).map cut1).map (fun r => r.data) = L.map body := by
  apply List.ext_getElem
  ·
   simp [rcds]
  ·
   intro i h1 h2
   simp [rcds, rcd, stamp, cut1]
 rw [recs_of, hd, List.flatMap_map]
 clear hd
 induction L with
 | nil => rfl
 | cons x L ih =>
  rw [List.flatMap_cons, ih (fun z hz => h z (by simp [hz])), rec1_plain _ _ _ (by decide), body_item x (h x (by simp)) d]
  rfl
/-- What is read of records as they are put, by whatever header. -/
theorem read_recs (m : S9.Pc.Hdr) (R : List S9.Pc.Rcd) (c : Cf) (hm : m.Ok) (hl : isLink m.link = true) (h1 : ∀ r ∈ R, r.Ok) (h2 : ∀ r ∈ R, r.data.length ≤ 90000) :
  read (S9.Pc.put m R) 1 c = (recs m.link c.dir R, 0, 0) ∧ ∀ r ∈ (S9.Pc.read (S9.Pc.put m R)).2.1, r.data.length ≤ 90000 := by
 have hr := S9.Pc.read_put m R hm h1 (fun r hr => by have := h2 r hr; omega)
 constructor
 ·
  unfold read readP
  rw [if_pos rfl, hr]
  simp only [if_true]
  rw [if_pos hl]
 ·
  rw [hr]; exact h2
theorem stamp_fit (s : Nat) (hs : s < 4294967296) (L : List It) (h : ∀ x ∈ L, may x = true) : ∀ r ∈ (rcds L).map (stamp s), r.Ok ∧ r.data.length ≤ 65536 ∧ 1 ≤ r.data.length := by
 intro r hr
 obtain ⟨r0, h0, rfl⟩ := List.mem_map.1 hr
 obtain ⟨i, _, x, hx, rfl⟩ := rcds_mem L r0 h0
 have h1 := (may_parts x (h x hx)).2.2
 have h2 := body_length x
 have h3 : (stamp s (rcd i x)).data = markOf x :: body x := rfl
 refine ⟨⟨hs, hs, hs⟩, ?_, ?_⟩ <;> rw [h3, List.length_cons] <;> omega
theorem cut_fit (s : Nat) (hs : s < 4294967296) (L : List It) (h : ∀ x ∈ L, may x = true) : ∀ r ∈ ((rcds L).map (stamp s)).map cut1, r.Ok ∧ r.data.length ≤ 65536 := by
 intro r hr
 obtain ⟨r0, h0, rfl⟩ := List.mem_map.1 hr
 have h1 := stamp_fit s hs L h r0 h0
 have h3 : (cut1 r0).data = r0.data.drop 1 := rfl
 refine ⟨⟨h1.1.sec, h1.1.frac, h1.1.len⟩, ?_⟩
 rw [h3, List.length_drop]; omega
theorem stamp_size (s : Nat) (L : List It) : S9.Pc.size ((rcds L).map (stamp s)) = tot L + 5 * L.length := by
 rw [← size_rcds]
 unfold S9.Pc.size
 rw [List.map_map]; rfl
theorem cut_size (l : List S9.Pc.Rcd) : S9.Pc.size (l.map cut1) ≤ S9.Pc.size l := by
 induction l with
 | nil => simp
 | cons r l ih =>
  have h3 : (cut1 r).data.length = r.data.length - 1 := by simp [cut1]
  rw [List.map_cons, S9.Pc.size_cons, S9.Pc.size_cons, h3]; omega
theorem set_three (s : Nat) (Q Q1 Q2 : List S9.Pc.Rcd) (k : Nat) (h : k < Q.length) (e1 : Q1 = Q.set k { Q[k] with sec := s }) (h1 : k < Q1.length) (e2 : Q2 = Q1.set k { Q1[k] with frac := s }) (h2 : k < Q2.length) :
  Q2.set k { Q2[k] with len := s } = Q.set k (stamp s Q[k]) := by
 subst e2
 subst e1
 simp [stamp]
theorem rcds_one (L : List It) (k : Nat) (h : k < (rcds L).length) : 1 ≤ ((rcds L)[k]).data.length := by
 simp [rcds, rcd]
end Cp
end Go.Proofs.YtbbnkmhlgfoacaaDoor
