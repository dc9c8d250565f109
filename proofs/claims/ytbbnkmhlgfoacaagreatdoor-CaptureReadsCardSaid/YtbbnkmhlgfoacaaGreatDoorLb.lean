/- What a capture of few bytes holds. -/
import Derived.Test.YtbbnkmhlgfoacaaGreatDoorPlainc
namespace Go.Proofs.YtbbnkmhlgfoacaaGreatDoor
open Go.RowKit
open S10

namespace S9
theorem Pc.rdr_count (big : Bool) : ∀ (f : Nat) (b : List UInt8) (k : Nat), b.length ≤ f → 16 * (Pc.rdr b big k).1.length + Pc.size (Pc.rdr b big k).1 ≤ b.length
 | 0, b, k, hf => by
  have : b = [] := List.eq_nil_of_length_eq_zero (by omega)
  subst this
  rw [Pc.rdr_nil]; simp [Pc.size]
 | f + 1, b, k, hf => by
  by_cases hb : b = []
  ·
   subst hb; rw [Pc.rdr_nil]; simp [Pc.size]
  ·
   have hpos : 0 < b.length := List.length_pos_iff.2 hb
   have hk := Pc.next_known b big
   rcases hx : Pc.next b big with ⟨r, n, e⟩
   rw [hx] at hk
   by_cases he : e = 0
   ·
    subst he
    have h5 := (hk.good rfl).1
    have h7 := hk.size
    simp only at h5 h7
    rw [Pc.rdr_good b big k hpos r n hx]
    have ih := Pc.rdr_count big f (b.drop n) (k + n) (by simp; omega)
    rw [List.length_drop] at ih
    simp only [List.length_cons, Pc.size_cons]
    omega
   ·
    rw [Pc.rdr_bad b big k hpos r n e hx he]; simp [Pc.size]
theorem Pc.read_count (b : List UInt8) : 16 * (Pc.read b).2.1.length + Pc.size (Pc.read b).2.1 ≤ b.length := by
 rcases hx : Pc.head b with ⟨m, e⟩
 by_cases he : e = 0
 ·
  subst he
  rw [Pc.read_good b m hx]
  have h := Pc.rdr_count m.big _ (b.drop 24) 24 (Nat.le_refl _)
  rw [List.length_drop] at h
  simp only
  omega
 ·
  rw [Pc.read_bad b e m hx he]; simp [Pc.size]
theorem Pc.mem_size : ∀ (l : List Pc.Rcd) (r : Pc.Rcd), r ∈ l → r.data.length ≤ Pc.size l
 | x :: l, r, h => by
  rw [Pc.size_cons]
  rcases List.mem_cons.1 h with rfl | h
  ·
   omega
  ·
   have := Pc.mem_size l r h; omega
end S9
namespace Cp
theorem recs_short (b : List UInt8) (h : b.length ≤ 4000) : ∀ r ∈ (S9.Pc.read b).2.1, r.data.length ≤ 90000 := fun r hr => by
 have h1 := S9.Pc.read_count b
 have h2 := S9.Pc.mem_size _ r hr
 omega
theorem notes_safe (c : Cf) (b : List UInt8) (h : b.length ≤ 4000) : SafeN c (S10.Dm.read b).1 := by
 refine safe_small c _ ?_
 have := (S10.Dm.read_back b).size
 omega

theorem tot_item (d : Int) (b : List UInt8) : tot (item d b) ≤ b.length := by
 unfold item
 split
 ·
  rename_i h
  show tot [_] ≤ _
  rw [tot_cons, S8.Hd.body, if_pos h, List.length_drop]
  simp only [tot, List.map_nil, List.sum_nil]
  omega
 ·
  simp [tot]
theorem tot_its (d : Int) : ∀ L : List (List UInt8), tot (its d L) ≤ L.flatten.length
 | [] => by simp [its, tot]
 | b :: L => by
  have h1 := tot_item d b
  have h2 := tot_its d L
  have e : its d (b :: L) = item d b ++ its d L := rfl
  rw [e, tot_append, List.flatten_cons, List.length_append]
  omega
theorem tot_rec1 (link : Nat) (d : Int) (b : List UInt8) : tot (rec1 link d b) ≤ b.length := by
 unfold rec1
 split
 ·
  split
  ·
   simp [tot]
  ·
   rename_i c r
   have := tot_item (mark c) r
   simp only [List.length_cons]; omega
 ·
  exact tot_item d b
theorem tot_recs (link : Nat) (d : Int) : ∀ l : List S9.Pc.Rcd, tot (recs link d l) ≤ S9.Pc.size l
 | [] => by simp [recs, tot]
 | r :: l => by
  have h1 := tot_rec1 link d r.data
  have h2 := tot_recs link d l
  have e : recs link d (r :: l) = rec1 link d r.data ++ recs link d l := rfl
  rw [e, tot_append, S9.Pc.size_cons]
  omega
theorem all_tot (m : Nat) (wide : Bool) (l : List UInt8) : ∀ s, (S7.Fr.all m wide s l).flatten.length + (S7.Fr.run m wide s l).held.length ≤ s.held.length + l.length := by
 induction l with
 | nil => intro s; simp [S7.Fr.all, S7.Fr.run]
 | cons c l ih =>
  intro s
  have h := ih (S7.Fr.next m wide s c)
  have e1 : S7.Fr.all m wide s (c :: l) = S7.Fr.outs (S7.Fr.out m wide s c) ++ S7.Fr.all m wide (S7.Fr.next m wide s c) l := rfl
  have e2 : S7.Fr.run m wide s (c :: l) = S7.Fr.run m wide (S7.Fr.next m wide s c) l := rfl
  have h2 : (S7.Fr.outs (S7.Fr.out m wide s c)).flatten.length + (S7.Fr.next m wide s c).held.length ≤ s.held.length + 1 := by
   have ho : ∀ b : List UInt8, (S7.Fr.outs b).flatten.length = b.length := fun b => by unfold S7.Fr.outs; split <;> simp_all
   rw [ho]
   by_cases hc : s.ins = true ∧ c.toNat = 126
   ·
    have k1 : (S7.Fr.out m wide s c).length ≤ s.held.length := by
     have := S7.St.ans_len m s.held
     unfold S7.Fr.out
     rw [if_pos hc]
     unfold S7.Fr.bodyOf
     split
     ·
      rw [List.length_take]; omega
     ·
      simp
    have k2 : (S7.Fr.next m wide s c).held = [] := by simp [S7.Fr.next, hc.1, hc.2]
    rw [k2]; simp only [List.length_nil]; omega
   ·
    have k1 : (S7.Fr.out m wide s c) = [] := if_neg hc
    rw [k1]
    unfold S7.Fr.next
    repeat' split
    all_goals simp
  rw [e1, e2, List.flatten_append, List.length_append, List.length_cons]
  omega
/-- What the items so far, and the frames that are begun, have of bytes. -/
def load (c : Cf) (s : Sm) : Nat := tot s.its + (st 0 c.wide s.out).held.length + (st c.accm c.wide s.inn).held.length
theorem load_step (c : Cf) (s : Sm) (n : S10.Dm.Nt) : load c (step c s n) ≤ load c s + n.data.length := by
 have z : ∀ m w, (st m w []).held.length = 0 := fun _ _ => rfl
 by_cases h1 : n.kind = 1
 ·
  have h2 := all_tot 0 c.wide n.data (st 0 c.wide s.out)
  have h3 := tot_its 2 (S7.Fr.all 0 c.wide (st 0 c.wide s.out) n.data)
  rw [step_one c s n h1]
  unfold load
  simp only
  rw [tot_append, st_append]
  omega
 ·
  by_cases h2 : n.kind = 2
  ·
   have h2' := all_tot c.accm c.wide n.data (st c.accm c.wide s.inn)
   have h3 := tot_its 1 (S7.Fr.all c.accm c.wide (st c.accm c.wide s.inn) n.data)
   rw [step_two c s n h2]
   unfold load
   simp only
   rw [tot_append, st_append]
   omega
  ·
   by_cases h3 : n.kind = 3
   ·
    rw [step_three c s n h3]; unfold load; simp only [z]; omega
   ·
    by_cases h4 : n.kind = 4
    ·
     rw [step_four c s n h4]; unfold load; simp only [z]; omega
    ·
     rw [step_else c s n h1 h2 h3 h4]; omega
theorem load_fold (c : Cf) (l : List S10.Dm.Nt) : ∀ s, load c (l.foldl (step c) s) ≤ load c s + S10.Dm.size l := by
 induction l with
 | nil => intro s; simp
 | cons n l ih =>
  intro s
  have h1 := ih (step c s n)
  have h2 := load_step c s n
  rw [List.foldl_cons, S10.Dm.size_cons]
  omega
theorem tot_sm (c : Cf) (l : List S10.Dm.Nt) : tot (sm c l).its ≤ S10.Dm.size l := by
 have h := load_fold c l s0
 have e : load c s0 = 0 := rfl
 unfold sm
 have : tot (l.foldl (step c) s0).its ≤ load c (l.foldl (step c) s0) := by unfold load; omega
 omega
/-- The items of few bytes are few. -/
theorem read_few (b : List UInt8) (f : Int) (c : Cf) : (read b f c).1.length ≤ b.length ∧ tot (read b f c).1 ≤ b.length := by
 unfold read
 split
 ·
  have h1 := S9.Pc.read_count b
  have h2 := recs_le (S9.Pc.read b).1.link c.dir (S9.Pc.read b).2.1
  have h3 := tot_recs (S9.Pc.read b).1.link c.dir (S9.Pc.read b).2.1
  unfold readP
  repeat' split
  ·
   simp only; omega
  ·
   simp [tot]
  ·
   simp [tot]
 ·
  split
  ·
   have h1 := (S10.Dm.read_back b).size
   have h2 := (sm_le c (S10.Dm.read b).1).2.2
   have h3 := tot_sm c (S10.Dm.read b).1
   unfold readD
   split
   ·
    simp only; omega
   ·
    simp [tot]
  ·
   simp [tot]
end Cp
end Go.Proofs.YtbbnkmhlgfoacaaGreatDoor
