/- Plain mathematics of layer 1 (digits), second part: bytes read of their digits. No program stands in it. -/
import Derived.Test.YtiiaahhdlgoklaaDoorPlain
import Derived.Laws.BitsAllLaws
import Derived.Lib.UnsafeStr
namespace Go.Proofs.YtiiaahhdlgoklaaDoor
namespace Dg

/-- Bytes read of their digits. -/
def unhex : List UInt8 → Option (List UInt8)
  | [] => some []
  | [_] => none
  | a :: b :: t => match dv a.toNat, dv b.toNat, unhex t with
    | some x, some y, some r => some ((16 * x + y).toUInt8 :: r)
    | _, _, _ => none

def dvv (c : UInt8) : Nat := (dv c.toNat).getD 0
theorem dvv_lt (c : UInt8) : dvv c < 16 := by
  unfold dvv
  cases h : dv c.toNat with
  | none => simp
  | some d => simpa using dv_lt h

/-- What stands at place j when so many digits have been read. -/
def val (l : List UInt8) (pos j : Nat) : Nat :=
  if 2 * j + 1 < pos then 16 * dvv (l.getD (2 * j) 0) + dvv (l.getD (2 * j + 1) 0) else if 2 * j < pos then dvv (l.getD (2 * j) 0) else 0
def part (l : List UInt8) (pos n : Nat) : List UInt8 := (List.range n).map fun j => (val l pos j).toUInt8

theorem part_length (l : List UInt8) (pos n : Nat) : (part l pos n).length = n := by simp [part]
theorem part_zero (l : List UInt8) (n : Nat) : part l 0 n = List.replicate n 0 := by
  unfold part
  rw [List.eq_replicate_iff]
  refine ⟨by simp, ?_⟩
  intro b hb
  simp [val] at hb
  exact hb.2.symm
theorem val_lt (l : List UInt8) (pos j : Nat) : val l pos j < 256 := by
  have h1 := dvv_lt (l.getD (2 * j) 0)
  have h2 := dvv_lt (l.getD (2 * j + 1) 0)
  unfold val
  split
  · omega
  · split <;> omega
theorem part_at (l : List UInt8) (pos n j : Nat) (h : j < n) : (part l pos n)[j]? = some (val l pos j).toUInt8 := by
  simp [part, h]

/-- One digit more. -/
theorem val_step (l : List UInt8) (pos : Nat) : val l pos (pos / 2) < 16 ∧ val l (pos + 1) (pos / 2) = 16 * val l pos (pos / 2) + dvv (l.getD pos 0) := by
  have h1 := dvv_lt (l.getD (2 * (pos / 2)) 0)
  rcases Nat.mod_two_eq_zero_or_one pos with h | h
  · have e : 2 * (pos / 2) = pos := by omega
    unfold val
    rw [if_neg (by omega), if_neg (by omega), if_neg (by omega), if_pos (by omega), e]
    omega
  · have e : 2 * (pos / 2) + 1 = pos := by omega
    unfold val
    rw [if_neg (by omega), if_pos (by omega), if_pos (by omega)]
    refine ⟨h1, ?_⟩
    rw [e]
theorem val_other (l : List UInt8) (pos j : Nat) (h : j ≠ pos / 2) : val l (pos + 1) j = val l pos j := by
  unfold val
  have e1 : (2 * j + 1 < pos + 1) ↔ (2 * j + 1 < pos) := by omega
  have e2 : (2 * j < pos + 1) ↔ (2 * j < pos) := by omega
  simp only [e1, e2]
theorem part_step (l : List UInt8) (pos n : Nat) (h : pos / 2 < n) : part l (pos + 1) n = (part l pos n).set (pos / 2) (16 * val l pos (pos / 2) + dvv (l.getD pos 0)).toUInt8 := by
  apply List.ext_getElem?
  intro j
  rw [List.getElem?_set]
  by_cases hj : j < n
  · rw [part_at _ _ _ _ hj]
    split
    · rename_i e
      subst e
      rw [if_pos (by rw [part_length]; exact h), (val_step l pos).2]
    · rename_i e
      rw [part_at _ _ _ _ hj, val_other _ _ _ (Ne.symm e)]
  · have e1 : (part l (pos + 1) n)[j]? = none := List.getElem?_eq_none (by rw [part_length]; omega)
    have e2 : (part l pos n)[j]? = none := List.getElem?_eq_none (by rw [part_length]; omega)
    rw [e1, if_neg (by omega), e2]

theorem part_cons (a b : UInt8) (t : List UInt8) (n : Nat) : part (a :: b :: t) (2 * (n + 1)) (n + 1) = (16 * dvv a + dvv b).toUInt8 :: part t (2 * n) n := by
  unfold part
  rw [List.range_succ_eq_map]
  simp only [List.map_cons, List.map_map]
  congr 1
  apply List.map_congr_left
  intro j _
  simp only [Function.comp]
  congr 1
  unfold val
  have e1 : (2 * j + 1 + 1 + 1 < 2 * (n + 1)) ↔ (2 * j + 1 < 2 * n) := by omega
  have e2 : (2 * j + 1 + 1 < 2 * (n + 1)) ↔ (2 * j < 2 * n) := by omega
  simp only [Nat.succ_eq_add_one, show 2 * (j + 1) = 2 * j + 1 + 1 by omega, List.getD_cons_succ, e1, e2]

theorem unhex_all : ∀ (n : Nat) (l : List UInt8), l.length = 2 * n → (∀ c ∈ l, (dv c.toNat).isSome = true) → unhex l = some (part l (2 * n) n)
  | 0, l, h, _ => by
    have : l = [] := List.eq_nil_of_length_eq_zero (by omega)
    subst this; rfl
  | n + 1, l, h, ha => by
    match l, h, ha with
    | [], h, _ => simp at h
    | [_], h, _ => simp at h; omega
    | a :: b :: t, h, ha =>
      have ih := unhex_all n t (by simp at h; omega) (fun c hc => ha c (by simp [hc]))
      rw [part_cons]
      obtain ⟨x, hx⟩ := Option.isSome_iff_exists.1 (ha a (by simp))
      obtain ⟨y, hy⟩ := Option.isSome_iff_exists.1 (ha b (by simp))
      rw [unhex, hx, hy, ih]
      simp [dvv, hx, hy]
theorem unhex_odd : ∀ (n : Nat) (l : List UInt8), l.length = 2 * n + 1 → unhex l = none
  | 0, l, h => by
    match l, h with
    | [_], _ => rfl
    | [], h => simp at h
    | _ :: _ :: _, h => simp at h
  | n + 1, l, h => by
    match l, h with
    | [], h => simp at h
    | [_], h => rfl
    | a :: b :: t, h =>
      have ih := unhex_odd n t (by simp at h; omega)
      rw [unhex, ih]
      cases dv a.toNat <;> cases dv b.toNat <;> rfl
theorem unhex_bad : ∀ (l : List UInt8) (c : UInt8), c ∈ l → dv c.toNat = none → unhex l = none
  | [], c, h, _ => by simp at h
  | [_], _, _, _ => rfl
  | a :: b :: t, c, h, hc => by
    rw [unhex]
    simp at h
    rcases h with rfl | rfl | h
    · rw [hc]
    · rw [hc]; cases dv a.toNat <;> rfl
    · rw [unhex_bad t c h hc]
      cases dv a.toNat <;> cases dv b.toNat <;> rfl

theorem mem_at (s : ByteArray) (k : Nat) (h : k < s.size) : (s[k]'h) ∈ s.data.toList := by
  have e := drop_at s k h
  exact List.mem_of_mem_drop (i := k) (by rw [e]; simp)
theorem dvv_at (s : ByteArray) (k : Nat) (h : k < s.size) (d : Nat) (hd : dv (s[k]'h).toNat = some d) : dvv (s.data.toList.getD k 0) = d := by
  have e : s.data.toList[k]? = some (s[k]'h) := by
    have := drop_at s k h
    have h2 : (s.data.toList.drop k)[0]? = some (s[k]'h) := by rw [this]; rfl
    simpa using h2
  rw [List.getD_eq_getElem?_getD, e]
  simp [dvv, hd]
theorem cells_at (l : List UInt8) (pos n j : Nat) (h : j < n) : (Lib.byteCells (part l pos n))[j]? = some (.int .u8 (val l pos j : Int)) := by
  have hv := val_lt l pos j
  simp [Lib.byteCells, part_at l pos n j h]
  omega
theorem cells_set (D : List UInt8) (i x d : Nat) (hx : x < 16) (hd : d < 16) : Lib.byteCells (D.set i (16 * x + d).toUInt8) = (Lib.byteCells D).set i (.int .u8 (16 * (x : Int) + (d : Int))) := by
  unfold Lib.byteCells
  rw [List.map_set]
  congr 2
  simp
  omega
theorem all_step (s : ByteArray) (k : Nat) (h : k < s.size) (d : Nat) (hd : dv (s[k]'h).toNat = some d) (ha : ∀ c ∈ s.data.toList.take k, (dv c.toNat).isSome = true) : ∀ c ∈ s.data.toList.take (k + 1), (dv c.toNat).isSome = true := by
  intro c hc
  rw [List.take_succ_eq_append_getElem (by simpa using h), List.mem_append] at hc
  rcases hc with hc | hc
  · exact ha c hc
  · simp only [List.mem_singleton] at hc
    subst hc
    exact Option.isSome_iff_exists.2 ⟨d, hd⟩
theorem or_nibble' (x d : Nat) (hx : x < 16) (hd : d < 16) : bits .or .u8 ((x : Int) * 16) (d : Int) = ((16 * x + d : Nat) : Int) := by
  have e : (x : Int) * 16 = ((16 * x : Nat) : Int) := by omega
  rw [e, u8_or_nat _ _ (by omega) (by omega), nat_join 4 (16 * x) d (by omega) (by omega)]
theorem or_nibble (x d : Nat) (hx : x < 16) (hd : d < 16) : bits .or .u8 (IntKind.u8.wrap ((x : Int) * 16)) (d : Int) = ((16 * x + d : Nat) : Int) := by
  have e : IntKind.u8.wrap ((x : Int) * 16) = ((16 * x : Nat) : Int) := by rw [IntKind.wrap_u8']; omega
  rw [e, u8_or_nat _ _ (by omega) (by omega), nat_join 4 (16 * x) d (by omega) (by omega)]

end Dg
end Go.Proofs.YtiiaahhdlgoklaaDoor
