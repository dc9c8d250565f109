/- Plain mathematics of layer 1 (digits), fourth part: digits and numbers belong to each other. No program stands in it. -/
import Derived.Test.YtiiaahhdlgoklaaDoorPlainb
namespace Go.Proofs.YtiiaahhdlgoklaaDoor
namespace Dg

theorem dv_sg_fin : ∀ d : Fin 16, dv (sg d.val).toNat = some d.val := by decide +kernel
theorem dv_sg (d : Nat) (h : d < 16) : dv (sg d).toNat = some d := dv_sg_fin ⟨d, h⟩
theorem sg_dv (c : UInt8) (d : Nat) (h : dv c.toNat = some d) : sg d = c := by
  have hd := dv_lt h
  apply UInt8.toNat_inj.1
  have h2 := dv_sg d hd
  unfold dv at h h2
  split at h
  · simp at h
    split at h2
    · simp at h2; omega
    · split at h2
      · simp at h2; omega
      · simp at h2
  · split at h
    · simp at h
      split at h2
      · simp at h2; omega
      · split at h2
        · simp at h2; omega
        · simp at h2
    · simp at h
theorem sg_zero (d : Nat) (h : d < 16) (h0 : sg d = 48) : d = 0 := by
  have h1 := dv_sg d h
  rw [h0] at h1
  have h2 : dv (48 : UInt8).toNat = some 0 := by decide
  rw [h2] at h1
  simpa using h1.symm

/-- Is it a digit of the base? -/
def okb (b : Nat) (c : UInt8) : Bool := match dv c.toNat with | some d => decide (d < b) | none => false
/-- The number that is read on, wrapped round. -/
def fm (b : Nat) : Nat → List UInt8 → Nat
  | m, [] => m
  | m, c :: t => fm b ((m * b + dvv c) % 18446744073709551616) t

theorem rd_bad : ∀ (b : Nat) (l : List UInt8) (m : Nat) (c : UInt8), c ∈ l → okb b c = false → rd b m l = none
  | _, [], _, _, h, _ => by simp at h
  | b, x :: t, m, c, h, hc => by
    simp only [List.mem_cons] at h
    cases hv : dv x.toNat with
    | none => exact rd_none b m x t hv
    | some d =>
      rw [rd_cons b m x t d hv]
      split
      · rename_i hd
        rcases h with rfl | h
        · simp [okb, hv] at hc; omega
        · exact rd_bad b t _ c h hc
      · rfl
theorem rdN_bad (b : Nat) (l : List UInt8) (c : UInt8) (h : c ∈ l) (hc : okb b c = false) : rdN b l = none := by
  match l, h with
  | x :: t, h =>
    rw [rdN_cons]
    split
    · rfl
    · exact rd_bad b (x :: t) 0 c h hc
theorem rd_fm : ∀ (b : Nat) (l : List UInt8) (m v : Nat), 0 < b → rd b m l = some v → fm b m l = v
  | _, [], m, v, _, h => by simpa [rd, fm] using h
  | b, c :: t, m, v, hb, h => by
    cases hv : dv c.toNat with
    | none => rw [rd_none b m c t hv] at h; cases h
    | some d =>
      rw [rd_cons b m c t d hv] at h
      split at h
      · rename_i hd
        have hf := fits_nat m d b (by have := dv_lt hv; omega) hb hd.2
        have ih := rd_fm b t _ v hb h
        rw [fm, show dvv c = d by simp [dvv, hv], Nat.mod_eq_of_lt (by omega)]
        exact ih
      · cases h
theorem rdN_fm (b : Nat) (l : List UInt8) (v : Nat) (hb : 0 < b) (h : rdN b l = some v) : fm b 0 l = v := by
  match l, h with
  | [], h => simp [rdN] at h
  | x :: t, h =>
    rw [rdN_cons] at h
    split at h
    · cases h
    · exact rd_fm b (x :: t) 0 v hb h

/-- What is read on behind a number's digits. -/
theorem rd_putB (b n : Nat) (t : List UInt8) (hb : 2 ≤ b) (hb2 : b ≤ 16) (hn : n < 18446744073709551616) : rd b 0 (putB b n ++ t) = rd b n t := by
  induction n using Nat.strongRecOn generalizing t with
  | _ n ih =>
    by_cases h : b ≤ n
    · have hlt : n / b < n := Nat.div_lt_self (by omega) (by omega)
      have hmod : n % b < b := Nat.mod_lt _ (by omega)
      have hdm := Nat.div_add_mod n b
      rw [putB_big b n hb h, List.append_assoc, ih (n / b) hlt _ (by omega)]
      rw [List.singleton_append, rd_on b (n / b) _ t (n % b) (dv_sg _ (by omega)) hmod]
      · rw [Nat.mul_comm, hdm]
      · rw [Nat.le_div_iff_mul_le (by omega), Nat.mul_comm]
        omega
    · rw [putB_small b n (by omega), List.singleton_append, rd_on b 0 _ t n (dv_sg _ (by omega)) (by omega) (Nat.zero_le _)]
      simp
theorem putB_head (b n : Nat) (hb : 2 ≤ b) (hb2 : b ≤ 16) (hn : 0 < n) : ∃ d t, putB b n = sg d :: t ∧ 0 < d ∧ d < b := by
  induction n using Nat.strongRecOn with
  | _ n ih =>
    by_cases h : b ≤ n
    · have hlt : n / b < n := Nat.div_lt_self (by omega) (by omega)
      have hpos : 0 < n / b := Nat.div_pos h (by omega)
      obtain ⟨d, t, e, h1, h2⟩ := ih (n / b) hlt hpos
      exact ⟨d, t ++ [sg (n % b)], by rw [putB_big b n hb h, e]; rfl, h1, h2⟩
    · exact ⟨n, [], putB_small b n (by omega), hn, by omega⟩
/-- A number is read of its digits as it was. -/
theorem rdN_putB (b n : Nat) (hb : 2 ≤ b) (hb2 : b ≤ 16) (hn : n < 18446744073709551616) : rdN b (putB b n) = some n := by
  have h := rd_putB b n [] hb hb2 hn
  rw [List.append_nil, rd] at h
  rcases Nat.eq_zero_or_pos n with rfl | hpos
  · rw [putB_small b 0 (by omega)] at h ⊢
    rw [rdN_cons, if_neg (by simp)]
    exact h
  · obtain ⟨d, t, e, h1, h2⟩ := putB_head b n hb hb2 hpos
    rw [e] at h ⊢
    rw [rdN_cons, if_neg]
    · exact h
    · rintro ⟨h3, _⟩
      have := sg_zero d (by omega) h3
      omega
theorem putB_step (b m d : Nat) (hb : 2 ≤ b) (hm : 0 < m) (hd : d < b) : putB b (m * b + d) = putB b m ++ [sg d] := by
  have h1 : b ≤ m * b + d := by
    have : 1 * b ≤ m * b := Nat.mul_le_mul_right _ hm
    omega
  rw [putB_big b _ hb h1]
  have e1 : (m * b + d) / b = m := by
    rw [Nat.mul_comm, Nat.mul_add_div (by omega), Nat.div_eq_of_lt hd, Nat.add_zero]
  have e2 : (m * b + d) % b = d := by
    rw [Nat.mul_comm, Nat.mul_add_mod, Nat.mod_eq_of_lt hd]
  rw [e1, e2]
theorem putB_rd : ∀ (b : Nat) (l : List UInt8) (m v : Nat), 2 ≤ b → 0 < m → rd b m l = some v → putB b v = putB b m ++ l
  | _, [], m, v, _, _, h => by simp [rd] at h; subst h; simp
  | b, c :: t, m, v, hb, hm, h => by
    cases hv : dv c.toNat with
    | none => rw [rd_none b m c t hv] at h; cases h
    | some d =>
      rw [rd_cons b m c t d hv] at h
      split at h
      · rename_i hd
        have hpos : 0 < m * b + d := by
          have : 1 * b ≤ m * b := Nat.mul_le_mul_right _ hm
          omega
        rw [putB_rd b t _ v hb hpos h, putB_step b m d hb hm hd.1, sg_dv c d hv]
        simp
      · cases h
/-- What is read has just these digits. -/
theorem putB_rdN (b : Nat) (l : List UInt8) (v : Nat) (hb : 2 ≤ b) (h : rdN b l = some v) : putB b v = l := by
  match l, h with
  | [], h => simp [rdN] at h
  | c :: t, h =>
    rw [rdN_cons] at h
    split at h
    · cases h
    · rename_i hz
      cases hv : dv c.toNat with
      | none => rw [rd_none b 0 c t hv] at h; cases h
      | some d =>
        rw [rd_cons b 0 c t d hv] at h
        split at h
        · rename_i hd
          rw [Nat.zero_mul, Nat.zero_add] at h
          rcases Nat.eq_zero_or_pos d with rfl | hpos
          · have hc : c = 48 := by rw [← sg_dv c 0 hv]; decide
            have ht : t = [] := by
              rcases t with _ | ⟨x, t⟩
              · rfl
              · exact absurd ⟨hc, by simp⟩ hz
            subst ht
            simp [rd] at h
            subst h
            rw [putB_small b 0 (by omega), sg_dv c 0 hv]
          · rw [putB_rd b t d v hb hpos h, putB_small b d hd.1, sg_dv c d hv]
            rfl
        · cases h
theorem putB_len10 : ∀ (k b n : Nat), 10 ≤ b → 1 ≤ k → n < 10 ^ k → (putB b n).length ≤ k
  | 0, _, _, _, h, _ => by omega
  | k + 1, b, n, hb, _, hn => by
    by_cases h : b ≤ n
    · rw [putB_big b n (by omega) h, List.length_append]
      have hlt : n / b < 10 ^ k := by
        rw [Nat.div_lt_iff_lt_mul (by omega)]
        have h1 : 10 ^ k * 10 ≤ 10 ^ k * b := Nat.mul_le_mul_left _ hb
        rw [Nat.pow_succ] at hn
        omega
      have hk : 1 ≤ k := by
        rcases Nat.eq_zero_or_pos k with rfl | h2
        · simp at hn; omega
        · exact h2
      have ih := putB_len10 k b (n / b) hb hk hlt
      simp
      omega
    · rw [putB_small b n (by omega)]; simp
theorem putB_len20 (b n : Nat) (hb : 10 ≤ b) (hn : n < 18446744073709551616) : (putB b n).length ≤ 20 := putB_len10 20 b n hb (by omega) (by omega)
theorem putB_mono (b m n : Nat) (hb : 2 ≤ b) (h : m ≤ n) : (putB b m).length ≤ (putB b n).length := by
  induction n using Nat.strongRecOn generalizing m with
  | _ n ih =>
    by_cases h1 : b ≤ m
    · have h2 : b ≤ n := by omega
      rw [putB_big b m hb h1, putB_big b n hb h2, List.length_append, List.length_append]
      have := ih (n / b) (Nat.div_lt_self (by omega) (by omega)) (m / b) (Nat.div_le_div_right h)
      simp
      omega
    · rw [putB_small b m (by omega)]
      by_cases h2 : b ≤ n
      · rw [putB_big b n hb h2]; simp
      · rw [putB_small b n (by omega)]; simp
theorem putB_inj (b m n : Nat) (hb : 2 ≤ b) (hb2 : b ≤ 16) (hm : m < 18446744073709551616) (hn : n < 18446744073709551616) (h : putB b m = putB b n) : m = n := by
  have h1 := rdN_putB b m hb hb2 hm
  rw [h, rdN_putB b n hb hb2 hn] at h1
  simpa using h1.symm

theorem unhex_hexs (xs : List UInt8) : unhex (hexs xs) = some xs := by
  induction xs with
  | nil => rfl
  | cons c t ih =>
    have hc := c.toNat_lt
    have e : hexs (c :: t) = sg (c.toNat / 16) :: sg (c.toNat % 16) :: hexs t := rfl
    rw [e, unhex, dv_sg _ (by omega), dv_sg _ (by omega), ih]
    have e2 : (16 * (c.toNat / 16) + c.toNat % 16).toUInt8 = c := by
      apply UInt8.toNat_inj.1
      simp
      omega
    simp [e2]
theorem hexs_unhex : ∀ (l ys : List UInt8), unhex l = some ys → hexs ys = l
  | [], ys, h => by simp [unhex] at h; subst h; rfl
  | [_], _, h => by simp [unhex] at h
  | a :: b :: t, ys, h => by
    rw [unhex] at h
    cases ha : dv a.toNat with
    | none => rw [ha] at h; simp at h
    | some x =>
      cases hb : dv b.toNat with
      | none => rw [ha, hb] at h; simp at h
      | some y =>
        cases ht : unhex t with
        | none => rw [ha, hb, ht] at h; simp at h
        | some r =>
          rw [ha, hb, ht] at h
          simp at h
          subst h
          have hx := dv_lt ha
          have hy := dv_lt hb
          have ih := hexs_unhex t r ht
          have e : hexs ((16 * x + y).toUInt8 :: r) = sg ((16 * x + y).toUInt8.toNat / 16) :: sg ((16 * x + y).toUInt8.toNat % 16) :: hexs r := rfl
          have e2 : (16 * x + y).toUInt8.toNat = 16 * x + y := by simp; omega
          rw [show (16 : UInt8) * UInt8.ofNat x + UInt8.ofNat y = (16 * x + y).toUInt8 by simp] 
          rw [e, e2, show (16 * x + y) / 16 = x by omega, show (16 * x + y) % 16 = y by omega, sg_dv a x ha, sg_dv b y hb, ih]

end Dg
end Go.Proofs.YtiiaahhdlgoklaaDoor
