/- Contract of the document's Put. -/
import Derived.Test.YtacnlancncmpmaaTm
namespace Go.Proofs.Ytacnlancncmpmaa
open Go.RowKit Go.Maps S2 S12

/-- What stands in memory while the list is made. -/
structure Pq (w W : World) (t : Ad.T) (l : Value) (A : List Ot.O) : Prop where
  lop : Lopts False W w (w.heap.size + 1) l A
  tm : TmAt W w.heap.size t
  bel : Below w.heap.size w W
  size : w.heap.size + 1 ≤ W.heap.size
theorem Pq.next {w W W' : World} {t : Ad.T} {l : Value} {A : List Ot.O} (h : Pq w W t l A) (b : Below W.heap.size W W') : Pq w W' t l A :=
  ⟨h.lop.next b, h.tm.next b, Below.chain h.bel b, Nat.le_trans h.size b.size⟩
theorem Pq.grown {w W W' : World} {t : Ad.T} {l v : Value} {A A' : List Ot.O} (h : Pq w W t l A) (L : Lopts False W' w (w.heap.size + 1) v A') (g : W.grownBy W' l.ownBlock) : Pq w W' t v A' :=
  ⟨L, h.tm.kept' g (fun e => by have := h.lop.lt _ e.symm; omega), Below.grown h.bel g (by have := h.size; omega) (fun j hj => by have := h.lop.lt j hj; omega), Nat.le_trans h.size g.size⟩

set_option maxRecDepth 100000 in
set_option maxHeartbeats 4000000 in
theorem refPut_any (P : Int) (t : Ad.T) (w : World) :
    Calls Try.prog 20 #[.int .i64 P, .agg (acells t).toArray] w fun e w' => ∃ v, e = .returned v ∧ Opts w' w.heap.size v (Ad.opts t) ∧ Below w.heap.size w w' := by
  have P0 : Hid (Pq w (w.alloc (.cells (acells t).toArray 35)) t (.slice none 0 0) []) := ⟨lopts_none _ _ _ _, heap_alloc_new w _, below_one w _, by simp⟩
  obtain ⟨bi, hbi⟩ : ∃ b, t.hasId = b := ⟨_, rfl⟩
  obtain ⟨bv, hbv⟩ : ∃ b, t.hasVj = b := ⟨_, rfl⟩
  obtain ⟨bj, hbj⟩ : ∃ b, t.vjId = b := ⟨_, rfl⟩
  obtain ⟨bp, hbp⟩ : ∃ b, t.hasIp = b := ⟨_, rfl⟩
  have k28 : (w.alloc (.cells (acells t).toArray 35)).cell? ⟨w.heap.size, 28, none⟩ = some (.bool bi) := by rw [P0.out.tm.cell 28, ← hbi]; rfl
  have HF : Hid (Ad.opts t = [] ++ Ad.pick bi ⟨1, t.id.list⟩ ++ Ad.pick bv ⟨2, (vj4 (Ad.low t.slots) bj).list⟩ ++ Ad.pick bp ⟨3, t.ip.list⟩ ++ Ad.dnsTo t 4) := by
    show _ = _
    rw [← hbi, ← hbv, ← hbj, ← hbp]
    simp only [Ad.opts, Ad.dnsTo, vjD_list, List.append_assoc, List.nil_append]
    rfl
  have hlow := Ad.low_nat t.slots
  have HV := Lib.hid hbv
  have HJ := Lib.hid hbj
  have HP := Lib.hid hbp
  generalize Ad.opts t = AO at *
  generalize Ad.low t.slots = sl at *
  have HW8 : Hid (IntKind.u8.wrap t.slots = (sl.toNat : Int)) := by show _ = _; rw [IntKind.wrap_u8, hlow]
  have HW9 := Lib.hid hlow.symm
  clear hbi hbv hbj hbp hlow
  go_enter Try.func20, Try.ntmps20
  go_upto_if 11 with fail
  generalize w.alloc (.cells (acells t).toArray 35) = w0 at *
  clear k28
  obtain ⟨A1, hA1⟩ : ∃ l, [] ++ Ad.pick bi ⟨1, t.id.list⟩ = l := ⟨_, rfl⟩
  rw [hA1] at HF
  have hl1 : A1.length ≤ 1 := by rw [← hA1, List.nil_append]; exact Ad.pick_le _ _
  go_cut [5, 6, 7] from 8 (fun l _ _ wx => Hid (Pq w wx t l A1))
  case first =>
    cases bi with
    | false =>
      rw [show Ad.pick false _ = [] from rfl, List.append_nil] at hA1
      subst hA1
      go_wp2
      go_meet
      case rel => exact P0
    | true =>
      rw [show Ad.pick true _ = [_] from rfl, List.nil_append] at hA1
      subst hA1
      have O0 : Hid (Own w0 w0 none 0 0 []) := own_nil w0
      go_wp2_with fail
      go_loopw [6, 7] (fun d i wr => ∃ (k : Nat) (p : Option Addr) (c : Nat), i = .int .i64 (k : Int) ∧ k ≤ 8 ∧ d = .slice p k c ∧ Hid (Own w0 wr p k c (t.id.list.take k))) (fun _ i _ => 8 - (intOf i).toNat)
      case atStart => exact ⟨0, none, 0, rfl, by omega, rfl, O0⟩
      case round =>
        obtain ⟨k, p, c, rfl, hk, rfl, HO⟩ := hrel
        by_cases hlt : (k : Int) < 8
        · have hk8 : k < t.id.list.length := by show k < 8; omega
          have q0 := (P0.out.tm.next HO.out.bel).range 29 (Lib.byteCells t.id.list) rfl k (.int .u8 (t.id.list[k].toNat : Int)) (by simp [Lib.byteCells, hk8])
          have ht : t.id.list.take (k + 1) = t.id.list.take k ++ [t.id.list[k]] := List.take_succ_eq_append_getElem hk8
          have HT := Lib.hid ht
          generalize t.id.list[k] = y at *
          have HO2 := Lib.hid (HO.out.next (below_one wr (.cells #[.int .u8 (y.toNat : Int)] 5)))
          have HR := Lib.hid (one_built wr y (y.toNat : Int) rfl)
          generalize t.id.list.take k = X at *
          clear ht hk8
          go_wp2_with (at_builtin; refine wpList_append_mine rfl (.tmp 16) (.tmp 21) rfl p k c (k + 1) X rfl HO2.out (some ⟨wr.heap.size, 0, none⟩) 1 1 [y] rfl rfl HR.out rfl (by omega) ?_; intro p8 c8 w8 O8)
          go_roundw
          case rel => exact ⟨k + 1, p8, c8, by simp, by omega, rfl, by rw [HT.out]; exact O8⟩
          case measure => simp [intOf]; omega
        · obtain rfl : k = 8 := by omega
          have PX := P0.out.next HO.out.bel
          have OX : wr.ownsRow (w.heap.size + 1) 5 1 (.slice p 8 c) 8 (Lib.byteCells t.id.list) := ownsRow_lower HO.out.own P0.out.size
          clear HO O0
          have G2 : Hid ((wr.alloc (.cells #[.int .i64 1, .slice p 8 c] 24)).heap[wr.heap.size]? = some (.cells (ocells ⟨1, t.id.list⟩ (.slice p 8 c)).toArray 24 (0, 0))) := heap_alloc_new _ _
          have b2 := below_one wr (.cells #[.int .i64 1, .slice p 8 c] 24)
          have P2 := Lib.hid (PX.next b2)
          have D2 : Hid (DataIs False (wr.alloc (.cells #[.int .i64 1, .slice p 8 c] 24)) w (w.heap.size + 1) (.slice p 8 c) t.id.list) := .inl (ownsRow_next OX b2)
          have s2 := P2.out.size
          clear OX b2 PX
          go_wp2_with (at_builtin; refine wpList_append_lopts rfl (.tmp 23) (.tmp 26) rfl (w.heap.size + 1) _ ([] : List Ot.O) ⟨1, t.id.list⟩ (.slice p 8 c) (wr.heap.size) rfl rfl P2.out.lop D2.out G2.out s2 (by first | assumption | omega | simp) ?_; intro v8 w8 L8 g8 x8)
          have P8 := Lib.hid (P2.out.grown L8 g8)
          clear x8 L8 g8
          go_meet
          case rel => exact P8
  case rest =>
    obtain ⟨w1, hw⟩ : ∃ x, x = wc := ⟨_, rfl⟩
    rw [← hw] at hcut ⊢
    have P1 := hcut
    clear hw hcut P0
    have k5 : w1.cell? ⟨w.heap.size, 5, none⟩ = some (.bool bv) := by rw [P1.out.tm.cell 5, ← HV.out]; rfl
    go_upto_if 29 with fail
    clear k5 HV
    obtain ⟨A2, hA2⟩ : ∃ l, A1 ++ Ad.pick bv ⟨2, (vj4 sl bj).list⟩ = l := ⟨_, rfl⟩
    rw [hA2] at HF
    have hl2 : A2.length ≤ 2 := by rw [← hA2, List.length_append]; have := Ad.pick_le bv ⟨2, (vj4 sl bj).list⟩; omega
    go_cut [5] from 8 (fun l wx => Hid (Pq w wx t l A2))
    case first =>
      cases bv with
      | false =>
        rw [show Ad.pick false _ = [] from rfl, List.append_nil] at hA2
        subst hA2
        go_wp2
        go_meet
        case rel => exact P1
      | true =>
        rw [show Ad.pick true _ = [_] from rfl] at hA2
        subst hA2
        have k6 : w1.cell? ⟨w.heap.size, 6, none⟩ = some (.int .i64 t.slots) := P1.out.tm.cell 6
        have hw8 := HW8.out
        have hw9 := HW9.out
        have b1 := below_one w1 (.cells #[.int .u8 0, .int .u8 45, .int .u8 (sl.toNat : Int), .int .u8 0] 5)
        have k7 : (w1.alloc (.cells #[.int .u8 0, .int .u8 45, .int .u8 (sl.toNat : Int), .int .u8 0] 5)).cell? ⟨w.heap.size, 7, none⟩ = some (.bool bj) := by rw [(P1.out.tm.next b1).cell 7, ← HJ.out]; rfl
        clear b1
        cases bj with
        | true =>
          have OX := row_built (w := w1.alloc (.cells #[.int .u8 0, .int .u8 45, .int .u8 (sl.toNat : Int), .int .u8 1] 5)) (B := w.heap.size + 1) (g := w1.heap.size) (n := 4) (vj4 sl true).list rfl (heap_alloc_new w1 _) P1.out.size (by decide)
          have PX := P1.out.next (below_one w1 (.cells #[.int .u8 0, .int .u8 45, .int .u8 (sl.toNat : Int), .int .u8 1] 5))
          have G2 : Hid (((w1.alloc (.cells #[.int .u8 0, .int .u8 45, .int .u8 (sl.toNat : Int), .int .u8 1] 5)).alloc (.cells #[.int .i64 2, .slice (some ⟨w1.heap.size, 0, none⟩) 4 4] 24)).heap[w1.heap.size + 1]? = some (.cells (ocells ⟨2, (vj4 sl true).list⟩ (.slice (some ⟨w1.heap.size, 0, none⟩) 4 4)).toArray 24 (0, 0))) := heap_alloc2_new _ _ _
          have b2 := below_one (w1.alloc (.cells #[.int .u8 0, .int .u8 45, .int .u8 (sl.toNat : Int), .int .u8 1] 5)) (.cells #[.int .i64 2, .slice (some ⟨w1.heap.size, 0, none⟩) 4 4] 24)
          have P2 := Lib.hid (PX.next b2)
          have D2 : Hid (DataIs False ((w1.alloc (.cells #[.int .u8 0, .int .u8 45, .int .u8 (sl.toNat : Int), .int .u8 1] 5)).alloc (.cells #[.int .i64 2, .slice (some ⟨w1.heap.size, 0, none⟩) 4 4] 24)) w (w.heap.size + 1) (.slice (some ⟨w1.heap.size, 0, none⟩) 4 4) (vj4 sl true).list) := .inl (ownsRow_next OX b2)
          have s2 := P2.out.size
          clear OX b2 PX
          go_wp2_with (at_builtin; refine wpList_append_lopts rfl (.tmp 38) (.tmp 41) rfl (w.heap.size + 1) _ A1 ⟨2, (vj4 sl true).list⟩ (.slice (some ⟨w1.heap.size, 0, none⟩) 4 4) (w1.heap.size + 1) rfl rfl P2.out.lop D2.out G2.out s2 (by first | assumption | omega | simp) ?_; intro v8 w8 L8 g8 x8)
          have P8 := Lib.hid (P2.out.grown L8 g8)
          clear x8 L8 g8
          go_meet
          case rel => exact P8
        | false =>
          have OX := row_built (w := w1.alloc (.cells #[.int .u8 0, .int .u8 45, .int .u8 (sl.toNat : Int), .int .u8 0] 5)) (B := w.heap.size + 1) (g := w1.heap.size) (n := 4) (vj4 sl false).list rfl (heap_alloc_new w1 _) P1.out.size (by decide)
          have PX := P1.out.next (below_one w1 (.cells #[.int .u8 0, .int .u8 45, .int .u8 (sl.toNat : Int), .int .u8 0] 5))
          have G2 : Hid (((w1.alloc (.cells #[.int .u8 0, .int .u8 45, .int .u8 (sl.toNat : Int), .int .u8 0] 5)).alloc (.cells #[.int .i64 2, .slice (some ⟨w1.heap.size, 0, none⟩) 4 4] 24)).heap[w1.heap.size + 1]? = some (.cells (ocells ⟨2, (vj4 sl false).list⟩ (.slice (some ⟨w1.heap.size, 0, none⟩) 4 4)).toArray 24 (0, 0))) := heap_alloc2_new _ _ _
          have b2 := below_one (w1.alloc (.cells #[.int .u8 0, .int .u8 45, .int .u8 (sl.toNat : Int), .int .u8 0] 5)) (.cells #[.int .i64 2, .slice (some ⟨w1.heap.size, 0, none⟩) 4 4] 24)
          have P2 := Lib.hid (PX.next b2)
          have D2 : Hid (DataIs False ((w1.alloc (.cells #[.int .u8 0, .int .u8 45, .int .u8 (sl.toNat : Int), .int .u8 0] 5)).alloc (.cells #[.int .i64 2, .slice (some ⟨w1.heap.size, 0, none⟩) 4 4] 24)) w (w.heap.size + 1) (.slice (some ⟨w1.heap.size, 0, none⟩) 4 4) (vj4 sl false).list) := .inl (ownsRow_next OX b2)
          have s2 := P2.out.size
          clear OX b2 PX
          go_wp2_with (at_builtin; refine wpList_append_lopts rfl (.tmp 38) (.tmp 41) rfl (w.heap.size + 1) _ A1 ⟨2, (vj4 sl false).list⟩ (.slice (some ⟨w1.heap.size, 0, none⟩) 4 4) (w1.heap.size + 1) rfl rfl P2.out.lop D2.out G2.out s2 (by first | assumption | omega | simp) ?_; intro v8 w8 L8 g8 x8)
          have P8 := Lib.hid (P2.out.grown L8 g8)
          clear x8 L8 g8
          go_meet
          case rel => exact P8
    case rest =>
      obtain ⟨w2, hw⟩ : ∃ x, x = wc := ⟨_, rfl⟩
      rw [← hw] at hcut ⊢
      have P2 := hcut
      clear hw hcut P1
      have k0 : w2.cell? ⟨w.heap.size, 0, none⟩ = some (.bool bp) := by rw [P2.out.tm.cell 0, ← HP.out]; rfl
      go_upto_if 44 with fail
      clear k0 HP
      obtain ⟨A3, hA3⟩ : ∃ l, A2 ++ Ad.pick bp ⟨3, t.ip.list⟩ = l := ⟨_, rfl⟩
      rw [hA3] at HF
      have hl3 : A3.length ≤ 3 := by rw [← hA3, List.length_append]; have := Ad.pick_le bp ⟨3, t.ip.list⟩; omega
      go_cut [5] from 8 (fun l wx => Hid (Pq w wx t l A3))
      case first =>
        cases bp with
        | false =>
          rw [show Ad.pick false _ = [] from rfl, List.append_nil] at hA3
          subst hA3
          go_wp2
          go_meet
          case rel => exact P2
        | true =>
          rw [show Ad.pick true _ = [_] from rfl] at hA3
          subst hA3
          have RG := Lib.hid (P2.out.tm.range 1 (cells4 t.ip) rfl)
          go_wp2_with (refine wpList_load_mid rfl 30 (.tmp 46) rfl w.heap.size 1 rfl (cells4 t.ip) _ RG.out Try.underlying30 rfl info4 ?_)
          refine (four_any t.ip w2).mono ?_
          rintro e x1 ⟨v, rfl, o1, b1⟩
          obtain ⟨p, c, rfl⟩ := own_slice o1
          have OX := ownsRow_lower o1 P2.out.size
          have PX := P2.out.next b1
          clear o1 b1 P2 RG
          have G2 : Hid ((x1.alloc (.cells #[.int .i64 3, .slice p 4 c] 24)).heap[x1.heap.size]? = some (.cells (ocells ⟨3, t.ip.list⟩ (.slice p 4 c)).toArray 24 (0, 0))) := heap_alloc_new _ _
          have b2 := below_one x1 (.cells #[.int .i64 3, .slice p 4 c] 24)
          have P2 := Lib.hid (PX.next b2)
          have D2 : Hid (DataIs False (x1.alloc (.cells #[.int .i64 3, .slice p 4 c] 24)) w (w.heap.size + 1) (.slice p 4 c) t.ip.list) := .inl (ownsRow_next OX b2)
          have s2 := P2.out.size
          clear OX b2 PX
          go_wp2_with (at_builtin; refine wpList_append_lopts rfl (.tmp 45) (.tmp 50) rfl (w.heap.size + 1) _ A2 ⟨3, t.ip.list⟩ (.slice p 4 c) (x1.heap.size) rfl rfl P2.out.lop D2.out G2.out s2 (by first | assumption | omega | simp) ?_; intro v8 w8 L8 g8 x8)
          have P8 := Lib.hid (P2.out.grown L8 g8)
          clear x8 L8 g8
          go_meet
          case rel => exact P8
      case rest =>
        obtain ⟨w3, hw⟩ : ∃ x, x = wc := ⟨_, rfl⟩
        rw [← hw] at hcut ⊢
        have e0 : A3 ++ Ad.dnsTo t 0 = A3 := by simp [Ad.dnsTo]
        have P3 := hcut
        rw [← e0] at P3
        clear hw hcut P2 e0
        go_wp2_with fail
        go_loopw [5, 9] (fun l i wr => ∃ k : Nat, i = .int .i64 (k : Int) ∧ k ≤ 4 ∧ Hid (Pq w wr t l (A3 ++ Ad.dnsTo t k))) (fun _ i _ => 4 - (intOf i).toNat)
        case atStart => exact ⟨0, rfl, by omega, P3⟩
        case round =>
          obtain ⟨k, rfl, hk, HQ⟩ := hrel
          clear P3
          by_cases hlt : (k : Int) < 4
          · have hk4 : k = 0 ∨ k = 1 ∨ k = 2 ∨ k = 3 := by omega
            clear hlt hk
            rcases hk4 with rfl | rfl | rfl | rfl
            · skip
              cases eb : t.d0 with
              | true =>
                have hkk : wr.cell? ⟨w.heap.size, 8, none⟩ = some (.bool true) := by rw [HQ.out.tm.cell 8, ← eb]; rfl
                have HD : Hid (A3 ++ Ad.dnsTo t 0 ++ [⟨129, t.n0.list⟩] = A3 ++ Ad.dnsTo t 1) := by
                  have := Ad.dns_1 t A3
                  rw [eb] at this
                  exact this
                have RG := Lib.hid (HQ.out.tm.range 12 (cells4 t.n0) rfl)
                have hl : (A3 ++ Ad.dnsTo t 0).length ≤ 1000000 := by rw [List.length_append]; have := Ad.dns_le t 0; omega
                clear eb
                go_wp2_with (refine wpList_load_mid rfl 30 (.tmp 65) rfl w.heap.size 12 rfl (cells4 t.n0) _ RG.out Try.underlying30 rfl info4 ?_)
                refine (four_any t.n0 wr).mono ?_
                rintro e x1 ⟨v, rfl, o1, b1⟩
                obtain ⟨p, c, rfl⟩ := own_slice o1
                have OX := ownsRow_lower o1 HQ.out.size
                have PX := HQ.out.next b1
                clear o1 b1 HQ hkk RG
                have G2 : Hid ((x1.alloc (.cells #[.int .i64 129, .slice p 4 c] 24)).heap[x1.heap.size]? = some (.cells (ocells ⟨129, t.n0.list⟩ (.slice p 4 c)).toArray 24 (0, 0))) := heap_alloc_new _ _
                have b2 := below_one x1 (.cells #[.int .i64 129, .slice p 4 c] 24)
                have P2 := Lib.hid (PX.next b2)
                have D2 : Hid (DataIs False (x1.alloc (.cells #[.int .i64 129, .slice p 4 c] 24)) w (w.heap.size + 1) (.slice p 4 c) t.n0.list) := .inl (ownsRow_next OX b2)
                have s2 := P2.out.size
                clear OX b2 PX
                go_wp2_with (at_builtin; refine wpList_append_lopts rfl (.tmp 60) (.tmp 69) rfl (w.heap.size + 1) _ (A3 ++ Ad.dnsTo t 0) ⟨129, t.n0.list⟩ (.slice p 4 c) (x1.heap.size) rfl rfl P2.out.lop D2.out G2.out s2 (by first | assumption | omega | simp) ?_; intro v8 w8 L8 g8 x8)
                have P8 := Lib.hid (P2.out.grown L8 g8)
                clear x8 L8 g8
                go_roundw
                case rel => exact ⟨1, rfl, by omega, by rw [HD.out] at P8; exact P8.out⟩
                case measure => simp [intOf]
              | false =>
                have hkk : wr.cell? ⟨w.heap.size, 8, none⟩ = some (.bool false) := by rw [HQ.out.tm.cell 8, ← eb]; rfl
                have HD : Hid (A3 ++ Ad.dnsTo t 0 = A3 ++ Ad.dnsTo t 1) := by
                  have := Ad.dns_1 t A3
                  rw [eb, show Ad.pick false _ = [] from rfl, List.append_nil] at this
                  exact this
                clear eb
                go_wp2
                go_roundw
                case rel => exact ⟨1, rfl, by omega, by rw [HD.out] at HQ; exact HQ.out⟩
                case measure => simp [intOf]
            · skip
              cases eb : t.d1 with
              | true =>
                have hkk : wr.cell? ⟨w.heap.size, 9, none⟩ = some (.bool true) := by rw [HQ.out.tm.cell 9, ← eb]; rfl
                have HD : Hid (A3 ++ Ad.dnsTo t 1 ++ [⟨130, t.n1.list⟩] = A3 ++ Ad.dnsTo t 2) := by
                  have := Ad.dns_2 t A3
                  rw [eb] at this
                  exact this
                have RG := Lib.hid (HQ.out.tm.range 16 (cells4 t.n1) rfl)
                have hl : (A3 ++ Ad.dnsTo t 1).length ≤ 1000000 := by rw [List.length_append]; have := Ad.dns_le t 1; omega
                clear eb
                go_wp2_with (refine wpList_load_mid rfl 30 (.tmp 65) rfl w.heap.size 16 rfl (cells4 t.n1) _ RG.out Try.underlying30 rfl info4 ?_)
                refine (four_any t.n1 wr).mono ?_
                rintro e x1 ⟨v, rfl, o1, b1⟩
                obtain ⟨p, c, rfl⟩ := own_slice o1
                have OX := ownsRow_lower o1 HQ.out.size
                have PX := HQ.out.next b1
                clear o1 b1 HQ hkk RG
                have G2 : Hid ((x1.alloc (.cells #[.int .i64 130, .slice p 4 c] 24)).heap[x1.heap.size]? = some (.cells (ocells ⟨130, t.n1.list⟩ (.slice p 4 c)).toArray 24 (0, 0))) := heap_alloc_new _ _
                have b2 := below_one x1 (.cells #[.int .i64 130, .slice p 4 c] 24)
                have P2 := Lib.hid (PX.next b2)
                have D2 : Hid (DataIs False (x1.alloc (.cells #[.int .i64 130, .slice p 4 c] 24)) w (w.heap.size + 1) (.slice p 4 c) t.n1.list) := .inl (ownsRow_next OX b2)
                have s2 := P2.out.size
                clear OX b2 PX
                go_wp2_with (at_builtin; refine wpList_append_lopts rfl (.tmp 60) (.tmp 69) rfl (w.heap.size + 1) _ (A3 ++ Ad.dnsTo t 1) ⟨130, t.n1.list⟩ (.slice p 4 c) (x1.heap.size) rfl rfl P2.out.lop D2.out G2.out s2 (by first | assumption | omega | simp) ?_; intro v8 w8 L8 g8 x8)
                have P8 := Lib.hid (P2.out.grown L8 g8)
                clear x8 L8 g8
                go_roundw
                case rel => exact ⟨2, rfl, by omega, by rw [HD.out] at P8; exact P8.out⟩
                case measure => simp [intOf]
              | false =>
                have hkk : wr.cell? ⟨w.heap.size, 9, none⟩ = some (.bool false) := by rw [HQ.out.tm.cell 9, ← eb]; rfl
                have HD : Hid (A3 ++ Ad.dnsTo t 1 = A3 ++ Ad.dnsTo t 2) := by
                  have := Ad.dns_2 t A3
                  rw [eb, show Ad.pick false _ = [] from rfl, List.append_nil] at this
                  exact this
                clear eb
                go_wp2
                go_roundw
                case rel => exact ⟨2, rfl, by omega, by rw [HD.out] at HQ; exact HQ.out⟩
                case measure => simp [intOf]
            · skip
              cases eb : t.d2 with
              | true =>
                have hkk : wr.cell? ⟨w.heap.size, 10, none⟩ = some (.bool true) := by rw [HQ.out.tm.cell 10, ← eb]; rfl
                have HD : Hid (A3 ++ Ad.dnsTo t 2 ++ [⟨131, t.n2.list⟩] = A3 ++ Ad.dnsTo t 3) := by
                  have := Ad.dns_3 t A3
                  rw [eb] at this
                  exact this
                have RG := Lib.hid (HQ.out.tm.range 20 (cells4 t.n2) rfl)
                have hl : (A3 ++ Ad.dnsTo t 2).length ≤ 1000000 := by rw [List.length_append]; have := Ad.dns_le t 2; omega
                clear eb
                go_wp2_with (refine wpList_load_mid rfl 30 (.tmp 65) rfl w.heap.size 20 rfl (cells4 t.n2) _ RG.out Try.underlying30 rfl info4 ?_)
                refine (four_any t.n2 wr).mono ?_
                rintro e x1 ⟨v, rfl, o1, b1⟩
                obtain ⟨p, c, rfl⟩ := own_slice o1
                have OX := ownsRow_lower o1 HQ.out.size
                have PX := HQ.out.next b1
                clear o1 b1 HQ hkk RG
                have G2 : Hid ((x1.alloc (.cells #[.int .i64 131, .slice p 4 c] 24)).heap[x1.heap.size]? = some (.cells (ocells ⟨131, t.n2.list⟩ (.slice p 4 c)).toArray 24 (0, 0))) := heap_alloc_new _ _
                have b2 := below_one x1 (.cells #[.int .i64 131, .slice p 4 c] 24)
                have P2 := Lib.hid (PX.next b2)
                have D2 : Hid (DataIs False (x1.alloc (.cells #[.int .i64 131, .slice p 4 c] 24)) w (w.heap.size + 1) (.slice p 4 c) t.n2.list) := .inl (ownsRow_next OX b2)
                have s2 := P2.out.size
                clear OX b2 PX
                go_wp2_with (at_builtin; refine wpList_append_lopts rfl (.tmp 60) (.tmp 69) rfl (w.heap.size + 1) _ (A3 ++ Ad.dnsTo t 2) ⟨131, t.n2.list⟩ (.slice p 4 c) (x1.heap.size) rfl rfl P2.out.lop D2.out G2.out s2 (by first | assumption | omega | simp) ?_; intro v8 w8 L8 g8 x8)
                have P8 := Lib.hid (P2.out.grown L8 g8)
                clear x8 L8 g8
                go_roundw
                case rel => exact ⟨3, rfl, by omega, by rw [HD.out] at P8; exact P8.out⟩
                case measure => simp [intOf]
              | false =>
                have hkk : wr.cell? ⟨w.heap.size, 10, none⟩ = some (.bool false) := by rw [HQ.out.tm.cell 10, ← eb]; rfl
                have HD : Hid (A3 ++ Ad.dnsTo t 2 = A3 ++ Ad.dnsTo t 3) := by
                  have := Ad.dns_3 t A3
                  rw [eb, show Ad.pick false _ = [] from rfl, List.append_nil] at this
                  exact this
                clear eb
                go_wp2
                go_roundw
                case rel => exact ⟨3, rfl, by omega, by rw [HD.out] at HQ; exact HQ.out⟩
                case measure => simp [intOf]
            · skip
              cases eb : t.d3 with
              | true =>
                have hkk : wr.cell? ⟨w.heap.size, 11, none⟩ = some (.bool true) := by rw [HQ.out.tm.cell 11, ← eb]; rfl
                have HD : Hid (A3 ++ Ad.dnsTo t 3 ++ [⟨132, t.n3.list⟩] = A3 ++ Ad.dnsTo t 4) := by
                  have := Ad.dns_4 t A3
                  rw [eb] at this
                  exact this
                have RG := Lib.hid (HQ.out.tm.range 24 (cells4 t.n3) rfl)
                have hl : (A3 ++ Ad.dnsTo t 3).length ≤ 1000000 := by rw [List.length_append]; have := Ad.dns_le t 3; omega
                clear eb
                go_wp2_with (refine wpList_load_mid rfl 30 (.tmp 65) rfl w.heap.size 24 rfl (cells4 t.n3) _ RG.out Try.underlying30 rfl info4 ?_)
                refine (four_any t.n3 wr).mono ?_
                rintro e x1 ⟨v, rfl, o1, b1⟩
                obtain ⟨p, c, rfl⟩ := own_slice o1
                have OX := ownsRow_lower o1 HQ.out.size
                have PX := HQ.out.next b1
                clear o1 b1 HQ hkk RG
                have G2 : Hid ((x1.alloc (.cells #[.int .i64 132, .slice p 4 c] 24)).heap[x1.heap.size]? = some (.cells (ocells ⟨132, t.n3.list⟩ (.slice p 4 c)).toArray 24 (0, 0))) := heap_alloc_new _ _
                have b2 := below_one x1 (.cells #[.int .i64 132, .slice p 4 c] 24)
                have P2 := Lib.hid (PX.next b2)
                have D2 : Hid (DataIs False (x1.alloc (.cells #[.int .i64 132, .slice p 4 c] 24)) w (w.heap.size + 1) (.slice p 4 c) t.n3.list) := .inl (ownsRow_next OX b2)
                have s2 := P2.out.size
                clear OX b2 PX
                go_wp2_with (at_builtin; refine wpList_append_lopts rfl (.tmp 60) (.tmp 69) rfl (w.heap.size + 1) _ (A3 ++ Ad.dnsTo t 3) ⟨132, t.n3.list⟩ (.slice p 4 c) (x1.heap.size) rfl rfl P2.out.lop D2.out G2.out s2 (by first | assumption | omega | simp) ?_; intro v8 w8 L8 g8 x8)
                have P8 := Lib.hid (P2.out.grown L8 g8)
                clear x8 L8 g8
                go_roundw
                case rel => exact ⟨4, rfl, by omega, by rw [HD.out] at P8; exact P8.out⟩
                case measure => simp [intOf]
              | false =>
                have hkk : wr.cell? ⟨w.heap.size, 11, none⟩ = some (.bool false) := by rw [HQ.out.tm.cell 11, ← eb]; rfl
                have HD : Hid (A3 ++ Ad.dnsTo t 3 = A3 ++ Ad.dnsTo t 4) := by
                  have := Ad.dns_4 t A3
                  rw [eb, show Ad.pick false _ = [] from rfl, List.append_nil] at this
                  exact this
                clear eb
                go_wp2
                go_roundw
                case rel => exact ⟨4, rfl, by omega, by rw [HD.out] at HQ; exact HQ.out⟩
                case measure => simp [intOf]
          · obtain rfl : k = 4 := by omega
            rw [← HF.out] at HQ
            have LL := Lib.hid (HQ.out.lop.opts.lower (Nat.le_succ _))
            have BB := Lib.hid HQ.out.bel
            clear HQ
            go_wp2
            go_ret
            exact ⟨_, rfl, LL.out, BB.out⟩
end Go.Proofs.Ytacnlancncmpmaa
