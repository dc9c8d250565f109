/- Contract of pass. -/
import Derived.Test.YtjalhlofpoknoaaDoorM3We
namespace Go.Proofs.YtjalhlofpoknoaaDoor.S3
open Go.RowKit

/-- The tables of package md5, as they lie. -/
structure Tabs (w : World) : Prop where
  sine : ∀ i, i < 64 → w.cell? ⟨0, i, none⟩ = some (.int .u32 (Md.sn i : Nat))
  turn : ∀ i, i < 16 → w.cell? ⟨1, i, none⟩ = some (.int .i64 (Md.T.getD i 0 : Nat))
  size : 2 ≤ w.heap.size
theorem Tabs.below {B : Nat} {w w' : World} (h : Tabs w) (hb : Below B w w') (hB : 2 ≤ B) : Tabs w' :=
  ⟨fun i hi => by rw [hb.cell (p := ⟨0, i, none⟩) (by show 0 < B; omega)]; exact h.sine i hi,
   fun i hi => by rw [hb.cell (p := ⟨1, i, none⟩) (by show 1 < B; omega)]; exact h.turn i hi, Nat.le_trans h.size hb.size⟩
theorem Tabs.next {w w' : World} (h : Tabs w) (hb : Below w.heap.size w w') : Tabs w' := h.below hb h.size

namespace Md
theorem sn_lt (i : Nat) (h : i < 64) : sn i < 4294967296 := by
  have : ∀ i, i < 64 → sn i < 4294967296 := by decide
  exact this i h
theorem tn_in (i : Nat) (h : i < 64) : 0 < tn i ∧ tn i < 32 := by
  have : ∀ i, i < 64 → 0 < tn i ∧ tn i < 32 := by decide
  exact this i h
theorem step_fine (x : List Nat) (i : Nat) (s : St) (h : s.fine) : (step x i s).fine := ⟨h.2.2.2, ad_lt _ _, h.2.1, h.2.2.1⟩
theorem steps_fine (x : List Nat) : ∀ (n : Nat) (s : St), s.fine → (steps x n s).fine
  | 0, _, h => h
  | n + 1, s, h => step_fine x n _ (steps_fine x n s h)
theorem pass_fine (s : St) (x : List Nat) : (pass s x).fine := ⟨ad_lt _ _, ad_lt _ _, ad_lt _ _, ad_lt _ _⟩
end Md

/-- The memory of pass, when its parameters are laid. -/
def passW (w : World) (C D : Array Value) : World := ((w.alloc (.cells C 56)).alloc (.cells D 58)).alloc (.cells #[.int .u32 0, .int .u32 0, .int .u32 0, .int .u32 0] 56)
/-- What is laid there. -/
structure PassAt (w : World) (C D : Array Value) (wr : World) : Prop where
  st : wr.heap[w.heap.size]? = some (.cells C 56 (0, 0))
  ws : wr.heap[w.heap.size + 1]? = some (.cells D 58 (0, 0))
  rs : wr.heap[w.heap.size + 1 + 1]? = some (.cells #[.int .u32 0, .int .u32 0, .int .u32 0, .int .u32 0] 56 (0, 0))
  bl : Below w.heap.size w wr
theorem passW_at (w : World) (C D : Array Value) : PassAt w C D (passW w C D) :=
  ⟨heap3_old _ _ _ _, heap3_mid _ _ _ _, heap3_new _ _ _ _, (((Below.refl _ _).alloc (Nat.le_refl _) _).alloc (by simp) _).alloc (by simp; omega) _⟩
theorem PassAt.drewN {w wr : World} {C D : Array Value} (h : PassAt w C D wr) (n : Nat) : PassAt w C D (wr.drewN n) :=
  ⟨h.st, h.ws, h.rs, ⟨h.bl.os, h.bl.tape, h.bl.output, h.bl.size, h.bl.block⟩⟩
theorem PassAt.drew {w wr : World} {C D : Array Value} (h : PassAt w C D wr) : PassAt w C D wr.drew :=
  ⟨h.st, h.ws, h.rs, h.bl.drew⟩
theorem uc_cell {w : World} {g : Nat} {l : List Nat} {ty : TypeId} (h : w.heap[g]? = some (.cells (Md.uc l).toArray ty (0, 0))) (i : Nat) (hi : i < l.length) : w.cell? ⟨g, i, none⟩ = some (.int .u32 (l.getD i 0 : Nat)) := by
  rw [cell_of_row _ _ _ _ _ _ h]
  simp only [List.getElem?_toArray, Md.uc, List.getElem?_map]
  rw [List.getElem?_eq_getElem hi, List.getD_eq_getElem?_getD, List.getElem?_eq_getElem hi]; rfl

set_option maxHeartbeats 2000000 in
theorem pass_any (s : Md.St) (x : List Nat) (w : World) (hf : s.fine) (hx : x.length = 16) (hxl : ∀ i, x.getD i 0 < 4294967296) (ht : Tabs w) :
    Calls Tryd.prog 27 #[.agg (Md.uc s.list).toArray, .agg (Md.uc x).toArray] w fun e w' => e = .returned (.agg (Md.uc (Md.pass s x).list).toArray) ∧ Below w.heap.size w w' := by
  obtain ⟨C, hC⟩ : ∃ C, C = (Md.uc s.list).toArray := ⟨_, rfl⟩
  obtain ⟨D, hD⟩ : ∃ D, D = (Md.uc x).toArray := ⟨_, rfl⟩
  rw [← hC, ← hD]
  have HC := Lib.hid hC
  have HD := Lib.hid hD
  have HT := Lib.hid ht
  have HX := Lib.hid hx
  have HL := Lib.hid hxl
  have HF := Lib.hid hf
  clear hC hD ht hx hxl hf
  go_enter Tryd.func27, Tryd.ntmps27
  go_wp2
  have HP := Lib.hid (passW_at w C D)
  change Code.wp Tryd.prog _ _ _ (passW w C D)
  generalize passW w C D = W0 at HP ⊢
  have hc0 : W0.cell? ⟨w.heap.size, 0, none⟩ = some (.int .u32 (s.a : Int)) := uc_cell (HC.out ▸ HP.out.st) 0 (by simp [Md.St.list])
  have hc1 : W0.cell? ⟨w.heap.size, 1, none⟩ = some (.int .u32 (s.b : Int)) := uc_cell (HC.out ▸ HP.out.st) 1 (by simp [Md.St.list])
  have hc2 : W0.cell? ⟨w.heap.size, 2, none⟩ = some (.int .u32 (s.c : Int)) := uc_cell (HC.out ▸ HP.out.st) 2 (by simp [Md.St.list])
  have hc3 : W0.cell? ⟨w.heap.size, 3, none⟩ = some (.int .u32 (s.d : Int)) := uc_cell (HC.out ▸ HP.out.st) 3 (by simp [Md.St.list])
  go_quiet (fail)
  clear hc0 hc1 hc2 hc3
  go_wp2
  go_loopw [5, 6, 7, 8, 9, 10, 11, 12, 21] (fun a b c d _ _ _ _ i wr => ∃ k : Nat, k ≤ 64 ∧ i = .int .i64 (k : Int) ∧ a = .int .u32 ((Md.steps x k s).a : Int) ∧ b = .int .u32 ((Md.steps x k s).b : Int) ∧ c = .int .u32 ((Md.steps x k s).c : Int) ∧ d = .int .u32 ((Md.steps x k s).d : Int) ∧ PassAt w C D wr) (fun _ _ _ _ _ _ _ _ i _ => 64 - (intOf i).toNat)
  case atStart => exact ⟨0, by omega, rfl, rfl, rfl, rfl, rfl, HP.out.drewN _⟩
  case round =>
    obtain ⟨k, hk, rfl, rfl, rfl, rfl, rfl, hat⟩ := hrel
    by_cases hlt : (k : Int) < 64
    · have hst : Md.steps x (k + 1) s = Md.step x k (Md.steps x k s) := rfl
      have hfn := Md.steps_fine x k s HF.out
      obtain ⟨t, ht⟩ : ∃ t, t = Md.steps x k s := ⟨_, rfl⟩
      rw [← ht] at hst hfn ⊢
      obtain ⟨ta, tb, tc, td⟩ := t
      obtain ⟨fa, fb, fc, fd⟩ := hfn
      have fa : ta < 4294967296 := fa
      have fb : tb < 4294967296 := fb
      have fc : tc < 4294967296 := fc
      have fd : td < 4294967296 := fd
      have T := HT.out.next hat.bl
      have hk16 := Md.K_lt k (by omega)
      have hK : ((Md.K k : Nat) : Int) < 16 := by omega
      have hcx : wr.cell? ⟨w.heap.size + 1, Md.K k, none⟩ = some (.int .u32 (x.getD (Md.K k) 0 : Nat)) := uc_cell (HD.out ▸ hat.ws) _ (by rw [HX.out]; exact hk16)
      have hcs := T.sine k (by omega)
      have hct := T.turn (4 * (k / 16) + k % 4) (by omega)
      obtain ⟨nT, hnT⟩ : ∃ n, n = Md.T.getD (4 * (k / 16) + k % 4) 0 := ⟨_, rfl⟩
      have hnT' : nT = Md.tn k := hnT
      have htn := Md.tn_in k (by omega)
      rw [← hnT'] at htn
      rw [← hnT] at hct
      have hFl := Md.F_lt k tb tc td fb fc fd
      have hsl := Md.sn_lt k (by omega)
      have hxl := HL.out (Md.K k)
      obtain ⟨q, hq⟩ : ∃ q, q = k / 16 := ⟨_, rfl⟩
      obtain ⟨r, hr⟩ : ∃ r, r = k % 4 := ⟨_, rfl⟩
      rw [← hq, ← hr, Nat.mul_comm 4 q] at hct
      have hqi : (k : Int) / 16 = (q : Int) := by omega
      have hri : (k : Int) % 4 = (r : Int) := by omega
      have hq4 : (q : Int) < 4 := by omega
      have hr4 : (r : Int) < 4 := by omega
      have Hst := Lib.hid hst
      have Hat := Lib.hid hat
      have HnT := Lib.hid hnT'
      clear hst hat hnT hnT' hq hr ht T
      obtain ⟨f, hf⟩ : ∃ f, f = Md.F k tb tc td := ⟨_, rfl⟩
      obtain ⟨xk, hxk⟩ : ∃ f, f = x.getD (Md.K k) 0 := ⟨_, rfl⟩
      obtain ⟨sk, hsk⟩ : ∃ f, f = Md.sn k := ⟨_, rfl⟩
      have hmx := mix_any k tb tc td wr (by omega) fb fc fd
      rw [← hf] at hmx hFl
      rw [← hxk] at hcx hxl
      rw [← hsk] at hcs hsl
      have Hf := Lib.hid hf
      have Hxk := Lib.hid hxk
      have Hsk := Lib.hid hsk
      have Hmx := Lib.hid hmx
      clear hf hxk hsk hmx
      go_wp2_with (go_at_call 33; refine Hmx.out.mono ?_; rintro e w' ⟨rfl, rfl⟩)
      obtain ⟨z, hz⟩ : ∃ z, z = Md.ad (Md.ad (Md.ad ta f) xk) sk := ⟨_, rfl⟩
      have hzl : z < 4294967296 := by rw [hz]; exact Md.ad_lt _ _
      have hzi : (((ta : Int) + (f : Int) + (xk : Int)) % 4294967296 + (sk : Int)) % 4294967296 = (z : Int) := by rw [hz]; unfold Md.ad; omega
      have Hz := Lib.hid hz
      have Hzi := Lib.hid hzi
      clear hz hzi
      go_quiet (fail)
      rw [Hzi.out]
      go_wp2_with (go_at_call 34; refine (rotl_any z nT _ hzl htn.1 htn.2).mono ?_; rintro e w2 ⟨rfl, rfl⟩)
      go_roundw
      case rel =>
        have e : Md.steps x (k + 1) s = ⟨td, Md.ad tb (Md.rot z nT), tb, tc⟩ := by
          rw [Hst.out, Hz.out, Hf.out, Hxk.out, Hsk.out, HnT.out]; rfl
        refine ⟨k + 1, by omega, by go_num, by rw [e], ?_, by rw [e], by rw [e], Hat.out.drewN _⟩
        rw [e]
        congr 1
      case measure => simp [intOf]; omega
    · have hk64 : k = 64 := by omega
      subst hk64
      have hfn := Md.steps_fine x 64 s HF.out
      have hps : Md.pass s x = ⟨Md.ad s.a (Md.steps x 64 s).a, Md.ad s.b (Md.steps x 64 s).b, Md.ad s.c (Md.steps x 64 s).c, Md.ad s.d (Md.steps x 64 s).d⟩ := rfl
      obtain ⟨t, ht⟩ : ∃ t, t = Md.steps x 64 s := ⟨_, rfl⟩
      rw [← ht] at hfn hps ⊢
      have Hps := Lib.hid hps
      clear ht hps
      have hc0 : wr.cell? ⟨w.heap.size, 0, none⟩ = some (.int .u32 (s.a : Int)) := uc_cell (HC.out ▸ hat.st) 0 (by simp [Md.St.list])
      have hc1 : wr.cell? ⟨w.heap.size, 1, none⟩ = some (.int .u32 (s.b : Int)) := uc_cell (HC.out ▸ hat.st) 1 (by simp [Md.St.list])
      have hc2 : wr.cell? ⟨w.heap.size, 2, none⟩ = some (.int .u32 (s.c : Int)) := uc_cell (HC.out ▸ hat.st) 2 (by simp [Md.St.list])
      have hc3 : wr.cell? ⟨w.heap.size, 3, none⟩ = some (.int .u32 (s.d : Int)) := uc_cell (HC.out ▸ hat.st) 3 (by simp [Md.St.list])
      have Hat := Lib.hid hat
      clear hat
      obtain ⟨R, hR⟩ : ∃ R : Array Value, R = #[.int .u32 (((s.a : Int) + (t.a : Int)) % 4294967296), .int .u32 (((s.b : Int) + (t.b : Int)) % 4294967296), .int .u32 (((s.c : Int) + (t.c : Int)) % 4294967296), .int .u32 (((s.d : Int) + (t.d : Int)) % 4294967296)] := ⟨_, rfl⟩
      have hsz : (Tryd.prog.info? 56).map (·.size) = some R.size := by rw [hR]; exact info37
      have hR1 : R.all (·.oneCell') = true := by rw [hR]; simp [Value.oneCell']
      have hRs : (#[Value.int .u32 0, .int .u32 0, .int .u32 0, .int .u32 0] : Array Value).size = R.size := by rw [hR]; rfl
      have hRe : R = (Md.uc (Md.pass s x).list).toArray := by rw [hR, Hps.out]; rfl
      have HR := Lib.hid hR
      have Hsz := Lib.hid hsz
      have HR1 := Lib.hid hR1
      have HRs := Lib.hid hRs
      have HRe := Lib.hid hRe
      clear hR hsz hR1 hRs hRe
      go_wp2_with (refine wpList_store_row rfl 56 _ _ rfl (w.heap.size + 1 + 1) R rfl (by rw [HR.out]; rfl) 56 _ Hat.out.rs Hsz.out HRs.out HR1.out ?_)
      refine bodyPost_ret (v := .agg R) ?_ rfl ⟨by rw [HRe.out], ?_⟩
      · exact results_cell_row Tryd.results27 _ _ (w.heap.size + 1 + 1) 56 _ _ _ rfl (setRow_heap _ _ _ _ _ _ Hat.out.rs) Tryd.underlying56 rfl Hsz.out
      · exact below_setRow Hat.out.bl (by omega) _
end Go.Proofs.YtjalhlofpoknoaaDoor.S3
