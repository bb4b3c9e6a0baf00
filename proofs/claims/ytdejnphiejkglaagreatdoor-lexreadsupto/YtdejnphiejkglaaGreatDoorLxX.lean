/- The document's Same of tokens that are the same: walked. -/
import Derived.Test.YtdejnphiejkglaaGreatDoorLxV
import Derived.Test.YtdejnphiejkglaaGreatDoorLxW
namespace Go.Proofs.YtdejnphiejkglaaGreatDoor
open Go.RowKit
/-- tokens in a row -/
def TR (W : World) (v : Value) (ts : List Lx.Tk) : Prop := ∃ a c, v = .slice a ts.length c ∧ (0 < ts.length → ∃ g, a = some ⟨g, 0, none⟩ ∧ g < W.heap.size ∧ ∀ (j : Nat) (u : Value), (Lx.tcs ts)[j]? = some u → W.cell? ⟨g, j, none⟩ = some u)
theorem TR.of {W : World} {B : Nat} {v : Value} {ts : List Lx.Tk} (h : W.ownsRow B 24 4 v ts.length (Lx.tcs ts)) : TR W v ts := by
  obtain ⟨a, c, rfl⟩ := own_slcL h
  refine ⟨a, c, rfl, fun hp => ?_⟩
  obtain ⟨g, cap, e, hg, hc⟩ := own_cellsL hp h
  cases e
  exact ⟨g, rfl, hg, hc⟩
theorem TR.call {W W' : World} {v : Value} {ts : List Lx.Tk} (h : TR W v ts) (hb : Below W.heap.size W W') : TR W' v ts := by
  obtain ⟨a, c, e, h1⟩ := h
  refine ⟨a, c, e, fun hp => ?_⟩
  obtain ⟨g, e2, hg, hc⟩ := h1 hp
  exact ⟨g, e2, Nat.lt_of_lt_of_le hg hb.size, fun j u hu => (hb.cell (p := ⟨g, j, none⟩) hg).trans (hc j u hu)⟩
set_option maxHeartbeats 8000000 in
set_option maxRecDepth 100000 in
theorem sameT_c (ts : List Lx.Tk) (hn : ts.length ≤ 140737488351232) (v1 v2 : Value) (w : World) (h1 : TR w v1 ts) (h2 : TR w v2 ts) : Calls Tryz.prog 9 #[v1, v2] w fun e w' => e = .returned (.bool true) ∧ Below w.heap.size w w' := by
  obtain ⟨a1, c1, rfl, h1⟩ := h1
  obtain ⟨a2, c2, rfl, h2⟩ := h2
  have H1 : Hid (0 < ts.length → ∃ g, a1 = some ⟨g, 0, none⟩ ∧ g < w.heap.size ∧ ∀ (j : Nat) (u : Value), (Lx.tcs ts)[j]? = some u → w.cell? ⟨g, j, none⟩ = some u) := h1
  have H2 : Hid (0 < ts.length → ∃ g, a2 = some ⟨g, 0, none⟩ ∧ g < w.heap.size ∧ ∀ (j : Nat) (u : Value), (Lx.tcs ts)[j]? = some u → w.cell? ⟨g, j, none⟩ = some u) := h2
  obtain ⟨m, hm⟩ : ∃ m, m = ts.length := ⟨_, rfl⟩
  have HM : Hid (m = ts.length) := hm
  rw [← hm] at H1 H2 hn
  rw [← hm]
  clear h1 h2 hm
  have q0 : ((m : Int) == (m : Int)) = true := beq_self_eq_true _
  have q0b : ((m : Int) != (m : Int)) = false := by rw [bne, q0]; rfl
  go_enter Tryz.func9, Tryz.ntmps9
  go_wp2
  go_loopw [13] (fun i wr => ∃ j : Nat, j ≤ m ∧ i = .int .i64 (j : Int) ∧ Below w.heap.size w wr) (fun i _ => m - (intOf i).toNat)
  case atStart => exact ⟨0, Nat.zero_le _, rfl, Below.refl _ _⟩
  case round =>
    obtain ⟨j, hj, rfl, hbr⟩ := hrel
    have HB : Hid (Below w.heap.size w wr) := hbr
    clear hbr
    by_cases hlt : j < m
    · have q1 : (j : Int) < (m : Int) := by omega
      obtain ⟨g1, rfl, hg1, hc1⟩ := H1.out (by omega)
      obtain ⟨g2, rfl, hg2, hc2⟩ := H2.out (by omega)
      obtain ⟨⟨tk, tt, tn, ta⟩, ht⟩ : ∃ t, ts[j]? = some t := ⟨_, List.getElem?_eq_getElem (by rw [← HM.out]; exact hlt)⟩
      obtain ⟨tb, htb⟩ : ∃ tb, tb = Lx.bs tt := ⟨_, rfl⟩
      have HC : Hid (∀ p : BelowOf wr.heap.size wr, ∀ (i : Nat) (u : Value), (Lx.tcs ts)[i]? = some u → p.W.cell? ⟨g1, i, none⟩ = some u ∧ p.W.cell? ⟨g2, i, none⟩ = some u) := fun p i u hu => by
        have hb := HB.out.trans (p.h.mono HB.out.size)
        exact ⟨(hb.cell (p := ⟨g1, i, none⟩) hg1).trans (hc1 i u hu), (hb.cell (p := ⟨g2, i, none⟩) hg2).trans (hc2 i u hu)⟩
      have e0 := Lx.tcs_at ts j _ ht 0 _ rfl
      have e1 := Lx.tcs_at ts j _ ht 1 _ rfl
      have e2 := Lx.tcs_at ts j _ ht 2 _ rfl
      have e3 := Lx.tcs_at ts j _ ht 3 _ rfl
      have d0 : ∀ p : BelowOf wr.heap.size wr, p.W.cell? ⟨g1, j * 4, none⟩ = some (.int .u8 (tk : Int)) := fun p => (HC.out p _ _ e0).1
      have d1 : ∀ p : BelowOf wr.heap.size wr, p.W.cell? ⟨g1, j * 4 + 1, none⟩ = some (.string tb) := fun p => by rw [htb]; exact (HC.out p _ _ e1).1
      have d2 : ∀ p : BelowOf wr.heap.size wr, p.W.cell? ⟨g1, j * 4 + 2, none⟩ = some (.int .i64 tn) := fun p => (HC.out p _ _ e2).1
      have d3 : ∀ p : BelowOf wr.heap.size wr, p.W.cell? ⟨g1, j * 4 + 3, none⟩ = some (.int .i64 (ta : Int)) := fun p => (HC.out p _ _ e3).1
      have f0 : ∀ p : BelowOf wr.heap.size wr, p.W.cell? ⟨g2, j * 4, none⟩ = some (.int .u8 (tk : Int)) := fun p => (HC.out p _ _ e0).2
      have f1 : ∀ p : BelowOf wr.heap.size wr, p.W.cell? ⟨g2, j * 4 + 1, none⟩ = some (.string tb) := fun p => by rw [htb]; exact (HC.out p _ _ e1).2
      have f2 : ∀ p : BelowOf wr.heap.size wr, p.W.cell? ⟨g2, j * 4 + 2, none⟩ = some (.int .i64 tn) := fun p => (HC.out p _ _ e2).2
      have f3 : ∀ p : BelowOf wr.heap.size wr, p.W.cell? ⟨g2, j * 4 + 3, none⟩ = some (.int .i64 (ta : Int)) := fun p => (HC.out p _ _ e3).2
      have hneq : ∀ wx, (binOp .neq 24 (.agg #[.int .u8 (tk : Int), .string tb, .int .i64 tn, .int .i64 (ta : Int)]) (.agg #[.int .u8 (tk : Int), .string tb, .int .i64 tn, .int .i64 (ta : Int)])).run Tryz.prog wx = .ok (.bool false) wx := fun wx => by
        have h := neqTok (tk : Int) (tk : Int) tb tb tn tn (ta : Int) (ta : Int) wx
        rw [beq_self_eq_true, beq_self_eq_true, beq_self_eq_true, beq_self_eq_true] at h
        exact h
      clear ht htb hc1 hc2 hg1 hg2 e0 e1 e2 e3
      go_upto_region 6 with fail
      refine wp_region_below wr.heap.size wr (Below.refl _ _) (by kernel_rfl) (by kernel_rfl) ?_
      repeat (go_big_quiet_step (fail))
      refine wpQuiet_nil ?_
      intro _ hw'
      obtain ⟨pq, hw''⟩ := hw'
      subst hw''
      have HB2 : Hid (Below w.heap.size w pq.W) := HB.out.trans (pq.h.mono HB.out.size)
      clear d0 d1 d2 d3 f0 f1 f2 f3 HC
      go_wp2
      go_roundw
      case rel => first | exact ⟨j + 1, Nat.succ_le_of_lt hlt, by go_num, HB2.out⟩ | ((repeat apply Exists.intro); exact ⟨⟨j + 1, Nat.succ_le_of_lt hlt, by go_num, HB2.out⟩, rfl⟩)
      case measure =>
        simp only [intOf]
        exact Lx.arD hlt
    · have q1 : ¬ (j : Int) < (m : Int) := by omega
      have HF := HB.out
      go_wp2
      go_ret
      exact ⟨rfl, HF⟩
end Go.Proofs.YtdejnphiejkglaaGreatDoor
