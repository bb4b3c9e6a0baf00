/- BinSizes, walked. -/
import Derived.Test.YtbogggnnmbjlfabDoorBinQ
namespace Go.Proofs.YtbogggnnmbjlfabDoor
open Go.RowKit
open Vl (V)
set_option maxHeartbeats 8000000 in
set_option maxRecDepth 10000 in
theorem sizes5 (t : V) (w : World) (hT : Bn.HasU w) (v : Value) (hR : Rep w w.heap.size t v) :
    Calls Tryd.prog 5 #[v] w fun e w' => e = .returned (.bool true) ∧ Below w.heap.size w w' := by
  obtain ⟨xk, xb, xn, xs, xa, xl, xc, va, vl, vc, hv⟩ := repA_form (rep_repA t v hR)
  subst hv
  obtain ⟨B, hB⟩ : ∃ B, B = w.heap.size := ⟨_, rfl⟩
  obtain ⟨w1, hw1⟩ : ∃ w1, w1 = w.alloc (.cells #[.int .u8 (xk : Int), .bool xb, .int .i64 xn, .string xs, .slice xa xl xc, .slice va vl vc] 26) := ⟨_, rfl⟩
  have O1 : Hid (OB w w1 B t (.int .u8 (xk : Int)) (.bool xb) (.int .i64 xn) (.string xs) (.slice xa xl xc) (.slice va vl vc)) := by
    show OB _ _ _ _ _ _ _ _ _ _
    rw [hw1, hB]; exact OB.start w t _ _ _ _ _ _ hR
  have C6 : Hid (∀ W, Below w.heap.size w W → Calls Tryd.prog 6 #[] W fun e w' => e = .returned (.bool true) ∧ Below W.heap.size W w') := fun W hW => lives22 W (hT.stays hW)
  obtain ⟨we, hwe⟩ : ∃ we, we = Bn.werr t := ⟨_, rfl⟩
  obtain ⟨wt, hwt⟩ : ∃ wt, wt = Bn.wtext t := ⟨_, rfl⟩
  obtain ⟨c, hc⟩ : ∃ c, c = Vl.check Bn.u8 0 t := ⟨_, rfl⟩
  have C7 : Hid (∀ W, OB w W B t (.int .u8 (xk : Int)) (.bool xb) (.int .i64 xn) (.string xs) (.slice xa xl xc) (.slice va vl vc) → Calls Tryd.prog 7 #[.agg #[.int .u8 (xk : Int), .bool xb, .int .i64 xn, .string xs, .slice xa xl xc, .slice va vl vc]] W fun e w' => e = .returned (.tuple #[.string wt, .int .i64 (we : Int)]) ∧ Below W.heap.size W w') := fun W hW => by
    rw [hwe, hwt]
    exact write18 t W (hT.stays hW.below) w.heap.size _ hW.below.size hW.rep
  have C8 : Hid (∀ W, OB w W B t (.int .u8 (xk : Int)) (.bool xb) (.int .i64 xn) (.string xs) (.slice xa xl xc) (.slice va vl vc) → Calls Tryd.prog 8 #[.agg #[.int .u8 (xk : Int), .bool xb, .int .i64 xn, .string xs, .slice xa xl xc, .slice va vl vc]] W fun e w' => e = .returned (.int .i64 (c : Int)) ∧ Below W.heap.size W w') := fun W hW => by
    rw [hc]
    exact check27 t W (hT.stays hW.below) w.heap.size _ hW.below.size hW.rep
  have C10 : Hid (∀ W, OB w W B t (.int .u8 (xk : Int)) (.bool xb) (.int .i64 xn) (.string xs) (.slice xa xl xc) (.slice va vl vc) → Calls Tryd.prog 10 #[.agg #[.int .u8 (xk : Int), .bool xb, .int .i64 xn, .string xs, .slice xa xl xc, .slice va vl vc]] W fun e w' => e = .returned (.int .i64 (wrap64 (Vl.count t : Int))) ∧ Below W.heap.size W w') := fun W hW =>
    count13 _ t (Nat.le_refl _) W w.heap.size _ hW.below.size hW.rep
  have HIS : Hid (we = 0 → Bn.Is wt t) := fun h => by rw [hwt]; exact Bn.is_wrote (Bn.rep_rng t _ hR) (by rw [← hwe]; exact h)
  have HER : Hid (we ≠ 0 → wt = ⟨#[]⟩ ∧ (c = we ∨ c = 0 ∧ we = 4)) := fun h => by
    rw [hwe] at h ⊢
    rw [hwt, hc]
    by_cases h0 : Vl.check Bn.u8 0 t = 0
    · have hl : 16384 < (Bn.bytes t).length := Decidable.byContradiction fun hn => h (Bn.werr_ok h0 hn).1
      exact ⟨(Bn.werr_long h0 hl).2, Or.inr ⟨h0, (Bn.werr_long h0 hl).1⟩⟩
    · exact ⟨(Bn.werr_why h0).2, Or.inl (Bn.werr_why h0).1.symm⟩
  clear hR hT hwe hwt hc
  go_enter Tryd.func5, Tryd.ntmps5
  go_upto_region 1 with fail
  rw [← hB, ← hw1]
  clear hB hw1
  obtain ⟨p0, p1, p2, p3, p4, p5⟩ := O1.out.row.cells
  go_upto_region 4 with (first
    | (go_at_call 6; refine (C6.out _ O1.out.below).mono ?_; rintro e w2 ⟨rfl, hb2⟩
       have O2 : Hid (OB w w2 B t (.int .u8 (xk : Int)) (.bool xb) (.int .i64 xn) (.string xs) (.slice xa xl xc) (.slice va vl vc)) := O1.out.call hb2
       obtain ⟨p0, p1, p2, p3, p4, p5⟩ := O2.out.row.cells
       clear hb2)
    | (go_at_call 7; refine (C7.out _ O2.out).mono ?_; rintro e w3 ⟨rfl, hb3⟩
       have O3 : Hid (OB w w3 B t (.int .u8 (xk : Int)) (.bool xb) (.int .i64 xn) (.string xs) (.slice xa xl xc) (.slice va vl vc)) := O2.out.call hb3
       clear hb3))
  clear p0 p1 p2 p3 p4 p5 O1 O2
  obtain ⟨p0, p1, p2, p3, p4, p5⟩ := O3.out.row.cells
  by_cases h0 : we = 0
  · have I := HIS.out h0
    obtain ⟨n, hn⟩ : ∃ n, n = Vl.count t := ⟨_, rfl⟩
    obtain ⟨k, hk⟩ : ∃ k, k = wt.size := ⟨_, rfl⟩
    have hk1 : k ≤ 16384 := by rw [hk]; exact I.1
    have hnk : n ≤ k := by rw [hn, hk, Lib.size_eq, I.2.2.1]; exact Bn.count_bytes t I.2.1
    have D10 : Hid (∀ W, OB w W B t (.int .u8 (xk : Int)) (.bool xb) (.int .i64 xn) (.string xs) (.slice xa xl xc) (.slice va vl vc) → Calls Tryd.prog 10 #[.agg #[.int .u8 (xk : Int), .bool xb, .int .i64 xn, .string xs, .slice xa xl xc, .slice va vl vc]] W fun e w' => e = .returned (.int .i64 (n : Int)) ∧ Below W.heap.size W w') := fun W hW => by
      have h := C10.out W hW
      have hw : wrap64 (n : Int) = (n : Int) := by unfold wrap64; omega
      rw [← hn, hw] at h
      exact h
    have e1 : (wt.size : Int) = (k : Int) := by omega
    have e2 : (n : Int) ≤ (k : Int) := by omega
    have e3 : (k : Int) ≤ 16384 := by omega
    subst h0
    clear I hn hk C10 HIS HER hk1 hnk
    go_wp2_with (first
      | (go_at_call 10; refine (D10.out _ O3.out).mono ?_; rintro e w4 ⟨rfl, hb4⟩
         have B4 : Hid (Below w.heap.size w w4) := O3.out.below.trans (hb4.mono O3.out.below.size)
         clear hb4))
    go_ret
    exact ⟨rfl, B4.out⟩
  · obtain ⟨rfl, hcw⟩ := HER.out h0
    have hwi : ¬ (we : Int) = 0 := by omega
    clear HIS HER C10 h0
    rcases hcw with rfl | ⟨rfl, rfl⟩
    · go_wp2_with (first
        | (go_at_call 8; refine (C8.out _ O3.out).mono ?_; rintro e w4 ⟨rfl, hb4⟩
           have B4 : Hid (Below w.heap.size w w4) := O3.out.below.trans (hb4.mono O3.out.below.size)
           clear hb4))
      go_ret
      exact ⟨rfl, B4.out⟩
    · go_wp2_with (first
        | (go_at_call 8; refine (C8.out _ O3.out).mono ?_; rintro e w4 ⟨rfl, hb4⟩
           have B4 : Hid (Below w.heap.size w w4) := O3.out.below.trans (hb4.mono O3.out.below.size)
           clear hb4))
      go_ret
      exact ⟨rfl, B4.out⟩
end Go.Proofs.YtbogggnnmbjlfabDoor
