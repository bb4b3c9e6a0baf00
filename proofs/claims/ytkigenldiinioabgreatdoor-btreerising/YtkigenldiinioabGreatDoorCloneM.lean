/- clone, walked: whatever a value is, its clone is the value in memory of its own. -/
import Derived.Test.YtkigenldiinioabGreatDoorCloneWM
namespace Go.Proofs.YtkigenldiinioabGreatDoor
open Go.RowKit
open Vl (V)
/-- the six cells of no value -/
def Z6 (w : World) (g : Nat) : Prop := Row6 w g (.int .u8 0) (.bool false) (.int .i64 0) (.string ⟨#[]⟩) (.slice none 0 0) (.slice none 0 0)
theorem Z6.call {w w' : World} {g : Nat} (h : Z6 w g) (hb : Below w.heap.size w w') : Z6 w' g := Row6.call h hb
theorem Z6.other {w : World} {g : Nat} (h : Z6 w g) (p o : Nat) (v : Value) (hg : g ≠ p) : Z6 (w.setCell ⟨p, o, none⟩ v) g := Row6.other h hg
theorem putAll6 (a0 a1 a2 a3 a4 a5 b0 b1 b2 b3 b4 b5 : Value) : putAll #[a0, a1, a2, a3, a4, a5] 0 [b0, b1, b2, b3, b4, b5] = #[b0, b1, b2, b3, b4, b5] := by
  simp [putAll]
theorem Z6.put {w : World} {g : Nat} (h : Z6 w g) (b0 b1 b2 b3 b4 b5 : Value) : (w.setCells g 0 [b0, b1, b2, b3, b4, b5]).heap[g]? = some (.cells #[b0, b1, b2, b3, b4, b5] 27 (0, 0)) := by
  rw [heap_setCells_put g 27 [b0, b1, b2, b3, b4, b5] 0 w _ h.2, putAll6]
theorem sets6 (W : World) (B : Nat) (v0 v1 v2 v3 v4 v5 : Value) : ((((((W.setCell ⟨B, 0, none⟩ v0).setCell ⟨B, 1, none⟩ v1).setCell ⟨B, 2, none⟩ v2).setCell ⟨B, 3, none⟩ v3).setCell ⟨B, 4, none⟩ v4).setCell ⟨B, 5, none⟩ v5) = W.setCells B 0 [v0, v1, v2, v3, v4, v5] := rfl
set_option maxHeartbeats 8000000 in
set_option maxRecDepth 100000 in
theorem clone34 : ∀ (N : Nat) (t : V), Vl.count t ≤ N → Vl.small t → ∀ (w : World) (H : Nat) (v : Value), H ≤ w.heap.size → Rep w H t v →
    Calls Tryz.prog 66 #[v] w fun e w' => ∃ v' M, e = .returned v' ∧ Below w.heap.size w w' ∧ Cloned w' w.heap.size M t v' := by
  intro N
  induction N with
  | zero => intro t ht; obtain ⟨k, b, n, s, l, f⟩ := t; rw [Vl.count] at ht; omega
  | succ N ih =>
    rintro ⟨k, b, n, s, l, f⟩ ht hsm w H v hH hR
    rw [Rep] at hR
    obtain ⟨ao, lc, fo, fc, rfl, h2, h3, h4, h5, h6, h7, h8⟩ := hR
    have hsm' := hsm
    rw [Vl.small] at hsm'
    obtain ⟨s1, s2, s3, s4, s5⟩ := hsm'
    have E : ∀ x : V, Vl.count x ≤ N → Vl.small x → ∀ (W : World) (va : Value), H ≤ W.heap.size → Rep W H x va → Calls Tryz.prog 66 #[va] W fun e w' => ∃ v', e = .returned v' ∧ Below W.heap.size W w' ∧ RepA w' (fun g => W.heap.size ≤ g ∧ g < w'.heap.size) x v' := fun x hx hxs W va hW hr => by
      refine (ih x hx hxs W H va hW hr).mono ?_
      rintro e w' ⟨v', M, rfl, hb, hc⟩
      exact ⟨v', rfl, hb, hc.rep hxs⟩
    have C51 : Hid (∀ W, Below w.heap.size w W → Calls Tryz.prog 89 #[.slice ao l.length lc, .func (.func 66) #[] #[]] W fun e w' => ∃ ao' lc', e = .returned (.slice ao' l.length lc') ∧ Below W.heap.size W w' ∧ LiesLA w' (fun g => W.heap.size ≤ g ∧ g < w'.heap.size) ao' lc' l) := fun W hW =>
      list51 l s2 ao lc W H (by have := hW.size; omega) (LiesL.stays ⟨h5, h7⟩ (hW.mono hH) (Nat.le_refl _))
        (fun x hx => E x (by have := Vl.count_memL (k := k) (b := b) (n := n) (s := s) (f := f) hx; omega) (Vl.smallL_mem l x s4 hx))
    have C52 : Hid (∀ W, Below w.heap.size w W → Calls Tryz.prog 90 #[.slice fo f.length fc, .func (.func 91) #[] #[]] W fun e w' => ∃ ao' lc', e = .returned (.slice ao' f.length lc') ∧ Below W.heap.size W w' ∧ LiesFA w' W.heap.size ao' lc' f) := fun W hW =>
      list52 f s5 s3 fo fc W H (by have := hW.size; omega) (LiesF.stays ⟨h6, h8⟩ (hW.mono hH) (Nat.le_refl _))
        (fun x hx => E x.2 (by have := Vl.count_memF (k := k) (b := b) (n := n) (s := s) (l := l) hx; omega) (Vl.smallF_mem f x s5 hx).2)
    have HK : Hid (k < 256 ∧ (-9223372036854775808 ≤ n ∧ n < 9223372036854775808) ∧ s.size ≤ maxLen) := ⟨h2, h3, h4⟩
    obtain ⟨ll, hll⟩ : ∃ n, n = l.length := ⟨_, rfl⟩
    obtain ⟨fl, hfl⟩ : ∃ n, n = f.length := ⟨_, rfl⟩
    have HLL : Hid (ll = l.length) := hll
    have HFL : Hid (fl = f.length) := hfl
    rw [← hll] at C51 ⊢
    rw [← hfl] at C52 ⊢
    clear ih ht hsm E h2 h3 h4 h5 h6 h7 h8 s2 s3 s4 s5 hll hfl
    go_enter Tryz.func66, Tryz.ntmps66
    go_wp2_with fail
    obtain ⟨w1, hw1⟩ : ∃ w1, w1 = (w.alloc (.cells #[.int .u8 (k : Int), .bool b, .int .i64 n, .string s, .slice ao ll lc, .slice fo fl fc] 27)).alloc (.cells #[.int .u8 0, .bool false, .int .i64 0, .string ⟨#[]⟩, .slice none 0 0, .slice none 0 0] 27) := ⟨_, rfl⟩
    have HB1 : Hid (Below w.heap.size w w1) := by rw [hw1]; exact below_new2 _ _ _
    have R1 : Hid (Row6 w1 w.heap.size (.int .u8 (k : Int)) (.bool b) (.int .i64 n) (.string s) (.slice ao ll lc) (.slice fo fl fc)) := by
      show Row6 _ _ _ _ _ _ _ _
      rw [hw1]; exact ⟨by simp; omega, (Below.heap_alloc _ _ _ (by simp)).trans (heap_alloc_new w _)⟩
    have S1 : Hid (Z6 w1 (w.heap.size + 1)) := by
      show Z6 _ _
      rw [hw1]; exact ⟨by simp, by have := heap_alloc_new (w.alloc (.cells #[.int .u8 (k : Int), .bool b, .int .i64 n, .string s, .slice ao ll lc, .slice fo fl fc] 27)) (.cells #[.int .u8 0, .bool false, .int .i64 0, .string ⟨#[]⟩, .slice none 0 0, .slice none 0 0] 27); simpa using this⟩
    rw [← hw1]
    clear hw1
    refine (text50 s _ s1).mono ?_
    rintro e w2 ⟨rfl, hb2⟩
    have HB2 : Hid (Below w.heap.size w w2) := HB1.out.trans (hb2.mono HB1.out.size)
    have R2 := R1.out.call hb2
    have S2 : Hid (Z6 w2 (w.heap.size + 1)) := S1.out.call hb2
    obtain ⟨p0, p1, p2, p3, p4, p5⟩ := R2.cells
    have fz := R2.free
    have hlt2 := R2.1
    have R3 : Hid (Row6 (w2.setCell ⟨w.heap.size, 3, none⟩ (.string s)) w.heap.size (.int .u8 (k : Int)) (.bool b) (.int .i64 n) (.string s) (.slice ao ll lc) (.slice fo fl fc)) := R2.set3
    have S3 : Hid (Z6 (w2.setCell ⟨w.heap.size, 3, none⟩ (.string s)) (w.heap.size + 1)) := S2.out.other _ _ _ (by omega)
    have HB3 : Hid (Below w.heap.size w (w2.setCell ⟨w.heap.size, 3, none⟩ (.string s))) := HB2.out.setCell (p := ⟨w.heap.size, 3, none⟩) (Nat.le_refl _) _
    clear hb2 R2
    go_wp2_with fail
    refine (C51.out _ HB3.out).mono ?_
    rintro e w4 ⟨ao', lc', rfl, hb4, hL4⟩
    have R4 := R3.out.call hb4
    have S4 : Hid (Z6 w4 (w.heap.size + 1)) := S3.out.call hb4
    have HB4 : Hid (Below w.heap.size w w4) := HB3.out.trans (hb4.mono HB3.out.size)
    have HL4 : Hid (LiesLA w4 (fun g => w.heap.size + 2 ≤ g ∧ g < w4.heap.size) ao' lc' l) := hL4.stays (fun _ _ => rfl) (fun g hg => ⟨by have h1 := hg.1; have h3 := S3.out.1; omega, hg.2⟩)
    clear hb4 hL4 p0 p1 p2 p3 p4 p5 fz hlt2 R3 S3 HB3
    obtain ⟨p0, p1, p2, p3, p4, p5⟩ := R4.cells
    have fz := R4.free
    have hlt4 := R4.1
    have R5 : Hid (Row6 (w4.setCell ⟨w.heap.size, 4, none⟩ (.slice ao' ll lc')) w.heap.size (.int .u8 (k : Int)) (.bool b) (.int .i64 n) (.string s) (.slice ao' ll lc') (.slice fo fl fc)) := R4.set4
    have S5 : Hid (Z6 (w4.setCell ⟨w.heap.size, 4, none⟩ (.slice ao' ll lc')) (w.heap.size + 1)) := S4.out.other _ _ _ (by omega)
    have HB5 : Hid (Below w.heap.size w (w4.setCell ⟨w.heap.size, 4, none⟩ (.slice ao' ll lc'))) := HB4.out.setCell (p := ⟨w.heap.size, 4, none⟩) (Nat.le_refl _) _
    have HL5 : Hid (LiesLA (w4.setCell ⟨w.heap.size, 4, none⟩ (.slice ao' ll lc')) (fun g => w.heap.size + 2 ≤ g ∧ g < w4.heap.size) ao' lc' l) := HL4.out.stays (fun g hg => heap_setCell_other _ _ _ _ (by have h1 := hg.1; show g ≠ w.heap.size; omega)) (fun g hg => hg)
    have HZ5 : Hid ((w4.setCell ⟨w.heap.size, 4, none⟩ (.slice ao' ll lc')).heap.size = w4.heap.size) := by show _ = _; simp
    clear R4
    go_wp2_with fail
    refine (C52.out _ HB5.out).mono ?_
    rintro e w6 ⟨fo', fc', rfl, hb6, hF6⟩
    rw [HZ5.out] at hF6
    have R6 := R5.out.call hb6
    have S6 : Hid (Z6 w6 (w.heap.size + 1)) := S5.out.call hb6
    have HB6 : Hid (Below w.heap.size w w6) := HB5.out.trans (hb6.mono HB5.out.size)
    have HM6 : Hid (w.heap.size + 2 ≤ w4.heap.size ∧ w4.heap.size ≤ w6.heap.size) := ⟨S4.out.1, by have := hb6.size; rw [HZ5.out] at this; exact this⟩
    have HL6 : Hid (LiesLA w6 (fun g => w.heap.size + 2 ≤ g ∧ g < w4.heap.size) ao' lc' l) := HL5.out.stays (fun g hg => hb6.block g (by rw [HZ5.out]; exact hg.2)) (fun g hg => hg)
    have HF6 : Hid (LiesFA w6 w4.heap.size fo' fc' f) := hF6
    clear hb6 hF6 p0 p1 p2 p3 p4 p5 fz hlt4 R5 S5 HB5 HL5 HZ5 HL4 S4
    obtain ⟨p0, p1, p2, p3, p4, p5⟩ := R6.cells
    have fz := R6.free
    have hlt6 := R6.1
    have hlt6' := S6.out.1
    have fz' := Row6.free S6.out
    obtain ⟨q0, q1, q2, q3, q4, q5⟩ := Row6.cells S6.out
    have S7 : Z6 (w6.setCell ⟨w.heap.size, 5, none⟩ (.slice fo' fl fc')) (w.heap.size + 1) := S6.out.other _ _ _ (by omega)
    obtain ⟨w8, hw8⟩ : ∃ w8, w8 = (w6.setCell ⟨w.heap.size, 5, none⟩ (.slice fo' fl fc')).setCells (w.heap.size + 1) 0 [.int .u8 (k : Int), .bool b, .int .i64 n, .string s, .slice ao' ll lc', .slice fo' fl fc'] := ⟨_, rfl⟩
    have hst : w8.heap[w.heap.size + 1]? = some (.cells #[.int .u8 (k : Int), .bool b, .int .i64 n, .string s, .slice ao' ll lc', .slice fo' fl fc'] 27 (0, 0)) := by
      rw [hw8]; exact Z6.put S7 _ _ _ _ _ _
    have hoth : ∀ g, w.heap.size + 2 ≤ g → w8.heap[g]? = w6.heap[g]? := fun g hg => by
      rw [hw8, heap_setCells_neV _ g (by omega)]; exact heap_setCell_other _ _ _ _ (by show g ≠ w.heap.size; omega)
    have hsz : w8.heap.size = w6.heap.size := by rw [hw8, size_setCellsV']; simp
    have hbl : Below w.heap.size w w8 := by
      rw [hw8]; exact below_setCellsV (by omega) _ _ (HB6.out.setCell (p := ⟨w.heap.size, 5, none⟩) (Nat.le_refl _) _)
    have hcl : Cloned w8 w.heap.size w4.heap.size ⟨k, b, n, s, l, f⟩ (.agg #[.int .u8 (k : Int), .bool b, .int .i64 n, .string s, .slice ao' ll lc', .slice fo' fl fc']) :=
      ⟨ao', lc', fo', fc', by rw [HLL.out, HFL.out], HK.out.1, HK.out.2.1, HK.out.2.2, by have := HM6.out.1; omega, by rw [hsz]; exact HM6.out.2,
        HL6.out.stays (fun g hg => hoth g hg.1) (fun g hg => ⟨by have h1 := hg.1; omega, hg.2⟩), HF6.out.agree (fun g hg _ => hoth g (by have := HM6.out.1; omega)) (by rw [hsz]; exact Nat.le_refl _)⟩
    have HST : Hid (w8.heap[w.heap.size + 1]? = some (.cells #[.int .u8 (k : Int), .bool b, .int .i64 n, .string s, .slice ao' ll lc', .slice fo' fl fc'] 27 (0, 0))) := hst
    have HBL : Hid (Below w.heap.size w w8) := hbl
    have HCL : Hid (Cloned w8 w.heap.size w4.heap.size ⟨k, b, n, s, l, f⟩ (.agg #[.int .u8 (k : Int), .bool b, .int .i64 n, .string s, .slice ao' ll lc', .slice fo' fl fc'])) := hcl
    have HW8 : Hid (w8 = (w6.setCell ⟨w.heap.size, 5, none⟩ (.slice fo' fl fc')).setCells (w.heap.size + 1) 0 [.int .u8 (k : Int), .bool b, .int .i64 n, .string s, .slice ao' ll lc', .slice fo' fl fc']) := hw8
    clear hst hoth hsz hbl hcl hw8 S7
    go_wp2
    rw [sets6, ← HW8.out]
    exact bodyPost_ret (v := .agg #[.int .u8 (k : Int), .bool b, .int .i64 n, .string s, .slice ao' ll lc', .slice fo' fl fc']) (results_cell_row rfl _ _ (w.heap.size + 1) 27 #[.int .u8 (k : Int), .bool b, .int .i64 n, .string s, .slice ao' ll lc', .slice fo' fl fc'] (0, 0) _ rfl HST.out Tryz.underlying27 rfl (by kernel_rfl)) rfl ⟨_, _, rfl, HBL.out, HCL.out⟩
end Go.Proofs.YtkigenldiinioabGreatDoor
