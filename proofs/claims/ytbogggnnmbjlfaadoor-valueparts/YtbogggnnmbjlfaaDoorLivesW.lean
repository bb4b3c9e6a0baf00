/- lives, walked to its end. -/
import Derived.Test.YtbogggnnmbjlfaaDoorLives
namespace Go.Proofs.YtbogggnnmbjlfaaDoor
open Go.RowKit
open Vl (V)
theorem rep_t (w : World) (H : Nat) : Rep w H ⟨3, false, 0, ⟨#[97]⟩, [], []⟩ (.agg #[.int .u8 3, .bool false, .int .i64 0, .string ⟨#[97]⟩, .slice none 0 0, .slice none 0 0]) := by
  rw [Rep]
  exact ⟨none, 0, none, 0, rfl, by omega, by omega, by decide, by decide, by decide, fun h => by simp at h, fun h => by simp at h⟩
theorem rep_n (w : World) (H : Nat) : Rep w H ⟨0, false, 1, ⟨#[]⟩, [], []⟩ (.agg #[.int .u8 0, .bool false, .int .i64 1, .string ⟨#[]⟩, .slice none 0 0, .slice none 0 0]) := by
  rw [Rep]
  exact ⟨none, 0, none, 0, rfl, by omega, by omega, by decide, by decide, by decide, fun h => by simp at h, fun h => by simp at h⟩
theorem row_new (w : World) (v0 v1 v2 v3 v4 v5 : Value) : Row6 (w.alloc (.cells #[v0, v1, v2, v3, v4, v5] 26)) w.heap.size v0 v1 v2 v3 v4 v5 := ⟨by simp, heap_alloc_new w _⟩
/-- what lies where behind Put and Get: the struct, what was got -/
structure LS (w W : World) (P Q : Nat) (c0 c1 c2 c3 c4 c5 g4 g5 : Value) : Prop where
  below : Below w.heap.size w W
  box : Row6 W P c0 c1 c2 c3 c4 c5
  rep : Rep W P sa (.agg #[c0, c1, c2, c3, c4, c5])
  got : Row6 W Q (.int .u8 2) (.bool false) (.int .i64 7) (.string ⟨#[]⟩) g4 g5
theorem LS.call {w W W' : World} {P Q : Nat} {c0 c1 c2 c3 c4 c5 g4 g5 : Value} (h : LS w W P Q c0 c1 c2 c3 c4 c5 g4 g5) (hb : Below W.heap.size W W') : LS w W' P Q c0 c1 c2 c3 c4 c5 g4 g5 :=
  ⟨h.below.trans (hb.mono h.below.size), h.box.call hb, rep_stays (hb.mono (by have := h.box.1; omega)) (Nat.le_refl _) sa _ h.rep, h.got.call hb⟩
theorem row12_new (w : World) (c0 c1 c2 c3 c4 c5 d0 d1 d2 d3 d4 d5 : Value) : (w.alloc (.cells #[c0, c1, c2, c3, c4, c5, d0, d1, d2, d3, d4, d5] 26)).heap[w.heap.size]? = some (.cells #[c0, c1, c2, c3, c4, c5, d0, d1, d2, d3, d4, d5] 26 (0, 0)) := heap_alloc_new w _
set_option maxHeartbeats 8000000 in
set_option maxRecDepth 100000 in
theorem lives9 (w : World) (hT : HasT w) : Calls Tryd.prog 16 #[] w fun e w' => e = .returned (.bool true) ∧ Below w.heap.size w w' := by
  have HT : Hid (HasT w) := hT
  clear hT
  go_enter Tryd.func16, Tryd.ntmps16
  go_wp2_with fail
  refine (whole22 7 _).mono ?_
  rintro e w1 ⟨rfl, hb1⟩
  have R1 := row_new w1 (.int .u8 2) (.bool false) (.int .i64 7) (.string ⟨#[]⟩) (.slice none 0 0) (.slice none 0 0)
  have B1 : Below w.heap.size w (w1.alloc (.cells #[.int .u8 2, .bool false, .int .i64 7, .string ⟨#[]⟩, .slice none 0 0, .slice none 0 0] 26)) := hb1.alloc hb1.size _
  have HR1 : Hid _ := R1
  have HB1 : Hid _ := B1
  clear R1 B1 hb1
  go_wp2_with fail
  refine (list14 _ _ _ _).mono ?_
  rintro e w2 ⟨rfl, hb2⟩
  have HB2 : Hid (Below w.heap.size w w2) := HB1.out.trans (hb2.mono HB1.out.size)
  have R2 := Row6.call HR1.out hb2
  have HL : Hid (Rep w2 w2.heap.size (tl [tw 7]) (.agg #[.int .u8 5, .bool false, .int .i64 0, .string ⟨#[]⟩, .slice (some ⟨w1.heap.size, 0, none⟩) 1 1, .slice none 0 0])) := rep_l1 R2 R2.1 (rep_w _ _ 7 (by omega))
  clear R2 hb2 HR1 HB1
  go_wp2_with fail
  refine (put15_empty ⟨#[97]⟩ (by decide) (tl [tw 7]) (small_l1 (small_w 7)) w2 w2.heap.size _ (Nat.le_refl _) HL.out).mono ?_
  rintro e w3 ⟨v', rfl, hb3, hr3⟩
  obtain ⟨sk, sb, sn, ss, sl, s1, s2, sf, s3, s4, hv'⟩ := repA_form (rep_repA _ v' hr3)
  subst hv'
  have HB3 : Hid (Below w.heap.size w w3) := HB2.out.trans (hb3.mono HB2.out.size)
  have HS3 : Hid (Rep w3 w3.heap.size sa (.agg #[.int .u8 (sk : Int), .bool sb, .int .i64 sn, .string ss, .slice sl s1 s2, .slice sf s3 s4])) := hr3
  clear hb3 hr3 HL HB2
  obtain ⟨w4, hw4⟩ : ∃ w4, w4 = (w3.alloc (.cells #[.int .u8 (sk : Int), .bool sb, .int .i64 sn, .string ss, .slice sl s1 s2, .slice sf s3 s4] 26)).alloc (.cells #[.string ⟨#[97]⟩, .string ⟨#[48]⟩] 9) := ⟨_, rfl⟩
  have hb4 : Below w3.heap.size w3 w4 := by rw [hw4]; exact below_new2 _ _ _
  have HB4 : Hid (Below w.heap.size w w4) := HB3.out.trans (hb4.mono HB3.out.size)
  have HS4 : Hid (Rep w4 w3.heap.size sa (.agg #[.int .u8 (sk : Int), .bool sb, .int .i64 sn, .string ss, .slice sl s1 s2, .slice sf s3 s4])) := rep_stays hb4 (Nat.le_refl _) sa _ HS3.out
  have HP4 : Hid (LiesP w4 (some ⟨w3.heap.size + 1, 0, none⟩) [⟨#[97]⟩, ⟨#[48]⟩]) := by
    refine ⟨by simp [maxLen], fun s hs => ?_, fun _ => ⟨_, _, rfl, by rw [hw4]; simp, fun j s hs => ?_⟩⟩
    · simp only [List.mem_cons, List.not_mem_nil, or_false] at hs
      rcases hs with rfl | rfl <;> decide
    · rw [hw4]
      have hh : ((w3.alloc (.cells #[.int .u8 (sk : Int), .bool sb, .int .i64 sn, .string ss, .slice sl s1 s2, .slice sf s3 s4] 26)).alloc (.cells #[.string ⟨#[97]⟩, .string ⟨#[48]⟩] 9)).heap[w3.heap.size + 1]? = some (.cells #[.string ⟨#[97]⟩, .string ⟨#[48]⟩] 9 (0, 0)) := by
        have := heap_alloc_new (w3.alloc (.cells #[.int .u8 (sk : Int), .bool sb, .int .i64 sn, .string ss, .slice sl s1 s2, .slice sf s3 s4] 26)) (.cells #[.string ⟨#[97]⟩, .string ⟨#[48]⟩] 9)
        simpa using this
      rw [cell_of_row _ _ _ _ _ _ hh]
      match j, hs with
      | 0, hs => simp at hs; subst hs; rfl
      | 1, hs => simp at hs; subst hs; rfl
      | j + 2, hs => simp at hs
  have HSB : Hid (Row6 w4 w3.heap.size (.int .u8 (sk : Int)) (.bool sb) (.int .i64 sn) (.string ss) (.slice sl s1 s2) (.slice sf s3 s4)) := by
    show Row6 _ _ _ _ _ _ _ _
    rw [hw4]; exact ⟨by simp; omega, (Below.heap_alloc _ _ _ (by simp)).trans (heap_alloc_new w3 _)⟩
  have HW4 : Hid (w4 = _) := hw4
  clear hw4 hb4 HS3 HB3
  go_wp2_with fail
  rw [← HW4.out]
  refine (get16 sa small_sa [⟨#[97]⟩, ⟨#[48]⟩] _ 2 w4 (HT.out.stays HB4.out) w3.heap.size _ (by have := HSB.out.1; omega) HS4.out HP4.out).mono ?_
  rintro e w5 ⟨hgot, hb5⟩
  rw [get_sa] at hgot
  obtain ⟨v', rfl, hr5⟩ : ∃ v', e = .returned (.tuple #[v', .bool true]) ∧ Rep w5 w5.heap.size (tw 7) v' := hgot
  rw [tw, Rep] at hr5
  obtain ⟨ga, gb, gc, gd, hv', _⟩ := hr5
  have hv'' : v' = .agg #[.int .u8 2, .bool false, .int .i64 7, .string ⟨#[]⟩, .slice ga 0 gb, .slice gc 0 gd] := hv'
  subst hv''
  have HB5 : Hid (Below w.heap.size w w5) := HB4.out.trans (hb5.mono HB4.out.size)
  have HS5 : Hid (Rep w5 w3.heap.size sa (.agg #[.int .u8 (sk : Int), .bool sb, .int .i64 sn, .string ss, .slice sl s1 s2, .slice sf s3 s4])) := rep_stays (hb5.mono (by have := HSB.out.1; omega)) (Nat.le_refl _) sa _ HS4.out
  have R5 : Hid (Row6 w5 w3.heap.size (.int .u8 (sk : Int)) (.bool sb) (.int .i64 sn) (.string ss) (.slice sl s1 s2) (.slice sf s3 s4)) := HSB.out.call hb5
  have L6 : Hid (LS w (w5.alloc (.cells #[.int .u8 2, .bool false, .int .i64 7, .string ⟨#[]⟩, .slice ga 0 gb, .slice gc 0 gd] 26)) w3.heap.size w5.heap.size (.int .u8 (sk : Int)) (.bool sb) (.int .i64 sn) (.string ss) (.slice sl s1 s2) (.slice sf s3 s4) (.slice ga 0 gb) (.slice gc 0 gd)) :=
    ⟨HB5.out.alloc HB5.out.size _, R5.out.call (below_new _ _), rep_stays ((below_new _ _).mono (by have := R5.out.1; omega)) (Nat.le_refl _) sa _ HS5.out, row_new w5 _ _ _ _ _ _⟩
  obtain ⟨P, hP⟩ : ∃ P, P = w3.heap.size := ⟨_, rfl⟩
  obtain ⟨Q, hQ⟩ : ∃ Q, Q = w5.heap.size := ⟨_, rfl⟩
  clear hv' hb5 HS4 HP4 HSB HW4 HB4 HB5 HS5 R5
  go_wp2_with fail
  rw [← hP, ← hQ] at L6 ⊢
  clear hP hQ
  refine (whole22 1 _).mono ?_
  rintro e w7 ⟨rfl, hb7⟩
  have L7 : Hid (LS w w7 P Q (.int .u8 (sk : Int)) (.bool sb) (.int .i64 sn) (.string ss) (.slice sl s1 s2) (.slice sf s3 s4) (.slice ga 0 gb) (.slice gc 0 gd)) := L6.out.call hb7
  clear hb7 L6
  go_wp2_with fail
  refine (compare10 _ (tw 1) (Nat.le_refl _) _ w7 0 _ _ (Nat.zero_le _) (rep_w w7 0 1 (by omega)) (rep_t w7 0)).mono ?_
  rintro e w8 ⟨he, hb8⟩
  rw [cmp_wt] at he
  subst he
  have L8 : Hid (LS w w8 P Q (.int .u8 (sk : Int)) (.bool sb) (.int .i64 sn) (.string ss) (.slice sl s1 s2) (.slice sf s3 s4) (.slice ga 0 gb) (.slice gc 0 gd)) := L7.out.call hb8
  clear hb8 L7
  go_wp2_with fail
  refine (whole22 1 _).mono ?_
  rintro e w9 ⟨rfl, hb9⟩
  have L9 : Hid (LS w (w9.alloc (.cells #[.int .u8 2, .bool false, .int .i64 1, .string ⟨#[]⟩, .slice none 0 0, .slice none 0 0] 26)) P Q (.int .u8 (sk : Int)) (.bool sb) (.int .i64 sn) (.string ss) (.slice sl s1 s2) (.slice sf s3 s4) (.slice ga 0 gb) (.slice gc 0 gd)) := (L8.out.call hb9).call (below_new _ _)
  have R9 : Hid (Row6 (w9.alloc (.cells #[.int .u8 2, .bool false, .int .i64 1, .string ⟨#[]⟩, .slice none 0 0, .slice none 0 0] 26)) w9.heap.size (.int .u8 2) (.bool false) (.int .i64 1) (.string ⟨#[]⟩) (.slice none 0 0) (.slice none 0 0)) := row_new w9 _ _ _ _ _ _
  clear hb9 L8
  go_wp2_with fail
  refine (list14 _ _ _ _).mono ?_
  rintro e w10 ⟨rfl, hb10⟩
  have L10 : Hid (LS w w10 P Q (.int .u8 (sk : Int)) (.bool sb) (.int .i64 sn) (.string ss) (.slice sl s1 s2) (.slice sf s3 s4) (.slice ga 0 gb) (.slice gc 0 gd)) := L9.out.call hb10
  have R10 : Hid (Row6 w10 w9.heap.size (.int .u8 2) (.bool false) (.int .i64 1) (.string ⟨#[]⟩) (.slice none 0 0) (.slice none 0 0)) := R9.out.call hb10
  clear hb10 L9 R9
  go_wp2_with fail
  refine (whole22 1 _).mono ?_
  rintro e w11 ⟨rfl, hb11⟩
  have L11 : Hid (LS w w11 P Q (.int .u8 (sk : Int)) (.bool sb) (.int .i64 sn) (.string ss) (.slice sl s1 s2) (.slice sf s3 s4) (.slice ga 0 gb) (.slice gc 0 gd)) := L10.out.call hb11
  have R11 : Hid (Row6 w11 w9.heap.size (.int .u8 2) (.bool false) (.int .i64 1) (.string ⟨#[]⟩) (.slice none 0 0) (.slice none 0 0)) := R10.out.call hb11
  clear hb11 L10 R10
  go_wp2_with fail
  refine (whole22 0 _).mono ?_
  rintro e w12 ⟨rfl, hb12⟩
  have L12 : Hid (LS w (w12.alloc (.cells #[.int .u8 2, .bool false, .int .i64 1, .string ⟨#[]⟩, .slice none 0 0, .slice none 0 0, .int .u8 2, .bool false, .int .i64 0, .string ⟨#[]⟩, .slice none 0 0, .slice none 0 0] 26)) P Q (.int .u8 (sk : Int)) (.bool sb) (.int .i64 sn) (.string ss) (.slice sl s1 s2) (.slice sf s3 s4) (.slice ga 0 gb) (.slice gc 0 gd)) := (L11.out.call hb12).call (below_new _ _)
  have R12 : Hid (Row6 (w12.alloc (.cells #[.int .u8 2, .bool false, .int .i64 1, .string ⟨#[]⟩, .slice none 0 0, .slice none 0 0, .int .u8 2, .bool false, .int .i64 0, .string ⟨#[]⟩, .slice none 0 0, .slice none 0 0] 26)) w9.heap.size (.int .u8 2) (.bool false) (.int .i64 1) (.string ⟨#[]⟩) (.slice none 0 0) (.slice none 0 0)) := (R11.out.call hb12).call (below_new _ _)
  have T12 : Hid ((w12.alloc (.cells #[.int .u8 2, .bool false, .int .i64 1, .string ⟨#[]⟩, .slice none 0 0, .slice none 0 0, .int .u8 2, .bool false, .int .i64 0, .string ⟨#[]⟩, .slice none 0 0, .slice none 0 0] 26)).heap[w12.heap.size]? = some (.cells #[.int .u8 2, .bool false, .int .i64 1, .string ⟨#[]⟩, .slice none 0 0, .slice none 0 0, .int .u8 2, .bool false, .int .i64 0, .string ⟨#[]⟩, .slice none 0 0, .slice none 0 0] 26 (0, 0))) := row12_new w12 _ _ _ _ _ _ _ _ _ _ _ _
  have U12 : Hid (w12.heap.size < (w12.alloc (.cells #[.int .u8 2, .bool false, .int .i64 1, .string ⟨#[]⟩, .slice none 0 0, .slice none 0 0, .int .u8 2, .bool false, .int .i64 0, .string ⟨#[]⟩, .slice none 0 0, .slice none 0 0] 26)).heap.size) := by show _ < _; simp
  clear hb12 L11 R11
  go_wp2_with fail
  refine (list14 _ _ _ _).mono ?_
  rintro e w13 ⟨rfl, hb13⟩
  have L13 : Hid (LS w w13 P Q (.int .u8 (sk : Int)) (.bool sb) (.int .i64 sn) (.string ss) (.slice sl s1 s2) (.slice sf s3 s4) (.slice ga 0 gb) (.slice gc 0 gd)) := L12.out.call hb13
  have R13 := R12.out.call hb13
  have T13 := (hb13.block _ U12.out).trans T12.out
  have hA : Rep w13 w13.heap.size (tl [tw 1]) (.agg #[.int .u8 5, .bool false, .int .i64 0, .string ⟨#[]⟩, .slice (some ⟨w9.heap.size, 0, none⟩) 1 1, .slice none 0 0]) := rep_l1 R13 R13.1 (rep_w _ _ 1 (by omega))
  have hB : Rep w13 w13.heap.size (tl [tw 1, tw 0]) (.agg #[.int .u8 5, .bool false, .int .i64 0, .string ⟨#[]⟩, .slice (some ⟨w12.heap.size, 0, none⟩) 2 2, .slice none 0 0]) := rep_l2 T13 (Nat.lt_of_lt_of_le U12.out hb13.size) (rep_w _ _ 1 (by omega)) (rep_w _ _ 0 (by omega))
  have C10 : Hid (Calls Tryd.prog 29 #[.agg #[.int .u8 5, .bool false, .int .i64 0, .string ⟨#[]⟩, .slice (some ⟨w9.heap.size, 0, none⟩) 1 1, .slice none 0 0], .agg #[.int .u8 5, .bool false, .int .i64 0, .string ⟨#[]⟩, .slice (some ⟨w12.heap.size, 0, none⟩) 2 2, .slice none 0 0]] w13 fun e w' => e = .returned (.int .i64 (-1)) ∧ Below w13.heap.size w13 w') := by
    have := compare10 _ (tl [tw 1]) (Nat.le_refl _) (tl [tw 1, tw 0]) w13 w13.heap.size _ _ (Nat.le_refl _) hA hB
    rw [cmp_ll] at this
    exact this
  clear hb13 R12 R13 T12 T13 U12 L12 hA hB
  go_wp2_with fail
  refine C10.out.mono ?_
  rintro e w14 ⟨rfl, hb14⟩
  have L14 : Hid (LS w w14 P Q (.int .u8 (sk : Int)) (.bool sb) (.int .i64 sn) (.string ss) (.slice sl s1 s2) (.slice sf s3 s4) (.slice ga 0 gb) (.slice gc 0 gd)) := L13.out.call hb14
  clear hb14 L13 C10
  obtain ⟨p0, p1, p2, p3, p4, p5⟩ := L14.out.box.cells
  obtain ⟨q0, q1, q2, q3, q4, q5⟩ := L14.out.got.cells
  go_wp2_with fail
  have C13 := count13 _ sa (Nat.le_refl _) w14 P _ (by have := L14.out.box.1; omega) L14.out.rep
  rw [count_sa] at C13
  refine C13.mono ?_
  rintro e w15 ⟨rfl, hb15⟩
  have L15 : Hid (LS w w15 P Q (.int .u8 (sk : Int)) (.bool sb) (.int .i64 sn) (.string ss) (.slice sl s1 s2) (.slice sf s3 s4) (.slice ga 0 gb) (.slice gc 0 gd)) := L14.out.call hb15
  clear hb15 L14 p0 p1 p2 p3 p4 p5 q0 q1 q2 q3 q4 q5
  have e3 : wrap64 ((3 : Nat) : Int) = 3 := by unfold wrap64; omega
  rw [e3]
  go_wp2_with fail
  have C11 := check11 ⟨0, false, 1, ⟨#[]⟩, [], []⟩ w15 (HT.out.stays L15.out.below) 0 _ (Nat.zero_le _) (rep_n w15 0)
  rw [check_n] at C11
  refine C11.mono ?_
  rintro e w16 ⟨rfl, hb16⟩
  have HB16 : Hid (Below w.heap.size w w16) := L15.out.below.trans (hb16.mono L15.out.below.size)
  clear hb16
  go_wp2
  exact ⟨rfl, _, results_tmp (by rfl) _ _ _, rfl, HB16.out⟩
end Go.Proofs.YtbogggnnmbjlfaaDoor
